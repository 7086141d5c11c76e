/- Chances of places: what the recursion gives, all not-a-numbers told as one. Nothing of a translation. -/
import Derived.Test.YtadbblidmmekiaaFm
import Derived.Test.YtadbblidmmekiaaCk
set_option linter.unusedVariables false
namespace Go.Proofs.Ytadbblidmmekiaa
open Fl

def sumTo (fs : List Int) : Nat → Int
  | 0 => 0
  | k + 1 => sumTo fs k + fs.getD k 0
theorem sumTo_bd (fs : List Int) (h : ∀ k, 0 ≤ fs.getD k 0 ∧ fs.getD k 0 ≤ 1000000) : ∀ k, 0 ≤ sumTo fs k ∧ sumTo fs k ≤ 1000000 * (k : Int)
  | 0 => by simp [sumTo]
  | k + 1 => by
    have := sumTo_bd fs h k
    have := h k
    show 0 ≤ sumTo fs k + fs.getD k 0 ∧ sumTo fs k + fs.getD k 0 ≤ _
    push_cast; omega
def quoI (a b : Int) : Nat := fop .quo .f32 (floatOfInt .f32 a) (floatOfInt .f32 b)
/-- the sum over the first k others, from what each place less gives -/
def accP (fs : List Int) (seat : Nat) (sub : Nat → Nat) : Nat → Nat
  | 0 => 0
  | k + 1 => if k = seat ∨ fs.getD k 0 = 0 then accP fs seat sub k else fop .add .f32 (accP fs seat sub k) (fop .mul .f32 (quoI (fs.getD k 0) (sumTo fs fs.length)) (sub k))
theorem accP_skip (fs : List Int) (seat : Nat) (sub : Nat → Nat) (k : Nat) (h : k = seat ∨ fs.getD k 0 = 0) : accP fs seat sub (k + 1) = accP fs seat sub k := by rw [accP, if_pos h]
theorem accP_add (fs : List Int) (seat : Nat) (sub : Nat → Nat) (k : Nat) (h1 : k ≠ seat) (h2 : fs.getD k 0 ≠ 0) : accP fs seat sub (k + 1) = fop .add .f32 (accP fs seat sub k) (fop .mul .f32 (quoI (fs.getD k 0) (sumTo fs fs.length)) (sub k)) := by
  rw [accP, if_neg (fun h => h.elim h1 h2)]
def plc (seat : Nat) : Nat → List Int → Nat
  | 0, fs => quoI (fs.getD seat 0) (sumTo fs fs.length)
  | p + 1, fs => accP fs seat (fun k => plc seat p (fs.set k 0)) fs.length
/-- r is a 32-bit number that reads as c -/
def Is (c r : Nat) : Prop := cn .f32 r = c ∧ r < 4294967296
theorem wf32' {b : Nat} (h : (Lit.float .f32 b).wf = true) : b < 4294967296 := by simpa [Lit.wf] using h
theorem Is.quo {a b : Int} {r : Nat} (h : FopR .quo .f32 (floatOfInt .f32 a) (floatOfInt .f32 b) r) : Is (quoI a b) r := ⟨cn_of h, wf32' h.wf⟩
theorem Is.step {c d e s t q m r : Nat} (hs : Is c s) (hq : Is d q) (ht : Is e t) (h1 : FopR .mul .f32 q t m) (h2 : FopR .add .f32 s m r) : Is (fop .add .f32 c (fop .mul .f32 d e)) r :=
  ⟨by rw [cn_of_cn h2, hs.1, cn_of_cn h1, hq.1, ht.1], wf32' h2.wf⟩
theorem Is.zero : Is 0 0 := ⟨by decide +kernel, by omega⟩

/-- the stacks of those that are left, 0 for the others -/
def msk (fs : List Int) (bs : List Bool) : List Int := List.zipWith (fun x b => if b then x else 0) fs bs
theorem msk_len {fs : List Int} {bs : List Bool} (h : bs.length = fs.length) : (msk fs bs).length = fs.length := by simp [msk, h]
theorem msk_get (fs : List Int) (bs : List Bool) (h : bs.length = fs.length) (k : Nat) (hk : k < fs.length) : (msk fs bs).getD k 0 = if bs.getD k false then fs.getD k 0 else 0 := by
  have hk2 : k < bs.length := by omega
  have e1 : fs.getD k 0 = fs[k] := by simp [List.getD, hk]
  have e2 : bs.getD k false = bs[k] := by simp [List.getD, hk2]
  rw [e1, e2]
  unfold msk
  show (List.zipWith (fun x b => if b = true then x else 0) fs bs)[k]?.getD 0 = _
  rw [List.getElem?_eq_getElem (by simp; omega), List.getElem_zipWith]
  rfl
theorem msk_t {fs : List Int} {bs : List Bool} (h : bs.length = fs.length) {k : Nat} (hk : k < fs.length) (hb : bs.getD k false = true) : (msk fs bs).getD k 0 = fs.getD k 0 := by rw [msk_get fs bs h k hk, hb]; rfl
theorem msk_f {fs : List Int} {bs : List Bool} (h : bs.length = fs.length) {k : Nat} (hk : k < fs.length) (hb : bs.getD k false = false) : (msk fs bs).getD k 0 = 0 := by rw [msk_get fs bs h k hk, hb]; rfl
theorem msk_set (fs : List Int) (bs : List Bool) (k : Nat) : msk fs (bs.set k false) = (msk fs bs).set k 0 := by
  unfold msk
  induction fs generalizing bs k with
  | nil => simp
  | cons a r ih =>
    cases bs with
    | nil => simp
    | cons b t =>
      cases k with
      | zero => simp
      | succ k => simp; exact ih t k
theorem msk_all (fs : List Int) : msk fs (List.replicate fs.length true) = fs := by
  unfold msk
  induction fs with
  | nil => rfl
  | cons a r ih => simp [List.replicate_succ]; exact ih
theorem set_back (bs : List Bool) (k : Nat) (hk : k < bs.length) (h : bs.getD k false = true) : (bs.set k false).set k true = bs := by
  rw [List.set_set]
  apply List.ext_getElem
  · simp
  · intro i h1 h2
    by_cases e : i = k
    · subst e; simp [List.getD, hk] at h ⊢; exact h
    · simp [Ne.symm e]

def stackB (fs : List Int) : Bool := decide (1 ≤ fs.length) && decide (fs.length ≤ 6) && fs.all fun x => decide (1 ≤ x) && decide (x ≤ 1000000)
theorem stackB_yes {fs : List Int} (h : stackB fs = true) : 1 ≤ fs.length ∧ fs.length ≤ 6 ∧ ∀ k, k < fs.length → 1 ≤ fs.getD k 0 ∧ fs.getD k 0 ≤ 1000000 := by
  unfold stackB at h
  simp only [Bool.and_eq_true, decide_eq_true_eq] at h
  refine ⟨h.1.1, h.1.2, fun k hk => ?_⟩
  have := List.all_eq_true.1 h.2 _ (List.getElem_mem hk)
  rw [getD_lt fs 0 k hk]
  simpa using this
theorem stackB_all {fs : List Int} (h : ∀ k, k < fs.length → 1 ≤ fs.getD k 0 ∧ fs.getD k 0 ≤ 1000000) : stackB fs = (decide (1 ≤ fs.length) && decide (fs.length ≤ 6)) := by
  unfold stackB
  rw [show (fs.all fun x => decide (1 ≤ x) && decide (x ≤ 1000000)) = true from List.all_eq_true.2 fun x hx => by
    obtain ⟨i, hi, rfl⟩ := List.getElem_of_mem hx
    have := h i hi
    rw [getD_lt fs 0 i hi] at this
    simpa using this, Bool.and_true]
theorem stackB_bad {fs : List Int} (k : Nat) (hk : k < fs.length) (h : fs.getD k 0 < 1 ∨ 1000000 < fs.getD k 0) : stackB fs = false := by
  rw [Bool.eq_false_iff]; intro h'; have := (stackB_yes h').2.2 k hk; omega
theorem stackB_short {fs : List Int} (h : fs.length < 1 ∨ 6 < fs.length) : stackB fs = false := by
  rw [Bool.eq_false_iff]; intro h'; have := stackB_yes h'; omega
/-- the chances, seat by seat -/
def rowC (fs : List Int) (i : Nat) : List Nat := (List.range fs.length).map fun k => plc i k fs
def allC (fs : List Int) : Nat → List Nat
  | 0 => []
  | i + 1 => allC fs i ++ rowC fs i
def partC (fs : List Int) (i k : Nat) : List Nat := allC fs i ++ (List.range k).map fun j => plc i j fs
theorem partC_next (fs : List Int) (i k : Nat) : partC fs i (k + 1) = partC fs i k ++ [plc i k fs] := by
  unfold partC; rw [List.range_succ, List.map_append, List.append_assoc]; rfl
theorem partC_done (fs : List Int) (i : Nat) : partC fs i fs.length = partC fs (i + 1) 0 := by simp [partC, allC, rowC]
theorem allC_len (fs : List Int) : ∀ i, (allC fs i).length = i * fs.length
  | 0 => by simp [allC]
  | i + 1 => by rw [allC, List.length_append, allC_len fs i, rowC, List.length_map, List.length_range, Nat.succ_mul]
theorem partC_len (fs : List Int) (i k : Nat) : (partC fs i k).length = i * fs.length + k := by simp [partC, allC_len]
end Go.Proofs.Ytadbblidmmekiaa
