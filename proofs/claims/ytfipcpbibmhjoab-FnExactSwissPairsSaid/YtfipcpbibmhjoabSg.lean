/- Rows to which something is added at two places in each round; the rows of games. Nothing of a translation. -/
import Derived.Test.YtfipcpbibmhjoabCk
set_option linter.unusedVariables false
namespace Go.Proofs.Ytfipcpbibmhjoab
open Go.RowKit
def addAt (l : List Int) (i : Nat) (d : Int) : List Int := l.set i (l.getD i 0 + d)
theorem addAt_len (l : List Int) (i : Nat) (d : Int) : (addAt l i d).length = l.length := by simp [addAt]
theorem addAt_other (l : List Int) (i j : Nat) (d : Int) (h : i ≠ j) : (addAt l i d).getD j 0 = l.getD j 0 := by simp [addAt, List.getD, h]
theorem addAt_same (l : List Int) (i : Nat) (d : Int) (h : i < l.length) : (addAt l i d).getD i 0 = l.getD i 0 + d := by simp [addAt, List.getD, h]
theorem addAt_bd (l : List Int) (j : Nat) (d M D : Int) (h : ∀ i, 0 ≤ l.getD i 0 ∧ l.getD i 0 ≤ M) (h0 : 0 ≤ d) (h1 : d ≤ D) : ∀ i, 0 ≤ (addAt l j d).getD i 0 ∧ (addAt l j d).getD i 0 ≤ M + D := by
  intro i
  have hi := h i
  by_cases e : j = i
  · subst e
    by_cases hj : j < l.length
    · rw [addAt_same _ _ _ hj]; omega
    · have e1 : addAt l j d = l := by unfold addAt; rw [List.set_eq_of_length_le (by omega)]
      rw [e1]; omega
  · rw [addAt_other _ _ _ _ e]; omega
/-- the row behind k rounds -/
def updT (N : Nat) (i1 i2 : Nat → Nat) (d1 d2 : Nat → Int) : Nat → List Int
  | 0 => List.replicate N 0
  | k + 1 => addAt (addAt (updT N i1 i2 d1 d2 k) (i1 k) (d1 k)) (i2 k) (d2 k)
theorem updT_len (N : Nat) (i1 i2 : Nat → Nat) (d1 d2 : Nat → Int) : ∀ k, (updT N i1 i2 d1 d2 k).length = N
  | 0 => by simp [updT]
  | k + 1 => by rw [updT, addAt_len, addAt_len]; exact updT_len N i1 i2 d1 d2 k
theorem updT_bd (N : Nat) (i1 i2 : Nat → Nat) (d1 d2 : Nat → Int) (D : Int) : ∀ k : Nat, (∀ j, j < k → (0 ≤ d1 j ∧ d1 j ≤ D) ∧ (0 ≤ d2 j ∧ d2 j ≤ D)) → ∀ i, 0 ≤ (updT N i1 i2 d1 d2 k).getD i 0 ∧ (updT N i1 i2 d1 d2 k).getD i 0 ≤ D * (2 * (k : Int))
  | 0 => fun _ i => by
    simp only [updT, List.getD, List.getElem?_replicate]
    split <;> simp
  | k + 1 => fun h i => by
    have h1 := updT_bd N i1 i2 d1 d2 D k (fun j hj => h j (by omega))
    have h2 := h k (by omega)
    have := addAt_bd _ (i2 k) (d2 k) _ D (addAt_bd _ (i1 k) (d1 k) _ D h1 h2.1.1 h2.1.2) h2.2.1 h2.2.2 i
    rw [updT]
    rw [show D * (2 * ((k + 1 : Nat) : Int)) = D * (2 * (k : Int)) + D + D by rw [show (2 * ((k + 1 : Nat) : Int)) = 2 * (k : Int) + 1 + 1 by omega, Int.mul_add, Int.mul_add, Int.mul_one]]
    exact this
def gx (fs : List Int) (k : Nat) : Nat := (fs.getD (k * 3) 0).toNat
def gy (fs : List Int) (k : Nat) : Nat := (fs.getD (k * 3 + 1) 0).toNat
def gz (fs : List Int) (k : Nat) : Nat := (fs.getD (k * 3 + 2) 0).toNat
def scoresT (p : Nat) (fs : List Int) : Nat → List Int := updT p (gx fs) (gy fs) (fun k => (gz fs k : Int)) (fun k => 2 - (gz fs k : Int))
def metT (p : Nat) (fs : List Int) : Nat → List Int := updT (p * p) (fun k => gx fs k * p + gy fs k) (fun k => gy fs k * p + gx fs k) (fun _ => 1) (fun _ => 1)
def buchT (p : Nat) (fs s : List Int) : Nat → List Int := updT p (gx fs) (gy fs) (fun k => s.getD (gy fs k) 0) (fun k => s.getD (gx fs k) 0)
/-- two stores into a row -/
theorem Sw.adds {w : World} {b n cap : Nat} {l : List Int} {lo hi : Nat} (h : Sw (Value.int .i64) 0 w (.slice (some ⟨b, 0, none⟩) n cap) l lo hi) (i j : Nat) (hi' : i < l.length) (hj : j < l.length) (hne : i ≠ j) (d e : Int) :
    Sw (Value.int .i64) 0 ((w.setCell ⟨b, i, none⟩ (.int .i64 (l.getD i 0 + d))).setCell ⟨b, j, none⟩ (.int .i64 (l.getD j 0 + e))) (.slice (some ⟨b, 0, none⟩) n cap) (addAt (addAt l i d) j e) lo hi := by
  have h1 := h.store i hi' (l.getD i 0 + d)
  rw [Nat.zero_add] at h1
  have h2 := h1.store j (by simpa using hj) (l.getD j 0 + e)
  rw [Nat.zero_add] at h2
  have e1 : addAt (addAt l i d) j e = (l.set i (l.getD i 0 + d)).set j (l.getD j 0 + e) := by
    show (addAt l i d).set j ((addAt l i d).getD j 0 + e) = _
    rw [addAt_other _ _ _ _ hne]; rfl
  rw [e1]
  exact h2
theorem sw_made {w1 : World} {t : TypeId} {base B n : Nat} (h : w1.ownsRow base t 1 (.slice (some ⟨B, 0, none⟩) n n) n (madeCells (Value.int .i64 0).cells (n * 1)).toList) : Sw (Value.int .i64) 0 w1 (.slice (some ⟨B, 0, none⟩) n n) (List.replicate n 0) B (B + 1) := by
  refine ⟨_, _, by rw [List.length_replicate], fun h0 => ⟨by simp, B, 0, rfl, Nat.le_refl _, Nat.lt_succ_self _, (h.lt _ rfl).2, fun i hi => ⟨?_, ?_⟩⟩⟩
  · have hi' : i < n := by simpa using hi
    rw [Nat.zero_add, h.cellAt i (by omega)]
    show (madeCells #[Value.int .i64 0] (n * 1)).toList[i]? = _
    rw [Nat.mul_one, made1]
    simp [List.getD, hi']
  · rw [Nat.zero_add]; exact h.frozenAt i
theorem Sw.cells0 {w : World} {B n cap : Nat} {fs : List Int} {lo hi : Nat} (h : Sw (Value.int .i64) 0 w (.slice (some ⟨B, 0, none⟩) n cap) fs lo hi) (i : Nat) (hi' : i < fs.length) : w.cell? ⟨B, i, none⟩ = some (.int .i64 (fs.getD i 0)) ∧ w.frozen? ⟨B, i, none⟩ = false := by
  obtain ⟨p', cap', e, h⟩ := h
  obtain ⟨hcap, b, off, rfl, g1, g2, g3, hc⟩ := h (by omega)
  cases e
  have := hc i hi'
  rwa [Nat.zero_add] at this
theorem alloc3_cells (w : World) (x y z : Value) (t : TypeId) : (w.alloc (.cells #[x, y, z] t)).cell? ⟨w.heap.size, 0, none⟩ = some x ∧ (w.alloc (.cells #[x, y, z] t)).cell? ⟨w.heap.size, 1, none⟩ = some y ∧ (w.alloc (.cells #[x, y, z] t)).cell? ⟨w.heap.size, 2, none⟩ = some z := by
  have h := fun j => cell_of_row (w.alloc (.cells #[x, y, z] t)) w.heap.size j #[x, y, z] t (0, 0) (heap_alloc_new w _)
  exact ⟨h 0, h 1, h 2⟩
end Go.Proofs.Ytfipcpbibmhjoab
