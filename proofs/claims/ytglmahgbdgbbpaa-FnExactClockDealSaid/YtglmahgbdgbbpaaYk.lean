/- Cards turned on a clock: nothing of a translation. -/
import Derived.WalkKit
set_option linter.unusedVariables false
namespace Go.Proofs.Ytglmahgbdgbbpaa

/-- what is left in the piles, and the pile of the next card, behind k turned cards -/
def clkS (fs : List Int) (p h : Nat) : Nat → List Int × Nat
  | 0 => (List.replicate p (h : Int), p - 1)
  | k + 1 => ((clkS fs p h k).1.set (clkS fs p h k).2 ((clkS fs p h k).1.getD (clkS fs p h k).2 0 - 1),
      ((fs.getD (((clkS fs p h k).1.getD (clkS fs p h k).2 0 - 1).toNat * p + (clkS fs p h k).2) 0).toNat % p))
def clkG (st : Nat → Bool) : Nat → Nat → Nat
  | 0, k => k
  | f + 1, k => if st k = true then clkG st f (k + 1) else k
def clkB (fs : List Int) (p h k : Nat) : Bool := decide (0 < (clkS fs p h k).1.getD (clkS fs p h k).2 0)
def clkN (fs : List Int) (p h : Nat) : Nat := clkG (clkB fs p h) (p * h + 1) 0
theorem clkG_yes {st : Nat → Bool} {f k : Nat} (h : st k = true) : clkG st (f + 1) k = clkG st f (k + 1) := by rw [clkG, if_pos h]
theorem clkG_no {st : Nat → Bool} {f k : Nat} (h : st k = false) : clkG st (f + 1) k = k := by rw [clkG, if_neg (by rw [h]; exact Bool.false_ne_true)]
def sumZ (l : List Int) : Int := l.foldr (· + ·) 0
theorem sumZ_rep (p : Nat) (x : Int) : sumZ (List.replicate p x) = p * x := by
  induction p with
  | zero => simp [sumZ]
  | succ p ih =>
    rw [List.replicate_succ]
    show x + sumZ (List.replicate p x) = _
    rw [ih]
    have : ((p + 1 : Nat) : Int) * x = p * x + x := by rw [Int.natCast_add, Int.add_mul]; simp
    rw [this]; omega
theorem sumZ_set (l : List Int) (a : Nat) (y : Int) (h : a < l.length) : sumZ (l.set a y) = sumZ l - l.getD a 0 + y := by
  induction l generalizing a with
  | nil => simp at h
  | cons x r ih =>
    cases a with
    | zero => show y + sumZ r = (x + sumZ r) - x + y; omega
    | succ a =>
      show x + sumZ (r.set a y) = (x + sumZ r) - (x :: r).getD (a + 1) 0 + y
      rw [ih a (by simpa using h)]
      simp [List.getD]
      omega
theorem sumZ_nonneg (l : List Int) (h : ∀ i, i < l.length → 0 ≤ l.getD i 0) : 0 ≤ sumZ l := by
  induction l with
  | nil => exact Int.le_refl _
  | cons x r ih =>
    have h0 := h 0 (by simp)
    have h1 := ih (fun i hi => by have := h (i + 1) (by simpa using hi); simpa [List.getD] using this)
    show 0 ≤ x + sumZ r
    simp [List.getD] at h0
    omega
theorem sumZ_pos (l : List Int) (h : ∀ i, i < l.length → 0 ≤ l.getD i 0) (a : Nat) (ha : a < l.length) (hp : 0 < l.getD a 0) : 1 ≤ sumZ l := by
  have h1 := sumZ_set l a 0 ha
  have h2 := sumZ_nonneg (l.set a 0) (fun i hi => by
    rw [List.length_set] at hi
    by_cases e : i = a
    · subst e; simp [List.getD, ha]
    · simp [List.getD, show ¬ a = i from fun h => e h.symm]; simpa [List.getD] using h i hi)
  omega
structure ClkI (fs : List Int) (p h k : Nat) : Prop where
  len : (clkS fs p h k).1.length = p
  at' : (clkS fs p h k).2 < p
  bd : ∀ i, i < p → 0 ≤ (clkS fs p h k).1.getD i 0 ∧ (clkS fs p h k).1.getD i 0 ≤ h
  sum : sumZ (clkS fs p h k).1 = (p * h : Nat) - (k : Int)
theorem clk_zero (fs : List Int) (p h : Nat) (hp : 1 ≤ p) : ClkI fs p h 0 where
  len := by simp [clkS]
  at' := by simp [clkS]; omega
  bd := fun i hi => by simp [clkS, List.getD, hi]
  sum := by simp [clkS, sumZ_rep]
theorem clk_succ {fs : List Int} {p h k : Nat} (hi : ClkI fs p h k) (hb : clkB fs p h k = true) (hp : 1 ≤ p) : ClkI fs p h (k + 1) := by
  have hb := of_decide_eq_true hb
  have hl := hi.len
  have ha := hi.at'
  have hd := hi.bd
  have hs := hi.sum
  refine ⟨?_, ?_, ?_, ?_⟩
  · simp only [clkS]; rw [List.length_set]; exact hl
  · simp only [clkS]; exact Nat.mod_lt _ (by omega)
  · intro i hip
    simp only [clkS]
    have h1 := hd i hip
    have h2 := hd _ ha
    by_cases e : i = (clkS fs p h k).2
    · subst e
      rw [show ((clkS fs p h k).1.set (clkS fs p h k).2 ((clkS fs p h k).1.getD (clkS fs p h k).2 0 - 1)).getD (clkS fs p h k).2 0 = (clkS fs p h k).1.getD (clkS fs p h k).2 0 - 1 by simp [List.getD, hl, ha]]
      omega
    · rw [show ((clkS fs p h k).1.set (clkS fs p h k).2 ((clkS fs p h k).1.getD (clkS fs p h k).2 0 - 1)).getD i 0 = (clkS fs p h k).1.getD i 0 by simp [List.getD, show ¬ (clkS fs p h k).2 = i from fun h => e h.symm]]
      exact h1
  · simp only [clkS]
    rw [sumZ_set _ _ _ (by rw [hl]; exact ha), hs]
    omega
theorem clk_lt {fs : List Int} {p h k : Nat} (hi : ClkI fs p h k) (hb : clkB fs p h k = true) : k < p * h := by
  have := sumZ_pos _ (fun i hl => (hi.bd i (by rw [← hi.len]; exact hl)).1) _ (by rw [hi.len]; exact hi.at') (of_decide_eq_true hb)
  rw [hi.sum] at this
  omega
theorem clk_le {fs : List Int} {p h k : Nat} (hi : ClkI fs p h k) : k ≤ p * h := by
  have := sumZ_nonneg _ (fun i hl => (hi.bd i (by rw [← hi.len]; exact hl)).1)
  rw [hi.sum] at this
  omega
/-- the place of the next card -/
theorem clk_idx {fs : List Int} {p h k z : Nat} (hi : ClkI fs p h k) (hz : (clkS fs p h k).1.getD (clkS fs p h k).2 0 = (z : Int) + 1) : z * p + (clkS fs p h k).2 < p * h ∧ z < h := by
  have h1 := (hi.bd _ hi.at').2
  rw [hz] at h1
  have h2 : z + 1 ≤ h := by omega
  have h3 := Nat.mul_le_mul_right p h2
  have h4 := hi.at'
  rw [Nat.succ_mul, Nat.mul_comm h p] at h3
  exact ⟨by omega, by omega⟩
end Go.Proofs.Ytglmahgbdgbbpaa
