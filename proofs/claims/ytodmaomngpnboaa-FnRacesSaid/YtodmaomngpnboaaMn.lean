/- Contracts: lists of valid dice, in both texts. -/
import Derived.Test.YtodmaomngpnboaaMc
import Derived.Test.YtodmaomngpnboaaMd
set_option linter.unusedVariables false
namespace Go.Proofs.Ytodmaomngpnboaa
open Go.RowKit

/-- how many of the first k dice are valid -/
def cntV (ds : List (List Int)) : Nat → Nat
  | 0 => 0
  | k + 1 => cntV ds k + (if dieB (ds.getD k []) = true then 1 else 0)
theorem cntV_le (ds : List (List Int)) (k : Nat) : cntV ds k ≤ k := by
  induction k with
  | zero => exact Nat.le_refl _
  | succ k ih => rw [cntV]; split <;> omega
theorem cntV_all (ds : List (List Int)) (k : Nat) (h : ∀ i, i < k → dieB (ds.getD i []) = true) : cntV ds k = k := by
  induction k with
  | zero => rfl
  | succ k ih => rw [cntV, ih (fun i hi => h i (by omega)), h k (by omega), if_pos rfl]
theorem cntV_lt (ds : List (List Int)) (n i : Nat) (hi : i < n) (h : dieB (ds.getD i []) = false) : cntV ds n < n := by
  induction n with
  | zero => omega
  | succ n ih =>
    rw [cntV]
    by_cases e : i = n
    · subst e
      have := cntV_le ds i
      rw [h, if_neg Bool.false_ne_true]; omega
    · have := ih (by omega)
      split <;> omega
def diceB (ds : List (List Int)) : Bool := (decide (1 ≤ (ds.length : Int)) && decide ((ds.length : Int) ≤ 6)) && (List.range ds.length).all fun k => dieB (ds.getD k [])
theorem diceB_at {ds : List (List Int)} (h : diceB ds = true) : 1 ≤ ds.length ∧ ds.length ≤ 6 ∧ ∀ k, k < ds.length → dieB (ds.getD k []) = true := by
  unfold diceB at h
  rw [Bool.and_eq_true, Bool.and_eq_true] at h
  obtain ⟨⟨h1, h2⟩, h3⟩ := h
  have h1 := of_decide_eq_true h1
  have h2 := of_decide_eq_true h2
  exact ⟨by omega, by omega, fun k hk => List.all_eq_true.1 h3 k (List.mem_range.2 hk)⟩
theorem diceB_cnt (ds : List (List Int)) (h1 : 1 ≤ ds.length) (h2 : ds.length ≤ 6) : diceB ds = (((cntV ds ds.length : Nat) : Int) == (ds.length : Int)) := by
  unfold diceB
  rw [decide_eq_true (by omega), decide_eq_true (by omega), Bool.true_and, Bool.true_and]
  cases e : (List.range ds.length).all fun k => dieB (ds.getD k [])
  · have : ¬ ∀ k, k < ds.length → dieB (ds.getD k []) = true := fun h => by
      rw [List.all_eq_true.2 (fun k hk => h k (List.mem_range.1 hk))] at e; cases e
    obtain ⟨k, hk⟩ := Classical.not_forall.1 this
    obtain ⟨hk1, hk2⟩ := Classical.not_imp.1 hk
    have := cntV_lt ds ds.length k hk1 (by simpa using hk2)
    symm; rw [beq_eq_false_iff_ne]; omega
  · rw [cntV_all ds ds.length (fun i hi => List.all_eq_true.1 e i (List.mem_range.2 hi))]
    simp
theorem diceB_len {ds : List (List Int)} (h : ds.length < 1 ∨ 6 < ds.length) : diceB ds = false := by
  unfold diceB
  rcases h with h | h
  · rw [decide_eq_false (show ¬ (1 : Int) ≤ ds.length by omega), Bool.false_and, Bool.false_and]
  · rw [decide_eq_false (show ¬ (ds.length : Int) ≤ 6 by omega), Bool.and_false, Bool.false_and]
theorem diceB_bad {ds : List (List Int)} (k : Nat) (hk : k < ds.length) (h : dieB (ds.getD k []) = false) : diceB ds = false := by
  cases e : diceB ds
  · rfl
  · rw [(diceB_at e).2.2 k hk] at h; cases h

