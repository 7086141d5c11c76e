/- Least common multiples of cycles. No translation. -/
import Derived.Test.YtfjokclhbbndaabHf
set_option linter.unusedVariables false
namespace Go.Proofs.Ytfjokclhbbndaab
open Go.RowKit

theorem mk_count {fs : List Int} (h : deckB fs = true) (i t : Nat) (hi : i < fs.length) (hl : leastB fs.length (fN fs) i = true) (ht : t < perF fs.length (fN fs) i) : (mkL fs i (t + 1)).count true = (mkL fs i t).count true + 1 := by
  have hx := itF_lt (fN_lt h) hi t
  have hlen : itF (fN fs) i t < (mkL fs i t).length := by unfold mkL; rw [List.length_map, List.length_range]; exact hx
  have hat : (mkL fs i t)[itF (fN fs) i t]'hlen = false := by
    have := mkL_at fs i t _ hx
    rw [List.getElem?_eq_getElem hlen, mark_open (fN_lt h) (fN_inj h) hi hl ht] at this
    exact Option.some.inj this
  rw [← mkL_set, List.count_set hlen, hat]
  simp
theorem mk_count_all {fs : List Int} (h : deckB fs = true) (i : Nat) (hi : i < fs.length) (hl : leastB fs.length (fN fs) i = true) : ∀ t, t ≤ perF fs.length (fN fs) i → (mkL fs i t).count true = (snL fs i).count true + t
  | 0, _ => by rw [mkL_zero]; rfl
  | t + 1, ht => by rw [mk_count h i t hi hl (by omega), mk_count_all h i hi hl t (by omega)]; rfl
/-- the cycles' lengths as naturals, sorted -/
def cycS (fs : List Int) : List Nat := (sortI (cycL fs fs.length)).map Int.toNat
theorem cyc_sum {fs : List Int} (h : deckB fs = true) : ∀ i, i ≤ fs.length → ((cycL fs i).map Int.toNat).sum = (snL fs i).count true
  | 0, _ => by rw [cycL_zero, snL_zero]; simp [List.count_replicate]
  | i + 1, hi => by
    have ih := cyc_sum h i (by omega)
    cases hl : leastB fs.length (fN fs) i
    · rw [cycL_no fs i hl, snL_same h i (by omega) hl, ih]
    · rw [cycL_yes fs i hl, ← mkL_end h i (by omega), mk_count_all h i (by omega) hl _ (Nat.le_refl _), ← ih, List.map_append, List.sum_append]
      simp
theorem cycS_sum {fs : List Int} (h : deckB fs = true) : (cycS fs).sum ≤ fs.length := by
  have hp := ((sortI_perm (cycL fs fs.length)).map Int.toNat).sum_nat
  unfold cycS
  rw [hp, cyc_sum h fs.length (Nat.le_refl _)]
  refine Nat.le_trans List.count_le_length ?_
  rw [snL_len]; exact Nat.le_refl _

def ordN (l : List Nat) : Nat → Nat
  | 0 => 1
  | k + 1 => ordN l k * (l.getD k 0 / Nat.gcd (ordN l k) (l.getD k 0))
theorem ordN_alt (l : List Nat) (k : Nat) : ordN l (k + 1) = ordN l k / Nat.gcd (ordN l k) (l.getD k 0) * l.getD k 0 := by
  show ordN l k * (l.getD k 0 / Nat.gcd (ordN l k) (l.getD k 0)) = _
  rw [← Nat.mul_div_assoc _ (Nat.gcd_dvd_right _ _), Nat.div_mul_right_comm (Nat.gcd_dvd_left _ _)]
theorem ordN_bd (l : List Nat) : ∀ k, ordN l k ≤ 2 ^ (l.take k).sum
  | 0 => Nat.le_refl _
  | k + 1 => by
    have ih := ordN_bd l k
    show ordN l k * (l.getD k 0 / Nat.gcd (ordN l k) (l.getD k 0)) ≤ _
    by_cases hk : k < l.length
    · rw [← List.take_append_getElem hk, List.sum_append, Nat.pow_add]
      refine Nat.mul_le_mul ih ?_
      refine Nat.le_trans (Nat.div_le_self _ _) ?_
      have e : l.getD k 0 = l[k] := by simp [List.getD, hk]
      rw [e]
      simp only [List.sum_cons, List.sum_nil, Nat.add_zero]
      exact Nat.le_of_lt Nat.lt_two_pow_self
    · have e : l.getD k 0 = 0 := by simp [List.getD, Nat.le_of_not_lt hk]
      rw [e, Nat.zero_div, Nat.mul_zero]; exact Nat.zero_le _
theorem take_sum (l : List Nat) (k : Nat) : (l.take k).sum ≤ l.sum := by
  have := List.take_append_drop k l
  have h2 : l.sum = (l.take k).sum + (l.drop k).sum := by rw [← List.sum_append, this]
  omega
theorem ordN_52 {fs : List Int} (h : deckB fs = true) (k : Nat) : ordN (cycS fs) k ≤ 4503599627370496 := by
  have h1 := ordN_bd (cycS fs) k
  have h2 := take_sum (cycS fs) k
  have h3 := cycS_sum h
  have h4 := (deckB_len h).2.1
  refine Nat.le_trans h1 (Nat.le_trans (Nat.pow_le_pow_right (by omega) (show ((cycS fs).take k).sum ≤ 52 by omega)) (by decide))
end Go.Proofs.Ytfjokclhbbndaab
