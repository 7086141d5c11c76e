/- Words of bits without a streak: pure. Nothing of a translation. -/
import Derived.Test.YticocfoheenmdaaWg
set_option linter.unusedVariables false
namespace Go.Proofs.Yticocfoheenmdaa
open Go.RowKit

def onesL (n : Nat) : List Int := List.replicate n 1
theorem onesL_len (n : Nat) : (onesL n).length = n := by simp [onesL]
theorem step_one (n k : Nat) (hk : k < n) : stepE (onesL n) k 1 = k + 1 := by
  refine lastE_yes ?_
  have e : (onesL n).take k ++ [1] = onesL (k + 1) := by
    unfold onesL
    rw [List.take_replicate, Nat.min_eq_left (by omega), List.replicate_succ']
  rw [e, endsB_of (by rw [onesL_len]; omega) (by rw [onesL_len]; omega), onesL_len, Nat.sub_self, List.drop_zero]
  refine decide_eq_true ?_
  unfold onesL
  rw [List.take_replicate, Nat.min_eq_left (by omega)]
theorem step_nought (n k : Nat) (hk : k < n) : stepE (onesL n) k 0 = 0 := by
  have hl : ((onesL n).take k ++ [0]).length = k + 1 := by rw [List.length_append, List.length_take, onesL_len, Nat.min_eq_left (by omega)]; rfl
  have h : ∀ j, j < k + 1 → endsB ((onesL n).take k ++ [0]) (onesL n) (j + 1) = false := by
    intro j hj
    rw [endsB_of (by rw [hl]; omega) (by rw [onesL_len]; omega), hl]
    refine decide_eq_false fun e => ?_
    have e2 := congrArg (fun l : List Int => l.getD j 5) e
    simp only [List.getD_eq_getElem?_getD, List.getElem?_drop, List.getElem?_take] at e2
    rw [show k + 1 - (j + 1) + j = k by omega, if_pos (by omega), List.getElem?_append_right (by rw [List.length_take, onesL_len]; omega), List.length_take, onesL_len, Nat.min_eq_left (by omega), Nat.sub_self] at e2
    unfold onesL at e2
    rw [List.getElem?_replicate, if_pos (by omega)] at e2
    simp at e2
  have g : ∀ m, m ≤ k + 1 → lastE ((onesL n).take k ++ [0]) (onesL n) m = 0 := by
    intro m hm
    induction m with
    | zero => rfl
    | succ m ih => rw [lastE_no (h m (by omega)), ih (by omega)]
  exact g (k + 1) (Nat.le_refl _)
theorem mv_ones (n k : Nat) (hk : k < n) (t : Int) : mvI (onesL n) k 2 t = (if t = 0 then 1 else 0) + (if t = (k : Int) + 1 then 1 else 0) := by
  have h0 := step_nought n k hk
  have h1 := step_one n k hk
  rw [show (2 : Nat) = 1 + 1 from rfl, mvI_succ, show (1 : Nat) = 0 + 1 from rfl, mvI_succ]
  rw [show ((0 : Nat) : Int) = 0 from rfl, show ((0 + 1 : Nat) : Int) = 1 from rfl, h0, h1]
  show (0 + _) + _ = _
  rw [Int.zero_add]
  congr 1
  · by_cases e : t = 0
    · rw [if_pos e, if_pos (by omega)]
    · rw [if_neg e, if_neg (by omega)]
  · by_cases e : t = (k : Int) + 1
    · rw [if_pos e, if_pos (by omega)]
    · rw [if_neg e, if_neg (by omega)]
/-- the next row behind k states -/
def nxS (n i k : Nat) (t : Int) : Int := nxW (onesL n) 2 n i k 0 t
theorem nxS_zero (n i : Nat) (t : Int) : nxS n i 0 t = 0 := nxW_zero _ _ _ _ _
theorem nxS_step (n i k : Nat) (hk : k < n) (t : Int) : nxS n i (k + 1) t = nxS n i k t + ((if t = 0 then rwI (onesL n) 2 n i (k : Int) else 0) + (if t = (k : Int) + 1 then rwI (onesL n) 2 n i (k : Int) else 0)) := by
  unfold nxS nxW
  rw [sA_succ, mv_ones n k hk, show mvI (onesL n) (k + 1) 0 t = 0 from rfl, show mvI (onesL n) k 0 t = 0 from rfl, Int.mul_zero, Int.mul_zero, Int.add_zero, Int.add_zero, Int.mul_add]
  congr 2
  · split
    · rw [Int.mul_one]
    · rw [Int.mul_zero]
  · split
    · rw [Int.mul_one]
    · rw [Int.mul_zero]
theorem nxS_all (n i : Nat) (t : Nat) (ht : t < n) : nxS n i n (t : Int) = rwI (onesL n) 2 n (i + 1) (t : Int) := nxW_all _ _ _ _ _ ht
theorem nxS_bd (n i k : Nat) (t : Int) (hk : k ≤ n) (B : Int) (hB : pwI 2 (i + 1) ≤ B) : 0 ≤ nxS n i k t ∧ nxS n i k t ≤ B := by
  unfold nxS
  have h0 := rw_nonneg (onesL n) 2 n i
  have e : nxW (onesL n) 2 n i k 0 t = sumA (fun j => rwI (onesL n) 2 n i (j : Int) * mvI (onesL n) j 2 t) k := by
    unfold nxW
    rw [show mvI (onesL n) k 0 t = 0 from rfl, Int.mul_zero, Int.add_zero]
  rw [e]
  refine ⟨sA_nonneg k fun j _ => Int.mul_nonneg (h0 _) (mvI_bd _ j 2 t).1, ?_⟩
  have h2 := sA_part (g := fun j => rwI (onesL n) 2 n i (j : Int) * mvI (onesL n) j 2 t) n (fun j _ => Int.mul_nonneg (h0 _) (mvI_bd _ j 2 t).1) k hk
  have h3 := (rw_next (onesL n) 2 n i t).2
  have h4 := Int.mul_le_mul_of_nonneg_right (rw_total (onesL n) 2 n i) (show (0 : Int) ≤ (2 : Nat) by omega)
  have h5 : pwI 2 i * 2 ≤ B := hB
  have h6 : pwI ((2 : Nat) : Int) i * ((2 : Nat) : Int) = pwI 2 i * 2 := rfl
  omega
/-- no row of i symbols ends with more than i of the word -/
theorem rw_far (W : List Int) (s n : Nat) : ∀ i (k : Nat), i < k → rwI W s n i (k : Int) = 0
  | 0, k, h => by unfold rwI; rw [if_neg (by omega)]
  | i + 1, k, h => by
    rw [rw_succ]
    unfold cutA
    split
    · rfl
    · show sumA (fun j => rwI W s n i (j : Int) * mvI W j s (k : Int)) n = 0
      rw [sumA_congr n (g := fun j => rwI W s n i (j : Int) * mvI W j s (k : Int)) (h := fun _ => 0) (fun j _ => by
        by_cases hj : i < j
        · rw [rw_far W s n i j hj, Int.zero_mul]
        · have : mvI W j s (k : Int) = 0 := by
            unfold mvI
            rw [sumA_congr s (h := fun _ => 0) (fun x _ => by have := stepE_le W j (x : Int); rw [if_neg (by omega)]), sA_zero]
          rw [this, Int.mul_zero]), sA_zero]
theorem rw_full (W : List Int) (s n : Nat) : ∀ i, i < n → sumA (fun k => rwI W s n i (k : Int)) n = pwI s i
  | 0, h => by
    have e : sumA (fun k => rwI W s n 0 (k : Int)) n = if 0 ≤ (0 : Int) ∧ (0 : Int) < (n : Int) then 1 else 0 := sumA_one 0 (fun _ => 1) n
    rw [e, if_pos (by omega)]; rfl
  | i + 1, h => by
    have h1 : sumA (fun t => rwI W s n (i + 1) (t : Int)) n = sumA (fun t => sumA (fun k => rwI W s n i (k : Int) * mvI W k s (t : Int)) n) n :=
      sumA_congr n fun t ht => by rw [rw_succ]; unfold cutA; rw [if_neg (by omega)]
    have hz : sumA (fun k => rwI W s n i (k : Int) * mvI W k s (n : Int)) n = 0 := by
      rw [sumA_congr n (h := fun _ => 0) (fun k _ => by
        by_cases hk : i < k
        · rw [rw_far W s n i k hk, Int.zero_mul]
        · have : mvI W k s (n : Int) = 0 := by
            unfold mvI
            rw [sumA_congr s (h := fun _ => 0) (fun x _ => by have := stepE_le W k (x : Int); rw [if_neg (by omega)]), sA_zero]
          rw [this, Int.mul_zero]), sA_zero]
    have h2 := sA_swap (fun k => rwI W s n i (k : Int)) (fun k t => mvI W k s (t : Int)) n (n + 1)
    rw [sA_succ, hz, Int.add_zero, sumA_congr n (g := fun k => rwI W s n i (k : Int) * sumA (fun t => mvI W k s (t : Int)) (n + 1)) (h := fun k => rwI W s n i (k : Int) * s) (fun k hk => by rw [mvI_all W k s n hk]), sA_mul, rw_full W s n i (by omega)] at h2
    rw [h1]; exact h2
/-- how many words of T bits have fewer than n ones, one behind the other -/
def fewer (T n : Nat) : Int := sumA (fun k => rwI (onesL n) 2 n T (k : Int)) n
theorem fewer_bd (T n : Nat) : 0 ≤ fewer T n ∧ fewer T n ≤ pwI 2 T := ⟨sA_nonneg n fun k _ => rw_nonneg _ _ _ _ _, rw_total (onesL n) 2 n T⟩
theorem fewer_none (T : Nat) : fewer T 0 = 0 := rfl
theorem fewer_all (T : Nat) : fewer T (T + 1) = pwI 2 T := rw_full (onesL (T + 1)) 2 (T + 1) T (by omega)
theorem pw2_bd : ∀ k, k < 62 → 1 ≤ pwI 2 k ∧ pwI 2 k ≤ 2305843009213693952 := by decide +kernel
end Go.Proofs.Yticocfoheenmdaa
