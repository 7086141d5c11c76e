/- How many hands a stack pays: nothing of a translation. -/
import Derived.WalkKit
set_option linter.unusedVariables false
namespace Go.Proofs.Ytadbblidmmekiaa

/-- what the hand n costs -/
def costR (big small ante : Int) (S : Nat) (n : Nat) : Int := if n % S = 0 then ante + big else if n % S = 1 then ante + small else ante
/-- .. and all hands before it -/
def preR (c : Nat → Int) : Nat → Int
  | 0 => 0
  | n + 1 => preR c n + c n
theorem costR_nn (big small ante : Int) (S n : Nat) (hb : 0 ≤ big) (hs : 0 ≤ small) (ha : 0 ≤ ante) : 0 ≤ costR big small ante S n := by
  unfold costR; split
  · omega
  · split <;> omega
theorem costR_add (big small ante : Int) (S n : Nat) : costR big small ante S (S + n) = costR big small ante S n := by
  unfold costR; rw [Nat.add_mod_left]
theorem preR_mono (c : Nat → Int) (h : ∀ n, 0 ≤ c n) (m : Nat) : ∀ k, preR c m ≤ preR c (m + k)
  | 0 => Int.le_refl _
  | k + 1 => by have := preR_mono c h m k; have := h (m + k); show _ ≤ preR c (m + k) + c (m + k); omega
theorem preR_round (big small ante : Int) (S : Nat) (h2 : 2 ≤ S) (h6 : S ≤ 6) : preR (costR big small ante S) S = (S : Int) * ante + big + small := by
  obtain rfl | rfl | rfl | rfl | rfl : S = 2 ∨ S = 3 ∨ S = 4 ∨ S = 5 ∨ S = 6 := by omega
  all_goals simp [preR, costR]; omega
theorem preR_add (big small ante : Int) (S : Nat) (n : Nat) : preR (costR big small ante S) (S + n) = preR (costR big small ante S) S + preR (costR big small ante S) n := by
  induction n with
  | zero => exact (Int.add_zero _).symm
  | succ n ih =>
    show preR (costR big small ante S) (S + n) + costR big small ante S (S + n) = _ + (preR (costR big small ante S) n + costR big small ante S n)
    rw [ih, costR_add]; omega
theorem preR_many (big small ante : Int) (S : Nat) (q n : Nat) : preR (costR big small ante S) (q * S + n) = (q : Int) * preR (costR big small ante S) S + preR (costR big small ante S) n := by
  induction q with
  | zero => rw [Nat.zero_mul, Nat.zero_add, Int.natCast_zero, Int.zero_mul, Int.zero_add]
  | succ q ih =>
    rw [show (q + 1) * S + n = S + (q * S + n) by rw [Nat.succ_mul]; omega, preR_add, ih]
    rw [show ((q + 1 : Nat) : Int) = (q : Int) + 1 from rfl, Int.add_mul]; omega
/-- the first hand that is not paid -/
theorem stops (c : Nat → Int) (l : Int) : ∀ f s, l < preR c (s + f) → (∀ i, i < s → c i ≤ l - preR c i) → preR c s ≤ l → ∃ t, s ≤ t ∧ t < s + f ∧ (∀ i, i < t → c i ≤ l - preR c i) ∧ l - preR c t < c t
  | 0, s, h, _, g => by rw [Nat.add_zero] at h; omega
  | f + 1, s, h, p, g => by
    by_cases hc : c s ≤ l - preR c s
    · obtain ⟨t, t1, t2, t3, t4⟩ := stops c l f (s + 1) (by rw [show s + 1 + f = s + (f + 1) by omega]; exact h) (fun i hi => by
        by_cases e : i = s
        · subst e; exact hc
        · exact p i (by omega)) (by show preR c s + c s ≤ l; omega)
      exact ⟨t, by omega, by omega, t3, t4⟩
    · exact ⟨s, Nat.le_refl _, by omega, p, by omega⟩
theorem pays (big small ante st : Int) (S : Nat) (hb : 0 ≤ big) (hs : 0 ≤ small) (ha : 0 ≤ ante) (h2 : 2 ≤ S) (h6 : S ≤ 6) (hst : 0 ≤ st) (q : Nat) (L : Int) (R : Int) (hR : (S : Int) * ante + big + small = R) (hR0 : 1 ≤ R) (hq : (q : Int) = st / R) (hL : L = st % R) :
    ∃ t, t < S ∧ (∀ i, i < t → costR big small ante S i ≤ L - preR (costR big small ante S) i) ∧ L - preR (costR big small ante S) t < costR big small ante S t ∧
      (∀ i, i < q * S + t → costR big small ante S i ≤ st - preR (costR big small ante S) i) ∧ st - preR (costR big small ante S) (q * S + t) < costR big small ante S (q * S + t) := by
  have hr := preR_round big small ante S h2 h6
  rw [hR] at hr
  have hL0 : 0 ≤ L := by rw [hL]; exact Int.emod_nonneg _ (by omega)
  have hL1 : L < R := by rw [hL]; exact Int.emod_lt_of_pos _ (by omega)
  have hst2 : st = (q : Int) * R + L := by
    have := Int.mul_ediv_add_emod st R
    rw [hq, hL, Int.mul_comm]; omega
  obtain ⟨t, -, t2, t3, t4⟩ := stops (costR big small ante S) L S 0 (by rw [Nat.zero_add, hr]; exact hL1) (fun i hi => absurd hi (by omega)) (by exact hL0)
  have key : ∀ n, preR (costR big small ante S) (q * S + n) = (q : Int) * R + preR (costR big small ante S) n := fun n => by rw [preR_many, hr]
  have ck : ∀ (q n : Nat), costR big small ante S (q * S + n) = costR big small ante S n := fun q n => by
    unfold costR; rw [Nat.mul_comm, Nat.mul_add_mod]
  refine ⟨t, by omega, t3, t4, fun i hi => ?_, ?_⟩
  · by_cases e : i < q * S
    · have h1 := preR_mono (costR big small ante S) (fun n => costR_nn big small ante S n hb hs ha) (i + 1) (q * S - (i + 1))
      rw [show i + 1 + (q * S - (i + 1)) = q * S + 0 by omega, key 0] at h1
      have h2 : preR (costR big small ante S) (i + 1) = preR (costR big small ante S) i + costR big small ante S i := rfl
      have h3 : preR (costR big small ante S) 0 = 0 := rfl
      omega
    · obtain ⟨j, rfl⟩ : ∃ j, i = q * S + j := ⟨i - q * S, by omega⟩
      have := t3 j (by omega)
      rw [key, ck]; omega
  · rw [key, ck]; omega
end Go.Proofs.Ytadbblidmmekiaa
