/- Contracts: counts of sets of at most 60 things, in both texts. -/
import Derived.Test.YtfihnnhgegdjkaaQa
import Derived.Test.YtfihnnhgegdjkaaDr
set_option linter.unusedVariables false
namespace Go.Proofs.Ytfihnnhgegdjkaa
open Go.RowKit


theorem setsQ_eq : ((List.range 61).all fun n => (List.range 61).all fun k => decide (setsR n k = chooseS n k)) = true := by decide +kernel
theorem setsQ_bd0 : ((List.range 61).all fun n => (List.range 61).all fun k => decide (setsR n k * (n - k) ≤ 4611686018427387904) && decide (setsR n k ≤ 144115188075855872 * 2) && decide (n < k → setsR n k = 0) && decide (k ≤ n → 1 ≤ setsR n k) && decide (setsR n k ≤ 2 ^ n)) = true := by decide +kernel
theorem setsQS_bd0 : ((List.range 61).all fun n => (List.range 61).all fun k => decide (n < k) || ((List.range (min k (n - k))).all fun i => decide (setsS n (min k (n - k)) i * (n - min k (n - k) + (i + 1)) ≤ 4611686018427387904))) = true := by decide +kernel
theorem setsQ_at (n k : Nat) (hn : n < 61) (hk : k < 61) : setsR n k = chooseS n k :=
  of_decide_eq_true (List.all_eq_true.1 (List.all_eq_true.1 setsQ_eq n (List.mem_range.2 hn)) k (List.mem_range.2 hk))
theorem setsQ_bd (n k : Nat) (hn : n < 61) (hk : k < 61) : ((setsR n k * (n - k) : Nat) : Int) ≤ 4611686018427387904 ∧ ((setsR n k : Nat) : Int) ≤ 288230376151711744 ∧ (n < k → setsR n k = 0) := by
  have := List.all_eq_true.1 (List.all_eq_true.1 setsQ_bd0 n (List.mem_range.2 hn)) k (List.mem_range.2 hk)
  simp only [Bool.and_eq_true, decide_eq_true_eq] at this
  exact ⟨by omega, by omega, this.1.1.2⟩
theorem setsQ_pos (n k : Nat) (hn : n < 61) (hk : k ≤ n) : 1 ≤ setsR n k := by
  have := List.all_eq_true.1 (List.all_eq_true.1 setsQ_bd0 n (List.mem_range.2 hn)) k (List.mem_range.2 (by omega))
  simp only [Bool.and_eq_true, decide_eq_true_eq] at this
  exact this.1.2 hk
theorem setsQ_two (n k : Nat) (hn : n < 61) (hk : k < 61) : setsR n k ≤ 2 ^ n := by
  have := List.all_eq_true.1 (List.all_eq_true.1 setsQ_bd0 n (List.mem_range.2 hn)) k (List.mem_range.2 hk)
  simp only [Bool.and_eq_true, decide_eq_true_eq] at this
  exact this.2
theorem setsQ_prod (n m k j : Nat) (hn : n + m < 61) (hk : k < 61) (hj : j < 61) : setsR n k * setsR m j ≤ 2 ^ (n + m) := by
  rw [Nat.pow_add]
  exact Nat.mul_le_mul (setsQ_two n k (by omega) hk) (setsQ_two m j (by omega) hj)
theorem two_pow_60 (n : Nat) (h : n ≤ 60) : 2 ^ n ≤ 1152921504606846976 := Nat.le_trans (Nat.pow_le_pow_right (by omega) h) (by decide +kernel)
theorem setsQS_bd (n k : Nat) (hn : n < 61) (hk : k < 61) (h : ¬ n < k) (i : Nat) (hi : i < min k (n - k)) : ((setsS n (min k (n - k)) i * (n - min k (n - k) + (i + 1)) : Nat) : Int) ≤ 4611686018427387904 := by
  have := List.all_eq_true.1 (List.all_eq_true.1 setsQS_bd0 n (List.mem_range.2 hn)) k (List.mem_range.2 hk)
  rw [Bool.or_eq_true] at this
  have h2 := List.all_eq_true.1 (this.resolve_left (by simpa using h)) i (List.mem_range.2 hi)
  simp only [decide_eq_true_eq] at h2
  omega
theorem setsQ_mul (n : Nat) (hn : n < 61) (k : Nat) (hk : k < 61) : ((setsR n k : Nat) : Int) * ((n : Int) - (k : Int)) = ((setsR n k * (n - k) : Nat) : Int) := by
  by_cases h : n < k
  · rw [(setsQ_bd n k hn hk).2.2 h]; simp
  · rw [Int.natCast_mul, Int.natCast_sub (by omega)]
theorem setsQ_next (n : Nat) (hn : n < 61) (k : Nat) (hk : k < 61) : ((setsR n (k + 1) : Nat) : Int) = ((setsR n k : Nat) : Int) * ((n : Int) - (k : Int)) / ((k : Int) + 1) := by
  rw [setsQ_mul n hn k hk, setsR, Int.natCast_ediv, Int.natCast_add]; rfl
set_option maxHeartbeats 1000000 in
theorem countQ_any (n k : Nat) (w : World) (hn : n < 61) (hk : k < 61) :
    Calls Try.prog 25 #[.int .i64 (n : Int), .int .i64 (k : Int)] w fun e w' => e = .returned (.int .i64 ((setsR n k : Nat) : Int)) ∧ w = w' := by
  have Hm := Lib.hid (fun i (hi : i < 61) => setsQ_mul n hn i hi)
  have Hx := Lib.hid (fun i (hi : i < 61) => setsQ_next n hn i hi)
  have Hb := Lib.hid (fun i (hi : i < 61) => setsQ_bd n i hn hi)
  go_enter Try.func25, Try.ntmps25
  go_wp2
  go_loop [5, 8] (fun c i => ∃ j : Nat, j ≤ k ∧ i = .int .i64 (j : Int) ∧ c = .int .i64 ((setsR n j : Nat) : Int)) (fun _ i => k - (intOf i).toNat)
  case atStart => exact ⟨0, Nat.zero_le _, rfl, rfl⟩
  case round =>
    obtain ⟨j, hj, rfl, rfl⟩ := hrel
    by_cases hlt : j < k
    · have hb := Hb.out j (by omega)
      have hm := Hm.out j (by omega)
      have h0 : 0 ≤ ((setsR n j : Nat) : Int) * ((n : Int) - (j : Int)) := by rw [hm]; omega
      have h1 : ((setsR n j : Nat) : Int) * ((n : Int) - (j : Int)) ≤ 4611686018427387904 := by rw [hm]; omega
      have h2 : ((setsR n j : Nat) : Int) ≤ 4611686018427387904 := by omega
      have Hn := Lib.hid (Hx.out j (by omega))
      clear hb hm
      generalize ((setsR n j : Nat) : Int) = F at *
      go_wp2
      go_round
      case rel => exact ⟨j + 1, by omega, by go_num, by rw [Hn.out]⟩
      case measure => simp [intOf]; omega
    · obtain rfl : j = k := by omega
      go_wp2
      go_ret
      exact ⟨rfl, rfl⟩

theorem setsQS_next (n k i : Nat) : ((setsS n k (i + 1) : Nat) : Int) = ((setsS n k i : Nat) : Int) * ((n - k : Nat) + ((i : Int) + 1)) / ((i : Int) + 1) := by
  rw [setsS, Int.natCast_ediv, Int.natCast_mul, Int.natCast_add, Int.natCast_add]; rfl

