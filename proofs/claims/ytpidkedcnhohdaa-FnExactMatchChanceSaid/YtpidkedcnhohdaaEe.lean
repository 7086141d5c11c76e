/- Contracts: counts of sets, ways of riffles, in both texts. -/
import Derived.Test.YtpidkedcnhohdaaDk
import Derived.Test.YtpidkedcnhohdaaDs
set_option linter.unusedVariables false
namespace Go.Proofs.Ytpidkedcnhohdaa
open Go.RowKit

theorem setsR_over (n : Nat) (hn : n < 29) (k : Nat) (hk : k < 21) (h : n < k) : setsR n k = 0 := (by decide +kernel : ∀ n, n < 29 → ∀ k, k < 21 → n < k → setsR n k = 0) n hn k hk h
theorem setsR_mul (n : Nat) (hn : n < 29) (k : Nat) (hk : k < 21) : ((setsR n k : Nat) : Int) * ((n : Int) - (k : Int)) = ((setsR n k * (n - k) : Nat) : Int) := by
  by_cases h : n < k
  · rw [setsR_over n hn k hk h]; simp
  · rw [Int.natCast_mul, Int.natCast_sub (by omega)]
theorem setsR_next (n : Nat) (hn : n < 29) (k : Nat) (hk : k < 21) : ((setsR n (k + 1) : Nat) : Int) = ((setsR n k : Nat) : Int) * ((n : Int) - (k : Int)) / ((k : Int) + 1) := by
  rw [setsR_mul n hn k hk, setsR, Int.natCast_ediv, Int.natCast_add]; rfl

set_option maxHeartbeats 1000000 in
theorem countSets_any (n k : Nat) (w : World) (hn : n < 29) (hk : k < 21) :
    Calls Try.prog 63 #[.int .i64 (n : Int), .int .i64 (k : Int)] w fun e w' => e = .returned (.int .i64 ((setsR n k : Nat) : Int)) ∧ w = w' := by
  have Hm := Lib.hid (fun i (hi : i < 21) => setsR_mul n hn i hi)
  have Hx := Lib.hid (fun i (hi : i < 21) => setsR_next n hn i hi)
  have Hb := Lib.hid (fun i (hi : i < 21) => setsR_bd n hn i hi)
  go_enter Try.func63, Try.ntmps63
  go_wp2
  go_loop [5, 8] (fun c i => ∃ j : Nat, j ≤ k ∧ i = .int .i64 (j : Int) ∧ c = .int .i64 ((setsR n j : Nat) : Int)) (fun _ i => k - (intOf i).toNat)
  case atStart => exact ⟨0, Nat.zero_le _, rfl, rfl⟩
  case round =>
    obtain ⟨j, hj, rfl, rfl⟩ := hrel
    by_cases hlt : j < k
    · have hb := Hb.out j (by omega)
      have hm := Hm.out j (by omega)
      have h0 : 0 ≤ ((setsR n j : Nat) : Int) * ((n : Int) - (j : Int)) := by rw [hm]; omega
      have h1 : ((setsR n j : Nat) : Int) * ((n : Int) - (j : Int)) ≤ 1000000000 := by rw [hm]; omega
      have h2 : ((setsR n j : Nat) : Int) ≤ 1000000000 := by omega
      have Hn := Lib.hid (Hx.out j (by omega))
      clear hb hm
      generalize ((setsR n j : Nat) : Int) = F at *
      go_wp2
      go_round
      case rel => exact ⟨j + 1, by omega, by go_num, by rw [Hn.out]⟩
      case measure => simp [intOf]; omega
    · obtain rfl : j = k := by omega
      go_wp2
      go_ret
      exact ⟨rfl, rfl⟩

theorem min_any (a b : Nat) (w : World) (ha : a < 1000) (hb : b < 1000) :
    Calls Try.prog 70 #[.int .i64 (a : Int), .int .i64 (b : Int)] w fun e w' => e = .returned (.int .i64 ((min a b : Nat) : Int)) ∧ w = w' := by
  by_cases h : a < b
  · rw [Nat.min_eq_left (by omega)]
    go_enter Try.func70, Try.ntmps70
    go_wp2
    go_ret
    exact ⟨rfl, rfl⟩
  · rw [Nat.min_eq_right (by omega)]
    go_enter Try.func70, Try.ntmps70
    go_wp2
    go_ret
    exact ⟨rfl, rfl⟩
theorem setsS_next (n k i : Nat) : ((setsS n k (i + 1) : Nat) : Int) = ((setsS n k i : Nat) : Int) * ((n - k : Nat) + ((i : Int) + 1)) / ((i : Int) + 1) := by
  rw [setsS, Int.natCast_ediv, Int.natCast_mul, Int.natCast_add, Int.natCast_add]; rfl

set_option maxHeartbeats 1000000 in
theorem choose_any (n k : Nat) (w : World) (hn : n < 29) (hk : k < 21) :
    Calls Try.prog 58 #[.int .i64 (n : Int), .int .i64 (k : Int)] w fun e w' => e = .returned (.int .i64 ((setsR n k : Nat) : Int)) ∧ w = w' := by
  rw [sets_eq n hn k hk]
  unfold chooseS
  have d0 : decide ((k : Int) < 0) = false := decide_eq_false (by omega)
  by_cases h : n < k
  · rw [if_pos h]
    have d1 : decide ((n : Int) < (k : Int)) = true := decide_eq_true (by omega)
    go_enter Try.func58, Try.ntmps58
    go_wp2
    go_ret
    exact ⟨rfl, rfl⟩
  · rw [if_neg h]
    have d1 : decide ((n : Int) < (k : Int)) = false := decide_eq_false (by omega)
    have Hb := Lib.hid (setsS_bd n hn k hk (by omega))
    have Hmin := Lib.hid (fun z => min_any k (n - k) z (by omega) (by omega))
    have hc : (n : Int) - (k : Int) = ((n - k : Nat) : Int) := by omega
    have Hc := Lib.hid hc
    have hml : min k (n - k) ≤ n := by omega
    clear hc
    generalize min k (n - k) = m at *
    have Hx := Lib.hid (setsS_next n m)
    have hm : m < 1000 := by omega
    go_enter Try.func58, Try.ntmps58
    go_wp2_with fail
    rw [Hc.out]
    refine (Hmin.out _).mono ?_
    rintro e w' ⟨rfl, rfl⟩
    go_wp2
    go_loop [5, 6] (fun c i => ∃ j : Nat, j ≤ m ∧ i = .int .i64 ((j : Int) + 1) ∧ c = .int .i64 ((setsS n m j : Nat) : Int)) (fun _ i => (m + 1) - (intOf i).toNat)
    case atStart => exact ⟨0, Nat.zero_le _, rfl, rfl⟩
    case round =>
      obtain ⟨j, hj, rfl, rfl⟩ := hrel
      by_cases hlt : j + 1 ≤ m
      · have hb := Hb.out j (by omega)
        have hcast : ((n - m : Nat) : Int) = (n : Int) - (m : Int) := by omega
        have hm2 : ((setsS n m j : Nat) : Int) * ((n : Int) - (m : Int) + ((j : Int) + 1)) = ((setsS n m j * (n - m + (j + 1)) : Nat) : Int) := by
          rw [Int.natCast_mul, Int.natCast_add, hcast, Int.natCast_add]; rfl
        have h0 : 0 ≤ ((setsS n m j : Nat) : Int) * ((n : Int) - (m : Int) + ((j : Int) + 1)) := by rw [hm2]; omega
        have h1 : ((setsS n m j : Nat) : Int) * ((n : Int) - (m : Int) + ((j : Int) + 1)) ≤ 1000000000 := by rw [hm2]; omega
        have hn2 := Hx.out j
        rw [hcast] at hn2
        have Hn := Lib.hid hn2
        clear hb hm2 hcast hn2
        generalize ((setsS n m j : Nat) : Int) = F at *
        go_wp2
        go_round
        case rel => exact ⟨j + 1, by omega, by go_num, by rw [Hn.out]⟩
        case measure => simp [intOf]; omega
      · obtain rfl : j = m := by omega
        go_wp2
        go_ret
        exact ⟨rfl, rfl⟩
end Go.Proofs.Ytpidkedcnhohdaa
