/- Contracts: counts of sets, ways of riffles, in both texts. -/
import Derived.Test.YtolmhnekfokpdacDk
import Derived.Test.YtolmhnekfokpdacDs
set_option linter.unusedVariables false
namespace Go.Proofs.Ytolmhnekfokpdac
open Go.RowKit

theorem setsR_over (n : Nat) (hn : n < 29) (k : Nat) (hk : k < 21) (h : n < k) : setsR n k = 0 := (by decide +kernel : ∀ n, n < 29 → ∀ k, k < 21 → n < k → setsR n k = 0) n hn k hk h
theorem setsR_mul (n : Nat) (hn : n < 29) (k : Nat) (hk : k < 21) : ((setsR n k : Nat) : Int) * ((n : Int) - (k : Int)) = ((setsR n k * (n - k) : Nat) : Int) := by
  by_cases h : n < k
  · rw [setsR_over n hn k hk h]; simp
  · rw [Int.natCast_mul, Int.natCast_sub (by omega)]
theorem setsR_next (n : Nat) (hn : n < 29) (k : Nat) (hk : k < 21) : ((setsR n (k + 1) : Nat) : Int) = ((setsR n k : Nat) : Int) * ((n : Int) - (k : Int)) / ((k : Int) + 1) := by
  rw [setsR_mul n hn k hk, setsR, Int.natCast_ediv, Int.natCast_add]; rfl

set_option maxHeartbeats 1000000 in
theorem countSets_any (n k : Nat) (w : World) (hn : n < 29) (hk : k < 21) :
    Calls Try.prog 79 #[.int .i64 (n : Int), .int .i64 (k : Int)] w fun e w' => e = .returned (.int .i64 ((setsR n k : Nat) : Int)) ∧ w = w' := by
  have Hm := Lib.hid (fun i (hi : i < 21) => setsR_mul n hn i hi)
  have Hx := Lib.hid (fun i (hi : i < 21) => setsR_next n hn i hi)
  have Hb := Lib.hid (fun i (hi : i < 21) => setsR_bd n hn i hi)
  go_enter Try.func79, Try.ntmps79
  go_wp2
  go_loop [5, 8] (fun c i => ∃ j : Nat, j ≤ k ∧ i = .int .i64 (j : Int) ∧ c = .int .i64 ((setsR n j : Nat) : Int)) (fun _ i => k - (intOf i).toNat)
  case atStart => exact ⟨0, Nat.zero_le _, rfl, rfl⟩
  case round =>
    obtain ⟨j, hj, rfl, rfl⟩ := hrel
    by_cases hlt : j < k
    · have hb := Hb.out j (by omega)
      have hm := Hm.out j (by omega)
      have h0 : 0 ≤ ((setsR n j : Nat) : Int) * ((n : Int) - (j : Int)) := by rw [hm]; omega
      have h1 : ((setsR n j : Nat) : Int) * ((n : Int) - (j : Int)) ≤ 1000000000 := by rw [hm]; omega
      have h2 : ((setsR n j : Nat) : Int) ≤ 1000000000 := by omega
      have Hn := Lib.hid (Hx.out j (by omega))
      clear hb hm
      generalize ((setsR n j : Nat) : Int) = F at *
      go_wp2
      go_round
      case rel => exact ⟨j + 1, by omega, by go_num, by rw [Hn.out]⟩
      case measure => simp [intOf]; omega
    · obtain rfl : j = k := by omega
      go_wp2
      go_ret
      exact ⟨rfl, rfl⟩

theorem min_any (a b : Nat) (w : World) (ha : a < 1000) (hb : b < 1000) :
    Calls Try.prog 145 #[.int .i64 (a : Int), .int .i64 (b : Int)] w fun e w' => e = .returned (.int .i64 ((min a b : Nat) : Int)) ∧ w = w' := by
  by_cases h : a < b
  · rw [Nat.min_eq_left (by omega)]
    go_enter Try.func145, Try.ntmps145
    go_wp2
    go_ret
    exact ⟨rfl, rfl⟩
  · rw [Nat.min_eq_right (by omega)]
    go_enter Try.func145, Try.ntmps145
    go_wp2
    go_ret
    exact ⟨rfl, rfl⟩
theorem setsS_next (n k i : Nat) : ((setsS n k (i + 1) : Nat) : Int) = ((setsS n k i : Nat) : Int) * ((n - k : Nat) + ((i : Int) + 1)) / ((i : Int) + 1) := by
  rw [setsS, Int.natCast_ediv, Int.natCast_mul, Int.natCast_add, Int.natCast_add]; rfl

