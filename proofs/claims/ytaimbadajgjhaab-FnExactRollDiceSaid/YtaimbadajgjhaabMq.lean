/- Contracts: seeds. -/
import Derived.Test.YtaimbadajgjhaabLk
set_option linter.unusedVariables false
namespace Go.Proofs.Ytaimbadajgjhaab
open Go.RowKit

def nextS (s : Int) : Int := (1664525 * s + 1013904223) % 4294967296
theorem nextS_bd (s : Int) : 0 ≤ nextS s ∧ nextS s ≤ 4294967295 := by unfold nextS; omega
theorem mul_bd (s : Int) (h0 : 0 ≤ s) (h1 : s ≤ 4294967295) (c : Int) (c0 : 0 ≤ c) (c1 : c ≤ 52) : 0 ≤ s * c ∧ s * c ≤ 223338299340 := by
  refine ⟨Int.mul_nonneg h0 c0, ?_⟩
  have h2 : s * c ≤ 4294967295 * c := Int.mul_le_mul_of_nonneg_right h1 c0
  omega
theorem quo_bd (s : Int) (h0 : 0 ≤ s) (h1 : s ≤ 4294967295) (c : Int) (c0 : 1 ≤ c) : 0 ≤ s * c / 4294967296 ∧ s * c / 4294967296 < c := by
  refine ⟨Int.ediv_nonneg (Int.mul_nonneg h0 (by omega)) (by omega), Int.ediv_lt_of_lt_mul (by omega) ?_⟩
  have h2 : s * c ≤ 4294967295 * c := Int.mul_le_mul_of_nonneg_right h1 (by omega)
  omega
theorem below_any (s c : Int) (w : World) (h0 : 0 ≤ s) (h1 : s ≤ 4294967295) (c0 : 1 ≤ c) (c1 : c ≤ 52) :
    Calls Try.prog 75 #[.int .i64 s, .int .i64 c] w fun e w' => e = .returned (.tuple #[.int .i64 (nextS s), .int .i64 (nextS s * c / 4294967296)]) ∧ w = w' := by
  have hb := mul_bd (nextS s) (nextS_bd s).1 (nextS_bd s).2 c (by omega) c1
  obtain ⟨b0, b1⟩ := hb
  unfold nextS at b0 b1 ⊢
  go_enter Try.func75, Try.ntmps75
  go_wp2
  go_ret2
  exact ⟨rfl, rfl⟩

theorem seed_yes (s : Int) (w : World) (h0 : 0 ≤ s) (h1 : s ≤ 4294967295) : Calls Try.prog 74 #[.int .i64 s] w fun e w' => e = .returned (.bool true) ∧ w = w' := by
  have d : decide (s < 4294967296) = true := decide_eq_true (by omega)
  go_enter Try.func74, Try.ntmps74
  go_wp2
  go_ret
  exact ⟨rfl, rfl⟩
theorem seed_no (s : Int) (w : World) (h : s < 0 ∨ 4294967295 < s) : Calls Try.prog 74 #[.int .i64 s] w fun e w' => e = .returned (.bool false) ∧ w = w' := by
  by_cases h1 : s < 0
  · clear h
    have d : decide (0 ≤ s) = false := decide_eq_false (by omega)
    go_enter Try.func74, Try.ntmps74
    go_wp2
    go_ret
    exact ⟨rfl, rfl⟩
  · have h2 : 4294967296 ≤ s := by omega
    have h1' : 0 ≤ s := by omega
    clear h
    have d : decide (s < 4294967296) = false := decide_eq_false (by omega)
    go_enter Try.func74, Try.ntmps74
    go_wp2
    go_ret
    exact ⟨rfl, rfl⟩
end Go.Proofs.Ytaimbadajgjhaab
