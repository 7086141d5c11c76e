/- Contracts: ranks in the program's text; the model's function. -/
import Derived.Test.YtolmhnekfokpdacEc
set_option linter.unusedVariables false
namespace Go.Proofs.Ytolmhnekfokpdac
open Go.RowKit

theorem rsize_yes (n : Int) (w : World) (h1 : 1 ≤ n) (h2 : n ≤ 20) : Calls Try.prog 78 #[.int .i64 n] w fun e w' => e = .returned (.bool true) ∧ w = w' := by
  go_enter Try.func78, Try.ntmps78
  go_wp2
  go_ret
  exact ⟨rfl, rfl⟩
theorem rsize_no (n : Int) (w : World) (h : n < 1 ∨ 20 < n) : Calls Try.prog 78 #[.int .i64 n] w fun e w' => e = .returned (.bool false) ∧ w = w' := by
  by_cases h1 : n < 1
  · clear h
    have d : decide (1 ≤ n) = false := decide_eq_false (by omega)
    go_enter Try.func78, Try.ntmps78
    go_wp2
    go_ret
    exact ⟨rfl, rfl⟩
  · have h2 : 20 < n := by omega
    have h1' : 1 ≤ n := by omega
    clear h
    have d : decide (n ≤ 20) = false := decide_eq_false (by omega)
    go_enter Try.func78, Try.ntmps78
    go_wp2
    go_ret
    exact ⟨rfl, rfl⟩


