/- The library's Collect of the parts of a list. -/
import Derived.Test.YtolmhnekfokpdacItA
set_option linter.unusedVariables false
namespace Go.Proofs.Ytolmhnekfokpdac
open Go.RowKit Go.Shelf
attribute [local go_sem] Oper.semAt_some

theorem one_enc (enc : Nat → Value) (h1c : ∀ i, (enc i).oneCell' = true) (x : Nat) : ∀ u ∈ [enc x], u.oneCell' = true := by
  intro u hu
  rw [List.mem_singleton] at hu
  subst hu; exact h1c x
theorem map_snoc (enc : Nat → Value) (pre : List Nat) (x : Nat) : (pre ++ [x]).map enc = pre.map enc ++ [enc x] := by simp
