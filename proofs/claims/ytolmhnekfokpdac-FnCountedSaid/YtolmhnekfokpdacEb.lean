/- Contracts: descents and rising runs, in both texts. -/
import Derived.Test.YtolmhnekfokpdacEa
import Derived.RegionTactic
set_option linter.unusedVariables false
namespace Go.Proofs.Ytolmhnekfokpdac
open Go.RowKit

theorem desc_yes (fs : List Int) (h : deckB fs = true) : ok_DescentsOf fs = true ∧ res_DescentsOf fs = (descR fs (fs.length - 1) : Nat) := ⟨h, if_pos h⟩
theorem desc_no (fs : List Int) (h : deckB fs = false) : ok_DescentsOf fs = false ∧ res_DescentsOf fs = 0 := ⟨h, if_neg (by rw [h]; exact Bool.false_ne_true)⟩
theorem runs_yes (fs : List Int) (h : deckB fs = true) : ok_RisingRuns fs = true ∧ res_RisingRuns fs = (descR (placesR fs fs.length) (fs.length - 1) : Nat) + 1 := ⟨h, if_pos h⟩
theorem runs_no (fs : List Int) (h : deckB fs = false) : ok_RisingRuns fs = false ∧ res_RisingRuns fs = 0 := ⟨h, if_neg (by rw [h]; exact Bool.false_ne_true)⟩
theorem descR_yes (fs : List Int) (j : Nat) (h : fs.getD (j + 1) 0 < fs.getD j 0) : descR fs (j + 1) = descR fs j + 1 := by simp only [descR, if_pos h]
theorem descR_no (fs : List Int) (j : Nat) (h : ¬ fs.getD (j + 1) 0 < fs.getD j 0) : descR fs (j + 1) = descR fs j := by simp only [descR, if_neg h, Nat.add_zero]




