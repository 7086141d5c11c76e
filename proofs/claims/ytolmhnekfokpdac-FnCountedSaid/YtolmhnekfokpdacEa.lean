/- Contracts: orders that lead back, descents, rising runs, in both texts. -/
import Derived.Test.YtolmhnekfokpdacDc
set_option linter.unusedVariables false
namespace Go.Proofs.Ytolmhnekfokpdac
open Go.RowKit

theorem back_yes (fs : List Int) (h : deckB fs = true) : ok_BackDeck fs = true ∧ res_BackDeck fs = placesR fs fs.length := ⟨h, if_pos h⟩
theorem back_no (fs : List Int) (h : deckB fs = false) : ok_BackDeck fs = false ∧ res_BackDeck fs = [] := ⟨h, if_neg (by rw [h]; exact Bool.false_ne_true)⟩
theorem len_BackDeck (fs : List Int) : (res_BackDeck fs).length ≤ 1048576 := by
  cases h : deckB fs
  · rw [(back_no fs h).2]; exact Nat.zero_le _
  · rw [(back_yes fs h).2, placesR_len]; have := (deckB_len h).2.1; omega
theorem placesR_zero (fs : List Int) : placesR fs 0 = List.replicate fs.length 0 := rfl
theorem placesR_succ (fs : List Int) (k : Nat) : placesR fs (k + 1) = (placesR fs k).set (fs.getD k 0).toNat (k : Int) := rfl



