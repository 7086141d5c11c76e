/- Contracts: the program's functions on decks: turned, joined, cut, shuffled. -/
import Derived.Test.YtodmaomngpnboaaDc
set_option linter.unusedVariables false
namespace Go.Proofs.Ytodmaomngpnboaa
open Go.RowKit


/-! ### joined decks -/
theorem join_yes (fs gs : List Int) (h1 : deckB fs = true) (h2 : deckB gs = true) (h3 : fs.length = gs.length) : ok_JoinDecks fs gs = true ∧ res_JoinDecks fs gs = tab fs.length (joinG fs gs) := by
  unfold ok_JoinDecks res_JoinDecks; rw [h1, h2, decide_eq_true h3, if_pos ⟨rfl, rfl, h3⟩]; exact ⟨rfl, rfl⟩
theorem join_no (fs gs : List Int) (h : ¬ (deckB fs = true ∧ deckB gs = true ∧ fs.length = gs.length)) : ok_JoinDecks fs gs = false ∧ res_JoinDecks fs gs = [] := by
  unfold ok_JoinDecks res_JoinDecks; rw [if_neg h]; refine ⟨?_, rfl⟩
  rw [Bool.eq_false_iff]; intro h'; simp only [Bool.and_eq_true, decide_eq_true_eq] at h'; exact h h'
theorem len_JoinDecks (fs gs : List Int) : (res_JoinDecks fs gs).length ≤ 1048576 := by
  unfold res_JoinDecks
  split
  · rename_i h; rw [tab_len]; have := (deckB_len h.1).2.1; omega
  · exact Nat.zero_le _

