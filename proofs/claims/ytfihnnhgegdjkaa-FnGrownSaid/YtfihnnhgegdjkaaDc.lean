/- Contracts: the model's functions on decks: new, turned, cut, joined, shuffled. -/
import Derived.Test.YtfihnnhgegdjkaaDb
set_option linter.unusedVariables false
namespace Go.Proofs.Ytfihnnhgegdjkaa
open Go.RowKit

theorem own_snoc {w : World} {base : Nat} {e : TypeId} {v : Value} {k : Nat} {g : Nat → Int} (h : w.ownsRow base e 1 v (k + 1) ((tab k g).map (Value.int .i64) ++ [.int .i64 (g k)])) : w.ownsRow base e 1 v (k + 1) ((tab (k + 1) g).map (Value.int .i64)) := by
  rw [tab_succ, List.map_append]; exact h
theorem own_zero (w : World) (base : Nat) (e : TypeId) (g : Nat → Int) (hb : base ≤ w.heap.size) : (w.alloc (.cells #[] e)).ownsRow base e 1 (.slice (some ⟨w.heap.size, 0, none⟩) 0 0) 0 ((tab 0 g).map (Value.int .i64)) :=
  World.ownsRow_made w #[] 0 hb (Nat.zero_le _) rfl



theorem len_NewDeck (a : Int) : (res_NewDeck a).length ≤ 1048576 := by
  unfold res_NewDeck
  split
  · rw [tab_len]; omega
  · exact Nat.zero_le _

theorem turn_yes (fs : List Int) (h : deckB fs = true) : ok_TurnDeck fs = true ∧ res_TurnDeck fs = tab fs.length (turnG fs) := ⟨h, if_pos h⟩
theorem turn_no (fs : List Int) (h : deckB fs = false) : ok_TurnDeck fs = false ∧ res_TurnDeck fs = [] := ⟨h, if_neg (by rw [h]; exact Bool.false_ne_true)⟩
theorem len_TurnDeck (fs : List Int) : (res_TurnDeck fs).length ≤ 1048576 := by
  cases h : deckB fs
  · rw [(turn_no fs h).2]; exact Nat.zero_le _
  · rw [(turn_yes fs h).2, tab_len]; have := (deckB_len h).2.1; omega
