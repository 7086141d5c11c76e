/- Contracts: the model's functions on decks: new, turned, cut, joined, shuffled. -/
import Derived.Test.YtodmaomngpnboaaDb
set_option linter.unusedVariables false
namespace Go.Proofs.Ytodmaomngpnboaa
open Go.RowKit

theorem own_snoc {w : World} {base : Nat} {e : TypeId} {v : Value} {k : Nat} {g : Nat → Int} (h : w.ownsRow base e 1 v (k + 1) ((tab k g).map (Value.int .i64) ++ [.int .i64 (g k)])) : w.ownsRow base e 1 v (k + 1) ((tab (k + 1) g).map (Value.int .i64)) := by
  rw [tab_succ, List.map_append]; exact h
theorem own_zero (w : World) (base : Nat) (e : TypeId) (g : Nat → Int) (hb : base ≤ w.heap.size) : (w.alloc (.cells #[] e)).ownsRow base e 1 (.slice (some ⟨w.heap.size, 0, none⟩) 0 0) 0 ((tab 0 g).map (Value.int .i64)) :=
  World.ownsRow_made w #[] 0 hb (Nat.zero_le _) rfl

set_option maxHeartbeats 400000 in
theorem l02New_any (n : Nat) (w : World) (hn : n ≤ 1048576) : Calls Try.prog 119 #[.int .i64 (n : Int)] w fun e w' => ∃ r, e = .returned r ∧ w'.ownsRow w.heap.size 2 1 r n ((tab n fun k => (k : Int)).map (Value.int .i64)) ∧ Below w.heap.size w w' := by
  obtain ⟨i0, hi, hz0, hz1, hz2⟩ := info_parts (show (Try.prog.info? 2).map (fun i => (i.zero, i.size, i.bytes)) = some (some (.int .i64 0), 1, 8) by kernel_rfl)
  go_enter Try.func119, Try.ntmps119
  go_wp2
  go_loopw [3, 4] (fun out i wr => ∃ k : Nat, k ≤ n ∧ i = .int .i64 k ∧ wr.ownsRow w.heap.size 2 1 out k ((tab k fun k => (k : Int)).map (Value.int .i64)) ∧ Below w.heap.size w wr) (fun _ i _ => n - (intOf i).toNat)
  case atStart => exact ⟨0, Nat.zero_le _, rfl, own_zero w _ _ _ (Nat.le_refl _), (Below.refl _ _).alloc (Nat.le_refl _) _⟩
  case round =>
    obtain ⟨k, hk, rfl, hown, hb⟩ := hrel
    have Hown := Lib.hid hown
    have Hb := Lib.hid hb
    have hsz := hb.size
    clear hown hb
    by_cases hlt : k < n
    · go_wp2_with (at_builtin; refine wpList_append_own _ rfl _ _ 22 rfl w.heap.size 2 i0 (.int .i64 0) 1 8 (by kernel_rfl) hi hz0 hz1 hz2 rfl (by decide) _ _ _ rfl (Hown.out.alloc _) ⟨wr.heap.size, 0, none⟩ 1 1 [.int .i64 ((k : Int))] rfl rfl (cell_one_new _ _ _) (one_int _) (by unfold maxLen; omega) (by omega) (by simp; omega) ?_; intro v2 w2 hown2 hgrow2 _)
      have Hown2 := Lib.hid (own_snoc hown2)
      have Hb2 := Lib.hid ((Hb.out.alloc (by omega) _).grown hgrow2 (by simp; omega) (fun b hb => (Hown.out.lt b hb).1))
      clear hown2 hgrow2
      go_wp2
      go_roundw
      case rel => exact ⟨k + 1, by omega, by go_num, Hown2.out, Hb2.out⟩
      case measure => simp [intOf]; omega
    · obtain rfl : k = n := by omega
      go_wp2
      go_ret
      exact ⟨_, rfl, Hown.out, Hb.out⟩

theorem deck_yes (fs : List Int) (v : Value) (w : World) (hn : fs.length ≤ 1048576) (h : Sl (Value.int .i64) 0 w v fs) (hd : deckB fs = true) :
    Calls Try.prog 101 #[v] w fun e w' => e = .returned (.bool true) ∧ Drawn w w' := by
  have := deck_any fs v w hn h
  rw [hd] at this; exact this
theorem deck_no (fs : List Int) (v : Value) (w : World) (hn : fs.length ≤ 1048576) (h : Sl (Value.int .i64) 0 w v fs) (hd : deckB fs = false) :
    Calls Try.prog 101 #[v] w fun e w' => e = .returned (.bool false) ∧ Drawn w w' := by
  have := deck_any fs v w hn h
  rw [hd] at this; exact this
theorem deckI_yes (fs : List Int) (v : Value) (w : World) (hn : fs.length ≤ 1048576) (h : Sl (Value.int .i64) 0 w v fs) (hd : deckB fs = true) :
    Calls Try.prog 102 #[v] w fun e w' => e = .returned (.bool true) ∧ Below w.heap.size w w' := by
  have := deck_impl fs v w hn h
  rw [hd] at this; exact this
theorem deckI_no (fs : List Int) (v : Value) (w : World) (hn : fs.length ≤ 1048576) (h : Sl (Value.int .i64) 0 w v fs) (hd : deckB fs = false) :
    Calls Try.prog 102 #[v] w fun e w' => e = .returned (.bool false) ∧ Below w.heap.size w w' := by
  have := deck_impl fs v w hn h
  rw [hd] at this; exact this

theorem len_NewDeck (a : Int) : (res_NewDeck a).length ≤ 1048576 := by
  unfold res_NewDeck
  split
  · rw [tab_len]; omega
  · exact Nat.zero_le _

theorem turn_yes (fs : List Int) (h : deckB fs = true) : ok_TurnDeck fs = true ∧ res_TurnDeck fs = tab fs.length (turnG fs) := ⟨h, if_pos h⟩
theorem turn_no (fs : List Int) (h : deckB fs = false) : ok_TurnDeck fs = false ∧ res_TurnDeck fs = [] := ⟨h, if_neg (by rw [h]; exact Bool.false_ne_true)⟩
theorem len_TurnDeck (fs : List Int) : (res_TurnDeck fs).length ≤ 1048576 := by
  cases h : deckB fs
  · rw [(turn_no fs h).2]; exact Nat.zero_le _
  · rw [(turn_yes fs h).2, tab_len]; have := (deckB_len h).2.1; omega
