/- Contracts: the model's functions on decks: joined, riffled, drawn. -/
import Derived.Test.YtfjokclhbbndaaaDi
import Derived.Test.YtfjokclhbbndaaaDs
set_option linter.unusedVariables false
namespace Go.Proofs.Ytfjokclhbbndaaa
open Go.RowKit

set_option maxHeartbeats 1000000 in
theorem spec_JoinDecks (fs : List Int) (v : Value) (gs : List Int) (u : Value) (w : World) (hn : fs.length ≤ 1048576) (h : Sl (Value.int .i64) 0 w v fs) (hn' : gs.length ≤ 1048576) (h' : Sl (Value.int .i64) 0 w u gs) :
    Calls Try.prog 44 #[v, u] w fun e w' => ∃ r, e = .returned (.tuple #[r, .bool (ok_JoinDecks fs gs)]) ∧ Sw (Value.int .i64) 0 w' r (res_JoinDecks fs gs) w.heap.size w'.heap.size ∧ Below w.heap.size w w' := by
  have Hs := Lib.hid h
  have Hg := Lib.hid h'
  obtain ⟨p, cap, rfl, hf⟩ := h
  obtain ⟨q, cap', rfl, hf'⟩ := h'
  have Hf := Lib.hid hf
  have Hf' := Lib.hid hf'
  clear hf hf'
  cases hd : deckB fs
  · obtain ⟨e1, e2⟩ := join_no fs gs (fun hh => by rw [hd] at hh; exact absurd hh.1 Bool.false_ne_true)
    rw [e1, e2]
    have Hd := Lib.hid (deck_no fs _ w hn Hs.out hd)
    clear hd e1 e2
    go_enter Try.func44, Try.ntmps44
    go_wp2_with (first | (go_at_call 46; refine Hd.out.mono ?_; rintro e w' ⟨rfl, m, rfl⟩))
    go_ret2
    exact ⟨_, rfl, Sw.nil _ _ _ _ _ _ _, below_drewN (Below.refl _ _) _⟩
  · have Hd := Lib.hid (deck_yes fs _ w hn Hs.out hd)
    cases hd2 : deckB gs
    · obtain ⟨e1, e2⟩ := join_no fs gs (fun hh => by rw [hd2] at hh; exact absurd hh.2.1 Bool.false_ne_true)
      rw [e1, e2]
      have Hd2 := Lib.hid (fun (w1 : World) (g : Drawn w w1) => deck_no gs _ w1 hn' (Hg.out.drawn g) hd2)
      clear hd hd2 e1 e2
      go_enter Try.func44, Try.ntmps44
      go_wp2_with fail
      refine Hd.out.mono ?_
      rintro e w1 ⟨rfl, g1⟩
      have G1 := Lib.hid g1
      clear g1
      go_wp2_with fail
      refine (Hd2.out w1 G1.out).mono ?_
      rintro e w2 ⟨rfl, g2⟩
      have G2 := Lib.hid (G1.out.trans g2)
      clear g2
      go_wp2
      go_ret2
      exact ⟨_, rfl, Sw.nil _ _ _ _ _ _ _, G2.out.below _⟩
    · have Hd2 := Lib.hid (fun (w1 : World) (g : Drawn w w1) => deck_yes gs _ w1 hn' (Hg.out.drawn g) hd2)
      by_cases hl : fs.length = gs.length
      · obtain ⟨e1, e2⟩ := join_yes fs gs hd hd2 hl
        rw [e1, e2]
        obtain ⟨l1, l2, _⟩ := deckB_len hd
        have Hbd := Lib.hid (fun k hk => deckB_bd hd2 k hk)
        have dl : ((fs.length : Int) != (gs.length : Int)) = false := by rw [hl]; simp
        clear hd hd2 e1 e2
        obtain ⟨i0, hi, hz0, hz1, hz2⟩ := info_parts (show (Try.prog.info? 2).map (fun i => (i.zero, i.size, i.bytes)) = some (some (.int .i64 0), 1, 8) by kernel_rfl)
        generalize hlen : fs.length = n at *
        generalize hlen' : gs.length = n' at *
        subst hl
        have Hlen := Lib.hid hlen
        have Hlen' := Lib.hid hlen'
        clear hlen hlen'
        go_enter Try.func44, Try.ntmps44
        go_wp2_with fail
        refine Hd.out.mono ?_
        rintro e w1 ⟨rfl, g1⟩
        have G1 := Lib.hid g1
        clear g1
        go_wp2_with fail
        refine (Hd2.out w1 G1.out).mono ?_
        rintro e w2 ⟨rfl, g2⟩
        have G2 := Lib.hid (G1.out.trans g2)
        clear g2
        go_wp2
        go_loopw [6, 7] (fun out i wr => ∃ k : Nat, k ≤ n ∧ i = .int .i64 k ∧ wr.ownsRow w.heap.size 2 1 out k ((tab k (joinG fs gs)).map (Value.int .i64)) ∧ Below w.heap.size w wr) (fun _ i _ => n - (intOf i).toNat)
        case atStart => exact ⟨0, Nat.zero_le _, rfl, own_zero w2 _ _ _ (by rw [G2.out.heap]; exact Nat.le_refl _), (G2.out.below _).alloc (by rw [G2.out.heap]; exact Nat.le_refl _) _⟩
        case round =>
          obtain ⟨k, hk, rfl, hown, hb⟩ := hrel
          have Hown := Lib.hid hown
          have Hb := Lib.hid hb
          have hsz := hb.size
          by_cases hlt : k < n
          · obtain ⟨hcap, b, off, rfl, hbs, hc⟩ := Hf.out (by omega)
            obtain ⟨hcap', b', off', rfl, hbs', hc'⟩ := Hf'.out (by omega)
            obtain ⟨hy0, hy1⟩ := Hbd.out k hlt
            have hJ : joinG fs gs k = fs.getD (gs.getD k 0).toNat 0 := rfl
            have c1 : wr.cell? ⟨b', off' + k, none⟩ = some (.int .i64 (gs.getD k 0)) := by rw [hb.cell hbs']; exact hc' k hlt
            have c2 : wr.cell? ⟨b, off + (gs.getD k 0).toNat, none⟩ = some (.int .i64 (fs.getD (gs.getD k 0).toNat 0)) := by rw [hb.cell hbs]; exact hc _ (by omega)
            clear hc hc' hown hb
            generalize gs.getD k 0 = y at *
            generalize fs.getD y.toNat 0 = z at *
            have HJ := Lib.hid hJ
            clear hJ
            go_wp2_with (at_builtin; refine wpList_append_own _ rfl _ _ 22 rfl w.heap.size 2 i0 (.int .i64 0) 1 8 (by kernel_rfl) hi hz0 hz1 hz2 rfl (by decide) _ _ _ rfl (Hown.out.alloc _) ⟨wr.heap.size, 0, none⟩ 1 1 [.int .i64 (z)] rfl rfl (cell_one_new _ _ _) (one_int _) (by unfold maxLen; omega) (by omega) (by simp; omega) ?_; intro v2 w2 hown2 hgrow2 _)
            rw [← HJ.out] at hown2
            have Hown2 := Lib.hid (own_snoc hown2)
            have Hb2 := Lib.hid ((Hb.out.alloc (by omega) _).grown hgrow2 (by simp; omega) (fun b hb => (Hown.out.lt b hb).1))
            clear hown2 hgrow2
            go_wp2
            go_roundw
            case rel => exact ⟨k + 1, by omega, by go_num, Hown2.out, Hb2.out⟩
            case measure => simp [intOf]; omega
          · obtain rfl : k = n := by omega
            clear hown hb
            go_wp2
            go_ret2
            exact ⟨_, rfl, Sw.of_owns Hown.out (tab_len _ _), Hb.out⟩
      · obtain ⟨e1, e2⟩ := join_no fs gs (fun hh => hl hh.2.2)
        rw [e1, e2]
        have dl : ((fs.length : Int) != (gs.length : Int)) = true := by simp; omega
        clear hd hd2 e1 e2 hl
        go_enter Try.func44, Try.ntmps44
        go_wp2_with fail
        refine Hd.out.mono ?_
        rintro e w1 ⟨rfl, g1⟩
        have G1 := Lib.hid g1
        clear g1
        go_wp2_with fail
        refine (Hd2.out w1 G1.out).mono ?_
        rintro e w2 ⟨rfl, g2⟩
        have G2 := Lib.hid (G1.out.trans g2)
        clear g2
        go_wp2
        go_ret2
        exact ⟨_, rfl, Sw.nil _ _ _ _ _ _ _, G2.out.below _⟩
end Go.Proofs.Ytfjokclhbbndaaa
