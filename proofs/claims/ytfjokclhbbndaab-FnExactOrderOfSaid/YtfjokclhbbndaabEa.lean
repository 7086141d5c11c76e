/- Contracts: orders that lead back, descents, rising runs, in both texts. -/
import Derived.Test.YtfjokclhbbndaabDc
set_option linter.unusedVariables false
namespace Go.Proofs.Ytfjokclhbbndaab
open Go.RowKit

theorem back_yes (fs : List Int) (h : deckB fs = true) : ok_BackDeck fs = true ∧ res_BackDeck fs = placesR fs fs.length := ⟨h, if_pos h⟩
theorem back_no (fs : List Int) (h : deckB fs = false) : ok_BackDeck fs = false ∧ res_BackDeck fs = [] := ⟨h, if_neg (by rw [h]; exact Bool.false_ne_true)⟩
theorem len_BackDeck (fs : List Int) : (res_BackDeck fs).length ≤ 1048576 := by
  cases h : deckB fs
  · rw [(back_no fs h).2]; exact Nat.zero_le _
  · rw [(back_yes fs h).2, placesR_len]; have := (deckB_len h).2.1; omega
theorem placesR_zero (fs : List Int) : placesR fs 0 = List.replicate fs.length 0 := rfl
theorem placesR_succ (fs : List Int) (k : Nat) : placesR fs (k + 1) = (placesR fs k).set (fs.getD k 0).toNat (k : Int) := rfl

set_option maxHeartbeats 1000000 in
theorem places_any (fs : List Int) (v : Value) (w : World) (hn : fs.length ≤ 1048576) (h : Sl (Value.int .i64) 0 w v fs) (hd : deckB fs = true) :
    Calls Try.prog 44 #[v] w fun e w' => ∃ r, e = .returned r ∧ Sw (Value.int .i64) 0 w' r (placesR fs fs.length) w.heap.size w'.heap.size ∧ Below w.heap.size w w' := by
  obtain ⟨p, cap, rfl, hf⟩ := h
  have Hf := Lib.hid hf
  clear hf
  obtain ⟨i0, hi, hz0, hz1, hz2⟩ := info_parts (show (Try.prog.info? 2).map (fun i => (i.zero, i.size, i.bytes)) = some (some (.int .i64 0), 1, 8) by kernel_rfl)
  have Hbd := Lib.hid (fun k hk => deckB_bd hd k hk)
  have Hpl := Lib.hid (placesR_len fs)
  generalize hlen : fs.length = n at *
  have Hlen := Lib.hid hlen
  clear hlen hd
  go_enter Try.func44, Try.ntmps44
  go_wp2_with (at_make; refine wpList_make_full _ rfl _ _ 22 rfl w.heap.size 2 i0 (.int .i64 0) 1 (by kernel_rfl) hi hz0 hz1 .i64 .i64 n n n rfl rfl rfl rfl (by rw [hz2]; omega) (by unfold maxLen; omega) (Nat.le_refl _) ?_; intro w2 hown hgrow; have Hbel := Lib.hid ((Below.refl _ w).grown hgrow (Nat.le_refl _) (by simp)); have Hown := Lib.hid hown; clear hown hgrow)
  have hzb : w.heap.size ≤ w.heap.size := Nat.le_refl _
  go_loopw [4] (fun i wr => ∃ k : Nat, k ≤ n ∧ i = .int .i64 k ∧ wr.ownsRow w.heap.size 2 1 (.slice (some ⟨w.heap.size, 0, none⟩) n n) n ((placesR fs k).map (Value.int .i64)) ∧ Below w.heap.size w wr) (fun i _ => n - (intOf i).toNat)
  case atStart =>
    refine ⟨0, Nat.zero_le _, rfl, ?_, Hbel.out⟩
    have h0 := Hown.out
    have e : (madeCells (Value.int .i64 0).cells (n * 1)).toList = (placesR fs 0).map (Value.int .i64) := by
      rw [placesR_zero, Hlen.out, Nat.mul_one, List.map_replicate]
      exact made1 _ n
    rw [e] at h0
    exact h0
  case round =>
    obtain ⟨k, hk, rfl, hown, hb⟩ := hrel
    by_cases hlt : k < n
    · obtain ⟨hcap, b, off, rfl, hbs, hc⟩ := Hf.out (by omega)
      obtain ⟨y0, y1⟩ := Hbd.out k hlt
      have c1 : wr.cell? ⟨b, off + k, none⟩ = some (.int .i64 (fs.getD k 0)) := by rw [hb.cell hbs]; exact hc k hlt
      have hu := placesR_succ fs k
      generalize fs.getD k 0 = y at *
      have c3 : wr.cell? ⟨w.heap.size, y.toNat, none⟩ = some (.int .i64 ((placesR fs k).getD y.toNat 0)) := by
        have hl := Hpl.out k
        rw [hown.cellAt y.toNat (by omega), List.getElem?_map, List.getElem?_eq_getElem (by omega), getD_lt _ _ _ (by omega)]; rfl
      have c4 := hown.frozenAt y.toNat
      obtain ⟨hs1, _⟩ := hown.stored y.toNat (.int .i64 (k : Int))
      rw [← List.map_set, ← hu] at hs1
      have Hs1 := Lib.hid hs1
      have Hb2 := Lib.hid (hb.setCell (p := ⟨w.heap.size, y.toNat, none⟩) hzb (.int .i64 (k : Int)))
      clear hc hown hb hs1 hu
      generalize (placesR fs k).getD y.toNat 0 = z at *
      go_wp2
      go_roundw
      case rel => exact ⟨k + 1, by omega, by go_num, Hs1.out, Hb2.out⟩
      case measure => simp [intOf]; omega
    · obtain rfl : k = n := by omega
      have Hown2 := Lib.hid hown
      have Hb := Lib.hid hb
      clear hown hb
      go_wp2
      go_ret
      exact ⟨_, rfl, Sw.of_owns Hown2.out (Hpl.out k), Hb.out⟩

set_option maxHeartbeats 1000000 in
theorem impl_BackDeck (fs : List Int) (v : Value) (w : World) (hn : fs.length ≤ 1048576) (h : Sl (Value.int .i64) 0 w v fs) :
    Calls Try.prog 17 #[v] w fun e w' => ∃ r, e = .returned (.tuple #[r, .bool (ok_BackDeck fs)]) ∧ Sw (Value.int .i64) 0 w' r (res_BackDeck fs) w.heap.size w'.heap.size ∧ Below w.heap.size w w' := by
  have Hs := Lib.hid h
  obtain ⟨p, cap, rfl, hf⟩ := h
  have Hf := Lib.hid hf
  clear hf
  cases hd : deckB fs
  · obtain ⟨e1, e2⟩ := back_no fs hd
    rw [e1, e2]
    have Hd := Lib.hid (deckI_no fs _ w hn Hs.out hd)
    clear hd e1 e2
    go_enter Try.func17, Try.ntmps17
    go_wp2_with (first | (go_at_call 45; refine Hd.out.mono ?_; rintro e w' ⟨rfl, hb⟩; have Hb := Lib.hid hb; clear hb))
    go_ret2
    exact ⟨_, rfl, Sw.nil _ _ _ _ _ _ _, Hb.out⟩
  · obtain ⟨e1, e2⟩ := back_yes fs hd
    rw [e1, e2]
    have Hd := Lib.hid (deckI_yes fs _ w hn Hs.out hd)
    clear e1 e2
    obtain ⟨i0, hi, hz0, hz1, hz2⟩ := info_parts (show (Try.prog.info? 2).map (fun i => (i.zero, i.size, i.bytes)) = some (some (.int .i64 0), 1, 8) by kernel_rfl)
    have Hbd := Lib.hid (fun k hk => deckB_bd hd k hk)
    have Hpl := Lib.hid (placesR_len fs)
    generalize hlen : fs.length = n at *
    have Hlen := Lib.hid hlen
    clear hlen hd
    go_enter Try.func17, Try.ntmps17
    go_wp2_with fail
    refine Hd.out.mono ?_
    rintro e w1 ⟨rfl, hb1⟩
    have Hb1 := Lib.hid hb1
    have hzb := hb1.size
    clear hb1
    go_wp2_with (at_make; refine wpList_make_full _ rfl _ _ 22 rfl w.heap.size 2 i0 (.int .i64 0) 1 (by kernel_rfl) hi hz0 hz1 .i64 .i64 n n n rfl rfl rfl rfl (by rw [hz2]; omega) (by unfold maxLen; omega) hzb ?_; intro w2 hown hgrow; have Hbel := Lib.hid (Hb1.out.grown hgrow hzb (by simp)); have Hown := Lib.hid hown; clear hown hgrow)
    go_loopw [15] (fun i wr => ∃ k : Nat, k ≤ n ∧ i = .int .i64 k ∧ wr.ownsRow w.heap.size 2 1 (.slice (some ⟨w1.heap.size, 0, none⟩) n n) n ((placesR fs k).map (Value.int .i64)) ∧ Below w.heap.size w wr) (fun i _ => n - (intOf i).toNat)
    case atStart =>
      refine ⟨0, Nat.zero_le _, rfl, ?_, Hbel.out⟩
      have h0 := Hown.out
      have e : (madeCells (Value.int .i64 0).cells (n * 1)).toList = (placesR fs 0).map (Value.int .i64) := by
        rw [placesR_zero, Hlen.out, Nat.mul_one, List.map_replicate]
        exact made1 _ n
      rw [e] at h0
      exact h0
    case round =>
      obtain ⟨k, hk, rfl, hown, hb⟩ := hrel
      by_cases hlt : k < n
      · obtain ⟨hcap, b, off, rfl, hbs, hc⟩ := Hf.out (by omega)
        obtain ⟨y0, y1⟩ := Hbd.out k hlt
        have c1 : wr.cell? ⟨b, off + k, none⟩ = some (.int .i64 (fs.getD k 0)) := by rw [hb.cell hbs]; exact hc k hlt
        have hu := placesR_succ fs k
        generalize fs.getD k 0 = y at *
        have c3 : wr.cell? ⟨w1.heap.size, y.toNat, none⟩ = some (.int .i64 ((placesR fs k).getD y.toNat 0)) := by
          have hl := Hpl.out k
          rw [hown.cellAt y.toNat (by omega), List.getElem?_map, List.getElem?_eq_getElem (by omega), getD_lt _ _ _ (by omega)]; rfl
        have c4 := hown.frozenAt y.toNat
        obtain ⟨hs1, _⟩ := hown.stored y.toNat (.int .i64 (k : Int))
        rw [← List.map_set, ← hu] at hs1
        have Hs1 := Lib.hid hs1
        have Hb2 := Lib.hid (hb.setCell (p := ⟨w1.heap.size, y.toNat, none⟩) hzb (.int .i64 (k : Int)))
        clear hc hown hb hs1 hu
        generalize (placesR fs k).getD y.toNat 0 = z at *
        go_wp2
        go_roundw
        case rel => exact ⟨k + 1, by omega, by go_num, Hs1.out, Hb2.out⟩
        case measure => simp [intOf]; omega
      · obtain rfl : k = n := by omega
        have Hown2 := Lib.hid hown
        have Hb := Lib.hid hb
        clear hown hb
        go_wp2
        go_ret2
        exact ⟨_, rfl, Sw.of_owns Hown2.out (Hpl.out k), Hb.out⟩

theorem spec_BackDeck (fs : List Int) (v : Value) (w : World) (hn : fs.length ≤ 1048576) (h : Sl (Value.int .i64) 0 w v fs) :
    Calls Try.prog 15 #[v] w fun e w' => ∃ r, e = .returned (.tuple #[r, .bool (ok_BackDeck fs)]) ∧ Sw (Value.int .i64) 0 w' r (res_BackDeck fs) w.heap.size w'.heap.size ∧ Below w.heap.size w w' := by
  have Hs := Lib.hid h
  obtain ⟨p, cap, rfl, hf⟩ := h
  clear hf
  cases hd : deckB fs
  · obtain ⟨e1, e2⟩ := back_no fs hd
    rw [e1, e2]
    have Hd := Lib.hid (deck_no fs _ w hn Hs.out hd)
    clear hd e1 e2
    go_enter Try.func15, Try.ntmps15
    go_wp2_with (first | (go_at_call 43; refine Hd.out.mono ?_; rintro e w' ⟨rfl, m, rfl⟩))
    go_ret2
    exact ⟨_, rfl, Sw.nil _ _ _ _ _ _ _, below_drewN (Below.refl _ _) _⟩
  · obtain ⟨e1, e2⟩ := back_yes fs hd
    rw [e1, e2]
    have Hd := Lib.hid (deck_yes fs _ w hn Hs.out hd)
    have Hp := Lib.hid (fun (w1 : World) (g : Drawn w w1) => places_any fs _ w1 hn (Hs.out.drawn g) hd)
    clear hd e1 e2
    go_enter Try.func15, Try.ntmps15
    go_wp2_with fail
    refine Hd.out.mono ?_
    rintro e w1 ⟨rfl, g1⟩
    have G1 := Lib.hid g1
    clear g1
    go_wp2_with fail
    refine (Hp.out w1 G1.out).mono ?_
    rintro e w2 ⟨r, rfl, hs, hb⟩
    have Hr := Lib.hid hs
    have Hb := Lib.hid hb
    clear hs hb
    go_wp2
    go_ret2
    have e := G1.out.heap
    exact ⟨_, rfl, by rw [← e]; exact Hr.out, (G1.out.below _).trans (Hb.out.mono (by rw [e]; exact Nat.le_refl _))⟩
end Go.Proofs.Ytfjokclhbbndaab
