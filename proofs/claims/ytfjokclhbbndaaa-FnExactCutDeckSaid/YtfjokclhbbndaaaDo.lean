/- Contracts: cut decks in the model's text. -/
import Derived.Test.YtfjokclhbbndaaaDn
set_option linter.unusedVariables false
namespace Go.Proofs.Ytfjokclhbbndaaa
open Go.RowKit

theorem news_of {w : World} {b off : Nat} {gs : List Int} (hc : ∀ i, i < gs.length → w.cell? ⟨b, off + i, none⟩ = some (.int .i64 (gs.getD i 0))) :
    ∀ j u, (gs.map (Value.int .i64))[j]? = some u → w.cell? ((⟨b, off, none⟩ : Addr).add j) = some u := by
  intro j u hu
  rw [List.getElem?_map, Option.map_eq_some_iff] at hu
  obtain ⟨x, hx, rfl⟩ := hu
  have hj := (List.getElem?_eq_some_iff.1 hx).1
  rw [Addr.add_lit, hc j hj]
  simp [List.getD, hx]
theorem cut_rows (fs : List Int) (a : Nat) (ha : a ≤ fs.length) (h0 : 1 ≤ fs.length) : fs.drop a ++ fs.take a = tab fs.length (cutG fs (a : Int)) := by
  have := cut_append fs (a : Int) (by omega) (by omega) (by omega)
  rw [Int.toNat_natCast] at this
  exact this
set_option maxHeartbeats 2000000 in
theorem cut_spec_yes (fs : List Int) (v : Value) (a : Nat) (w : World) (hn : fs.length ≤ 1048576) (h : Sl (Value.int .i64) 0 w v fs) (hd : deckB fs = true) (ha : a ≤ fs.length) :
    Calls Try.prog 25 #[v, .int .i64 (a : Int)] w fun e w' => ∃ r, e = .returned (.tuple #[r, .bool true]) ∧ Sw (Value.int .i64) 0 w' r (tab fs.length (cutG fs (a : Int))) w.heap.size w'.heap.size ∧ Below w.heap.size w w' := by
  have Hd := Lib.hid (deck_yes fs _ w hn h hd)
  obtain ⟨l1, l2, _⟩ := deckB_len hd
  have Hin := Lib.hid (fun z => in_yes (a : Int) 0 (fs.length : Int) z (by omega) (by omega))
  have Hcut := Lib.hid (cut_rows fs a ha l1)
  obtain ⟨i0, hi, hz0, hz1, hz2⟩ := info_parts (show (Try.prog.info? 2).map (fun i => (i.zero, i.size, i.bytes)) = some (some (.int .i64 0), 1, 8) by kernel_rfl)
  obtain ⟨p, cap, rfl, hf⟩ := h
  obtain ⟨hcap, b, off, rfl, hbs, hc⟩ := hf (by omega)
  clear hf hd
  have hlt : (fs.take a).length = a := by rw [List.length_take]; omega
  have Hlt := Lib.hid hlt
  clear hlt
  have Hl2 := Lib.hid (show ((fs.take a).map (Value.int .i64)).length = a * 1 by rw [List.length_map, Hlt.out, Nat.mul_one])
  have Hcn := Lib.hid (fun (wz : World) (hb : Below w.heap.size w wz) => news_of (w := wz) (b := b) (off := off) (gs := fs.take a) (fun i hi => by
    rw [Hlt.out] at hi
    rw [hb.cell hbs, hc i (by omega)]
    simp [List.getD, hi]))
  have Htl := Lib.hid (tab_len fs.length (cutG fs (a : Int)))
  have Hl0 := Lib.hid (show ((fs.drop a).map (Value.int .i64)).length = (fs.length - a) * 1 by simp)
  generalize hlen : fs.length = n at *
  have Hlen := Lib.hid hlen
  clear hlen
  by_cases hac : a < cap
  · have Hl1 := Hl0
    go_enter Try.func25, Try.ntmps25
    go_wp2_with fail
    refine Hd.out.mono ?_
    rintro e w1 ⟨rfl, g1⟩
    have G1 := Lib.hid g1
    have hc1 : ∀ i, i < n → w1.cell? ⟨b, off + i, none⟩ = some (.int .i64 (fs.getD i 0)) := fun i hi => by rw [g1.cell]; exact hc i hi
    have hz1' : w.heap.size ≤ w1.heap.size := by rw [g1.heap]; exact Nat.le_refl _
    have Hc1 := Lib.hid hc1
    clear g1 hc1
    have Hown1 := Lib.hid (show (w1.alloc (.cells #[] 2)).ownsRow w.heap.size 2 1 (.slice (some ⟨w1.heap.size, 0, none⟩) 0 0) 0 [] from own_zero w1 w.heap.size 2 (fun _ => 0) hz1')
    have Hal := Lib.hid ((G1.out.below w.heap.size).alloc hz1' (.cells #[] 2))
    go_wp2_with fail
    refine (Hin.out _).mono ?_
    rintro e w' ⟨rfl, rfl⟩
    have Hn1 := Lib.hid (news_of (w := w1.alloc (.cells #[] 2)) (b := b) (off := off + a) (gs := fs.drop a) (fun i hi => by
      rw [List.length_drop, Hlen.out] at hi
      rw [World.cell?_alloc_past _ _ _ (Nat.lt_of_lt_of_le hbs hz1'), Nat.add_assoc, Hc1.out (a + i) (by omega)]
      simp [List.getD]))
    go_wp2_with (first | (at_builtin; refine wpList_append_own _ rfl (.tmp 17) (.tmp 20) 22 rfl w.heap.size 2 i0 (.int .i64 0) 1 8 (by kernel_rfl) hi hz0 hz1 hz2 rfl (by decide) _ _ _ rfl (Hown1.out) ⟨b, off + a, none⟩ (n - a) (cap - a) ((fs.drop a).map (Value.int .i64)) rfl (Hl1.out) (Hn1.out) (ints_oneCell _ _) (by unfold maxLen; omega) (by omega) (by first | omega | (simp; omega)) ?_; intro v2 w2 hown2 hgrow2 _; have Hb2 := Lib.hid (Hal.out.grown hgrow2 (by simp; omega) (fun k hk => (Hown1.out.lt k hk).1)); have Hn2 := Lib.hid (Hcn.out w2 Hb2.out); have hz2x := Hb2.out.size; have Hown2 := Lib.hid hown2; clear hown2 hgrow2) | (at_builtin; refine wpList_append_own _ rfl (.tmp 22) (.tmp 25) 22 rfl w.heap.size 2 i0 (.int .i64 0) 1 8 (by kernel_rfl) hi hz0 hz1 hz2 rfl (by decide) _ _ _ rfl (Hown2.out) ⟨b, off, none⟩ a cap ((fs.take a).map (Value.int .i64)) rfl (Hl2.out) (Hn2.out) (ints_oneCell _ _) (by unfold maxLen; omega) (by omega) (by first | omega | (simp; omega)) ?_; intro v3 w3 hown3 hgrow3 _; have Hb3 := Lib.hid (Hb2.out.grown hgrow3 (by omega) (fun k hk => (Hown2.out.lt k hk).1)); have Hown3 := Lib.hid hown3; clear hown3 hgrow3))
    go_ret2
    have h3 := Hown3.out
    rw [List.nil_append, ← List.map_append, Hcut.out] at h3
    exact ⟨_, rfl, Sw.of_owns h3 (by rw [Htl.out]; omega), Hb3.out⟩
  · obtain rfl : cap = n := by omega
    obtain rfl : a = cap := by omega
    have Hl1 := Lib.hid (show ((fs.drop a).map (Value.int .i64)).length = 0 * 1 by rw [Hl0.out, Nat.sub_self])
    go_enter Try.func25, Try.ntmps25
    go_wp2_with fail
    refine Hd.out.mono ?_
    rintro e w1 ⟨rfl, g1⟩
    have G1 := Lib.hid g1
    have hc1 : ∀ i, i < a → w1.cell? ⟨b, off + i, none⟩ = some (.int .i64 (fs.getD i 0)) := fun i hi => by rw [g1.cell]; exact hc i hi
    have hz1' : w.heap.size ≤ w1.heap.size := by rw [g1.heap]; exact Nat.le_refl _
    have Hc1 := Lib.hid hc1
    clear g1 hc1
    have Hown1 := Lib.hid (show (w1.alloc (.cells #[] 2)).ownsRow w.heap.size 2 1 (.slice (some ⟨w1.heap.size, 0, none⟩) 0 0) 0 [] from own_zero w1 w.heap.size 2 (fun _ => 0) hz1')
    have Hal := Lib.hid ((G1.out.below w.heap.size).alloc hz1' (.cells #[] 2))
    go_wp2_with fail
    refine (Hin.out _).mono ?_
    rintro e w' ⟨rfl, rfl⟩
    have Hn1 := Lib.hid (news_of (w := w1.alloc (.cells #[] 2)) (b := b) (off := off) (gs := fs.drop a) (fun i hi => by
      rw [List.length_drop, Hlen.out] at hi
      omega))
    go_wp2_with (first | (at_builtin; refine wpList_append_own _ rfl (.tmp 17) (.tmp 20) 22 rfl w.heap.size 2 i0 (.int .i64 0) 1 8 (by kernel_rfl) hi hz0 hz1 hz2 rfl (by decide) _ _ _ rfl (Hown1.out) ⟨b, off, none⟩ 0 0 ((fs.drop a).map (Value.int .i64)) rfl (Hl1.out) (Hn1.out) (ints_oneCell _ _) (by unfold maxLen; omega) (by omega) (by first | omega | (simp; omega)) ?_; intro v2 w2 hown2 hgrow2 _; have Hb2 := Lib.hid (Hal.out.grown hgrow2 (by simp; omega) (fun k hk => (Hown1.out.lt k hk).1)); have Hn2 := Lib.hid (Hcn.out w2 Hb2.out); have hz2x := Hb2.out.size; have Hown2 := Lib.hid hown2; clear hown2 hgrow2) | (at_builtin; refine wpList_append_own _ rfl (.tmp 22) (.tmp 25) 22 rfl w.heap.size 2 i0 (.int .i64 0) 1 8 (by kernel_rfl) hi hz0 hz1 hz2 rfl (by decide) _ _ _ rfl (Hown2.out) ⟨b, off, none⟩ a a ((fs.take a).map (Value.int .i64)) rfl (Hl2.out) (Hn2.out) (ints_oneCell _ _) (by unfold maxLen; omega) (by omega) (by first | omega | (simp; omega)) ?_; intro v3 w3 hown3 hgrow3 _; have Hb3 := Lib.hid (Hb2.out.grown hgrow3 (by omega) (fun k hk => (Hown2.out.lt k hk).1)); have Hown3 := Lib.hid hown3; clear hown3 hgrow3))
    go_ret2
    have h3 := Hown3.out
    rw [List.nil_append, ← List.map_append, Hcut.out] at h3
    exact ⟨_, rfl, Sw.of_owns h3 (by rw [Htl.out]; omega), Hb3.out⟩

theorem spec_CutDeck (fs : List Int) (v : Value) (a : Int) (al : -9223372036854775808 ≤ a) (au : a ≤ 9223372036854775807) (w : World) (hn : fs.length ≤ 1048576) (h : Sl (Value.int .i64) 0 w v fs) :
    Calls Try.prog 25 #[v, .int .i64 a] w fun e w' => ∃ r, e = .returned (.tuple #[r, .bool (ok_CutDeck fs a)]) ∧ Sw (Value.int .i64) 0 w' r (res_CutDeck fs a) w.heap.size w'.heap.size ∧ Below w.heap.size w w' := by
  by_cases h2 : deckB fs = true ∧ 0 ≤ a ∧ a ≤ fs.length
  · obtain ⟨e1, e2⟩ := cut_yes fs a h2.1 h2.2.1 h2.2.2
    rw [e1, e2]
    obtain ⟨n, rfl⟩ : ∃ n : Nat, a = n := ⟨a.toNat, by omega⟩
    exact cut_spec_yes fs v n w hn h h2.1 (by omega)
  · obtain ⟨e1, e2⟩ := cut_no fs a h2
    rw [e1, e2]
    cases hd : deckB fs
    · have Hd := Lib.hid (deck_no fs _ w hn h hd)
      obtain ⟨p, cap, rfl, hf⟩ := h
      clear hd e1 e2 h2 hf
      go_enter Try.func25, Try.ntmps25
      go_wp2_with fail
      refine Hd.out.mono ?_
      rintro e w1 ⟨rfl, g1⟩
      have G1 := Lib.hid g1
      clear g1
      go_wp2
      go_ret2
      exact ⟨_, rfl, Sw.nil _ _ _ _ _ _ _, G1.out.below _⟩
    · have h3 : a < 0 ∨ (fs.length : Int) < a := by
        by_cases h0 : 0 ≤ a ∧ a ≤ fs.length
        · exact absurd ⟨hd, h0⟩ h2
        · omega
      have Hd := Lib.hid (deck_yes fs _ w hn h hd)
      have Hin := Lib.hid (fun z => in_no a 0 (fs.length : Int) z h3)
      obtain ⟨p, cap, rfl, hf⟩ := h
      clear hd e1 e2 h2 hf h3
      go_enter Try.func25, Try.ntmps25
      go_wp2_with fail
      refine Hd.out.mono ?_
      rintro e w1 ⟨rfl, g1⟩
      have G1 := Lib.hid g1
      clear g1
      go_wp2_with fail
      refine (Hin.out _).mono ?_
      rintro e w' ⟨rfl, rfl⟩
      go_wp2
      go_ret2
      exact ⟨_, rfl, Sw.nil _ _ _ _ _ _ _, G1.out.below _⟩
end Go.Proofs.Ytfjokclhbbndaaa
