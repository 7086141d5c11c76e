/- Contracts: the program's functions on decks: turned, joined, cut, shuffled. -/
import Derived.Test.YtfjokclhbbndaaaDc
set_option linter.unusedVariables false
namespace Go.Proofs.Ytfjokclhbbndaaa
open Go.RowKit

set_option maxHeartbeats 400000 in
theorem impl_TurnDeck (fs : List Int) (v : Value) (w : World) (hn : fs.length ≤ 1048576) (h : Sl (Value.int .i64) 0 w v fs) :
    Calls Try.prog 24 #[v] w fun e w' => ∃ r, e = .returned (.tuple #[r, .bool (ok_TurnDeck fs)]) ∧ Sw (Value.int .i64) 0 w' r (res_TurnDeck fs) w.heap.size w'.heap.size ∧ Below w.heap.size w w' := by
  cases hd : deckB fs
  · obtain ⟨e1, e2⟩ := turn_no fs hd
    rw [e1, e2]
    have Hs := Lib.hid h
    obtain ⟨p, cap, rfl, hf⟩ := h
    clear hf e1 e2
    have Hd := Lib.hid hd
    clear hd
    go_enter Try.func24, Try.ntmps24
    go_wp2_with (first | (go_at_call 17; refine (deckI_no fs _ _ hn (Hs.out.later ((Below.refl _ _).alloc (Nat.le_refl _) _)) Hd.out).mono ?_; rintro e w1 ⟨rfl, hb⟩; have Hb := Lib.hid hb; clear hb))
    go_ret2
    exact ⟨_, rfl, Sw.nil _ _ _ _ _ _ _, ((Below.refl _ w).alloc (Nat.le_refl _) _).trans (Hb.out.mono (by simp))⟩
  · obtain ⟨e1, e2⟩ := turn_yes fs hd
    rw [e1, e2]
    exact turn_impl_yes fs v w hn h hd

/-! ### joined decks -/
theorem join_yes (fs gs : List Int) (h1 : deckB fs = true) (h2 : deckB gs = true) (h3 : fs.length = gs.length) : ok_JoinDecks fs gs = true ∧ res_JoinDecks fs gs = tab fs.length (joinG fs gs) := by
  unfold ok_JoinDecks res_JoinDecks; rw [h1, h2, decide_eq_true h3, if_pos ⟨rfl, rfl, h3⟩]; exact ⟨rfl, rfl⟩
theorem join_no (fs gs : List Int) (h : ¬ (deckB fs = true ∧ deckB gs = true ∧ fs.length = gs.length)) : ok_JoinDecks fs gs = false ∧ res_JoinDecks fs gs = [] := by
  unfold ok_JoinDecks res_JoinDecks; rw [if_neg h]; refine ⟨?_, rfl⟩
  rw [Bool.eq_false_iff]; intro h'; simp only [Bool.and_eq_true, decide_eq_true_eq] at h'; exact h h'
theorem len_JoinDecks (fs gs : List Int) : (res_JoinDecks fs gs).length ≤ 1048576 := by
  unfold res_JoinDecks
  split
  · rename_i h; rw [tab_len]; have := (deckB_len h.1).2.1; omega
  · exact Nat.zero_le _
theorem clo_join (fs gs : List Int) (v u : Value) (b1 b2 k n : Nat) (w : World) (hfn : fs.length = n) (hgn : gs.length = n) (hk : k < n) (hn : n ≤ 1048576) (hy0 : 0 ≤ gs.getD k 0) (hy1 : gs.getD k 0 < n)
    (c1 : w.cell? ⟨b1, 0, none⟩ = some v) (c2 : w.cell? ⟨b2, 0, none⟩ = some u) (hs : Sl (Value.int .i64) 0 w v fs) (hg : Sl (Value.int .i64) 0 w u gs) :
    Calls Try.prog 66 #[.int .i64 (k : Int), .pointer (some ⟨b1, 0, none⟩), .pointer (some ⟨b2, 0, none⟩)] w fun e w' => e = .returned (.int .i64 (joinG fs gs k)) ∧ Drawn w w' := by
  obtain ⟨p, cap, rfl, hf⟩ := hs
  obtain ⟨q, cap', rfl, hg⟩ := hg
  rw [hfn] at hf c1
  rw [hgn] at hg c2
  clear hfn hgn
  obtain ⟨hcap, b, off, rfl, hbs, hc⟩ := hf (by omega)
  obtain ⟨hcap', b', off', rfl, hbs', hc'⟩ := hg (by omega)
  have c4 := hc' k hk
  unfold joinG
  generalize gs.getD k 0 = y at *
  have c3 := hc y.toNat (by omega)
  clear hc hf hc' hg
  generalize fs.getD y.toNat 0 = z at *
  go_enter Try.func66, Try.ntmps66
  go_wp2
  go_quiet (fail)
  go_wp2
  go_ret
  exact ⟨rfl, _, rfl⟩

set_option maxHeartbeats 1000000 in
theorem impl_JoinDecks (fs : List Int) (v : Value) (gs : List Int) (u : Value) (w : World) (hn : fs.length ≤ 1048576) (h : Sl (Value.int .i64) 0 w v fs) (hn' : gs.length ≤ 1048576) (h' : Sl (Value.int .i64) 0 w u gs) :
    Calls Try.prog 45 #[v, u] w fun e w' => ∃ r, e = .returned (.tuple #[r, .bool (ok_JoinDecks fs gs)]) ∧ Sw (Value.int .i64) 0 w' r (res_JoinDecks fs gs) w.heap.size w'.heap.size ∧ Below w.heap.size w w' := by
  have Hs := Lib.hid h
  have Hg := Lib.hid h'
  obtain ⟨p, cap, rfl, hf⟩ := h
  obtain ⟨q, cap', rfl, hf'⟩ := h'
  clear hf hf'
  have hW : Below w.heap.size w ((w.alloc (.cells #[.slice p fs.length cap] 22)).alloc (.cells #[.slice q gs.length cap'] 22)) := ((Below.refl _ w).alloc (Nat.le_refl _) _).alloc (by simp) _
  have HW := Lib.hid hW
  clear hW
  have HS0 := Lib.hid (Hs.out.later HW.out)
  cases hd : deckB fs
  · obtain ⟨e1, e2⟩ := join_no fs gs (fun hh => by rw [hd] at hh; exact absurd hh.1 Bool.false_ne_true)
    rw [e1, e2]
    have Hd := Lib.hid hd
    clear hd e1 e2
    go_enter Try.func45, Try.ntmps45
    go_wp2_with (first | (go_at_call 17; refine (deckI_no fs _ _ hn HS0.out Hd.out).mono ?_; rintro e w1 ⟨rfl, hb⟩; have Hb := Lib.hid hb; clear hb))
    go_ret2
    exact ⟨_, rfl, Sw.nil _ _ _ _ _ _ _, HW.out.trans (Hb.out.mono (by simp; omega))⟩
  · have Hd := Lib.hid hd
    have HG0 := Lib.hid (fun (w1 : World) (hb : Below ((w.alloc (.cells #[.slice p fs.length cap] 22)).alloc (.cells #[.slice q gs.length cap'] 22)).heap.size ((w.alloc (.cells #[.slice p fs.length cap] 22)).alloc (.cells #[.slice q gs.length cap'] 22)) w1) => Hg.out.later (HW.out.trans (hb.mono (by simp; omega))))
    cases hd2 : deckB gs
    · obtain ⟨e1, e2⟩ := join_no fs gs (fun hh => by rw [hd2] at hh; exact absurd hh.2.1 Bool.false_ne_true)
      rw [e1, e2]
      have Hd2 := Lib.hid hd2
      clear hd hd2 e1 e2
      go_enter Try.func45, Try.ntmps45
      go_wp2_with fail
      refine (deckI_yes fs _ _ hn HS0.out Hd.out).mono ?_
      rintro e w1 ⟨rfl, hb⟩
      have Hb := Lib.hid hb
      have c2 : w1.cell? ⟨w.heap.size + 1, 0, none⟩ = some (.slice q gs.length cap') := cell_keep hb (World.cell?_alloc_at _ _ _ _ (by simp))
      clear hb
      go_wp2_with fail
      refine (deckI_no gs _ _ hn' (HG0.out _ Hb.out) Hd2.out).mono ?_
      rintro e w2 ⟨rfl, hb2⟩
      have Hb2 := Lib.hid hb2
      have Hz := Lib.hid Hb.out.size
      clear hb2
      go_wp2
      go_ret2
      exact ⟨_, rfl, Sw.nil _ _ _ _ _ _ _, (HW.out.trans (Hb.out.mono (by simp; omega))).trans (Hb2.out.mono (by have := Hz.out; simp at this; omega))⟩
    · have Hd2 := Lib.hid hd2
      by_cases hl : fs.length = gs.length
      · obtain ⟨e1, e2⟩ := join_yes fs gs hd hd2 hl
        rw [e1, e2]
        obtain ⟨l1, l2, _⟩ := deckB_len hd
        have Hbd := Lib.hid (fun k hk => deckB_bd hd2 k hk)
        have Hl := Lib.hid hl
        have dl : ((fs.length : Int) != (gs.length : Int)) = false := by rw [hl]; simp
        clear hd hd2 e1 e2 hl
        go_enter Try.func45, Try.ntmps45
        go_wp2_with fail
        refine (deckI_yes fs _ _ hn HS0.out Hd.out).mono ?_
        rintro e w1 ⟨rfl, hb⟩
        have Hb := Lib.hid hb
        have c2 : w1.cell? ⟨w.heap.size + 1, 0, none⟩ = some (.slice q gs.length cap') := cell_keep hb (World.cell?_alloc_at _ _ _ _ (by simp))
        have c1 : w1.cell? ⟨w.heap.size, 0, none⟩ = some (.slice p fs.length cap) := cell_keep hb ((World.cell?_alloc_past _ _ _ (by simp)).trans (World.cell?_alloc_at _ _ _ _ rfl))
        clear hb
        go_wp2_with fail
        refine (deckI_yes gs _ _ hn' (HG0.out _ Hb.out) Hd2.out).mono ?_
        rintro e w2 ⟨rfl, hb2⟩
        have Hb2 := Lib.hid hb2
        have c3 : w2.cell? ⟨w.heap.size + 1, 0, none⟩ = some (.slice q gs.length cap') := cell_keep hb2 c2
        have c4 : w2.cell? ⟨w.heap.size, 0, none⟩ = some (.slice p fs.length cap) := cell_keep hb2 c1
        have Hbel := Lib.hid ((HW.out.trans (Hb.out.mono (by simp; omega))).trans (hb2.mono (by have := Hb.out.size; simp at this; omega)))
        have Hdb := Lib.hid (deckBy_any fs.length 66 #[.pointer (some ⟨w.heap.size, 0, none⟩), .pointer (some ⟨w.heap.size + 1, 0, none⟩)] (joinG fs gs) w2 hn
          (run_enter Try.func66 (by kernel_rfl) (by kernel_rfl))
          (fun k w' hk hb' => clo_join fs gs (.slice p fs.length cap) (.slice q gs.length cap') w.heap.size (w.heap.size + 1) k fs.length w' rfl Hl.out.symm hk hn (Hbd.out k (by rw [← Hl.out]; exact hk)).1 (by rw [Hl.out]; exact (Hbd.out k (by rw [← Hl.out]; exact hk)).2) (cell_keep hb' c4) (cell_keep hb' c3) (Hs.out.later (Hbel.out.trans (hb'.mono Hbel.out.size))) (Hg.out.later (Hbel.out.trans (hb'.mono Hbel.out.size)))))
        clear hb2 c1 c2
        go_wp2_with (go_at_call 51; refine Hdb.out.mono ?_; rintro e w3 ⟨r, rfl, hs, hb⟩; have Hr := Lib.hid hs; have Hb3 := Lib.hid hb; clear hs hb)
        go_ret2
        exact ⟨_, rfl, Hr.out.mono Hbel.out.size (Nat.le_refl _) (Nat.le_refl _), Hbel.out.trans (Hb3.out.mono Hbel.out.size)⟩
      · obtain ⟨e1, e2⟩ := join_no fs gs (fun hh => hl hh.2.2)
        rw [e1, e2]
        have dl : ((fs.length : Int) != (gs.length : Int)) = true := by simp; omega
        clear hd hd2 e1 e2 hl
        go_enter Try.func45, Try.ntmps45
        go_wp2_with fail
        refine (deckI_yes fs _ _ hn HS0.out Hd.out).mono ?_
        rintro e w1 ⟨rfl, hb⟩
        have Hb := Lib.hid hb
        have c2 : w1.cell? ⟨w.heap.size + 1, 0, none⟩ = some (.slice q gs.length cap') := cell_keep hb (World.cell?_alloc_at _ _ _ _ (by simp))
        have c1 : w1.cell? ⟨w.heap.size, 0, none⟩ = some (.slice p fs.length cap) := cell_keep hb ((World.cell?_alloc_past _ _ _ (by simp)).trans (World.cell?_alloc_at _ _ _ _ rfl))
        clear hb
        go_wp2_with fail
        refine (deckI_yes gs _ _ hn' (HG0.out _ Hb.out) Hd2.out).mono ?_
        rintro e w2 ⟨rfl, hb2⟩
        have c3 : w2.cell? ⟨w.heap.size + 1, 0, none⟩ = some (.slice q gs.length cap') := cell_keep hb2 c2
        have c4 : w2.cell? ⟨w.heap.size, 0, none⟩ = some (.slice p fs.length cap) := cell_keep hb2 c1
        have Hbel := Lib.hid ((HW.out.trans (Hb.out.mono (by simp; omega))).trans (hb2.mono (by have := Hb.out.size; simp at this; omega)))
        clear hb2 c1 c2
        go_wp2
        go_ret2
        exact ⟨_, rfl, Sw.nil _ _ _ _ _ _ _, Hbel.out⟩
end Go.Proofs.Ytfjokclhbbndaaa
