/- Contracts: riffles and what leads back, in both texts. -/
import Derived.Test.YtfjokclhbbndaaaDf
set_option linter.unusedVariables false
namespace Go.Proofs.Ytfjokclhbbndaaa
open Go.RowKit

theorem own_later {w w' : World} {base : Nat} {e : TypeId} {size : Nat} {v : Value} {n : Nat} {xs : List Value} (h : w.ownsRow base e size v n xs) (hb : Below w.heap.size w w') : w'.ownsRow base e size v n xs :=
  h.kept (row := none) ⟨hb.os, hb.tape, hb.output, hb.size, fun k hk _ => hb.block k hk⟩ (by cases v.ownBlock <;> simp)
theorem rif_join (fs : List Int) (bs : List Bool) (k : Nat) (h : k < bs.length) : joinG fs (befL bs) k = rifG fs bs k := by
  unfold joinG rifG befL
  rw [tab_get _ _ _ h, Int.toNat_natCast]
set_option maxHeartbeats 1000000 in
theorem impl_RiffleBy (fs : List Int) (v : Value) (bs : List Bool) (u : Value) (w : World) (hn : fs.length ≤ 1048576) (h : Sl (Value.int .i64) 0 w v fs) (hn' : bs.length ≤ 1048576) (h' : Sl Value.bool false w u bs) :
    Calls Try.prog 33 #[v, u] w fun e w' => ∃ r, e = .returned (.tuple #[r, .bool (ok_RiffleBy fs bs)]) ∧ Sw (Value.int .i64) 0 w' r (res_RiffleBy fs bs) w.heap.size w'.heap.size ∧ Below w.heap.size w w' := by
  have Hs := Lib.hid h
  have Hg := Lib.hid h'
  obtain ⟨p, cap, rfl, hf⟩ := h
  obtain ⟨q, cap', rfl, hf'⟩ := h'
  clear hf hf'
  have hW : Below w.heap.size w (w.alloc (.cells #[.slice p fs.length cap] 22)) := (Below.refl _ w).alloc (Nat.le_refl _) _
  have HW := Lib.hid hW
  clear hW
  have HS0 := Lib.hid (Hs.out.later HW.out)
  cases hd : deckB fs
  · obtain ⟨e1, e2⟩ := rif_no fs bs (fun hh => by rw [hd] at hh; exact absurd hh.1 Bool.false_ne_true)
    rw [e1, e2]
    have Hd := Lib.hid hd
    clear hd e1 e2
    go_enter Try.func33, Try.ntmps33
    go_wp2_with (first | (go_at_call 17; refine (deckI_no fs _ _ hn HS0.out Hd.out).mono ?_; rintro e w1 ⟨rfl, hb⟩; have Hb := Lib.hid hb; clear hb))
    go_ret2
    exact ⟨_, rfl, Sw.nil _ _ _ _ _ _ _, HW.out.trans (Hb.out.mono (by simp))⟩
  · have Hd := Lib.hid hd
    by_cases hl : bs.length = fs.length
    · obtain ⟨e1, e2⟩ := rif_yes fs bs hd hl
      rw [e1, e2]
      obtain ⟨l1, l2, _⟩ := deckB_len hd
      have Hl := Lib.hid hl
      have dl : ((bs.length : Int) != (fs.length : Int)) = false := by rw [hl]; simp
      clear hd e1 e2 hl
      go_enter Try.func33, Try.ntmps33
      go_wp2_with fail
      refine (deckI_yes fs _ _ hn HS0.out Hd.out).mono ?_
      rintro e w1 ⟨rfl, hb⟩
      have Hb := Lib.hid hb
      have c1 : w1.cell? ⟨w.heap.size, 0, none⟩ = some (.slice p fs.length cap) := cell_keep hb (World.cell?_alloc_at _ _ _ _ rfl)
      have Hw1 := Lib.hid (HW.out.trans (hb.mono (by simp)))
      have hz : w.heap.size < w1.heap.size := by have := hb.size; simp at this; omega
      clear hb
      go_wp2_with fail
      refine (before_any bs _ _ hn' (Hg.out.later Hw1.out)).mono ?_
      rintro e w2 ⟨r, rfl, hs, hb2⟩
      have Hr := Lib.hid hs
      obtain ⟨pr, capr, rfl, hfr⟩ := hs
      clear hfr
      have c2 : w2.cell? ⟨w.heap.size, 0, none⟩ = some (.slice p fs.length cap) := cell_keep hb2 c1
      have hz2 : w.heap.size < w2.heap.size := by have := hb2.size; omega
      have Hw2 := Lib.hid ((Hw1.out.trans (hb2.mono (by omega))).alloc (by omega) (.cells #[.slice pr (befL bs).length capr] 55))
      have hlb : (befL bs).length = fs.length := by unfold befL; rw [tab_len]; exact Hl.out
      have Hlb := Lib.hid hlb
      have Hbd := Lib.hid (fun k (hk : k < fs.length) => (show (befL bs).getD k 0 = (befG bs k : Int) from by unfold befL; rw [tab_get _ _ _ (by rw [Hl.out]; exact hk)]))
      have Hlt := Lib.hid (fun k (hk : k < fs.length) => befG_lt bs k (by rw [Hl.out]; exact hk))
      have Hdb := Lib.hid (deckBy_any fs.length 60 #[.pointer (some ⟨w.heap.size, 0, none⟩), .pointer (some ⟨w2.heap.size, 0, none⟩)] (joinG fs (befL bs)) (w2.alloc (.cells #[.slice pr (befL bs).length capr] 55)) hn
        (run_enter Try.func60 (by kernel_rfl) (by kernel_rfl))
        (fun k w' hk hb' => clo_rif fs (befL bs) (.slice p fs.length cap) (.slice pr (befL bs).length capr) w.heap.size w2.heap.size k fs.length w' rfl Hlb.out hk hn (by rw [Hbd.out k hk]; omega) (by rw [Hbd.out k hk]; have := Hlt.out k hk; rw [Hl.out] at this; omega)
          (cell_keep hb' ((World.cell?_alloc_past _ _ _ hz2).trans c2)) (cell_keep hb' (World.cell?_alloc_at _ _ _ _ rfl)) (Hs.out.later (Hw2.out.trans (hb'.mono (by simp; omega)))) ((Hr.out.sl.later ((Below.refl _ _).alloc (Nat.le_refl _) _)).later hb')))
      rw [tab_congr (fun k hk => rif_join fs bs k (by rw [Hl.out]; exact hk))] at Hdb
      clear hb2 c1 hlb
      go_wp2_with (go_at_call 51; refine Hdb.out.mono ?_; rintro e w3 ⟨r3, rfl, hs, hb⟩; have Hr3 := Lib.hid hs; have Hb3 := Lib.hid hb; clear hs hb)
      go_ret2
      exact ⟨_, rfl, Hr3.out.mono (by simp; omega) (Nat.le_refl _) (Nat.le_refl _), Hw2.out.trans (Hb3.out.mono (by simp; omega))⟩
    · obtain ⟨e1, e2⟩ := rif_no fs bs (fun hh => hl hh.2)
      rw [e1, e2]
      have dl : ((bs.length : Int) != (fs.length : Int)) = true := by simp; omega
      clear hd e1 e2 hl
      go_enter Try.func33, Try.ntmps33
      go_wp2_with fail
      refine (deckI_yes fs _ _ hn HS0.out Hd.out).mono ?_
      rintro e w1 ⟨rfl, hb⟩
      have c1 : w1.cell? ⟨w.heap.size, 0, none⟩ = some (.slice p fs.length cap) := cell_keep hb (World.cell?_alloc_at _ _ _ _ rfl)
      have Hw1 := Lib.hid (HW.out.trans (hb.mono (by simp)))
      clear hb
      go_wp2
      go_ret2
      exact ⟨_, rfl, Sw.nil _ _ _ _ _ _ _, Hw1.out⟩

set_option maxHeartbeats 1000000 in
theorem impl_UnriffleBy (fs : List Int) (v : Value) (bs : List Bool) (u : Value) (w : World) (hn : fs.length ≤ 1048576) (h : Sl (Value.int .i64) 0 w v fs) (hn' : bs.length ≤ 1048576) (h' : Sl Value.bool false w u bs) :
    Calls Try.prog 37 #[v, u] w fun e w' => ∃ r, e = .returned (.tuple #[r, .bool (ok_UnriffleBy fs bs)]) ∧ Sw (Value.int .i64) 0 w' r (res_UnriffleBy fs bs) w.heap.size w'.heap.size ∧ Below w.heap.size w w' := by
  have Hs := Lib.hid h
  have Hg := Lib.hid h'
  obtain ⟨p, cap, rfl, hf⟩ := h
  obtain ⟨q, cap', rfl, hf'⟩ := h'
  have Hf := Lib.hid hf
  clear hf hf'
  cases hd : deckB fs
  · obtain ⟨e1, e2⟩ := unr_no fs bs (fun hh => by rw [hd] at hh; exact absurd hh.1 Bool.false_ne_true)
    rw [e1, e2]
    have Hd := Lib.hid hd
    clear hd e1 e2
    go_enter Try.func37, Try.ntmps37
    go_wp2_with (first | (go_at_call 17; refine (deckI_no fs _ _ hn Hs.out Hd.out).mono ?_; rintro e w1 ⟨rfl, hb⟩; have Hb := Lib.hid hb; clear hb))
    go_ret2
    exact ⟨_, rfl, Sw.nil _ _ _ _ _ _ _, Hb.out⟩
  · have Hd := Lib.hid hd
    by_cases hl : bs.length = fs.length
    · obtain ⟨e1, e2⟩ := unr_yes fs bs hd hl
      rw [e1, e2]
      obtain ⟨l1, l2, _⟩ := deckB_len hd
      have dl : ((bs.length : Int) != (fs.length : Int)) = false := by rw [hl]; simp
      clear hd e1 e2
      obtain ⟨i0, hi, hz0, hz1, hz2⟩ := info_parts (show (Try.prog.info? 2).map (fun i => (i.zero, i.size, i.bytes)) = some (some (.int .i64 0), 1, 8) by kernel_rfl)
      have hlu := unrR_len fs bs
      have hlt := befG_lt bs
      have hbl : (befL bs).length = bs.length := by unfold befL; exact tab_len _ _
      have hbg : ∀ k, k < bs.length → (befL bs).getD k 0 = (befG bs k : Int) := fun k hk => by unfold befL; exact tab_get _ _ _ hk
      generalize hlen : fs.length = n at *
      generalize hlen' : bs.length = n' at *
      subst hl
      have Hlen := Lib.hid hlen
      have Hlu := Lib.hid hlu
      have Hlt := Lib.hid hlt
      have Hbl := Lib.hid hbl
      have Hbg := Lib.hid hbg
      have Hlen' := Lib.hid hlen'
      clear hlen hlu hlt hbl hbg hlen'
      go_enter Try.func37, Try.ntmps37
      go_wp2_with fail
      refine (deckI_yes fs _ _ (by rw [Hlen.out]; exact hn) Hs.out Hd.out).mono ?_
      rintro e w1 ⟨rfl, hb⟩
      have Hb := Lib.hid hb
      have hz := hb.size
      clear hb
      go_wp2_with (at_make; refine wpList_make_full _ rfl _ _ 22 rfl w.heap.size 2 i0 (.int .i64 0) 1 (by kernel_rfl) hi hz0 hz1 .i64 .i64 n' n' n' rfl rfl rfl rfl (by rw [hz2]; omega) (by unfold maxLen; omega) hz ?_; intro w2 hown hgrow; have Hw2 := Lib.hid (Hb.out.grown hgrow hz (by simp)); have Hown := Lib.hid hown; have hz2' := hgrow.size; clear hown hgrow)
      refine (before_any bs _ _ (by rw [Hlen'.out]; exact hn') (Hg.out.later Hw2.out)).mono ?_
      rintro e w3 ⟨r, rfl, hs, hb3⟩
      have Hown3 := Lib.hid (own_later Hown.out hb3)
      have Hw3 := Lib.hid (Hw2.out.trans (hb3.mono (by omega)))
      obtain ⟨pr, capr, rfl, hfr⟩ := hs
      rw [Hbl.out] at hfr ⊢
      have Hfr := Lib.hid hfr
      have hb1 : w1.heap.size < w2.heap.size := (Hown.out.lt w1.heap.size rfl).2
      have hz3 := hb3.size
      clear hb3 hfr
      go_wp2
      go_loopw [25] (fun i wr => ∃ k : Nat, k ≤ n' ∧ i = .int .i64 k ∧ wr.ownsRow w.heap.size 2 1 (.slice (some ⟨w1.heap.size, 0, none⟩) n' n') n' ((unrR fs bs k).map (Value.int .i64)) ∧ Below w.heap.size w wr ∧ Only w1.heap.size w2.heap.size w3 wr) (fun i _ => n' - (intOf i).toNat)
      case atStart =>
        refine ⟨0, Nat.zero_le _, rfl, ?_, Hw3.out, Only.refl _ _ _⟩
        have h0 := Hown3.out
        have e : (madeCells (Value.int .i64 0).cells (n' * 1)).toList = (unrR fs bs 0).map (Value.int .i64) := by
          rw [unrR, Hlen.out, Nat.mul_one, List.map_replicate]
          exact made1 _ n'
        rw [e] at h0
        exact h0
      case round =>
        obtain ⟨k, hk, rfl, hown, hb, ho⟩ := hrel
        by_cases hlt : k < n'
        · obtain ⟨hcap, b, off, rfl, hbs, hc⟩ := Hf.out (by omega)
          obtain ⟨hcr, b2, off2, rfl, g1, g2, g3, hcc⟩ := Hfr.out (by omega)
          have c1 : wr.cell? ⟨b, off + k, none⟩ = some (.int .i64 (fs.getD k 0)) := by rw [hb.cell hbs]; exact hc k hlt
          have c2 : wr.cell? ⟨b2, off2 + k, none⟩ = some (.int .i64 ((befG bs k : Nat) : Int)) := by
            rw [World.cell?_of_block (w := w3) (a := ⟨b2, off2 + k, none⟩) (ho.block b2 (by omega)), (hcc k hlt).1, Hbg.out k hlt]
          have hblt := Hlt.out k hlt
          have hu : unrR fs bs (k + 1) = (unrR fs bs k).set (befG bs k) (fs.getD k 0) := rfl
          generalize befG bs k = j at *
          have hul := Hlu.out k
          have c3 : wr.cell? ⟨w1.heap.size, j, none⟩ = some (.int .i64 ((unrR fs bs k).getD j 0)) := by
            rw [hown.cellAt j (by omega), List.getElem?_map, List.getElem?_eq_getElem (by omega), getD_lt _ _ _ (by omega)]; rfl
          have c4 := hown.frozenAt j
          obtain ⟨hs1, _⟩ := hown.stored j (.int .i64 (fs.getD k 0))
          rw [← List.map_set, ← hu] at hs1
          have Hs1 := Lib.hid hs1
          have Hb2 := Lib.hid (hb.setCell (p := ⟨w1.heap.size, j, none⟩) hz (.int .i64 (fs.getD k 0)))
          have Ho2 := Lib.hid (ho.step' ⟨w1.heap.size, j, none⟩ (.int .i64 (fs.getD k 0)) (Nat.le_refl _) hb1)
          clear hc hcc hown hb ho hs1 hu hul
          generalize fs.getD k 0 = y at *
          generalize (unrR fs bs k).getD j 0 = z at *
          go_wp2
          go_roundw
          case rel => exact ⟨k + 1, by omega, by go_num, Hs1.out, Hb2.out, Ho2.out⟩
          case measure => simp [intOf]; omega
        · obtain rfl : k = n' := by omega
          have Hown4 := Lib.hid hown
          have Hb := Lib.hid hb
          clear hown hb ho
          go_wp2
          go_ret2
          exact ⟨_, rfl, Sw.of_owns Hown4.out (Hlu.out k), Hb.out⟩
    · obtain ⟨e1, e2⟩ := unr_no fs bs (fun hh => hl hh.2)
      rw [e1, e2]
      have dl : ((bs.length : Int) != (fs.length : Int)) = true := by simp; omega
      clear hd e1 e2 hl
      go_enter Try.func37, Try.ntmps37
      go_wp2_with fail
      refine (deckI_yes fs _ _ hn Hs.out Hd.out).mono ?_
      rintro e w1 ⟨rfl, hb⟩
      have Hb := Lib.hid hb
      clear hb
      go_wp2
      go_ret2
      exact ⟨_, rfl, Sw.nil _ _ _ _ _ _ _, Hb.out⟩
end Go.Proofs.Ytfjokclhbbndaaa
