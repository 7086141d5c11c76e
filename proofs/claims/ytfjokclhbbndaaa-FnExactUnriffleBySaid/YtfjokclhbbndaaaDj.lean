/- Contracts: what leads back from riffles, in the model's text. -/
import Derived.Test.YtfjokclhbbndaaaDh
set_option linter.unusedVariables false
namespace Go.Proofs.Ytfjokclhbbndaaa
open Go.RowKit

theorem pick_t (fs : List Int) (bs : List Bool) (k : Nat) (h : bs.getD k false = true) : pickR fs bs true (k + 1) = pickR fs bs true k ++ [fs.getD k 0] ∧ pickR fs bs false (k + 1) = pickR fs bs false k := by
  simp only [pickR, h]; simp
theorem pick_f (fs : List Int) (bs : List Bool) (k : Nat) (h : bs.getD k false = false) : pickR fs bs false (k + 1) = pickR fs bs false k ++ [fs.getD k 0] ∧ pickR fs bs true (k + 1) = pickR fs bs true k := by
  simp only [pickR, h]; simp

set_option maxHeartbeats 1000000 in
theorem spec_UnriffleBy (fs : List Int) (v : Value) (bs : List Bool) (u : Value) (w : World) (hn : fs.length ≤ 1048576) (h : Sl (Value.int .i64) 0 w v fs) (hn' : bs.length ≤ 1048576) (h' : Sl Value.bool false w u bs) :
    Calls Try.prog 36 #[v, u] w fun e w' => ∃ r, e = .returned (.tuple #[r, .bool (ok_UnriffleBy fs bs)]) ∧ Sw (Value.int .i64) 0 w' r (res_UnriffleBy fs bs) w.heap.size w'.heap.size ∧ Below w.heap.size w w' := by
  have Hs := Lib.hid h
  obtain ⟨p, cap, rfl, hf⟩ := h
  obtain ⟨q, cap', rfl, hf'⟩ := h'
  have Hf := Lib.hid hf
  have Hf' := Lib.hid hf'
  clear hf hf'
  cases hd : deckB fs
  · obtain ⟨e1, e2⟩ := unr_no fs bs (fun hh => by rw [hd] at hh; exact absurd hh.1 Bool.false_ne_true)
    rw [e1, e2]
    have Hd := Lib.hid (deck_no fs _ w hn Hs.out hd)
    clear hd e1 e2
    go_enter Try.func36, Try.ntmps36
    go_wp2_with (first | (go_at_call 46; refine Hd.out.mono ?_; rintro e w' ⟨rfl, m, rfl⟩))
    go_ret2
    exact ⟨_, rfl, Sw.nil _ _ _ _ _ _ _, below_drewN (Below.refl _ _) _⟩
  · have Hd := Lib.hid (deck_yes fs _ w hn Hs.out hd)
    by_cases hl : bs.length = fs.length
    · obtain ⟨e1, e2⟩ := unr_yes fs bs hd hl
      rw [e1, e2]
      obtain ⟨l1, l2, _⟩ := deckB_len hd
      have dl : ((bs.length : Int) != (fs.length : Int)) = false := by rw [hl]; simp
      have hst := cntF_succ_t bs
      have hsf := cntF_succ_f bs
      have hbt := befG_t bs
      have hbf := befG_f bs
      have hbl := befG_lt bs
      have hle := cntF_le bs
      have hll := cntF_le bs bs.length
      obtain ⟨i0, hi, hz0, hz1, hz2⟩ := info_parts (show (Try.prog.info? 2).map (fun i => (i.zero, i.size, i.bytes)) = some (some (.int .i64 0), 1, 8) by kernel_rfl)
      have Hpt := Lib.hid (pick_t fs bs)
      have Hpf := Lib.hid (pick_f fs bs)
      have Hud := Lib.hid (unr_done fs bs hl)
      generalize hlen : fs.length = n at *
      generalize hlen' : bs.length = n' at *
      subst hl
      have Hlen := Lib.hid hlen
      have Hlen' := Lib.hid hlen'
      have Hst := Lib.hid hst
      have Hsf := Lib.hid hsf
      have Hbt := Lib.hid hbt
      have Hbf := Lib.hid hbf
      have Hbl := Lib.hid hbl
      have Hle := Lib.hid hle
      clear hlen hlen' hst hsf hbt hbf hbl hle hd e1 e2
      go_enter Try.func36, Try.ntmps36
      go_wp2_with fail
      refine Hd.out.mono ?_
      rintro e w1 ⟨rfl, g1⟩
      have G1 := Lib.hid g1
      clear g1
      go_wp2
      go_loopw [6, 7] (fun out i wr => ∃ k : Nat, k ≤ n' ∧ i = .int .i64 k ∧ wr.ownsRow w.heap.size 2 1 out (cntF bs k) ((pickR fs bs false k).map (Value.int .i64)) ∧ Below w.heap.size w wr) (fun _ i _ => n' - (intOf i).toNat)
      case atStart => exact ⟨0, Nat.zero_le _, rfl, own_zero w1 _ _ (fun _ => 0) (by rw [G1.out.heap]; exact Nat.le_refl _), (G1.out.below _).alloc (by rw [G1.out.heap]; exact Nat.le_refl _) _⟩
      case round =>
        obtain ⟨k, hk, rfl, hown, hb⟩ := hrel
        have hle := Hle.out k
        have Hown := Lib.hid hown
        have Hb := Lib.hid hb
        have hsz := hb.size
        by_cases hlt : k < n'
        · obtain ⟨hcap, b, off, rfl, hbs, hc⟩ := Hf'.out (by omega)
          obtain ⟨hcap', b', off', rfl, hbs', hc'⟩ := Hf.out (by omega)
          have c1 : wr.cell? ⟨b, off + k, none⟩ = some (.bool (bs.getD k false)) := by rw [hb.cell hbs]; exact hc k hlt
          have c2 : wr.cell? ⟨b', off' + k, none⟩ = some (.int .i64 (fs.getD k 0)) := by rw [hb.cell hbs']; exact hc' _ hlt
          clear hc hc' hown hb
          have h1 := Hst.out k
          have h2 := Hsf.out k
          have h3 := Hpt.out k
          have h4 := Hpf.out k
          generalize bs.getD k false = x at *
          generalize fs.getD k 0 = y at *
          cases x
          · have H2 := Lib.hid (h2 rfl)
            have H4 := Lib.hid (h4 rfl).1
            clear h1 h2 h3 h4
            go_wp2_with (at_builtin; refine wpList_append_own _ rfl _ _ 22 rfl w.heap.size 2 i0 (.int .i64 0) 1 8 (by kernel_rfl) hi hz0 hz1 hz2 rfl (by decide) _ _ _ rfl (Hown.out.alloc _) ⟨wr.heap.size, 0, none⟩ 1 1 [.int .i64 (y)] rfl rfl (cell_one_new _ _ _) (one_int _) (by unfold maxLen; omega) (by omega) (by simp; omega) ?_; intro v2 w2 hown2 hgrow2 _)
            rw [show [Value.int .i64 y] = [y].map (Value.int .i64) from rfl, ← List.map_append, ← H4.out, ← H2.out] at hown2
            have Hown2 := Lib.hid hown2
            have Hb2 := Lib.hid ((Hb.out.alloc (by omega) _).grown hgrow2 (by simp; omega) (fun b hb => (Hown.out.lt b hb).1))
            clear hown2 hgrow2
            go_wp2
            go_roundw
            case rel => exact ⟨k + 1, by omega, by go_num, Hown2.out, Hb2.out⟩
            case measure => simp [intOf]; omega
          · have H1 := Lib.hid (h1 rfl)
            have H3 := Lib.hid (h3 rfl).2
            clear h1 h2 h3 h4
            go_wp2
            go_roundw
            case rel => exact ⟨k + 1, by omega, by go_num, by rw [H1.out, H3.out]; exact Hown.out, Hb.out⟩
            case measure => simp [intOf]; omega
        · obtain rfl : k = n' := by omega
          clear hown hb
          go_wp2
          go_loopw [6, 8] (fun out i wz => ∃ j : Nat, j ≤ k ∧ i = .int .i64 j ∧ wz.ownsRow w.heap.size 2 1 out (cntF bs k + (j - cntF bs j)) ((pickR fs bs false k ++ pickR fs bs true j).map (Value.int .i64)) ∧ Below w.heap.size w wz) (fun _ i _ => k - (intOf i).toNat)
          case atStart => exact ⟨0, Nat.zero_le _, rfl, by simpa [cntF, pickR] using Hown.out, Hb.out⟩
          case round =>
            obtain ⟨j, hj, rfl, hown, hb⟩ := hrel
            have hle2 := Hle.out j
            clear Hown Hb
            have Hown := Lib.hid hown
            have Hb := Lib.hid hb
            have hsz := hb.size
            by_cases hlt2 : j < k
            · obtain ⟨hcap, b, off, rfl, hbs, hc⟩ := Hf'.out (by omega)
              obtain ⟨hcap', b', off', rfl, hbs', hc'⟩ := Hf.out (by omega)
              have c1 : wr.cell? ⟨b, off + j, none⟩ = some (.bool (bs.getD j false)) := by rw [hb.cell hbs]; exact hc j hlt2
              have c2 : wr.cell? ⟨b', off' + j, none⟩ = some (.int .i64 (fs.getD j 0)) := by rw [hb.cell hbs']; exact hc' _ hlt2
              clear hc hc' hown hb
              have h1 := Hst.out j
              have h2 := Hsf.out j
              have h3 := Hpt.out j
              have h4 := Hpf.out j
              generalize bs.getD j false = x at *
              generalize fs.getD j 0 = y at *
              cases x
              · have H2 := Lib.hid (h2 rfl)
                have H4 := Lib.hid (h4 rfl).2
                clear h1 h2 h3 h4
                go_wp2
                go_roundw
                case rel => exact ⟨j + 1, by omega, by go_num, by rw [H2.out, H4.out, show j + 1 - (cntF bs j + 1) = j - cntF bs j by omega]; exact Hown.out, Hb.out⟩
                case measure => simp [intOf]; omega
              · have H1 := Lib.hid (h1 rfl)
                have H3 := Lib.hid (h3 rfl).1
                clear h1 h2 h3 h4
                go_wp2_with (at_builtin; refine wpList_append_own _ rfl _ _ 22 rfl w.heap.size 2 i0 (.int .i64 0) 1 8 (by kernel_rfl) hi hz0 hz1 hz2 rfl (by decide) _ _ _ rfl (Hown.out.alloc _) ⟨wr.heap.size, 0, none⟩ 1 1 [.int .i64 (y)] rfl rfl (cell_one_new _ _ _) (one_int _) (by unfold maxLen; omega) (by omega) (by simp; omega) ?_; intro v2 w2 hown2 hgrow2 _)
                rw [show [Value.int .i64 y] = [y].map (Value.int .i64) from rfl, ← List.map_append, List.append_assoc, ← H3.out, show cntF bs k + (j - cntF bs j) + 1 = cntF bs k + (j + 1 - cntF bs (j + 1)) by rw [H1.out]; omega] at hown2
                have Hown2 := Lib.hid hown2
                have Hb2 := Lib.hid ((Hb.out.alloc (by omega) _).grown hgrow2 (by simp; omega) (fun b hb => (Hown.out.lt b hb).1))
                clear hown2 hgrow2
                go_wp2
                go_roundw
                case rel => exact ⟨j + 1, by omega, by go_num, Hown2.out, Hb2.out⟩
                case measure => simp [intOf]; omega
            · obtain rfl : j = k := by omega
              clear hown hb
              go_wp2
              go_ret2
              refine ⟨_, rfl, ?_, Hb.out⟩
              have hd2 := Hud.out
              rw [hd2]
              exact Sw.of_owns Hown.out (by rw [List.length_append, pickR_f, pickR_t])
    · obtain ⟨e1, e2⟩ := unr_no fs bs (fun hh => hl hh.2)
      rw [e1, e2]
      have dl : ((bs.length : Int) != (fs.length : Int)) = true := by simp; omega
      clear hd e1 e2 hl
      go_enter Try.func36, Try.ntmps36
      go_wp2_with fail
      refine Hd.out.mono ?_
      rintro e w1 ⟨rfl, g1⟩
      have G1 := Lib.hid g1
      clear g1
      go_wp2
      go_ret2
      exact ⟨_, rfl, Sw.nil _ _ _ _ _ _ _, G1.out.below _⟩
end Go.Proofs.Ytfjokclhbbndaaa
