/- Contracts: riffles and what leads back, in the model's text. -/
import Derived.Test.YtfjokclhbbndaaaDg
set_option linter.unusedVariables false
namespace Go.Proofs.Ytfjokclhbbndaaa
open Go.RowKit

set_option maxHeartbeats 1000000 in
theorem spec_RiffleBy (fs : List Int) (v : Value) (bs : List Bool) (u : Value) (w : World) (hn : fs.length ≤ 1048576) (h : Sl (Value.int .i64) 0 w v fs) (hn' : bs.length ≤ 1048576) (h' : Sl Value.bool false w u bs) :
    Calls Try.prog 31 #[v, u] w fun e w' => ∃ r, e = .returned (.tuple #[r, .bool (ok_RiffleBy fs bs)]) ∧ Sw (Value.int .i64) 0 w' r (res_RiffleBy fs bs) w.heap.size w'.heap.size ∧ Below w.heap.size w w' := by
  have Hs := Lib.hid h
  obtain ⟨p, cap, rfl, hf⟩ := h
  obtain ⟨q, cap', rfl, hf'⟩ := h'
  have Hf := Lib.hid hf
  have Hf' := Lib.hid hf'
  clear hf hf'
  cases hd : deckB fs
  · obtain ⟨e1, e2⟩ := rif_no fs bs (fun hh => by rw [hd] at hh; exact absurd hh.1 Bool.false_ne_true)
    rw [e1, e2]
    have Hd := Lib.hid (deck_no fs _ w hn Hs.out hd)
    clear hd e1 e2
    go_enter Try.func31, Try.ntmps31
    go_wp2_with (first | (go_at_call 46; refine Hd.out.mono ?_; rintro e w' ⟨rfl, m, rfl⟩))
    go_ret2
    exact ⟨_, rfl, Sw.nil _ _ _ _ _ _ _, below_drewN (Below.refl _ _) _⟩
  · have Hd := Lib.hid (deck_yes fs _ w hn Hs.out hd)
    by_cases hl : bs.length = fs.length
    · obtain ⟨e1, e2⟩ := rif_yes fs bs hd hl
      rw [e1, e2]
      obtain ⟨l1, l2, _⟩ := deckB_len hd
      have dl : ((bs.length : Int) != (fs.length : Int)) = false := by rw [hl]; simp
      have hst := cntF_succ_t bs
      have hsf := cntF_succ_f bs
      have hbt := befG_t bs
      have hbf := befG_f bs
      have hbl := befG_lt bs
      have hle := cntF_le bs
      have hll := cntF_le bs bs.length
      obtain ⟨i0, hi, hz0, hz1, hz2⟩ := info_parts (show (Try.prog.info? 2).map (fun i => (i.zero, i.size, i.bytes)) = some (some (.int .i64 0), 1, 8) by kernel_rfl)
      generalize hlen : fs.length = n at *
      generalize hlen' : bs.length = n' at *
      subst hl
      generalize hC : cntF bs n' = C at *
      have Hlen := Lib.hid hlen
      have Hlen' := Lib.hid hlen'
      have HC := Lib.hid hC
      have Hst := Lib.hid hst
      have Hsf := Lib.hid hsf
      have Hbt := Lib.hid hbt
      have Hbf := Lib.hid hbf
      have Hbl := Lib.hid hbl
      have Hle := Lib.hid hle
      clear hlen hlen' hC hst hsf hbt hbf hbl hle hd e1 e2
      go_enter Try.func31, Try.ntmps31
      go_wp2_with fail
      refine Hd.out.mono ?_
      rintro e w1 ⟨rfl, g1⟩
      have G1 := Lib.hid g1
      clear g1
      go_wp2
      go_loop [6, 7] (fun up i => ∃ k : Nat, k ≤ n' ∧ i = .int .i64 k ∧ up = .int .i64 ((cntF bs k : Nat) : Int)) (fun _ i => n' - (intOf i).toNat)
      case atStart => exact ⟨0, Nat.zero_le _, rfl, rfl⟩
      case round =>
        obtain ⟨k, hk, rfl, rfl⟩ := hrel
        have hle := Hle.out k
        by_cases hlt : k < n'
        · obtain ⟨hcap, b, off, rfl, hbs, hc⟩ := Hf'.out (by omega)
          have c1 : w1.cell? ⟨b, off + k, none⟩ = some (.bool (bs.getD k false)) := by rw [G1.out.cell]; exact hc k hlt
          clear hc
          have h1 := Hst.out k
          have h2 := Hsf.out k
          generalize bs.getD k false = x at *
          cases x
          · have H2 := Lib.hid (h2 rfl)
            clear h1 h2
            go_wp2
            go_round
            case rel => exact ⟨k + 1, by omega, by go_num, by rw [H2.out]; go_num⟩
            case measure => simp [intOf]; omega
          · have H1 := Lib.hid (h1 rfl)
            clear h1 h2
            go_wp2
            go_round
            case rel => exact ⟨k + 1, by omega, by go_num, by rw [H1.out]⟩
            case measure => simp [intOf]; omega
        · obtain rfl : k = n' := by omega
          rw [HC.out] at *
          go_wp2
          go_loopw [8, 9, 10, 11] (fun out one two i wr => ∃ j : Nat, j ≤ k ∧ i = .int .i64 j ∧ one = .int .i64 ((cntF bs j : Nat) : Int) ∧ two = .int .i64 ((C + (j - cntF bs j) : Nat) : Int) ∧ wr.ownsRow w.heap.size 2 1 out j ((tab j (rifG fs bs)).map (Value.int .i64)) ∧ Below w.heap.size w wr) (fun _ _ _ i _ => k - (intOf i).toNat)
          case atStart => exact ⟨0, Nat.zero_le _, rfl, rfl, by simp [cntF], own_zero w1 _ _ _ (by rw [G1.out.heap]; exact Nat.le_refl _), (G1.out.below _).alloc (by rw [G1.out.heap]; exact Nat.le_refl _) _⟩
          case round =>
            obtain ⟨j, hj, rfl, rfl, rfl, hown, hb⟩ := hrel
            have hle2 := Hle.out j
            have Hown := Lib.hid hown
            have Hb := Lib.hid hb
            have hsz := hb.size
            by_cases hlt2 : j < k
            · obtain ⟨hcap, b, off, rfl, hbs, hc⟩ := Hf'.out (by omega)
              obtain ⟨hcap', b', off', rfl, hbs', hc'⟩ := Hf.out (by omega)
              have c1 : wr.cell? ⟨b, off + j, none⟩ = some (.bool (bs.getD j false)) := by rw [hb.cell hbs]; exact hc j hlt2
              have c2 : wr.cell? ⟨b', off' + befG bs j, none⟩ = some (.int .i64 (rifG fs bs j)) := by rw [hb.cell hbs']; exact hc' _ (Hbl.out j hlt2)
              have hblt := Hbl.out j hlt2
              clear hc hc' hown hb
              have h1 := Hst.out j
              have h2 := Hsf.out j
              have h3 := Hbt.out j
              have h4 := Hbf.out j
              generalize hy : rifG fs bs j = y at *
              have Hy := Lib.hid hy
              clear hy
              generalize bs.getD j false = x at *
              cases x
              · have H2 := Lib.hid (h2 rfl)
                rw [h4 rfl] at c2 hblt
                clear h1 h2 h3 h4
                go_wp2_with (at_builtin; refine wpList_append_own _ rfl _ _ 22 rfl w.heap.size 2 i0 (.int .i64 0) 1 8 (by kernel_rfl) hi hz0 hz1 hz2 rfl (by decide) _ _ _ rfl (Hown.out.alloc _) ⟨wr.heap.size, 0, none⟩ 1 1 [.int .i64 (y)] rfl rfl (cell_one_new _ _ _) (one_int _) (by unfold maxLen; omega) (by omega) (by simp; omega) ?_; intro v2 w2 hown2 hgrow2 _)
                rw [← Hy.out] at hown2
                have Hown2 := Lib.hid (own_snoc hown2)
                have Hb2 := Lib.hid ((Hb.out.alloc (by omega) _).grown hgrow2 (by simp; omega) (fun b hb => (Hown.out.lt b hb).1))
                clear hown2 hgrow2
                go_wp2
                go_roundw
                case rel => exact ⟨j + 1, by omega, by go_num, by rw [H2.out]; go_num, by rw [H2.out]; go_num, Hown2.out, Hb2.out⟩
                case measure => simp [intOf]; omega
              · have H1 := Lib.hid (h1 rfl)
                rw [h3 rfl] at c2 hblt
                clear h1 h2 h3 h4
                go_wp2_with (at_builtin; refine wpList_append_own _ rfl _ _ 22 rfl w.heap.size 2 i0 (.int .i64 0) 1 8 (by kernel_rfl) hi hz0 hz1 hz2 rfl (by decide) _ _ _ rfl (Hown.out.alloc _) ⟨wr.heap.size, 0, none⟩ 1 1 [.int .i64 (y)] rfl rfl (cell_one_new _ _ _) (one_int _) (by unfold maxLen; omega) (by omega) (by simp; omega) ?_; intro v2 w2 hown2 hgrow2 _)
                rw [← Hy.out] at hown2
                have Hown2 := Lib.hid (own_snoc hown2)
                have Hb2 := Lib.hid ((Hb.out.alloc (by omega) _).grown hgrow2 (by simp; omega) (fun b hb => (Hown.out.lt b hb).1))
                clear hown2 hgrow2
                go_wp2
                go_roundw
                case rel => exact ⟨j + 1, by omega, by go_num, by rw [H1.out], by rw [H1.out]; go_num, Hown2.out, Hb2.out⟩
                case measure => simp [intOf]; omega
            · obtain rfl : j = k := by omega
              clear hown hb
              go_wp2
              go_ret2
              exact ⟨_, rfl, Sw.of_owns Hown.out (tab_len _ _), Hb.out⟩
    · obtain ⟨e1, e2⟩ := rif_no fs bs (fun hh => hl hh.2)
      rw [e1, e2]
      have dl : ((bs.length : Int) != (fs.length : Int)) = true := by simp; omega
      clear hd e1 e2 hl
      go_enter Try.func31, Try.ntmps31
      go_wp2_with fail
      refine Hd.out.mono ?_
      rintro e w1 ⟨rfl, g1⟩
      have G1 := Lib.hid g1
      clear g1
      go_wp2
      go_ret2
      exact ⟨_, rfl, Sw.nil _ _ _ _ _ _ _, G1.out.below _⟩
end Go.Proofs.Ytfjokclhbbndaaa
