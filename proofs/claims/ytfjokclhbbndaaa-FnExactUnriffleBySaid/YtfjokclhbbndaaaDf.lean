/- Contracts: riffles, in both texts. -/
import Derived.Test.YtfjokclhbbndaaaDd
set_option linter.unusedVariables false
namespace Go.Proofs.Ytfjokclhbbndaaa
open Go.RowKit

theorem rif_yes (fs : List Int) (bs : List Bool) (h1 : deckB fs = true) (h2 : bs.length = fs.length) : ok_RiffleBy fs bs = true ∧ res_RiffleBy fs bs = tab fs.length (rifG fs bs) := by
  unfold ok_RiffleBy res_RiffleBy; rw [h1, decide_eq_true h2, if_pos ⟨rfl, h2⟩]; exact ⟨rfl, rfl⟩
theorem rif_no (fs : List Int) (bs : List Bool) (h : ¬ (deckB fs = true ∧ bs.length = fs.length)) : ok_RiffleBy fs bs = false ∧ res_RiffleBy fs bs = [] := by
  unfold ok_RiffleBy res_RiffleBy; rw [if_neg h]; refine ⟨?_, rfl⟩
  rw [Bool.eq_false_iff]; intro h'; simp only [Bool.and_eq_true, decide_eq_true_eq] at h'; exact h h'
theorem len_RiffleBy (fs : List Int) (bs : List Bool) : (res_RiffleBy fs bs).length ≤ 1048576 := by
  unfold res_RiffleBy
  split
  · rename_i h; rw [tab_len]; have := (deckB_len h.1).2.1; omega
  · exact Nat.zero_le _
theorem unr_yes (fs : List Int) (bs : List Bool) (h1 : deckB fs = true) (h2 : bs.length = fs.length) : ok_UnriffleBy fs bs = true ∧ res_UnriffleBy fs bs = unrR fs bs bs.length := by
  unfold ok_UnriffleBy res_UnriffleBy; rw [h1, decide_eq_true h2, if_pos ⟨rfl, h2⟩]; exact ⟨rfl, rfl⟩
theorem unr_no (fs : List Int) (bs : List Bool) (h : ¬ (deckB fs = true ∧ bs.length = fs.length)) : ok_UnriffleBy fs bs = false ∧ res_UnriffleBy fs bs = [] := by
  unfold ok_UnriffleBy res_UnriffleBy; rw [if_neg h]; refine ⟨?_, rfl⟩
  rw [Bool.eq_false_iff]; intro h'; simp only [Bool.and_eq_true, decide_eq_true_eq] at h'; exact h h'
theorem len_UnriffleBy (fs : List Int) (bs : List Bool) : (res_UnriffleBy fs bs).length ≤ 1048576 := by
  unfold res_UnriffleBy
  split
  · rename_i h; rw [unrR_len]; have := (deckB_len h.1).2.1; omega
  · exact Nat.zero_le _
def befL (bs : List Bool) : List Int := tab bs.length fun k => (befG bs k : Int)
theorem cntF_succ_t (bs : List Bool) (k : Nat) (h : bs.getD k false = true) : cntF bs (k + 1) = cntF bs k := by simp only [cntF, if_pos h]; omega
theorem cntF_succ_f (bs : List Bool) (k : Nat) (h : bs.getD k false = false) : cntF bs (k + 1) = cntF bs k + 1 := by simp only [cntF, h]; simp
theorem befG_t (bs : List Bool) (k : Nat) (h : bs.getD k false = true) : befG bs k = cntF bs bs.length + (k - cntF bs k) := by unfold befG; rw [if_pos h]
theorem befG_f (bs : List Bool) (k : Nat) (h : bs.getD k false = false) : befG bs k = cntF bs k := by unfold befG; rw [if_neg (by rw [h]; exact Bool.false_ne_true)]

set_option maxHeartbeats 1000000 in
theorem before_any (bs : List Bool) (v : Value) (w : World) (hn : bs.length ≤ 1048576) (h : Sl Value.bool false w v bs) :
    Calls Try.prog 59 #[v] w fun e w' => ∃ r, e = .returned r ∧ Sw (Value.int .i64) 0 w' r (befL bs) w.heap.size w'.heap.size ∧ Below w.heap.size w w' := by
  obtain ⟨p, cap, rfl, hf⟩ := h
  obtain ⟨i0, hi, hz0, hz1, hz2⟩ := info_parts (show (Try.prog.info? 3).map (fun i => (i.zero, i.size, i.bytes)) = some (some (.int .i64 0), 1, 8) by kernel_rfl)
  have Hf := Lib.hid hf
  clear hf
  have hst := cntF_succ_t bs
  have hsf := cntF_succ_f bs
  have hbt := befG_t bs
  have hbf := befG_f bs
  have hle := cntF_le bs
  have hll := cntF_le bs bs.length
  unfold befL
  generalize hlen : bs.length = n at *
  generalize hC : cntF bs n = C at *
  have Hlen := Lib.hid hlen
  have HC := Lib.hid hC
  have Hst := Lib.hid hst
  have Hsf := Lib.hid hsf
  have Hbt := Lib.hid hbt
  have Hbf := Lib.hid hbf
  have Hle := Lib.hid hle
  clear hlen hC hst hsf hbt hbf hle
  go_enter Try.func59, Try.ntmps59
  go_wp2
  go_loop [4, 12] (fun lo i => ∃ k : Nat, k ≤ n ∧ i = .int .i64 k ∧ lo = .int .i64 ((cntF bs k : Nat) : Int)) (fun _ i => n - (intOf i).toNat)
  case atStart => exact ⟨0, Nat.zero_le _, rfl, rfl⟩
  case round =>
    obtain ⟨k, hk, rfl, rfl⟩ := hrel
    have hle := Hle.out k
    by_cases hlt : k < n
    · obtain ⟨hcap, b, off, rfl, hbs, hc⟩ := Hf.out (by omega)
      have c1 := hc k hlt
      clear hc
      have h1 := Hst.out k
      have h2 := Hsf.out k
      generalize bs.getD k false = x at *
      cases x
      · have H2 := Lib.hid (h2 rfl)
        clear h1 h2
        go_wp2
        go_round
        case rel => exact ⟨k + 1, by omega, by go_num, by rw [H2.out]; go_num⟩
        case measure => simp [intOf]; omega
      · have H1 := Lib.hid (h1 rfl)
        clear h1 h2
        go_wp2
        go_round
        case rel => exact ⟨k + 1, by omega, by go_num, by rw [H1.out]⟩
        case measure => simp [intOf]; omega
    · obtain rfl : k = n := by omega
      rw [HC.out] at *
      go_wp2_with (at_make; refine wpList_make_full _ rfl _ _ 55 rfl w.heap.size 3 i0 (.int .i64 0) 1 (by kernel_rfl) hi hz0 hz1 .i64 .i64 k k k rfl rfl rfl rfl (by rw [hz2]; omega) (by unfold maxLen; omega) (Nat.le_refl _) ?_; intro w1 hown hgrow)
      have hbel : Below w.heap.size w w1 := (Below.refl _ w).grown hgrow (Nat.le_refl _) (by simp)
      have Hown := Lib.hid hown
      have Hbel := Lib.hid hbel
      clear hown hbel hgrow
      go_loopw [3, 4, 26] (fun up lo i wr => ∃ j : Nat, j ≤ k ∧ i = .int .i64 j ∧ up = .int .i64 ((cntF bs j : Nat) : Int) ∧ lo = .int .i64 ((C + (j - cntF bs j) : Nat) : Int) ∧ wr.ownsRow w.heap.size 3 1 (.slice (some ⟨w.heap.size, 0, none⟩) k k) k ((filled k (fun i => (befG bs i : Int)) j).map (Value.int .i64)) ∧ Below w.heap.size w wr) (fun _ _ i _ => k - (intOf i).toNat)
      case atStart =>
        refine ⟨0, Nat.zero_le _, rfl, rfl, by simp [cntF], ?_, Hbel.out⟩
        have h0 := Hown.out
        have e : (madeCells (Value.int .i64 0).cells (k * 1)).toList = (filled k (fun i => (befG bs i : Int)) 0).map (Value.int .i64) := by
          rw [filled_zero, Nat.mul_one, List.map_replicate]
          exact made1 _ k
        rw [e] at h0
        exact h0
      case round =>
        obtain ⟨j, hj, rfl, rfl, rfl, hown, hb⟩ := hrel
        have hle2 := Hle.out j
        by_cases hlt2 : j < k
        · obtain ⟨hcap, b, off, rfl, hbs, hc⟩ := Hf.out (by omega)
          have c1 : wr.cell? ⟨b, off + j, none⟩ = some (.bool (bs.getD j false)) := by rw [hb.cell hbs]; exact hc j hlt2
          have c2 : wr.cell? ⟨w.heap.size, j, none⟩ = some (.int .i64 0) := by
            rw [hown.cellAt j (by omega), List.getElem?_map, filled_at k _ j hlt2]; rfl
          have c3 := hown.frozenAt j
          obtain ⟨hs1, _⟩ := hown.stored j (.int .i64 ((befG bs j : Nat) : Int))
          rw [← List.map_set, filled_set k (fun i => (befG bs i : Int)) j hlt2] at hs1
          have Hb := Lib.hid hb
          have hsz := hb.size
          clear hc hown hb
          have h1 := Hst.out j
          have h2 := Hsf.out j
          have h3 := Hbt.out j
          have h4 := Hbf.out j
          generalize bs.getD j false = x at *
          cases x
          · have H2 := Lib.hid (h2 rfl)
            have H4 := h4 rfl
            rw [H4] at hs1
            have Hs1 := Lib.hid hs1
            clear h1 h2 h3 h4 H4 hs1
            go_wp2
            go_roundw
            case rel => exact ⟨j + 1, by omega, by go_num, by rw [H2.out]; go_num, by rw [H2.out]; go_num, Hs1.out, Hb.out.setCell (Nat.le_refl _) _⟩
            case measure => simp [intOf]; omega
          · have H1 := Lib.hid (h1 rfl)
            have H3 := h3 rfl
            rw [H3] at hs1
            have Hs1 := Lib.hid hs1
            clear h1 h2 h3 h4 H3 hs1
            go_wp2
            go_roundw
            case rel => exact ⟨j + 1, by omega, by go_num, by rw [H1.out], by rw [H1.out]; go_num, Hs1.out, Hb.out.setCell (Nat.le_refl _) _⟩
            case measure => simp [intOf]; omega
        · obtain rfl : j = k := by omega
          have Hown2 := Lib.hid hown
          have Hb := Lib.hid hb
          clear hown hb
          go_wp2
          go_ret
          have h0 := Hown2.out
          rw [filled_done] at h0
          exact ⟨_, rfl, Sw.of_owns h0 (tab_len _ _), Hb.out⟩
theorem clo_rif (fs gs : List Int) (v u : Value) (b1 b2 k n : Nat) (w : World) (hfn : fs.length = n) (hgn : gs.length = n) (hk : k < n) (hn : n ≤ 1048576) (hy0 : 0 ≤ gs.getD k 0) (hy1 : gs.getD k 0 < n)
    (c1 : w.cell? ⟨b1, 0, none⟩ = some v) (c2 : w.cell? ⟨b2, 0, none⟩ = some u) (hs : Sl (Value.int .i64) 0 w v fs) (hg : Sl (Value.int .i64) 0 w u gs) :
    Calls Try.prog 60 #[.int .i64 (k : Int), .pointer (some ⟨b1, 0, none⟩), .pointer (some ⟨b2, 0, none⟩)] w fun e w' => e = .returned (.int .i64 (joinG fs gs k)) ∧ Drawn w w' := by
  obtain ⟨p, cap, rfl, hf⟩ := hs
  obtain ⟨q, cap', rfl, hg⟩ := hg
  rw [hfn] at hf c1
  rw [hgn] at hg c2
  clear hfn hgn
  obtain ⟨hcap, b, off, rfl, hbs, hc⟩ := hf (by omega)
  obtain ⟨hcap', b', off', rfl, hbs', hc'⟩ := hg (by omega)
  have c4 := hc' k hk
  unfold joinG
  generalize gs.getD k 0 = y at *
  have c3 := hc y.toNat (by omega)
  clear hc hf hc' hg
  generalize fs.getD y.toNat 0 = z at *
  go_enter Try.func60, Try.ntmps60
  go_wp2
  go_quiet (fail)
  go_wp2
  go_ret
  exact ⟨rfl, _, rfl⟩
end Go.Proofs.Ytfjokclhbbndaaa
