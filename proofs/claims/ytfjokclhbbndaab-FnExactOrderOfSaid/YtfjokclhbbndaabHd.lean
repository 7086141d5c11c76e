/- Contracts: cycles of a deck, in the program. -/
import Derived.Test.YtfjokclhbbndaabHc
import Derived.Test.YtfjokclhbbndaabEg
import Derived.WalkMore
set_option linter.unusedVariables false
namespace Go.Proofs.Ytfjokclhbbndaab
open Go.RowKit

def SortOk : Prop := ∀ (base : Nat) (v : Value) (zs : List Int) (w : World), base ≤ w.heap.size → 1 ≤ zs.length → zs.length ≤ 1048576 → w.ownsRow base 2 1 v zs.length (zs.map (Value.int .i64)) →
    Calls Try.prog 47 #[v] w fun e w' => e = .returned (.tuple #[]) ∧ w'.ownsRow base 2 1 v zs.length ((sortI zs).map (Value.int .i64)) ∧ Below base w w'
theorem cycL_pos {fs : List Int} (h : deckB fs = true) : 1 ≤ (cycL fs fs.length).length := by
  have hl := (deckB_len h).1
  obtain ⟨p1, pn, hp, _⟩ := per_spec (fN_lt h) (fN_inj h) (show 0 < fs.length by omega)
  have h0 : leastB fs.length (fN fs) 0 = true := least_yes p1 hp (fun j _ => Nat.zero_le _)
  unfold cycL
  rw [List.length_map]
  exact List.length_pos_of_mem (List.mem_filter.2 ⟨List.mem_range.2 (show 0 < fs.length by omega), h0⟩)

set_option maxHeartbeats 4000000 in
theorem cyc_impl (HS : Hid SortOk) (fs : List Int) (v : Value) (w : World) (hn : fs.length ≤ 1048576) (h : Sl (Value.int .i64) 0 w v fs) (hd : deckB fs = true) :
    Calls Try.prog 22 #[v] w fun e w' => ∃ r, e = .returned (.tuple #[r, .bool true]) ∧ Sw (Value.int .i64) 0 w' r (sortI (cycL fs fs.length)) w.heap.size w'.heap.size ∧ Below w.heap.size w w' := by
  have Hd := Lib.hid (deckI_yes fs v w hn h hd)
  have Hs := Lib.hid h
  obtain ⟨p, cap, rfl, hf⟩ := h
  have Hf := Lib.hid hf
  clear hf
  have Hlt := Lib.hid (fN_lt hd)
  have Hint := Lib.hid (fN_int hd)
  have Hper : Hid (∀ q, q < fs.length → 1 ≤ perF fs.length (fN fs) q ∧ perF fs.length (fN fs) q ≤ fs.length ∧ itF (fN fs) q (perF fs.length (fN fs) q) = q ∧ ∀ k, 1 ≤ k → k < perF fs.length (fN fs) q → itF (fN fs) q k ≠ q) := Lib.hid (fun q hq => per_spec (fN_lt hd) (fN_inj hd) hq)
  have Hit : Hid (∀ q, q < fs.length → ∀ k, itF (fN fs) q k < fs.length) := Lib.hid (fun q hq k => itF_lt (fN_lt hd) hq k)
  have Hy := Lib.hid (cycL_yes fs)
  have Hno := Lib.hid (cycL_no fs)
  have Hcl := Lib.hid (cycL_len fs)
  have Hpos := Lib.hid (cycL_pos hd)
  have h52 := (deckB_len hd).2.1
  clear hd
  obtain ⟨i0, hi, hz0, hz1, hz2⟩ := info_parts (show (Try.prog.info? 2).map (fun i => (i.zero, i.size, i.bytes)) = some (some (.int .i64 0), 1, 8) by kernel_rfl)
  generalize hlen : fs.length = n at *
  have Hlen := Lib.hid hlen
  clear hlen
  go_enter Try.func22, Try.ntmps22
  go_wp2
  go_step3
  go_wp2_with fail
  refine Hd.out.mono ?_
  rintro e w1 ⟨rfl, hb1⟩
  have Hb1 := Lib.hid hb1
  have hzb := hb1.size
  clear hb1
  go_wp2
  go_step3
  go_wp2
  go_loopw [4, 13] (fun ls i wr => ∃ q : Nat, q ≤ n ∧ i = .int .i64 (q : Int) ∧ wr.ownsRow w.heap.size 2 1 ls (cycL fs q).length ((cycL fs q).map (Value.int .i64)) ∧ Below w.heap.size w wr) (fun _ i _ => n - (intOf i).toNat)
  case atStart => exact ⟨0, Nat.zero_le _, rfl, World.ownsRow_nil _ _ _ _, Hb1.out⟩
  case round =>
    obtain ⟨q, hq, rfl, hown, hb⟩ := hrel
    have Hown := Lib.hid hown
    have Hb := Lib.hid hb
    have hsz := hb.size
    clear hown hb
    by_cases hlt : q < n
    · obtain ⟨hcap, b, off, rfl, hbs, hc⟩ := Hf.out (by omega)
      have Hc : Hid (∀ x, x < n → wr.cell? ⟨b, off + x, none⟩ = some (.int .i64 (fN fs x : Int))) := Lib.hid (fun x hx => by rw [Hb.out.cell hbs, hc x hx, Hint.out x hx])
      have c0 := Hc.out q hlt
      obtain ⟨p1, pn, hp, hne⟩ := Hper.out q hlt
      have Hp := Lib.hid hp
      have Hne := Lib.hid hne
      have HitQ := Lib.hid (Hit.out q hlt)
      have HyQ := Lib.hid (Hy.out q)
      have HnoQ := Lib.hid (Hno.out q)
      have hcl := Hcl.out q
      have Hs1 := Lib.hid (show itF (fN fs) q 1 = fN fs q from rfl)
      have Hss := Lib.hid (fun k => (show itF (fN fs) q (k + 1) = fN fs (itF (fN fs) q k) from rfl))
      clear hc hp hne
      rw [← Hs1.out] at c0
      generalize perF n (fN fs) q = per at *
      generalize hL : cycL fs q = L at *
      have HL := Lib.hid hL
      clear hL
      go_wp2
      go_loop [6, 7] (fun len pl => ∃ k : Nat, 1 ≤ k ∧ k ≤ per ∧ len = .int .i64 (k : Int) ∧ pl = .int .i64 ((itF (fN fs) q k : Nat) : Int) ∧ Hid (∀ j, j < k → q ≤ itF (fN fs) q j)) (fun len _ => n + 1 - (intOf len).toNat)
      case atStart => exact ⟨1, Nat.le_refl _, p1, rfl, rfl, Lib.hid (fun j hj => by cases j with | zero => exact Nat.le_refl _ | succ j => omega)⟩
      case round =>
        obtain ⟨k, hk1, hkp, rfl, rfl, hmin⟩ := hrel
        have hxl := HitQ.out k
        have cx := Hc.out (itF (fN fs) q k) hxl
        rw [← Hss.out] at cx
        have HneK := Lib.hid (Hne.out k hk1)
        generalize hx : itF (fN fs) q k = x at *
        have Hx := Lib.hid hx
        clear hx
        by_cases hxq : x = q
        · have hkper : k = per := by
            by_cases e : k < per
            · exact absurd hxq (HneK.out e)
            · omega
          subst hxq
          subst hkper
          have Hyy := Lib.hid (HyQ.out (by
            refine least_yes p1 Hp.out hmin.out))
          have dq : (((x : Int)) != (x : Int)) = false := by simp
          go_wp2_with (at_builtin; refine wpList_append_own _ rfl _ _ 22 rfl w.heap.size 2 i0 (.int .i64 0) 1 8 (by kernel_rfl) hi hz0 hz1 hz2 rfl (by decide) _ _ _ rfl (Hown.out.alloc _) ⟨wr.heap.size, 0, none⟩ 1 1 [.int .i64 ((k : Int))] rfl rfl (cell_one_new _ _ _) (one_int _) (by unfold maxLen; omega) (by omega) (by simp; omega) ?_; intro v2 w2 hown2 hgrow2 _)
          have Hown2 := Lib.hid hown2
          have Hb2 := Lib.hid ((Hb.out.alloc (by omega) _).grown hgrow2 (by simp; omega) (fun b hb => (Hown.out.lt b hb).1))
          clear hown2 hgrow2
          go_wp2
          go_roundw
          case rel => exact ⟨x + 1, by omega, by go_num, by rw [Hyy.out, List.length_append, List.map_append]; exact Hown2.out, Hb2.out⟩
          case measure => simp [intOf]; omega
        · have hkp2 : k < per := by
            by_cases e : k < per
            · exact e
            · exfalso; apply hxq; rw [← Hx.out, show k = per by omega]; exact Hp.out
          have dne : ((x : Int) = (q : Int)) = False := eq_false (by omega)
          by_cases hxs : x < q
          · have Hnn := Lib.hid (HnoQ.out (least_no (k := k) (by omega) (by rw [Hx.out]; exact hxs)))
            go_wp2
            go_roundw
            case rel => exact ⟨q + 1, by omega, by go_num, by rw [Hnn.out]; exact Hown.out, Hb.out⟩
            case measure => simp [intOf]; omega
          · go_wp2
            go_round
            case rel => exact ⟨k + 1, by omega, by omega, by go_num, rfl, Lib.hid fun j hj => by
              by_cases e : j = k
              · subst e; rw [Hx.out]; omega
              · exact hmin.out j (by omega)⟩
            case measure => simp [intOf]; omega
    · obtain rfl : q = n := by omega
      have hcl := Hcl.out q
      have Hso := Lib.hid (HS.out w.heap.size _ (cycL fs q) wr hsz Hpos.out (by omega) Hown.out)
      go_wp2_with fail
      refine Hso.out.mono ?_
      rintro e w2 ⟨rfl, hown2, hb2⟩
      have Hown2 := Lib.hid hown2
      have Hb2 := Lib.hid hb2
      clear hown2 hb2
      go_wp2
      try rw [Exit.noGoto_ret]
      go_ret2
      exact ⟨_, rfl, Sw.of_owns Hown2.out (sortI_len _), Hb.out.trans Hb2.out⟩
end Go.Proofs.Ytfjokclhbbndaab
