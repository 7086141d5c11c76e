/- Contracts: who is left behind each round, the model's. -/
import Derived.Test.YtfipcpbibmhjoaaSv
set_option linter.unusedVariables false
namespace Go.Proofs.Ytfipcpbibmhjoaa
open Go.RowKit
theorem own_zeroK (w : World) (base : Nat) (e : TypeId) (hb : base ≤ w.heap.size) : (w.alloc (.cells #[] e)).ownsRow base e 1 (.slice (some ⟨w.heap.size, 0, none⟩) 0 0) 0 [] :=
  World.ownsRow_lit w #[] 0 hb (Nat.zero_le _) rfl
theorem own_laterK {w w' : World} {base : Nat} {e : TypeId} {size : Nat} {v : Value} {n : Nat} {xs : List Value} (h : w.ownsRow base e size v n xs) (hb : Below w.heap.size w w') : w'.ownsRow base e size v n xs :=
  h.kept (row := none) ⟨hb.os, hb.tape, hb.output, hb.size, fun k hk _ => hb.block k hk⟩ (by cases v.ownBlock <;> simp)
theorem own_at {w : World} {base : Nat} {e : TypeId} {v : Value} {n : Nat} {l : List Int} (h : w.ownsRow base e 1 v n (l.map (Value.int .i64))) (hl : l.length = n) (h0 : 0 < n) :
    ∃ g cap, v = .slice (some ⟨g, 0, none⟩) n cap ∧ n ≤ cap ∧ base ≤ g ∧ g < w.heap.size ∧ ∀ i, i < n → w.cell? ⟨g, i, none⟩ = some (.int .i64 (l.getD i 0)) := by
  rcases h.2 with ⟨e, hz⟩ | ⟨g, cap', cur, e, hb', hg', hnc, _⟩
  · exfalso; omega
  · subst e
    refine ⟨g, cap', rfl, hnc, hb', (h.lt g rfl).2, fun i hi => ?_⟩
    rw [h.cellAt i (by omega), List.getElem?_map, List.getElem?_eq_getElem (by omega), getD_lt _ 0 _ (by omega)]; rfl
theorem own_monoK {w : World} {base base' : Nat} {e : TypeId} {size : Nat} {v : Value} {n : Nat} {xs : List Value} (h : w.ownsRow base e size v n xs) (hb : base' ≤ base) : w.ownsRow base' e size v n xs :=
  ⟨h.1, h.2.imp id (fun ⟨g, cap, cur, e, hb', r⟩ => ⟨g, cap, cur, e, Nat.le_trans hb hb', r⟩)⟩
theorem tab_snoc (g : Nat → Int) (k : Nat) : (tab k g).map (Value.int .i64) ++ [.int .i64 (g k)] = (tab (k + 1) g).map (Value.int .i64) := by
  rw [tab_succ, List.map_append]; rfl
/-- what is left when g games have been played, and what t games more add -/
theorem left_get (p : Nat) (ws : List Bool) (g t : Nat) (h : 2 * g + t < p + g) : ((cameL p ws g).drop (2 * g)).getD t 0 = (cameL p ws g).getD (2 * g + t) 0 := by
  simp only [List.getD, List.getElem?_drop]
theorem next_more (p : Nat) (ws : List Bool) (g t : Nat) (h : 2 * g + 2 * t + 1 < p + g) :
    ((cameL p ws (g + t)).drop (p + g)).map (Value.int .i64) ++ [.int .i64 (((cameL p ws g).drop (2 * g)).getD (if ws.getD (g + t) false = true then 2 * t else 2 * t + 1) 0)] = ((cameL p ws (g + (t + 1))).drop (p + g)).map (Value.int .i64) := by
  rw [show g + (t + 1) = (g + t) + 1 by omega]
  have e : cameL p ws (g + t + 1) = cameL p ws (g + t) ++ [(cameL p ws (g + t)).getD (if ws.getD (g + t) false = true then 2 * (g + t) else 2 * (g + t) + 1) 0] := rfl
  rw [e, List.drop_append_of_le_length (by rw [cameL_len]; omega), List.map_append]
  congr 1
  cases hw : ws.getD (g + t) false
  · rw [if_neg Bool.false_ne_true, if_neg Bool.false_ne_true, left_get p ws g (2 * t + 1) (by omega)]
    rw [cameL_get p ws g (2 * (g + t) + 1) (by omega) t, show 2 * g + (2 * t + 1) = 2 * (g + t) + 1 by omega]
    rfl
  · rw [if_pos rfl, if_pos rfl, left_get p ws g (2 * t) (by omega)]
    rw [cameL_get p ws g (2 * (g + t)) (by omega) t, show 2 * g + 2 * t = 2 * (g + t) by omega]
    rfl
theorem came_split (p : Nat) (ws : List Bool) (g : Nat) : ∀ d, ∃ ex, cameL p ws (g + d) = cameL p ws g ++ ex ∧ ex.length = d
  | 0 => ⟨[], by simp, rfl⟩
  | d + 1 => by
    obtain ⟨ex, e, hl⟩ := came_split p ws g d
    exact ⟨ex ++ [_], by show cameL p ws (g + d) ++ _ = _; rw [e, List.append_assoc], by simp [hl]⟩
theorem out_more (p : Nat) (ws : List Bool) (g d : Nat) : ((cameL p ws g).drop p).map (Value.int .i64) ++ ((cameL p ws (g + d)).drop (p + g)).map (Value.int .i64) = ((cameL p ws (g + d)).drop p).map (Value.int .i64) := by
  obtain ⟨ex, e, hl⟩ := came_split p ws g d
  have e2 : (cameL p ws g ++ ex).drop (p + g) = ex := by rw [show p + g = (cameL p ws g).length by rw [cameL_len], List.drop_left]
  have e3 : (cameL p ws g ++ ex).drop p = (cameL p ws g).drop p ++ ex := List.drop_append_of_le_length (by rw [cameL_len]; omega)
  rw [e, e2, e3, List.map_append]
set_option maxRecDepth 100000 in
set_option maxHeartbeats 8000000 in
theorem knock_spec (p : Nat) (ws : List Bool) (v : Value) (w : World) (hn : ws.length + 1 = p) (hu : p = 2 ∨ p = 4 ∨ p = 8 ∨ p = 16) (h : Sl Value.bool false w v ws) :
    Calls Try.prog 50 #[v, .int .i64 (p : Int)] w fun e w' => ∃ r, e = .returned (.tuple #[r, .bool true]) ∧ Sw (Value.int .i64) 0 w' r ((cameL p ws ws.length).drop p) w.heap.size w'.heap.size ∧ Below w.heap.size w w' := by
  obtain ⟨i0, hi, hz0, hz1, hz2⟩ := info_parts (show (Try.prog.info? 2).map (fun i => (i.zero, i.size, i.bytes)) = some (some (.int .i64 0), 1, 8) by kernel_rfl)
  have Hsl := Lib.hid h
  obtain ⟨q, cap, rfl, -⟩ := h
  have Hlen := Lib.hid (cameL_len p ws)
  have Hnx := Lib.hid (next_more p ws)
  have Hom := Lib.hid (out_more p ws)
  have H0 := Lib.hid (show cameL p ws 0 = tab p (fun k => (k : Int)) from rfl)
  have Hts := Lib.hid (tab_snoc (fun k => (k : Int)))
  have Hpw : Hid (∀ l, l ≠ 1 → (∃ e, l = 2 ^ e) → l % 2 = 0) := Lib.hid (fun l h1 ⟨e, he⟩ => by
    cases e with
    | zero => omega
    | succ e => rw [he, Nat.pow_succ]; omega)
  have hpe : ∃ e, p = 2 ^ e := by
    rcases hu with rfl | rfl | rfl | rfl
    · exact ⟨1, rfl⟩
    · exact ⟨2, rfl⟩
    · exact ⟨3, rfl⟩
    · exact ⟨4, rfl⟩
  have Hpe := Lib.hid hpe
  clear hpe
  obtain ⟨m, hmm⟩ : ∃ m, m = ws.length := ⟨_, rfl⟩
  rw [← hmm] at hn ⊢
  have Hmm := Lib.hid hmm.symm
  clear hmm
  have h2 : 2 ≤ p := by omega
  have h16 : p ≤ 16 := by omega
  have hne : ((m : Int) != (p : Int) - 1) = false := by rw [show (p : Int) - 1 = (m : Int) by omega]; simp
  have hne2 : ((m : Int) = (p : Int) - 1) = True := eq_true (by omega)
  rcases hu with hu | hu | hu | hu
  · have g0 : True := trivial
    have E2 : ((p : Int) != 2) = false := by rw [hu]; rfl
    have Q2 : ((p : Int) = 2) = True := eq_true (by omega)
    clear hu g0
    go_enter Try.func50, Try.ntmps50
    go_wp2
    have hz := own_zeroK w w.heap.size 2 (Nat.le_refl _)
    have Hown0 := Lib.hid (show (w.alloc (.cells #[] 2)).ownsRow w.heap.size 2 1 (.slice (some ⟨w.heap.size, 0, none⟩) 0 0) 0 ((tab 0 (fun k => (k : Int))).map (Value.int .i64)) from hz)
    have Hb0 := Lib.hid ((Below.refl _ w).alloc (Nat.le_refl _) (.cells #[] 2))
    clear hz
    go_loopw [6, 7] (fun cv i wr => ∃ (k : Nat) (vo : Value), k ≤ p ∧ vo = cv ∧ i = .int .i64 (k : Int) ∧ Hid (wr.ownsRow w.heap.size 2 1 vo k ((tab k (fun k => (k : Int))).map (Value.int .i64))) ∧ Hid (Below w.heap.size w wr)) (fun _ i _ => p - (intOf i).toNat)
    case atStart => exact ⟨0, _, Nat.zero_le _, rfl, rfl, Hown0, Hb0⟩
    case round =>
      obtain ⟨k, vo, hk, rfl, rfl, Hown, Hb⟩ := hrel
      have hsz := Hb.out.size
      by_cases hlt : k < p
      · have HE := Lib.hid (Hts.out k)
        go_wp2_with (at_builtin; refine wpList_append_own _ rfl _ _ 30 rfl w.heap.size 2 i0 (.int .i64 0) 1 8 (by kernel_rfl) hi hz0 hz1 hz2 rfl (by decide) _ _ _ rfl (Hown.out.alloc _) ⟨wr.heap.size, 0, none⟩ 1 1 [.int .i64 (k : Int)] rfl rfl (cell_one_new _ _ _) (one_int _) (by unfold maxLen; omega) (by omega) (by simp; omega) ?_; intro v2 w2 hown2 hgrow2 _)
        rw [HE.out] at hown2
        have Hown2 := Lib.hid hown2
        have Hb2 := Lib.hid ((Hb.out.alloc (by omega) _).grown hgrow2 (by simp; omega) (fun b hb => (Hown.out.lt b hb).1))
        clear hown2 hgrow2
        go_wp2
        go_roundw
        case rel => exact ⟨k + 1, v2, by omega, rfl, by go_num, Hown2, Hb2⟩
        case measure => simp [intOf]; omega
      · obtain rfl : k = p := by omega
        have HL0 := Lib.hid (show wr.ownsRow w.heap.size 2 1 vo k (((cameL k ws 0).drop (2 * 0)).map (Value.int .i64)) by rw [H0.out]; exact Hown.out)
        obtain ⟨wo, rfl⟩ : ∃ z, z = wr := ⟨_, rfl⟩
        clear Hown Hown0 Hb0 hlt
        go_wp2
        have hz := own_zeroK wo w.heap.size 2 hsz
        have HO0 := Lib.hid (show (wo.alloc (.cells #[] 2)).ownsRow w.heap.size 2 1 (.slice (some ⟨wo.heap.size, 0, none⟩) 0 0) 0 (((cameL k ws 0).drop k).map (Value.int .i64)) by rw [List.drop_of_length_le (by rw [Hlen.out]; omega)]; exact hz)
        have HL1 := Lib.hid (HL0.out.alloc (.cells #[] 2))
        have Hb1 := Lib.hid (Hb.out.alloc hsz (.cells #[] 2))
        have Hpow0 : Hid (∃ e, k = 2 ^ e) := Hpe
        clear hz HL0 Hb
        obtain ⟨p, rfl⟩ : ∃ z, z = k := ⟨_, rfl⟩
        go_loopw [6, 8, 9] (fun lv ov gv wr => ∃ (g l : Nat) (vl vo : Value), g < p ∧ vl = lv ∧ vo = ov ∧ gv = .int .i64 (g : Int) ∧ Hid (g + l = p) ∧ Hid (∃ e, l = 2 ^ e) ∧ Hid (wr.ownsRow w.heap.size 2 1 vl l (((cameL p ws g).drop (2 * g)).map (Value.int .i64))) ∧ Hid (wr.ownsRow w.heap.size 2 1 vo g (((cameL p ws g).drop p).map (Value.int .i64))) ∧ Hid (Below w.heap.size w wr)) (fun _ _ gv _ => p - (intOf gv).toNat)
        case atStart => exact ⟨0, p, _, _, by omega, rfl, rfl, rfl, Lib.hid (by omega), Hpow0, HL1, HO0, Hb1⟩
        case round =>
          obtain ⟨g, l, vl, vo, hg, rfl, rfl, rfl, Hgl9, Hpow, HL, HO, Hb⟩ := hrel
          have hsz := Hb.out.size
          have hl0 : 0 < l := by have := Hgl9.out; omega
          have hl16 : l ≤ 16 := by have := Hgl9.out; omega
          have hll : ((cameL p ws g).drop (2 * g)).length = l := by rw [List.length_drop, Hlen.out]; have := Hgl9.out; omega
          obtain ⟨bl, capl, rfl, hcl, hbl1, hbl2, hcells⟩ := own_at HL.out hll (by omega)
          have Hcl := Lib.hid hcells
          clear hcells hll
          by_cases h1 : l = 1
          · have HS := Lib.hid (Sw.of_owns (d := 0) HO.out (by rw [List.length_drop, Hlen.out]; omega))
            obtain rfl : g = m := by have := Hgl9.out; omega
            subst h1
            clear HL HO Hcl Hpow Hom Hnx
            go_wp2
            go_ret2
            exact ⟨_, rfl, HS.out, Hb.out⟩
          · have hev := Hpw.out l h1 Hpow.out
            obtain ⟨L, rfl⟩ : ∃ L, l = 2 * L := ⟨l / 2, by omega⟩
            have hL0 : 0 < L := by omega
            have Hgl : Hid (g + L + L = p) := Lib.hid (by have := Hgl9.out; omega)
            have hd2 : decide (1 < 2 * L) = true := decide_eq_true (by omega)
            have hd3 : decide (1 < 2 * (L : Int)) = true := decide_eq_true (by omega)
            have hd4 : (1 < 2 * (L : Int)) = True := eq_true (by omega)
            clear hev h1
            obtain ⟨wo2, rfl⟩ : ∃ z, z = wr := ⟨_, rfl⟩
            go_wp2
            have HN0 := Lib.hid (show (wo2.alloc (.cells #[] 2)).ownsRow wo2.heap.size 2 1 (.slice (some ⟨wo2.heap.size, 0, none⟩) 0 0) 0 (((cameL p ws (g + 0)).drop (p + g)).map (Value.int .i64)) by rw [List.drop_of_length_le (by rw [Hlen.out]; omega)]; exact own_zeroK wo2 wo2.heap.size _ (Nat.le_refl _))
            have Hi0 := Lib.hid ((Below.refl _ wo2).alloc (Nat.le_refl _) (.cells #[] 2))
            go_loopw [9, 10, 11] (fun gv nv iv wr => ∃ (t : Nat) (vn : Value), t ≤ L ∧ vn = nv ∧ iv = .int .i64 ((2 * t : Nat) : Int) ∧ gv = .int .i64 ((g + t : Nat) : Int) ∧ Hid (wr.ownsRow wo2.heap.size 2 1 vn t (((cameL p ws (g + t)).drop (p + g)).map (Value.int .i64))) ∧ Hid (Below wo2.heap.size wo2 wr)) (fun _ _ iv _ => 2 * L - (intOf iv).toNat)
            case atStart => exact ⟨0, _, Nat.zero_le _, rfl, rfl, rfl, HN0, Hi0⟩
            case round =>
              obtain ⟨t, vn, ht, rfl, rfl, rfl, HN, Hi⟩ := hrel
              have hsz2 := Hi.out.size
              by_cases htl : t < L
              · have cl0 : wr.cell? ⟨bl, 2 * t, none⟩ = some (.int .i64 (((cameL p ws g).drop (2 * g)).getD (2 * t) 0)) := by rw [Hi.out.cell hbl2]; exact Hcl.out (2 * t) (by omega)
                have cl1 : wr.cell? ⟨bl, 2 * t + 1, none⟩ = some (.int .i64 (((cameL p ws g).drop (2 * g)).getD (2 * t + 1) 0)) := by rw [Hi.out.cell hbl2]; exact Hcl.out (2 * t + 1) (by omega)
                obtain ⟨q', cq, e1, hf⟩ := Hsl.out
                rw [Hmm.out] at e1
                cases e1
                obtain ⟨hcap, b, off, rfl, hbs, hc⟩ := hf (by rw [Hmm.out]; omega)
                have c1 : wr.cell? ⟨b, off + (g + t), none⟩ = some (.bool (ws.getD (g + t) false)) := by rw [Hi.out.cell (by show b < _; omega)]; exact cell_keep Hb.out (hc (g + t) (by rw [Hmm.out]; have := Hgl.out; omega))
                have hgm : g + t < m := by have := Hgl.out; omega
                have hnx := Hnx.out g t (by have := Hgl.out; omega)
                clear hc hf
                cases hw : ws.getD (g + t) false
                · rw [hw] at c1
                  rw [hw, if_neg Bool.false_ne_true] at hnx
                  generalize ((cameL p ws g).drop (2 * g)).getD (2 * t) 0 = A at *
                  generalize ((cameL p ws g).drop (2 * g)).getD (2 * t + 1) 0 = B at *
                  have HE := Lib.hid hnx
                  clear hnx hw
                  go_wp2_with (at_builtin; refine wpList_append_own _ rfl _ _ 30 rfl wo2.heap.size 2 i0 (.int .i64 0) 1 8 (by kernel_rfl) hi hz0 hz1 hz2 rfl (by decide) _ _ _ rfl (HN.out.alloc _) ⟨wr.heap.size, 0, none⟩ 1 1 [.int .i64 B] rfl rfl (cell_one_new _ _ _) (one_int _) (by unfold maxLen; omega) (by omega) (by simp; omega) ?_; intro v2 w2 hown2 hgrow2 _)
                  rw [HE.out] at hown2
                  have Hown2 := Lib.hid hown2
                  have Hi2 := Lib.hid ((Hi.out.alloc (by omega) _).grown hgrow2 (by simp; omega) (fun b hb => (HN.out.lt b hb).1))
                  clear hown2 hgrow2
                  go_wp2
                  go_roundw
                  case rel => exact ⟨t + 1, v2, by omega, rfl, by go_num, by go_num, Hown2, Hi2⟩
                  case measure => simp [intOf]; omega
                · rw [hw] at c1
                  rw [hw, if_pos rfl] at hnx
                  generalize ((cameL p ws g).drop (2 * g)).getD (2 * t) 0 = A at *
                  generalize ((cameL p ws g).drop (2 * g)).getD (2 * t + 1) 0 = B at *
                  have HE := Lib.hid hnx
                  clear hnx hw
                  go_wp2_with (at_builtin; refine wpList_append_own _ rfl _ _ 30 rfl wo2.heap.size 2 i0 (.int .i64 0) 1 8 (by kernel_rfl) hi hz0 hz1 hz2 rfl (by decide) _ _ _ rfl (HN.out.alloc _) ⟨wr.heap.size, 0, none⟩ 1 1 [.int .i64 A] rfl rfl (cell_one_new _ _ _) (one_int _) (by unfold maxLen; omega) (by omega) (by simp; omega) ?_; intro v2 w2 hown2 hgrow2 _)
                  rw [HE.out] at hown2
                  have Hown2 := Lib.hid hown2
                  have Hi2 := Lib.hid ((Hi.out.alloc (by omega) _).grown hgrow2 (by simp; omega) (fun b hb => (HN.out.lt b hb).1))
                  clear hown2 hgrow2
                  go_wp2
                  go_roundw
                  case rel => exact ⟨t + 1, v2, by omega, rfl, by go_num, by go_num, Hown2, Hi2⟩
                  case measure => simp [intOf]; omega
              · obtain rfl : t = L := by omega
                have hgp : g + t + t = p := Hgl.out
                have hnl : ((cameL p ws (g + t)).drop (p + g)).length = t := by rw [List.length_drop, Hlen.out]; omega
                have Hgp := Lib.hid hgp
                obtain ⟨bn, capn, rfl, hcn, hbn1, hbn2, -⟩ := own_at HN.out hnl (by omega)
                have HO2 := Lib.hid (own_laterK HO.out Hi.out)
                have HNc := Lib.hid (HN.out.cells (g := bn) rfl)
                have HNl : Hid ((((cameL p ws (g + t)).drop (p + g)).map (Value.int .i64)).length = t * 1) := Lib.hid (by rw [List.length_map, hnl, Nat.mul_one])
                have HN1 := Lib.hid (ints_oneCell .i64 ((cameL p ws (g + t)).drop (p + g)))
                have hom := Lib.hid (Hom.out g t)
                have hbs2 : w.heap.size ≤ wr.heap.size := by omega
                have hg16 : g + t ≤ 16 := by omega
                clear hcn hnl htl hgp
                go_wp2_with (at_builtin; refine wpList_append_own _ rfl _ _ 30 rfl w.heap.size 2 i0 (.int .i64 0) 1 8 (by kernel_rfl) hi hz0 hz1 hz2 rfl (by decide) _ _ _ rfl HO2.out ⟨bn, 0, none⟩ t capn (((cameL p ws (g + t)).drop (p + g)).map (Value.int .i64)) rfl HNl.out HNc.out HN1.out (by unfold maxLen; omega) (by omega) hbs2 ?_; intro v3 w3 hown3 hgrow3 _)
                rw [hom.out] at hown3
                have hgp := Hgp.out
                have HN3 : Hid (w3.ownsRow w.heap.size 2 1 (.slice (some ⟨bn, 0, none⟩) t capn) t (((cameL p ws (g + t)).drop (2 * (g + t))).map (Value.int .i64))) := Lib.hid (by
                  have h3 := HN.out.kept hgrow3 (.inr (fun e => by have := (HO.out.lt bn (e.symm)).2; omega))
                  rw [show 2 * (g + t) = p + g by omega]
                  exact own_monoK h3 hsz)
                have HO3 := Lib.hid hown3
                have Hb3 := Lib.hid ((Hb.out.trans (Hi.out.mono hsz)).grown hgrow3 hbs2 (fun b hb => (HO2.out.lt b hb).1))
                have Hpow3 : Hid (∃ e, t = 2 ^ e) := Lib.hid (by
                  obtain ⟨e, he⟩ := Hpow.out
                  cases e with
                  | zero => omega
                  | succ e => exact ⟨e, by rw [Nat.pow_succ] at he; omega⟩)
                clear hown3 hgrow3 hgp
                go_wp2
                go_roundw
                case rel => exact ⟨g + t, t, _, v3, by have := Hgp.out; omega, rfl, rfl, rfl, Hgl, Hpow3, HN3, HO3, Hb3⟩
                case measure => have := Hgp.out; simp [intOf]; omega
  · have g0 : True := trivial
    have E2 : ((p : Int) != 2) = true := by rw [hu]; rfl
    have Q2 : ((p : Int) = 2) = False := eq_false (by omega)
    have E4 : ((p : Int) != 4) = false := by rw [hu]; rfl
    have Q4 : ((p : Int) = 4) = True := eq_true (by omega)
    clear hu g0
    go_enter Try.func50, Try.ntmps50
    go_wp2
    have hz := own_zeroK w w.heap.size 2 (Nat.le_refl _)
    have Hown0 := Lib.hid (show (w.alloc (.cells #[] 2)).ownsRow w.heap.size 2 1 (.slice (some ⟨w.heap.size, 0, none⟩) 0 0) 0 ((tab 0 (fun k => (k : Int))).map (Value.int .i64)) from hz)
    have Hb0 := Lib.hid ((Below.refl _ w).alloc (Nat.le_refl _) (.cells #[] 2))
    clear hz
    go_loopw [6, 7] (fun cv i wr => ∃ (k : Nat) (vo : Value), k ≤ p ∧ vo = cv ∧ i = .int .i64 (k : Int) ∧ Hid (wr.ownsRow w.heap.size 2 1 vo k ((tab k (fun k => (k : Int))).map (Value.int .i64))) ∧ Hid (Below w.heap.size w wr)) (fun _ i _ => p - (intOf i).toNat)
    case atStart => exact ⟨0, _, Nat.zero_le _, rfl, rfl, Hown0, Hb0⟩
    case round =>
      obtain ⟨k, vo, hk, rfl, rfl, Hown, Hb⟩ := hrel
      have hsz := Hb.out.size
      by_cases hlt : k < p
      · have HE := Lib.hid (Hts.out k)
        go_wp2_with (at_builtin; refine wpList_append_own _ rfl _ _ 30 rfl w.heap.size 2 i0 (.int .i64 0) 1 8 (by kernel_rfl) hi hz0 hz1 hz2 rfl (by decide) _ _ _ rfl (Hown.out.alloc _) ⟨wr.heap.size, 0, none⟩ 1 1 [.int .i64 (k : Int)] rfl rfl (cell_one_new _ _ _) (one_int _) (by unfold maxLen; omega) (by omega) (by simp; omega) ?_; intro v2 w2 hown2 hgrow2 _)
        rw [HE.out] at hown2
        have Hown2 := Lib.hid hown2
        have Hb2 := Lib.hid ((Hb.out.alloc (by omega) _).grown hgrow2 (by simp; omega) (fun b hb => (Hown.out.lt b hb).1))
        clear hown2 hgrow2
        go_wp2
        go_roundw
        case rel => exact ⟨k + 1, v2, by omega, rfl, by go_num, Hown2, Hb2⟩
        case measure => simp [intOf]; omega
      · obtain rfl : k = p := by omega
        have HL0 := Lib.hid (show wr.ownsRow w.heap.size 2 1 vo k (((cameL k ws 0).drop (2 * 0)).map (Value.int .i64)) by rw [H0.out]; exact Hown.out)
        obtain ⟨wo, rfl⟩ : ∃ z, z = wr := ⟨_, rfl⟩
        clear Hown Hown0 Hb0 hlt
        go_wp2
        have hz := own_zeroK wo w.heap.size 2 hsz
        have HO0 := Lib.hid (show (wo.alloc (.cells #[] 2)).ownsRow w.heap.size 2 1 (.slice (some ⟨wo.heap.size, 0, none⟩) 0 0) 0 (((cameL k ws 0).drop k).map (Value.int .i64)) by rw [List.drop_of_length_le (by rw [Hlen.out]; omega)]; exact hz)
        have HL1 := Lib.hid (HL0.out.alloc (.cells #[] 2))
        have Hb1 := Lib.hid (Hb.out.alloc hsz (.cells #[] 2))
        have Hpow0 : Hid (∃ e, k = 2 ^ e) := Hpe
        clear hz HL0 Hb
        obtain ⟨p, rfl⟩ : ∃ z, z = k := ⟨_, rfl⟩
        go_loopw [6, 8, 9] (fun lv ov gv wr => ∃ (g l : Nat) (vl vo : Value), g < p ∧ vl = lv ∧ vo = ov ∧ gv = .int .i64 (g : Int) ∧ Hid (g + l = p) ∧ Hid (∃ e, l = 2 ^ e) ∧ Hid (wr.ownsRow w.heap.size 2 1 vl l (((cameL p ws g).drop (2 * g)).map (Value.int .i64))) ∧ Hid (wr.ownsRow w.heap.size 2 1 vo g (((cameL p ws g).drop p).map (Value.int .i64))) ∧ Hid (Below w.heap.size w wr)) (fun _ _ gv _ => p - (intOf gv).toNat)
        case atStart => exact ⟨0, p, _, _, by omega, rfl, rfl, rfl, Lib.hid (by omega), Hpow0, HL1, HO0, Hb1⟩
        case round =>
          obtain ⟨g, l, vl, vo, hg, rfl, rfl, rfl, Hgl9, Hpow, HL, HO, Hb⟩ := hrel
          have hsz := Hb.out.size
          have hl0 : 0 < l := by have := Hgl9.out; omega
          have hl16 : l ≤ 16 := by have := Hgl9.out; omega
          have hll : ((cameL p ws g).drop (2 * g)).length = l := by rw [List.length_drop, Hlen.out]; have := Hgl9.out; omega
          obtain ⟨bl, capl, rfl, hcl, hbl1, hbl2, hcells⟩ := own_at HL.out hll (by omega)
          have Hcl := Lib.hid hcells
          clear hcells hll
          by_cases h1 : l = 1
          · have HS := Lib.hid (Sw.of_owns (d := 0) HO.out (by rw [List.length_drop, Hlen.out]; omega))
            obtain rfl : g = m := by have := Hgl9.out; omega
            subst h1
            clear HL HO Hcl Hpow Hom Hnx
            go_wp2
            go_ret2
            exact ⟨_, rfl, HS.out, Hb.out⟩
          · have hev := Hpw.out l h1 Hpow.out
            obtain ⟨L, rfl⟩ : ∃ L, l = 2 * L := ⟨l / 2, by omega⟩
            have hL0 : 0 < L := by omega
            have Hgl : Hid (g + L + L = p) := Lib.hid (by have := Hgl9.out; omega)
            have hd2 : decide (1 < 2 * L) = true := decide_eq_true (by omega)
            have hd3 : decide (1 < 2 * (L : Int)) = true := decide_eq_true (by omega)
            have hd4 : (1 < 2 * (L : Int)) = True := eq_true (by omega)
            clear hev h1
            obtain ⟨wo2, rfl⟩ : ∃ z, z = wr := ⟨_, rfl⟩
            go_wp2
            have HN0 := Lib.hid (show (wo2.alloc (.cells #[] 2)).ownsRow wo2.heap.size 2 1 (.slice (some ⟨wo2.heap.size, 0, none⟩) 0 0) 0 (((cameL p ws (g + 0)).drop (p + g)).map (Value.int .i64)) by rw [List.drop_of_length_le (by rw [Hlen.out]; omega)]; exact own_zeroK wo2 wo2.heap.size _ (Nat.le_refl _))
            have Hi0 := Lib.hid ((Below.refl _ wo2).alloc (Nat.le_refl _) (.cells #[] 2))
            go_loopw [9, 10, 11] (fun gv nv iv wr => ∃ (t : Nat) (vn : Value), t ≤ L ∧ vn = nv ∧ iv = .int .i64 ((2 * t : Nat) : Int) ∧ gv = .int .i64 ((g + t : Nat) : Int) ∧ Hid (wr.ownsRow wo2.heap.size 2 1 vn t (((cameL p ws (g + t)).drop (p + g)).map (Value.int .i64))) ∧ Hid (Below wo2.heap.size wo2 wr)) (fun _ _ iv _ => 2 * L - (intOf iv).toNat)
            case atStart => exact ⟨0, _, Nat.zero_le _, rfl, rfl, rfl, HN0, Hi0⟩
            case round =>
              obtain ⟨t, vn, ht, rfl, rfl, rfl, HN, Hi⟩ := hrel
              have hsz2 := Hi.out.size
              by_cases htl : t < L
              · have cl0 : wr.cell? ⟨bl, 2 * t, none⟩ = some (.int .i64 (((cameL p ws g).drop (2 * g)).getD (2 * t) 0)) := by rw [Hi.out.cell hbl2]; exact Hcl.out (2 * t) (by omega)
                have cl1 : wr.cell? ⟨bl, 2 * t + 1, none⟩ = some (.int .i64 (((cameL p ws g).drop (2 * g)).getD (2 * t + 1) 0)) := by rw [Hi.out.cell hbl2]; exact Hcl.out (2 * t + 1) (by omega)
                obtain ⟨q', cq, e1, hf⟩ := Hsl.out
                rw [Hmm.out] at e1
                cases e1
                obtain ⟨hcap, b, off, rfl, hbs, hc⟩ := hf (by rw [Hmm.out]; omega)
                have c1 : wr.cell? ⟨b, off + (g + t), none⟩ = some (.bool (ws.getD (g + t) false)) := by rw [Hi.out.cell (by show b < _; omega)]; exact cell_keep Hb.out (hc (g + t) (by rw [Hmm.out]; have := Hgl.out; omega))
                have hgm : g + t < m := by have := Hgl.out; omega
                have hnx := Hnx.out g t (by have := Hgl.out; omega)
                clear hc hf
                cases hw : ws.getD (g + t) false
                · rw [hw] at c1
                  rw [hw, if_neg Bool.false_ne_true] at hnx
                  generalize ((cameL p ws g).drop (2 * g)).getD (2 * t) 0 = A at *
                  generalize ((cameL p ws g).drop (2 * g)).getD (2 * t + 1) 0 = B at *
                  have HE := Lib.hid hnx
                  clear hnx hw
                  go_wp2_with (at_builtin; refine wpList_append_own _ rfl _ _ 30 rfl wo2.heap.size 2 i0 (.int .i64 0) 1 8 (by kernel_rfl) hi hz0 hz1 hz2 rfl (by decide) _ _ _ rfl (HN.out.alloc _) ⟨wr.heap.size, 0, none⟩ 1 1 [.int .i64 B] rfl rfl (cell_one_new _ _ _) (one_int _) (by unfold maxLen; omega) (by omega) (by simp; omega) ?_; intro v2 w2 hown2 hgrow2 _)
                  rw [HE.out] at hown2
                  have Hown2 := Lib.hid hown2
                  have Hi2 := Lib.hid ((Hi.out.alloc (by omega) _).grown hgrow2 (by simp; omega) (fun b hb => (HN.out.lt b hb).1))
                  clear hown2 hgrow2
                  go_wp2
                  go_roundw
                  case rel => exact ⟨t + 1, v2, by omega, rfl, by go_num, by go_num, Hown2, Hi2⟩
                  case measure => simp [intOf]; omega
                · rw [hw] at c1
                  rw [hw, if_pos rfl] at hnx
                  generalize ((cameL p ws g).drop (2 * g)).getD (2 * t) 0 = A at *
                  generalize ((cameL p ws g).drop (2 * g)).getD (2 * t + 1) 0 = B at *
                  have HE := Lib.hid hnx
                  clear hnx hw
                  go_wp2_with (at_builtin; refine wpList_append_own _ rfl _ _ 30 rfl wo2.heap.size 2 i0 (.int .i64 0) 1 8 (by kernel_rfl) hi hz0 hz1 hz2 rfl (by decide) _ _ _ rfl (HN.out.alloc _) ⟨wr.heap.size, 0, none⟩ 1 1 [.int .i64 A] rfl rfl (cell_one_new _ _ _) (one_int _) (by unfold maxLen; omega) (by omega) (by simp; omega) ?_; intro v2 w2 hown2 hgrow2 _)
                  rw [HE.out] at hown2
                  have Hown2 := Lib.hid hown2
                  have Hi2 := Lib.hid ((Hi.out.alloc (by omega) _).grown hgrow2 (by simp; omega) (fun b hb => (HN.out.lt b hb).1))
                  clear hown2 hgrow2
                  go_wp2
                  go_roundw
                  case rel => exact ⟨t + 1, v2, by omega, rfl, by go_num, by go_num, Hown2, Hi2⟩
                  case measure => simp [intOf]; omega
              · obtain rfl : t = L := by omega
                have hgp : g + t + t = p := Hgl.out
                have hnl : ((cameL p ws (g + t)).drop (p + g)).length = t := by rw [List.length_drop, Hlen.out]; omega
                have Hgp := Lib.hid hgp
                obtain ⟨bn, capn, rfl, hcn, hbn1, hbn2, -⟩ := own_at HN.out hnl (by omega)
                have HO2 := Lib.hid (own_laterK HO.out Hi.out)
                have HNc := Lib.hid (HN.out.cells (g := bn) rfl)
                have HNl : Hid ((((cameL p ws (g + t)).drop (p + g)).map (Value.int .i64)).length = t * 1) := Lib.hid (by rw [List.length_map, hnl, Nat.mul_one])
                have HN1 := Lib.hid (ints_oneCell .i64 ((cameL p ws (g + t)).drop (p + g)))
                have hom := Lib.hid (Hom.out g t)
                have hbs2 : w.heap.size ≤ wr.heap.size := by omega
                have hg16 : g + t ≤ 16 := by omega
                clear hcn hnl htl hgp
                go_wp2_with (at_builtin; refine wpList_append_own _ rfl _ _ 30 rfl w.heap.size 2 i0 (.int .i64 0) 1 8 (by kernel_rfl) hi hz0 hz1 hz2 rfl (by decide) _ _ _ rfl HO2.out ⟨bn, 0, none⟩ t capn (((cameL p ws (g + t)).drop (p + g)).map (Value.int .i64)) rfl HNl.out HNc.out HN1.out (by unfold maxLen; omega) (by omega) hbs2 ?_; intro v3 w3 hown3 hgrow3 _)
                rw [hom.out] at hown3
                have hgp := Hgp.out
                have HN3 : Hid (w3.ownsRow w.heap.size 2 1 (.slice (some ⟨bn, 0, none⟩) t capn) t (((cameL p ws (g + t)).drop (2 * (g + t))).map (Value.int .i64))) := Lib.hid (by
                  have h3 := HN.out.kept hgrow3 (.inr (fun e => by have := (HO.out.lt bn (e.symm)).2; omega))
                  rw [show 2 * (g + t) = p + g by omega]
                  exact own_monoK h3 hsz)
                have HO3 := Lib.hid hown3
                have Hb3 := Lib.hid ((Hb.out.trans (Hi.out.mono hsz)).grown hgrow3 hbs2 (fun b hb => (HO2.out.lt b hb).1))
                have Hpow3 : Hid (∃ e, t = 2 ^ e) := Lib.hid (by
                  obtain ⟨e, he⟩ := Hpow.out
                  cases e with
                  | zero => omega
                  | succ e => exact ⟨e, by rw [Nat.pow_succ] at he; omega⟩)
                clear hown3 hgrow3 hgp
                go_wp2
                go_roundw
                case rel => exact ⟨g + t, t, _, v3, by have := Hgp.out; omega, rfl, rfl, rfl, Hgl, Hpow3, HN3, HO3, Hb3⟩
                case measure => have := Hgp.out; simp [intOf]; omega
  · have g0 : True := trivial
    have E2 : ((p : Int) != 2) = true := by rw [hu]; rfl
    have Q2 : ((p : Int) = 2) = False := eq_false (by omega)
    have E4 : ((p : Int) != 4) = true := by rw [hu]; rfl
    have Q4 : ((p : Int) = 4) = False := eq_false (by omega)
    have E8 : ((p : Int) != 8) = false := by rw [hu]; rfl
    have Q8 : ((p : Int) = 8) = True := eq_true (by omega)
    clear hu g0
    go_enter Try.func50, Try.ntmps50
    go_wp2
    have hz := own_zeroK w w.heap.size 2 (Nat.le_refl _)
    have Hown0 := Lib.hid (show (w.alloc (.cells #[] 2)).ownsRow w.heap.size 2 1 (.slice (some ⟨w.heap.size, 0, none⟩) 0 0) 0 ((tab 0 (fun k => (k : Int))).map (Value.int .i64)) from hz)
    have Hb0 := Lib.hid ((Below.refl _ w).alloc (Nat.le_refl _) (.cells #[] 2))
    clear hz
    go_loopw [6, 7] (fun cv i wr => ∃ (k : Nat) (vo : Value), k ≤ p ∧ vo = cv ∧ i = .int .i64 (k : Int) ∧ Hid (wr.ownsRow w.heap.size 2 1 vo k ((tab k (fun k => (k : Int))).map (Value.int .i64))) ∧ Hid (Below w.heap.size w wr)) (fun _ i _ => p - (intOf i).toNat)
    case atStart => exact ⟨0, _, Nat.zero_le _, rfl, rfl, Hown0, Hb0⟩
    case round =>
      obtain ⟨k, vo, hk, rfl, rfl, Hown, Hb⟩ := hrel
      have hsz := Hb.out.size
      by_cases hlt : k < p
      · have HE := Lib.hid (Hts.out k)
        go_wp2_with (at_builtin; refine wpList_append_own _ rfl _ _ 30 rfl w.heap.size 2 i0 (.int .i64 0) 1 8 (by kernel_rfl) hi hz0 hz1 hz2 rfl (by decide) _ _ _ rfl (Hown.out.alloc _) ⟨wr.heap.size, 0, none⟩ 1 1 [.int .i64 (k : Int)] rfl rfl (cell_one_new _ _ _) (one_int _) (by unfold maxLen; omega) (by omega) (by simp; omega) ?_; intro v2 w2 hown2 hgrow2 _)
        rw [HE.out] at hown2
        have Hown2 := Lib.hid hown2
        have Hb2 := Lib.hid ((Hb.out.alloc (by omega) _).grown hgrow2 (by simp; omega) (fun b hb => (Hown.out.lt b hb).1))
        clear hown2 hgrow2
        go_wp2
        go_roundw
        case rel => exact ⟨k + 1, v2, by omega, rfl, by go_num, Hown2, Hb2⟩
        case measure => simp [intOf]; omega
      · obtain rfl : k = p := by omega
        have HL0 := Lib.hid (show wr.ownsRow w.heap.size 2 1 vo k (((cameL k ws 0).drop (2 * 0)).map (Value.int .i64)) by rw [H0.out]; exact Hown.out)
        obtain ⟨wo, rfl⟩ : ∃ z, z = wr := ⟨_, rfl⟩
        clear Hown Hown0 Hb0 hlt
        go_wp2
        have hz := own_zeroK wo w.heap.size 2 hsz
        have HO0 := Lib.hid (show (wo.alloc (.cells #[] 2)).ownsRow w.heap.size 2 1 (.slice (some ⟨wo.heap.size, 0, none⟩) 0 0) 0 (((cameL k ws 0).drop k).map (Value.int .i64)) by rw [List.drop_of_length_le (by rw [Hlen.out]; omega)]; exact hz)
        have HL1 := Lib.hid (HL0.out.alloc (.cells #[] 2))
        have Hb1 := Lib.hid (Hb.out.alloc hsz (.cells #[] 2))
        have Hpow0 : Hid (∃ e, k = 2 ^ e) := Hpe
        clear hz HL0 Hb
        obtain ⟨p, rfl⟩ : ∃ z, z = k := ⟨_, rfl⟩
        go_loopw [6, 8, 9] (fun lv ov gv wr => ∃ (g l : Nat) (vl vo : Value), g < p ∧ vl = lv ∧ vo = ov ∧ gv = .int .i64 (g : Int) ∧ Hid (g + l = p) ∧ Hid (∃ e, l = 2 ^ e) ∧ Hid (wr.ownsRow w.heap.size 2 1 vl l (((cameL p ws g).drop (2 * g)).map (Value.int .i64))) ∧ Hid (wr.ownsRow w.heap.size 2 1 vo g (((cameL p ws g).drop p).map (Value.int .i64))) ∧ Hid (Below w.heap.size w wr)) (fun _ _ gv _ => p - (intOf gv).toNat)
        case atStart => exact ⟨0, p, _, _, by omega, rfl, rfl, rfl, Lib.hid (by omega), Hpow0, HL1, HO0, Hb1⟩
        case round =>
          obtain ⟨g, l, vl, vo, hg, rfl, rfl, rfl, Hgl9, Hpow, HL, HO, Hb⟩ := hrel
          have hsz := Hb.out.size
          have hl0 : 0 < l := by have := Hgl9.out; omega
          have hl16 : l ≤ 16 := by have := Hgl9.out; omega
          have hll : ((cameL p ws g).drop (2 * g)).length = l := by rw [List.length_drop, Hlen.out]; have := Hgl9.out; omega
          obtain ⟨bl, capl, rfl, hcl, hbl1, hbl2, hcells⟩ := own_at HL.out hll (by omega)
          have Hcl := Lib.hid hcells
          clear hcells hll
          by_cases h1 : l = 1
          · have HS := Lib.hid (Sw.of_owns (d := 0) HO.out (by rw [List.length_drop, Hlen.out]; omega))
            obtain rfl : g = m := by have := Hgl9.out; omega
            subst h1
            clear HL HO Hcl Hpow Hom Hnx
            go_wp2
            go_ret2
            exact ⟨_, rfl, HS.out, Hb.out⟩
          · have hev := Hpw.out l h1 Hpow.out
            obtain ⟨L, rfl⟩ : ∃ L, l = 2 * L := ⟨l / 2, by omega⟩
            have hL0 : 0 < L := by omega
            have Hgl : Hid (g + L + L = p) := Lib.hid (by have := Hgl9.out; omega)
            have hd2 : decide (1 < 2 * L) = true := decide_eq_true (by omega)
            have hd3 : decide (1 < 2 * (L : Int)) = true := decide_eq_true (by omega)
            have hd4 : (1 < 2 * (L : Int)) = True := eq_true (by omega)
            clear hev h1
            obtain ⟨wo2, rfl⟩ : ∃ z, z = wr := ⟨_, rfl⟩
            go_wp2
            have HN0 := Lib.hid (show (wo2.alloc (.cells #[] 2)).ownsRow wo2.heap.size 2 1 (.slice (some ⟨wo2.heap.size, 0, none⟩) 0 0) 0 (((cameL p ws (g + 0)).drop (p + g)).map (Value.int .i64)) by rw [List.drop_of_length_le (by rw [Hlen.out]; omega)]; exact own_zeroK wo2 wo2.heap.size _ (Nat.le_refl _))
            have Hi0 := Lib.hid ((Below.refl _ wo2).alloc (Nat.le_refl _) (.cells #[] 2))
            go_loopw [9, 10, 11] (fun gv nv iv wr => ∃ (t : Nat) (vn : Value), t ≤ L ∧ vn = nv ∧ iv = .int .i64 ((2 * t : Nat) : Int) ∧ gv = .int .i64 ((g + t : Nat) : Int) ∧ Hid (wr.ownsRow wo2.heap.size 2 1 vn t (((cameL p ws (g + t)).drop (p + g)).map (Value.int .i64))) ∧ Hid (Below wo2.heap.size wo2 wr)) (fun _ _ iv _ => 2 * L - (intOf iv).toNat)
            case atStart => exact ⟨0, _, Nat.zero_le _, rfl, rfl, rfl, HN0, Hi0⟩
            case round =>
              obtain ⟨t, vn, ht, rfl, rfl, rfl, HN, Hi⟩ := hrel
              have hsz2 := Hi.out.size
              by_cases htl : t < L
              · have cl0 : wr.cell? ⟨bl, 2 * t, none⟩ = some (.int .i64 (((cameL p ws g).drop (2 * g)).getD (2 * t) 0)) := by rw [Hi.out.cell hbl2]; exact Hcl.out (2 * t) (by omega)
                have cl1 : wr.cell? ⟨bl, 2 * t + 1, none⟩ = some (.int .i64 (((cameL p ws g).drop (2 * g)).getD (2 * t + 1) 0)) := by rw [Hi.out.cell hbl2]; exact Hcl.out (2 * t + 1) (by omega)
                obtain ⟨q', cq, e1, hf⟩ := Hsl.out
                rw [Hmm.out] at e1
                cases e1
                obtain ⟨hcap, b, off, rfl, hbs, hc⟩ := hf (by rw [Hmm.out]; omega)
                have c1 : wr.cell? ⟨b, off + (g + t), none⟩ = some (.bool (ws.getD (g + t) false)) := by rw [Hi.out.cell (by show b < _; omega)]; exact cell_keep Hb.out (hc (g + t) (by rw [Hmm.out]; have := Hgl.out; omega))
                have hgm : g + t < m := by have := Hgl.out; omega
                have hnx := Hnx.out g t (by have := Hgl.out; omega)
                clear hc hf
                cases hw : ws.getD (g + t) false
                · rw [hw] at c1
                  rw [hw, if_neg Bool.false_ne_true] at hnx
                  generalize ((cameL p ws g).drop (2 * g)).getD (2 * t) 0 = A at *
                  generalize ((cameL p ws g).drop (2 * g)).getD (2 * t + 1) 0 = B at *
                  have HE := Lib.hid hnx
                  clear hnx hw
                  go_wp2_with (at_builtin; refine wpList_append_own _ rfl _ _ 30 rfl wo2.heap.size 2 i0 (.int .i64 0) 1 8 (by kernel_rfl) hi hz0 hz1 hz2 rfl (by decide) _ _ _ rfl (HN.out.alloc _) ⟨wr.heap.size, 0, none⟩ 1 1 [.int .i64 B] rfl rfl (cell_one_new _ _ _) (one_int _) (by unfold maxLen; omega) (by omega) (by simp; omega) ?_; intro v2 w2 hown2 hgrow2 _)
                  rw [HE.out] at hown2
                  have Hown2 := Lib.hid hown2
                  have Hi2 := Lib.hid ((Hi.out.alloc (by omega) _).grown hgrow2 (by simp; omega) (fun b hb => (HN.out.lt b hb).1))
                  clear hown2 hgrow2
                  go_wp2
                  go_roundw
                  case rel => exact ⟨t + 1, v2, by omega, rfl, by go_num, by go_num, Hown2, Hi2⟩
                  case measure => simp [intOf]; omega
                · rw [hw] at c1
                  rw [hw, if_pos rfl] at hnx
                  generalize ((cameL p ws g).drop (2 * g)).getD (2 * t) 0 = A at *
                  generalize ((cameL p ws g).drop (2 * g)).getD (2 * t + 1) 0 = B at *
                  have HE := Lib.hid hnx
                  clear hnx hw
                  go_wp2_with (at_builtin; refine wpList_append_own _ rfl _ _ 30 rfl wo2.heap.size 2 i0 (.int .i64 0) 1 8 (by kernel_rfl) hi hz0 hz1 hz2 rfl (by decide) _ _ _ rfl (HN.out.alloc _) ⟨wr.heap.size, 0, none⟩ 1 1 [.int .i64 A] rfl rfl (cell_one_new _ _ _) (one_int _) (by unfold maxLen; omega) (by omega) (by simp; omega) ?_; intro v2 w2 hown2 hgrow2 _)
                  rw [HE.out] at hown2
                  have Hown2 := Lib.hid hown2
                  have Hi2 := Lib.hid ((Hi.out.alloc (by omega) _).grown hgrow2 (by simp; omega) (fun b hb => (HN.out.lt b hb).1))
                  clear hown2 hgrow2
                  go_wp2
                  go_roundw
                  case rel => exact ⟨t + 1, v2, by omega, rfl, by go_num, by go_num, Hown2, Hi2⟩
                  case measure => simp [intOf]; omega
              · obtain rfl : t = L := by omega
                have hgp : g + t + t = p := Hgl.out
                have hnl : ((cameL p ws (g + t)).drop (p + g)).length = t := by rw [List.length_drop, Hlen.out]; omega
                have Hgp := Lib.hid hgp
                obtain ⟨bn, capn, rfl, hcn, hbn1, hbn2, -⟩ := own_at HN.out hnl (by omega)
                have HO2 := Lib.hid (own_laterK HO.out Hi.out)
                have HNc := Lib.hid (HN.out.cells (g := bn) rfl)
                have HNl : Hid ((((cameL p ws (g + t)).drop (p + g)).map (Value.int .i64)).length = t * 1) := Lib.hid (by rw [List.length_map, hnl, Nat.mul_one])
                have HN1 := Lib.hid (ints_oneCell .i64 ((cameL p ws (g + t)).drop (p + g)))
                have hom := Lib.hid (Hom.out g t)
                have hbs2 : w.heap.size ≤ wr.heap.size := by omega
                have hg16 : g + t ≤ 16 := by omega
                clear hcn hnl htl hgp
                go_wp2_with (at_builtin; refine wpList_append_own _ rfl _ _ 30 rfl w.heap.size 2 i0 (.int .i64 0) 1 8 (by kernel_rfl) hi hz0 hz1 hz2 rfl (by decide) _ _ _ rfl HO2.out ⟨bn, 0, none⟩ t capn (((cameL p ws (g + t)).drop (p + g)).map (Value.int .i64)) rfl HNl.out HNc.out HN1.out (by unfold maxLen; omega) (by omega) hbs2 ?_; intro v3 w3 hown3 hgrow3 _)
                rw [hom.out] at hown3
                have hgp := Hgp.out
                have HN3 : Hid (w3.ownsRow w.heap.size 2 1 (.slice (some ⟨bn, 0, none⟩) t capn) t (((cameL p ws (g + t)).drop (2 * (g + t))).map (Value.int .i64))) := Lib.hid (by
                  have h3 := HN.out.kept hgrow3 (.inr (fun e => by have := (HO.out.lt bn (e.symm)).2; omega))
                  rw [show 2 * (g + t) = p + g by omega]
                  exact own_monoK h3 hsz)
                have HO3 := Lib.hid hown3
                have Hb3 := Lib.hid ((Hb.out.trans (Hi.out.mono hsz)).grown hgrow3 hbs2 (fun b hb => (HO2.out.lt b hb).1))
                have Hpow3 : Hid (∃ e, t = 2 ^ e) := Lib.hid (by
                  obtain ⟨e, he⟩ := Hpow.out
                  cases e with
                  | zero => omega
                  | succ e => exact ⟨e, by rw [Nat.pow_succ] at he; omega⟩)
                clear hown3 hgrow3 hgp
                go_wp2
                go_roundw
                case rel => exact ⟨g + t, t, _, v3, by have := Hgp.out; omega, rfl, rfl, rfl, Hgl, Hpow3, HN3, HO3, Hb3⟩
                case measure => have := Hgp.out; simp [intOf]; omega
  · have g0 : True := trivial
    have E2 : ((p : Int) != 2) = true := by rw [hu]; rfl
    have Q2 : ((p : Int) = 2) = False := eq_false (by omega)
    have E4 : ((p : Int) != 4) = true := by rw [hu]; rfl
    have Q4 : ((p : Int) = 4) = False := eq_false (by omega)
    have E8 : ((p : Int) != 8) = true := by rw [hu]; rfl
    have Q8 : ((p : Int) = 8) = False := eq_false (by omega)
    have E16 : ((p : Int) != 16) = false := by rw [hu]; rfl
    have Q16 : ((p : Int) = 16) = True := eq_true (by omega)
    clear hu g0
    go_enter Try.func50, Try.ntmps50
    go_wp2
    have hz := own_zeroK w w.heap.size 2 (Nat.le_refl _)
    have Hown0 := Lib.hid (show (w.alloc (.cells #[] 2)).ownsRow w.heap.size 2 1 (.slice (some ⟨w.heap.size, 0, none⟩) 0 0) 0 ((tab 0 (fun k => (k : Int))).map (Value.int .i64)) from hz)
    have Hb0 := Lib.hid ((Below.refl _ w).alloc (Nat.le_refl _) (.cells #[] 2))
    clear hz
    go_loopw [6, 7] (fun cv i wr => ∃ (k : Nat) (vo : Value), k ≤ p ∧ vo = cv ∧ i = .int .i64 (k : Int) ∧ Hid (wr.ownsRow w.heap.size 2 1 vo k ((tab k (fun k => (k : Int))).map (Value.int .i64))) ∧ Hid (Below w.heap.size w wr)) (fun _ i _ => p - (intOf i).toNat)
    case atStart => exact ⟨0, _, Nat.zero_le _, rfl, rfl, Hown0, Hb0⟩
    case round =>
      obtain ⟨k, vo, hk, rfl, rfl, Hown, Hb⟩ := hrel
      have hsz := Hb.out.size
      by_cases hlt : k < p
      · have HE := Lib.hid (Hts.out k)
        go_wp2_with (at_builtin; refine wpList_append_own _ rfl _ _ 30 rfl w.heap.size 2 i0 (.int .i64 0) 1 8 (by kernel_rfl) hi hz0 hz1 hz2 rfl (by decide) _ _ _ rfl (Hown.out.alloc _) ⟨wr.heap.size, 0, none⟩ 1 1 [.int .i64 (k : Int)] rfl rfl (cell_one_new _ _ _) (one_int _) (by unfold maxLen; omega) (by omega) (by simp; omega) ?_; intro v2 w2 hown2 hgrow2 _)
        rw [HE.out] at hown2
        have Hown2 := Lib.hid hown2
        have Hb2 := Lib.hid ((Hb.out.alloc (by omega) _).grown hgrow2 (by simp; omega) (fun b hb => (Hown.out.lt b hb).1))
        clear hown2 hgrow2
        go_wp2
        go_roundw
        case rel => exact ⟨k + 1, v2, by omega, rfl, by go_num, Hown2, Hb2⟩
        case measure => simp [intOf]; omega
      · obtain rfl : k = p := by omega
        have HL0 := Lib.hid (show wr.ownsRow w.heap.size 2 1 vo k (((cameL k ws 0).drop (2 * 0)).map (Value.int .i64)) by rw [H0.out]; exact Hown.out)
        obtain ⟨wo, rfl⟩ : ∃ z, z = wr := ⟨_, rfl⟩
        clear Hown Hown0 Hb0 hlt
        go_wp2
        have hz := own_zeroK wo w.heap.size 2 hsz
        have HO0 := Lib.hid (show (wo.alloc (.cells #[] 2)).ownsRow w.heap.size 2 1 (.slice (some ⟨wo.heap.size, 0, none⟩) 0 0) 0 (((cameL k ws 0).drop k).map (Value.int .i64)) by rw [List.drop_of_length_le (by rw [Hlen.out]; omega)]; exact hz)
        have HL1 := Lib.hid (HL0.out.alloc (.cells #[] 2))
        have Hb1 := Lib.hid (Hb.out.alloc hsz (.cells #[] 2))
        have Hpow0 : Hid (∃ e, k = 2 ^ e) := Hpe
        clear hz HL0 Hb
        obtain ⟨p, rfl⟩ : ∃ z, z = k := ⟨_, rfl⟩
        go_loopw [6, 8, 9] (fun lv ov gv wr => ∃ (g l : Nat) (vl vo : Value), g < p ∧ vl = lv ∧ vo = ov ∧ gv = .int .i64 (g : Int) ∧ Hid (g + l = p) ∧ Hid (∃ e, l = 2 ^ e) ∧ Hid (wr.ownsRow w.heap.size 2 1 vl l (((cameL p ws g).drop (2 * g)).map (Value.int .i64))) ∧ Hid (wr.ownsRow w.heap.size 2 1 vo g (((cameL p ws g).drop p).map (Value.int .i64))) ∧ Hid (Below w.heap.size w wr)) (fun _ _ gv _ => p - (intOf gv).toNat)
        case atStart => exact ⟨0, p, _, _, by omega, rfl, rfl, rfl, Lib.hid (by omega), Hpow0, HL1, HO0, Hb1⟩
        case round =>
          obtain ⟨g, l, vl, vo, hg, rfl, rfl, rfl, Hgl9, Hpow, HL, HO, Hb⟩ := hrel
          have hsz := Hb.out.size
          have hl0 : 0 < l := by have := Hgl9.out; omega
          have hl16 : l ≤ 16 := by have := Hgl9.out; omega
          have hll : ((cameL p ws g).drop (2 * g)).length = l := by rw [List.length_drop, Hlen.out]; have := Hgl9.out; omega
          obtain ⟨bl, capl, rfl, hcl, hbl1, hbl2, hcells⟩ := own_at HL.out hll (by omega)
          have Hcl := Lib.hid hcells
          clear hcells hll
          by_cases h1 : l = 1
          · have HS := Lib.hid (Sw.of_owns (d := 0) HO.out (by rw [List.length_drop, Hlen.out]; omega))
            obtain rfl : g = m := by have := Hgl9.out; omega
            subst h1
            clear HL HO Hcl Hpow Hom Hnx
            go_wp2
            go_ret2
            exact ⟨_, rfl, HS.out, Hb.out⟩
          · have hev := Hpw.out l h1 Hpow.out
            obtain ⟨L, rfl⟩ : ∃ L, l = 2 * L := ⟨l / 2, by omega⟩
            have hL0 : 0 < L := by omega
            have Hgl : Hid (g + L + L = p) := Lib.hid (by have := Hgl9.out; omega)
            have hd2 : decide (1 < 2 * L) = true := decide_eq_true (by omega)
            have hd3 : decide (1 < 2 * (L : Int)) = true := decide_eq_true (by omega)
            have hd4 : (1 < 2 * (L : Int)) = True := eq_true (by omega)
            clear hev h1
            obtain ⟨wo2, rfl⟩ : ∃ z, z = wr := ⟨_, rfl⟩
            go_wp2
            have HN0 := Lib.hid (show (wo2.alloc (.cells #[] 2)).ownsRow wo2.heap.size 2 1 (.slice (some ⟨wo2.heap.size, 0, none⟩) 0 0) 0 (((cameL p ws (g + 0)).drop (p + g)).map (Value.int .i64)) by rw [List.drop_of_length_le (by rw [Hlen.out]; omega)]; exact own_zeroK wo2 wo2.heap.size _ (Nat.le_refl _))
            have Hi0 := Lib.hid ((Below.refl _ wo2).alloc (Nat.le_refl _) (.cells #[] 2))
            go_loopw [9, 10, 11] (fun gv nv iv wr => ∃ (t : Nat) (vn : Value), t ≤ L ∧ vn = nv ∧ iv = .int .i64 ((2 * t : Nat) : Int) ∧ gv = .int .i64 ((g + t : Nat) : Int) ∧ Hid (wr.ownsRow wo2.heap.size 2 1 vn t (((cameL p ws (g + t)).drop (p + g)).map (Value.int .i64))) ∧ Hid (Below wo2.heap.size wo2 wr)) (fun _ _ iv _ => 2 * L - (intOf iv).toNat)
            case atStart => exact ⟨0, _, Nat.zero_le _, rfl, rfl, rfl, HN0, Hi0⟩
            case round =>
              obtain ⟨t, vn, ht, rfl, rfl, rfl, HN, Hi⟩ := hrel
              have hsz2 := Hi.out.size
              by_cases htl : t < L
              · have cl0 : wr.cell? ⟨bl, 2 * t, none⟩ = some (.int .i64 (((cameL p ws g).drop (2 * g)).getD (2 * t) 0)) := by rw [Hi.out.cell hbl2]; exact Hcl.out (2 * t) (by omega)
                have cl1 : wr.cell? ⟨bl, 2 * t + 1, none⟩ = some (.int .i64 (((cameL p ws g).drop (2 * g)).getD (2 * t + 1) 0)) := by rw [Hi.out.cell hbl2]; exact Hcl.out (2 * t + 1) (by omega)
                obtain ⟨q', cq, e1, hf⟩ := Hsl.out
                rw [Hmm.out] at e1
                cases e1
                obtain ⟨hcap, b, off, rfl, hbs, hc⟩ := hf (by rw [Hmm.out]; omega)
                have c1 : wr.cell? ⟨b, off + (g + t), none⟩ = some (.bool (ws.getD (g + t) false)) := by rw [Hi.out.cell (by show b < _; omega)]; exact cell_keep Hb.out (hc (g + t) (by rw [Hmm.out]; have := Hgl.out; omega))
                have hgm : g + t < m := by have := Hgl.out; omega
                have hnx := Hnx.out g t (by have := Hgl.out; omega)
                clear hc hf
                cases hw : ws.getD (g + t) false
                · rw [hw] at c1
                  rw [hw, if_neg Bool.false_ne_true] at hnx
                  generalize ((cameL p ws g).drop (2 * g)).getD (2 * t) 0 = A at *
                  generalize ((cameL p ws g).drop (2 * g)).getD (2 * t + 1) 0 = B at *
                  have HE := Lib.hid hnx
                  clear hnx hw
                  go_wp2_with (at_builtin; refine wpList_append_own _ rfl _ _ 30 rfl wo2.heap.size 2 i0 (.int .i64 0) 1 8 (by kernel_rfl) hi hz0 hz1 hz2 rfl (by decide) _ _ _ rfl (HN.out.alloc _) ⟨wr.heap.size, 0, none⟩ 1 1 [.int .i64 B] rfl rfl (cell_one_new _ _ _) (one_int _) (by unfold maxLen; omega) (by omega) (by simp; omega) ?_; intro v2 w2 hown2 hgrow2 _)
                  rw [HE.out] at hown2
                  have Hown2 := Lib.hid hown2
                  have Hi2 := Lib.hid ((Hi.out.alloc (by omega) _).grown hgrow2 (by simp; omega) (fun b hb => (HN.out.lt b hb).1))
                  clear hown2 hgrow2
                  go_wp2
                  go_roundw
                  case rel => exact ⟨t + 1, v2, by omega, rfl, by go_num, by go_num, Hown2, Hi2⟩
                  case measure => simp [intOf]; omega
                · rw [hw] at c1
                  rw [hw, if_pos rfl] at hnx
                  generalize ((cameL p ws g).drop (2 * g)).getD (2 * t) 0 = A at *
                  generalize ((cameL p ws g).drop (2 * g)).getD (2 * t + 1) 0 = B at *
                  have HE := Lib.hid hnx
                  clear hnx hw
                  go_wp2_with (at_builtin; refine wpList_append_own _ rfl _ _ 30 rfl wo2.heap.size 2 i0 (.int .i64 0) 1 8 (by kernel_rfl) hi hz0 hz1 hz2 rfl (by decide) _ _ _ rfl (HN.out.alloc _) ⟨wr.heap.size, 0, none⟩ 1 1 [.int .i64 A] rfl rfl (cell_one_new _ _ _) (one_int _) (by unfold maxLen; omega) (by omega) (by simp; omega) ?_; intro v2 w2 hown2 hgrow2 _)
                  rw [HE.out] at hown2
                  have Hown2 := Lib.hid hown2
                  have Hi2 := Lib.hid ((Hi.out.alloc (by omega) _).grown hgrow2 (by simp; omega) (fun b hb => (HN.out.lt b hb).1))
                  clear hown2 hgrow2
                  go_wp2
                  go_roundw
                  case rel => exact ⟨t + 1, v2, by omega, rfl, by go_num, by go_num, Hown2, Hi2⟩
                  case measure => simp [intOf]; omega
              · obtain rfl : t = L := by omega
                have hgp : g + t + t = p := Hgl.out
                have hnl : ((cameL p ws (g + t)).drop (p + g)).length = t := by rw [List.length_drop, Hlen.out]; omega
                have Hgp := Lib.hid hgp
                obtain ⟨bn, capn, rfl, hcn, hbn1, hbn2, -⟩ := own_at HN.out hnl (by omega)
                have HO2 := Lib.hid (own_laterK HO.out Hi.out)
                have HNc := Lib.hid (HN.out.cells (g := bn) rfl)
                have HNl : Hid ((((cameL p ws (g + t)).drop (p + g)).map (Value.int .i64)).length = t * 1) := Lib.hid (by rw [List.length_map, hnl, Nat.mul_one])
                have HN1 := Lib.hid (ints_oneCell .i64 ((cameL p ws (g + t)).drop (p + g)))
                have hom := Lib.hid (Hom.out g t)
                have hbs2 : w.heap.size ≤ wr.heap.size := by omega
                have hg16 : g + t ≤ 16 := by omega
                clear hcn hnl htl hgp
                go_wp2_with (at_builtin; refine wpList_append_own _ rfl _ _ 30 rfl w.heap.size 2 i0 (.int .i64 0) 1 8 (by kernel_rfl) hi hz0 hz1 hz2 rfl (by decide) _ _ _ rfl HO2.out ⟨bn, 0, none⟩ t capn (((cameL p ws (g + t)).drop (p + g)).map (Value.int .i64)) rfl HNl.out HNc.out HN1.out (by unfold maxLen; omega) (by omega) hbs2 ?_; intro v3 w3 hown3 hgrow3 _)
                rw [hom.out] at hown3
                have hgp := Hgp.out
                have HN3 : Hid (w3.ownsRow w.heap.size 2 1 (.slice (some ⟨bn, 0, none⟩) t capn) t (((cameL p ws (g + t)).drop (2 * (g + t))).map (Value.int .i64))) := Lib.hid (by
                  have h3 := HN.out.kept hgrow3 (.inr (fun e => by have := (HO.out.lt bn (e.symm)).2; omega))
                  rw [show 2 * (g + t) = p + g by omega]
                  exact own_monoK h3 hsz)
                have HO3 := Lib.hid hown3
                have Hb3 := Lib.hid ((Hb.out.trans (Hi.out.mono hsz)).grown hgrow3 hbs2 (fun b hb => (HO2.out.lt b hb).1))
                have Hpow3 : Hid (∃ e, t = 2 ^ e) := Lib.hid (by
                  obtain ⟨e, he⟩ := Hpow.out
                  cases e with
                  | zero => omega
                  | succ e => exact ⟨e, by rw [Nat.pow_succ] at he; omega⟩)
                clear hown3 hgrow3 hgp
                go_wp2
                go_roundw
                case rel => exact ⟨g + t, t, _, v3, by have := Hgp.out; omega, rfl, rfl, rfl, Hgl, Hpow3, HN3, HO3, Hb3⟩
                case measure => have := Hgp.out; simp [intOf]; omega
set_option maxRecDepth 100000 in
set_option maxHeartbeats 4000000 in
theorem spec_KnockRounds (ws : List Bool) (v : Value) (P : Int) (al : -9223372036854775808 ≤ P) (au : P ≤ 9223372036854775807) (w : World) (hn : ws.length ≤ 1048576) (h : Sl Value.bool false w v ws) :
    Calls Try.prog 50 #[v, .int .i64 P] w fun e w' => ∃ r, e = .returned (.tuple #[r, .bool (ok_KnockRounds ws P)]) ∧ Sw (Value.int .i64) 0 w' r (res_KnockRounds ws P) w.heap.size w'.heap.size ∧ Below w.heap.size w w' := by
  unfold ok_KnockRounds res_KnockRounds
  cases hk : knB ws P
  · rw [if_neg Bool.false_ne_true]
    obtain ⟨q, cap, rfl, -⟩ := h
    unfold knB at hk
    generalize ws.length = m at *
    by_cases hu : P = 2 ∨ P = 4 ∨ P = 8 ∨ P = 16
    · have hmp : ¬ (m : Int) = P - 1 := by
        intro hx
        rw [show upB P = true from decide_eq_true hu, decide_eq_true hx] at hk
        cases hk
      clear hk
      rcases hu with hu | hu | hu | hu
      · subst hu
        have hne : ((m : Int) != 1) = true := bne_iff_ne.2 (by omega)
        have hne2 : ((m : Int) = 1) = False := eq_false (by omega)
        have hne3 : (m = 1) = False := eq_false (by omega)
        clear hmp
        go_enter Try.func50, Try.ntmps50
        go_wp2
        go_ret2
        exact ⟨_, rfl, Sw.nil _ _ _ _ _ _ _, Below.refl _ _⟩
      · subst hu
        have hne : ((m : Int) != 3) = true := bne_iff_ne.2 (by omega)
        have hne2 : ((m : Int) = 3) = False := eq_false (by omega)
        have hne3 : (m = 3) = False := eq_false (by omega)
        clear hmp
        go_enter Try.func50, Try.ntmps50
        go_wp2
        go_ret2
        exact ⟨_, rfl, Sw.nil _ _ _ _ _ _ _, Below.refl _ _⟩
      · subst hu
        have hne : ((m : Int) != 7) = true := bne_iff_ne.2 (by omega)
        have hne2 : ((m : Int) = 7) = False := eq_false (by omega)
        have hne3 : (m = 7) = False := eq_false (by omega)
        clear hmp
        go_enter Try.func50, Try.ntmps50
        go_wp2
        go_ret2
        exact ⟨_, rfl, Sw.nil _ _ _ _ _ _ _, Below.refl _ _⟩
      · subst hu
        have hne : ((m : Int) != 15) = true := bne_iff_ne.2 (by omega)
        have hne2 : ((m : Int) = 15) = False := eq_false (by omega)
        have hne3 : (m = 15) = False := eq_false (by omega)
        clear hmp
        go_enter Try.func50, Try.ntmps50
        go_wp2
        go_ret2
        exact ⟨_, rfl, Sw.nil _ _ _ _ _ _ _, Below.refl _ _⟩
    · have g0 : True := trivial
      have E2 : (P != 2) = true := bne_iff_ne.2 (by omega)
      have Q2 : (P = 2) = False := eq_false (by omega)
      have E4 : (P != 4) = true := bne_iff_ne.2 (by omega)
      have Q4 : (P = 4) = False := eq_false (by omega)
      have E8 : (P != 8) = true := bne_iff_ne.2 (by omega)
      have Q8 : (P = 8) = False := eq_false (by omega)
      have E16 : (P != 16) = true := bne_iff_ne.2 (by omega)
      have Q16 : (P = 16) = False := eq_false (by omega)
      clear hu g0 hk
      go_enter Try.func50, Try.ntmps50
      go_wp2
      go_ret2
      exact ⟨_, rfl, Sw.nil _ _ _ _ _ _ _, Below.refl _ _⟩
  rw [if_pos rfl]
  unfold knB at hk
  rw [Bool.and_eq_true] at hk
  obtain ⟨hu, hm⟩ := hk
  have hm := of_decide_eq_true hm
  have hu2 := of_decide_eq_true hu
  obtain ⟨p, rfl⟩ : ∃ p : Nat, P = (p : Int) := ⟨P.toNat, by omega⟩
  rw [Int.toNat_natCast]
  exact knock_spec p ws v w (by omega) (by omega) h
end Go.Proofs.Ytfipcpbibmhjoaa
