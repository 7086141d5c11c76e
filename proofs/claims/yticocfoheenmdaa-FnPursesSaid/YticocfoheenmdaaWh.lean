/- Contracts: words that have not come, the program: how rows end behind one symbol more. -/
import Derived.Test.YticocfoheenmdaaWg
import Derived.Test.YticocfoheenmdaaWc
import Derived.ArgAppend
set_option linter.unusedVariables false
namespace Go.Proofs.Yticocfoheenmdaa
open Go.RowKit Go.Maps

/-- the maps of the first k states -/
def MvT (w : World) (W : List Int) (s B : Nat) (bs : List (Option Nat)) (k : Nat) : Prop := ∀ j, j < k → ∃ bm, bs.getD j none = some bm ∧ TV w bm 1000 (W.length + 1) (mvI W j s) ∧ B < bm
theorem MvT.later {w w' : World} {W : List Int} {s B : Nat} {bs : List (Option Nat)} {k : Nat} (h : MvT w W s B bs k) (hb : Below w.heap.size w w') : MvT w' W s B bs k := fun j hj => by
  obtain ⟨bm, h1, h2, h3⟩ := h j hj
  exact ⟨bm, h1, h2.later hb, h3⟩
theorem MvT.grown {w w' : World} {W : List Int} {s B M : Nat} {bs : List (Option Nat)} {k : Nat} (h : MvT w W s B bs k) (hb : w.grownBy w' (some M)) (hM : ∀ j, j < k → bs.getD j none ≠ some M) : MvT w' W s B bs k := fun j hj => by
  obtain ⟨bm, h1, h2, h3⟩ := h j hj
  exact ⟨bm, h1, h2.kept hb (fun e => hM j hj (by rw [h1, e])), h3⟩
theorem only_grown2 {w w' : World} {D : Nat} (g : Only D (D + 1) w w') : w.grownBy w' (some D) :=
  ⟨g.os, g.tape, g.output, Nat.le_of_eq g.size.symm, fun i hi hne => g.block i (fun h => hne (by congr 1; omega))⟩
theorem Sw.grownM {α : Type} {mk : α → Value} {d : α} {w w' : World} {v : Value} {fs : List α} {lo hi M : Nat} (h : Sw mk d w v fs lo hi) (g : w.grownBy w' (some M)) (hM : hi ≤ M) : Sw mk d w' v fs lo hi := by
  obtain ⟨p, cap, rfl, h⟩ := h
  refine ⟨p, cap, rfl, fun h0 => ?_⟩
  obtain ⟨hcap, b, off, rfl, g1, g2, g3, hc⟩ := h h0
  have hb : w'.heap[b]? = w.heap[b]? := g.block b (by omega) (fun e => by injection e with e; omega)
  have := g.size
  exact ⟨hcap, b, off, rfl, g1, g2, by omega, fun i hi => ⟨(World.cell?_of_block (a := ⟨b, off + i, none⟩) hb).trans (hc i hi).1, (World.frozen?_of_block (a := ⟨b, off + i, none⟩) hb).trans (hc i hi).2⟩⟩
theorem nones (n : Nat) : (madeCells (Value.map none).cells (n * 1)).toList = (List.replicate n (none : Option Nat)).map Value.map := by
  rw [Nat.mul_one, List.map_replicate]; exact made1 _ n
theorem getD_set_same (bs : List (Option Nat)) (k : Nat) (x : Option Nat) (h : k < bs.length) : (bs.set k x).getD k none = x := by simp [List.getD, h]
theorem getD_set_other (bs : List (Option Nat)) (k j : Nat) (x : Option Nat) (h : j ≠ k) : (bs.set k x).getD j none = bs.getD j none := by
  simp only [List.getD]; rw [List.getElem?_set_ne (fun e => h e.symm)]
theorem news_of2 {w : World} {b off : Nat} {gs : List Int} (hc : ∀ i, i < gs.length → w.cell? ⟨b, off + i, none⟩ = some (.int .i64 (gs.getD i 0))) :
    ∀ j u, (gs.map (Value.int .i64))[j]? = some u → w.cell? ((⟨b, off, none⟩ : Addr).add j) = some u := by
  intro j u hu
  rw [List.getElem?_map, Option.map_eq_some_iff] at hu
  obtain ⟨x, hx, rfl⟩ := hu
  have hj := (List.getElem?_eq_some_iff.1 hx).1
  rw [Addr.add_lit, hc j hj]
  simp [List.getD, hx]
set_option maxRecDepth 100000 in
set_option maxHeartbeats 4000000 in
theorem coming_any (W : List Int) (s n : Nat) (v : Value) (w : World) (hn : W.length = n) (n1 : 1 ≤ n) (n2 : n ≤ 100) (hs : s ≤ 900) (h : Sl (Value.int .i64) 0 w v W) :
    Calls Try.prog 50 #[v, .int .i64 (s : Int)] w fun e w' => ∃ bs hi, e = .returned (.slice (some ⟨w.heap.size, 0, none⟩) n n) ∧ Sw Value.map none w' (.slice (some ⟨w.heap.size, 0, none⟩) n n) bs w.heap.size hi ∧ bs.length = n ∧ MvT w' W s w.heap.size bs n ∧ Below w.heap.size w w' := by
  obtain ⟨i0, hi, hz0, hz1, hz2⟩ := info_parts (show (Try.prog.info? 2).map (fun i => (i.zero, i.size, i.bytes)) = some (some (.int .i64 0), 1, 8) by kernel_rfl)
  obtain ⟨i1, ii, iz0, iz1, iz2⟩ := info_parts (show (Try.prog.info? 53).map (fun i => (i.zero, i.size, i.bytes)) = some (some (.map none), 1, 8) by kernel_rfl)
  have HS := Lib.hid h
  obtain ⟨p, cap, rfl, hf⟩ := h
  obtain ⟨hcap, b, off, rfl, hbs, hc⟩ := hf (by omega)
  have Hc := Lib.hid hc
  have Hn := Lib.hid hn
  rw [hn] at HS hcap ⊢
  have Hst := Lib.hid (fun k x t => mvI_succ W k x t)
  have Hbd := Lib.hid (fun k x t => mvI_bd W k x t)
  have Hz : Hid (∀ k t, mvI W k 0 t = 0) := Lib.hid (fun _ _ => rfl)
  have Hle := Lib.hid (fun k x => stepE_le W k x)
  clear hf hc hn
  have hmm := @run_makeMap Try.prog
  go_enter Try.func50, Try.ntmps50
  go_wp2_with (at_make; refine wpList_make_full _ rfl _ _ 69 rfl w.heap.size 53 i1 (.map none) 1 (by kernel_rfl) ii iz0 iz1 .i64 .i64 n n n rfl rfl rfl rfl (by rw [iz2]; omega) (by unfold maxLen; omega) (Nat.le_refl _) ?_; intro w1 hrow hgrow)
  have hz1' := hgrow.size
  have hbel : Below w.heap.size w w1 := (Below.refl _ w).grown hgrow (Nat.le_refl _) (by simp)
  rw [nones] at hrow
  have hN0 := Sw.of_owns (d := none) hrow (by simp)
  have hsz1 : w.heap.size < w1.heap.size := (hrow.lt _ rfl).2
  have HN0 := Lib.hid hN0
  have Hbel := Lib.hid hbel
  clear hrow hbel hgrow hN0
  go_loopw [17] (fun i wr => ∃ (k : Nat) (bs : List (Option Nat)), k ≤ n ∧ i = .int .i64 (k : Int) ∧ Hid (Sw Value.map none wr (.slice (some ⟨w.heap.size, 0, none⟩) n n) bs w.heap.size w1.heap.size) ∧ Hid (bs.length = n) ∧ Hid (MvT wr W s w.heap.size bs k) ∧ w1.heap.size ≤ wr.heap.size ∧ Hid (Below w.heap.size w wr)) (fun i _ => n - (intOf i).toNat)
  case atStart => exact ⟨0, _, Nat.zero_le _, rfl, HN0, Lib.hid (by simp), Lib.hid (fun j hj => absurd hj (by omega)), Nat.le_refl _, Hbel⟩
  case round =>
    obtain ⟨wo, rfl⟩ : ∃ z, z = wr := ⟨_, rfl⟩
    obtain ⟨k, bs, hk, rfl, hR, hbl, hM, hsz, hb⟩ := hrel
    by_cases hlt : k < n
    · obtain ⟨b2, o2, e2, -, -, cB, fB⟩ := hR.out.open' k (by rw [hbl.out]; exact hlt)
      cases e2
      rw [Nat.zero_add] at cB fB
      obtain ⟨wa, hwa⟩ : ∃ z, z = (wo.alloc (.map #[] 0)).setCell ⟨w.heap.size, k, none⟩ (.map (some wo.heap.size)) := ⟨_, rfl⟩
      have hal : Below wo.heap.size wo (wo.alloc (.map #[] 0)) := (Below.refl _ _).alloc (Nat.le_refl _) _
      have hon : Only w.heap.size (w.heap.size + 1) (wo.alloc (.map #[] 0)) wa := by rw [hwa]; exact (Only.refl _ _ _).step' _ _ (Nat.le_refl _) (Nat.lt_succ_self _)
      have hza : wa.heap.size = wo.heap.size + 1 := by rw [hon.size]; simp
      have hT : TV wa wo.heap.size 0 (n + 1) (mvI W k 0) := ((TV.made wo (n + 1)).kept (only_grown2 hon) (by simp; omega)).congr (fun t => (Hz.out k t).symm)
      have hSa : Sw Value.map none wa (.slice (some ⟨w.heap.size, 0, none⟩) n n) (bs.set k (some wo.heap.size)) w.heap.size w1.heap.size := by
        have h1 := (hR.out.later hal).store k (by rw [hbl.out]; exact hlt) (some wo.heap.size)
        rw [Nat.zero_add] at h1
        rw [hwa]; exact h1
      have hMa : MvT wa W s w.heap.size bs k := (hM.out.later hal).grown (only_grown2 hon) (fun j hj e => by
        obtain ⟨bm, h1, _, h3⟩ := hM.out j hj
        rw [h1] at e; injection e with e; omega)
      have hMl : ∀ j, j < k → bs.getD j none ≠ some wo.heap.size := fun j hj e => by
        obtain ⟨bm, h1, h2, _⟩ := hM.out j hj
        have := h2.lt
        rw [h1] at e; injection e with e; omega
      have hba : Below w.heap.size w wa := Below.only (hb.out.trans (hal.mono (by omega))) hon (Nat.le_refl _)
      have HT := Lib.hid hT
      have HSa := Lib.hid hSa
      have HMa := Lib.hid hMa
      have HMl := Lib.hid hMl
      have Hba := Lib.hid hba
      have HWa := Lib.hid hwa
      have cB' : (wo.alloc (.map #[] 0)).cell? ⟨w.heap.size, k, none⟩ = _ := (hal.cell (by show w.heap.size < _; omega)).trans cB
      have fB' : (wo.alloc (.map #[] 0)).frozen? ⟨w.heap.size, k, none⟩ = false := (hal.frozen (by show w.heap.size < _; omega)).trans fB
      clear hT hSa hMa hMl hba hal hon cB fB
      go_wp2
      rw [← hwa]
      clear hwa
      go_loopw [25] (fun xv wi => ∃ x : Nat, x ≤ s ∧ xv = .int .i64 (x : Int) ∧ Hid (TV wi wo.heap.size x (n + 1) (mvI W k x)) ∧ Hid (Sw Value.map none wi (.slice (some ⟨w.heap.size, 0, none⟩) n n) (bs.set k (some wo.heap.size)) w.heap.size w1.heap.size) ∧ Hid (MvT wi W s w.heap.size bs k) ∧ wo.heap.size < wi.heap.size ∧ Hid (Below w.heap.size w wi)) (fun xv _ => s - (intOf xv).toNat)
      case atStart => exact ⟨0, Nat.zero_le _, rfl, HT, HSa, HMa, by omega, Hba⟩
      case round =>
        obtain ⟨x, hx, rfl, hTx, hSx, hMx, hszx, hbx⟩ := hrel
        by_cases hlx : x < s
        · have Hal2 := Lib.hid (show Below wr.heap.size wr (wr.alloc (.cells #[.int .i64 (x : Int)] 2)) from (Below.refl _ _).alloc (Nat.le_refl _) _)
          have HL : Hid (((W.take k).map (Value.int .i64)).length = k * 1) := Lib.hid (by rw [List.length_map, List.length_take, Hn.out]; omega)
          have HO : Hid (∀ b', some (⟨b, off, none⟩ : Addr) = some b' → ∀ j u, ((W.take k).map (Value.int .i64))[j]? = some u → (wr.alloc (.cells #[.int .i64 (x : Int)] 2)).cell? (b'.add j) = some u) := Lib.hid (fun b' e => by
            cases e
            refine news_of2 (gs := W.take k) (fun i hi => ?_)
            have hi' : i < k := by rw [List.length_take] at hi; omega
            rw [Hal2.out.cell (by show b < _; have := hbx.out.size; omega), hbx.out.cell hbs, Hc.out i (by rw [Hn.out]; omega)]
            simp [List.getD, hi'])
          go_wp2_with (at_builtin; refine wpList_append_grows _ rfl (.tmp 31) (.tmp 33) 31 rfl 2 i0 (.int .i64 0) 1 8 (by kernel_rfl) hi hz0 hz1 hz2 rfl (by decide) (some ⟨b, off, none⟩) k k ((W.take k).map (Value.int .i64)) rfl (fun h => by cases h) HL.out HO.out ⟨wr.heap.size, 0, none⟩ 1 1 [.int .i64 (x : Int)] rfl rfl (cell_one_new _ _ _) (one_int _) (by omega) (by unfold maxLen; omega) (by omega) ?_; intro v2 w2 hown2 hgrow2)
          have hb2 : Below wr.heap.size wr w2 := Hal2.out.grown hgrow2 (by simp) (fun j hj => by cases hj)
          have hz2' := hb2.size
          have hEl : (W.take k ++ [(x : Int)]).length = k + 1 := by rw [List.length_append, List.length_take, Hn.out, Nat.min_eq_left (by omega)]; rfl
          have hE := Sw.of_owns (fs := W.take k ++ [(x : Int)]) (d := 0) (by rw [List.map_append]; exact hown2) hEl
          have hmin : min (W.take k ++ [(x : Int)]).length W.length = k + 1 := by rw [hEl, Hn.out]; omega
          have HOv := Lib.hid (overlaps_any (W.take k ++ [(x : Int)]) W v2 _ w2 (by omega) (by have := Hn.out; omega) hE.sl (HS.out.later (hbx.out.trans (hb2.mono (by have := hbx.out.size; omega)))))
          rw [hmin] at HOv
          have Hb2 := Lib.hid hb2
          have hLa := lastI_all (W.take k ++ [(x : Int)]) W (k + 1)
          rw [show lastE (W.take k ++ [(x : Int)]) W (k + 1) = stepE W k (x : Int) from rfl] at hLa
          have HLa := Lib.hid hLa
          have hol := overL_len (W.take k ++ [(x : Int)]) W (k + 1)
          obtain ⟨l, hl⟩ : ∃ l, l = overL (W.take k ++ [(x : Int)]) W (k + 1) := ⟨_, rfl⟩
          rw [← hl] at HOv HLa hol
          clear hown2 hgrow2 hb2 hE hEl hmin hLa hl
          go_wp2_with fail
          refine HOv.out.mono ?_
          rintro e w3 ⟨r, rfl, hr, hb3⟩
          obtain ⟨pr, capr, rfl, hfr⟩ := hr
          have Hfr := Lib.hid hfr
          obtain ⟨m, hm⟩ : ∃ m, m = l.length := ⟨_, rfl⟩
          rw [← hm] at Hfr HLa hol ⊢
          have hb13 : Below wr.heap.size wr w3 := Hb2.out.trans (hb3.mono Hb2.out.size)
          have HT3 := Lib.hid (hTx.out.later hb13)
          have HS3 := Lib.hid (hSx.out.later hb13)
          have HM3 := Lib.hid (hMx.out.later hb13)
          have HB3 := Lib.hid (hbx.out.trans (hb13.mono (by have := hbx.out.size; omega)))
          have hz3 := hb13.size
          have H0 := Lib.hid (lastI_zero l)
          have Hsu := Lib.hid (fun q => lastI_succ l q)
          clear hfr hb3 hb13 hm HOv
          go_wp2
          go_loop [9, 39] (fun lv i => ∃ q : Nat, q ≤ m ∧ i = .int .i64 (q : Int) ∧ ∃ c : Int, lv = .int .i64 c ∧ Hid (c = lastI l q)) (fun _ i => m - (intOf i).toNat)
          case atStart => exact ⟨0, Nat.zero_le _, rfl, 0, rfl, Lib.hid H0.out.symm⟩
          case round =>
            obtain ⟨q, hq, rfl, c, rfl, hc⟩ := hrel
            by_cases hlq : q < m
            · obtain ⟨_, b', off', rfl, -, -, -, hcc⟩ := Hfr.out (by omega)
              have c1 := (hcc q hlq).1
              have hsu := Hsu.out q
              have Hsu2 := Lib.hid hsu
              clear hcc hsu
              go_wp2
              go_round
              case rel => exact ⟨q + 1, by omega, by go_num, _, rfl, Lib.hid Hsu2.out.symm⟩
              case measure => simp [intOf]; omega
            · obtain rfl : q = m := by omega
              have hcE := hc.out.trans HLa.out
              have hE1 := Hle.out k (x : Int)
              have hst := Hst.out k x
              obtain ⟨E, hE⟩ : ∃ E, E = stepE W k (x : Int) := ⟨_, rfl⟩
              rw [← hE] at hcE hE1 hst
              obtain rfl := hcE
              obtain ⟨D, hown, hat, hks⟩ := HT3.out
              have hatX := hat (E : Int)
              obtain ⟨v0, v1⟩ := Hbd.out k x (E : Int)
              generalize hX : mvI W k x (E : Int) = X at hatX v0 v1
              have HX := Lib.hid hX
              have Hat := Lib.hid hat
              have Hks := Lib.hid hks
              have Hst2 := Lib.hid hst
              have hwy : (Lit.int .i64 (E : Int)).wf = true := WalkArith.wf_i64 (by omega)
              obtain ⟨b2, o2, e2, -, -, cB, -⟩ := HS3.out.open' k (by rw [List.length_set, hbl.out]; exact hlt)
              cases e2
              rw [Nat.zero_add, getD_set_same _ _ _ (by rw [hbl.out]; exact hlt)] at cB
              clear hX hat hks hst hc hE
              go_wp2_with (first
                | (at_lookup; refine wpList_lookup_own_int _ rfl _ _ 53 rfl 2 2 .i64 lawI Try.underlying53 Try.underlying2 (zeroI _) wo.heap.size x D rfl hown _ _ rfl (keyOf_int_mk Try.underlying2 hwy) ?_; intro v hatv hwv; obtain rfl : v = X := (by rw [hatX] at hatv; injection hatv with h; injection h with _ h; exact h.symm))
                | (at_mapUpdate; refine wpList_mapUpdate_own _ rfl _ _ _ 53 rfl 2 2 lawI Try.underlying53 _ wo.heap.size x D rfl hown (by unfold maxLen; omega) _ _ _ rfl rfl (keyOf_int_mk Try.underlying2 hwy) _ [] (plainElem_int Try.underlying2 (WalkArith.wf_i64 (by omega))) ?_; intro w5 hown5 hg5; go_frame)
                | go_in)
              have hz5 := hg5.size
              go_roundw
              case rel =>
                refine ⟨x + 1, by omega, by go_num, Lib.hid ⟨_, hown5, fun t => ?_, fun t => put_keys hown.isMap Hks.out (E : Int) _ (by omega) (by omega) t⟩, Lib.hid (HS3.out.grownM hg5 (by omega)), Lib.hid (HM3.out.grown hg5 HMl.out), by omega, Lib.hid (HB3.out.grown hg5 (by omega) (fun i hi => by cases hi; omega))⟩
                rw [put_reads hown.isMap Hat.out (E : Int) _ t]
                congr 2
                unfold upd
                rw [Hst2.out t]
                by_cases e : t = (E : Int)
                · subst e; rw [if_pos rfl, if_pos rfl, HX.out]
                · rw [if_neg e, if_neg (fun h => e h.symm), Int.add_zero]
              case measure => simp [intOf]; omega
        · obtain rfl : x = s := by omega
          go_wp2
          go_roundw
          case rel =>
            refine ⟨k + 1, bs.set k (some wo.heap.size), by omega, by go_num, hSx, Lib.hid (by rw [List.length_set]; exact hbl.out), Lib.hid (fun j hj => ?_), by omega, hbx⟩
            by_cases e : j = k
            · subst e
              exact ⟨_, getD_set_same _ _ _ (by rw [hbl.out]; exact hlt), by rw [Hn.out]; exact hTx.out.mono (by omega) (Nat.le_refl _), by omega⟩
            · obtain ⟨bm, h1, h2, h3⟩ := hMx.out j (by omega)
              exact ⟨bm, by rw [getD_set_other _ _ _ _ e]; exact h1, h2, h3⟩
          case measure => simp [intOf]; omega
    · obtain rfl : k = n := by omega
      go_wp2
      go_ret
      exact ⟨bs, _, rfl, hR.out, hbl.out, hM.out, hb.out⟩
end Go.Proofs.Yticocfoheenmdaa
