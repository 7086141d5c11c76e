/- Contracts: words that have not come, the model. -/
import Derived.Test.YtolmhnekfokpdaaWi
import Derived.Test.YtolmhnekfokpdaaWr
set_option linter.unusedVariables false
namespace Go.Proofs.Ytolmhnekfokpdaa
open Go.RowKit Go.Maps

theorem tab_setW (n : Nat) (g : Nat → Int) (k : Nat) (v : Int) : (tab n g).set k v = tab n (fun j => if j = k then v else g j) := by
  apply List.ext_getElem
  · simp [tab]
  · intro i h1 h2
    simp only [tab, List.getElem_set, List.getElem_map, List.getElem_range]
    by_cases e : k = i
    · subst e; simp
    · rw [if_neg e, if_neg (fun h => e h.symm)]
theorem zeros_tabW (n : Nat) : (madeCells (Value.int .i64 0).cells (n * 1)).toList = (tab n fun _ => 0).map (Value.int .i64) := by
  rw [Nat.mul_one]
  refine (made1 _ n).trans ?_
  unfold tab
  rw [List.map_map]
  apply List.ext_getElem
  · simp
  · intro i h1 h2; simp
set_option maxRecDepth 100000 in
set_option maxHeartbeats 8000000 in
theorem free_spec_yes (W : List Int) (s n T : Nat) (v : Value) (w : World) (hn : W.length = n) (h : Sl (Value.int .i64) 0 w v W) (hw : wordB W (s : Int) = true) (hT : T ≤ 60) (hr : rowsB (s : Int) T = true) :
    Calls Try.prog 37 #[v, .int .i64 (s : Int), .int .i64 (T : Int)] w fun e w' => e = .returned (.tuple #[.int .i64 (sumA (fun k => rwI W s n T (k : Int)) n), .bool true]) ∧ Below w.heap.size w w' := by
  obtain ⟨⟨n1, n2⟩, s1, s2⟩ := wordB_bd hw
  rw [hn] at n1 n2
  obtain ⟨i0, hi, hz0, hz1, hz2⟩ := info_parts (show (Try.prog.info? 2).map (fun i => (i.zero, i.size, i.bytes)) = some (some (.int .i64 0), 1, 8) by kernel_rfl)
  have HW := Lib.hid (wordS_any W v (s : Int) w (by omega) h)
  rw [hw] at HW
  have HI := Lib.hid (fun z => in_yes (T : Int) 0 60 z (by omega) (by omega))
  have Hp := Lib.hid (fun k hk => pw_upto_bd (s : Int) T (by omega) (fun j hj => rowsB_at hr j hj) k hk)
  have Hpa := Lib.hid (fun k hk => rowsB_at hr k hk)
  have Hps := Lib.hid (fun k => (show pwI (s : Int) (k + 1) = pwI (s : Int) k * (s : Int) from rfl))
  have HS := Lib.hid h
  obtain ⟨p, cap, rfl, hf⟩ := h
  obtain ⟨hcap, b, off, rfl, hbs, hc⟩ := hf (by omega)
  have Hc := Lib.hid hc
  have Hn := Lib.hid hn
  rw [hn] at HS hcap HW ⊢
  clear hf hc hn hw hr
  go_enter Try.func37, Try.ntmps37
  go_wp2_with fail
  refine HW.out.mono ?_
  rintro e w1 ⟨rfl, hd1⟩
  have Hb1 := Lib.hid (hd1.below w.heap.size)
  clear hd1 HW
  go_wp2_with fail
  refine (HI.out _).mono ?_
  rintro e w' ⟨rfl, rfl⟩
  go_wp2
  go_loop [8, 9] (fun c i => ∃ k : Nat, k ≤ T ∧ i = .int .i64 (k : Int) ∧ c = .int .i64 (pwI (s : Int) k)) (fun _ i => T - (intOf i).toNat)
  case atStart => exact ⟨0, Nat.zero_le _, rfl, rfl⟩
  case round =>
    obtain ⟨k, hk, rfl, rfl⟩ := hrel
    by_cases hlt : k < T
    · have ha := Hpa.out k hlt
      have hb1 := Hp.out k (by omega)
      have hb2 := Hp.out (k + 1) (by omega)
      rw [Hps.out] at hb2
      have Hs := Lib.hid (Hps.out k)
      obtain ⟨m0, m1⟩ := hb1
      obtain ⟨m2, m3⟩ := hb2
      have dd : decide (4000000000000000000 / (s : Int) < pwI (s : Int) k) = false := decide_eq_false (by omega)
      have q0 : 0 ≤ 4000000000000000000 / (s : Int) := Int.ediv_nonneg (by omega) (by omega)
      have q1 : 4000000000000000000 / (s : Int) ≤ 4000000000000000000 := Int.ediv_le_self _ (by omega)
      clear ha
      generalize pwI (s : Int) k = X at *
      go_wp2
      go_round
      case rel => exact ⟨k + 1, by omega, by go_num, by rw [Hs.out]⟩
      case measure => simp [intOf]; omega
    · obtain rfl : T = k := by omega
      have HB := Lib.hid (fun i (hi : i ≤ T) => (Hp.out i hi).2)
      clear Hp Hpa Hps
      have Hst := Lib.hid (fun t k x r => nxW_step W s n t k x r)
      have Hbd := Lib.hid (fun t k x r (ht : t < T) (hk : k < n) (hx : x ≤ s) => nxW_bd W s n t k x r hk hx 4000000000000000000 (HB.out (t + 1) ht))
      have Hrw := Lib.hid (fun t k (ht : t ≤ T) (hk : k < n) => rw_each W s n t k hk 4000000000000000000 (HB.out t ht))
      have Hle := Lib.hid (fun k x => stepE_le W k x)
      go_wp2_with (at_make; refine wpList_make_full _ rfl _ _ 22 rfl w1.heap.size 2 i0 (.int .i64 0) 1 (by kernel_rfl) hi hz0 hz1 .i64 .i64 n n n rfl rfl rfl rfl (by rw [hz2]; omega) (by unfold maxLen; omega) (Nat.le_refl _) ?_; intro w2 hrow hgrow; have c0 : w2.cell? ⟨w1.heap.size, 0, none⟩ = some (.int .i64 0) := (by rw [hrow.cellAt 0 (by omega), zeros_tabW, List.getElem?_map, tab, List.getElem?_map, List.getElem?_range (by omega)]; rfl); have f0 := hrow.frozenAt 0)
      have hbel : Below w1.heap.size w1 w2 := (Below.refl _ w1).grown hgrow (Nat.le_refl _) (by simp)
      rw [zeros_tabW] at hrow
      have hs0 := (Sw.of_owns (d := 0) hrow (tab_len _ _)).store 0 (by rw [tab_len]; omega) 1
      rw [tab_setW, tab_congr (h := fun j => rwI W s n 0 (j : Int)) (fun j _ => by unfold rwI; by_cases e : j = 0 <;> simp [e])] at hs0
      have Hs0 := Lib.hid hs0
      have hzz := hgrow.size
      have hz12 := Hb1.out.size
      have Hbel := Lib.hid ((Hb1.out.trans (hbel.mono Hb1.out.size)).setCell (p := ⟨w1.heap.size, 0, none⟩) hz12 (.int .i64 1))
      clear hrow hbel hgrow hs0
      go_loopw [11, 12] (fun r i wr => ∃ t b lo hi : Nat, t ≤ T ∧ i = .int .i64 (t : Int) ∧ r = .slice (some ⟨b, 0, none⟩) n n ∧ Hid (Sw (Value.int .i64) 0 wr (.slice (some ⟨b, 0, none⟩) n n) (tab n fun j => rwI W s n t (j : Int)) lo hi) ∧ w1.heap.size ≤ lo ∧ hi ≤ wr.heap.size ∧ w1.heap.size ≤ wr.heap.size ∧ Hid (Below w.heap.size w wr)) (fun _ i _ => T - (intOf i).toNat)
      case atStart => exact ⟨0, w1.heap.size, w1.heap.size, w2.heap.size, Nat.zero_le _, rfl, rfl, Hs0, Nat.le_refl _, by simp, by simpa using hzz, Hbel⟩
      case round =>
        obtain ⟨wo, rfl⟩ : ∃ z, z = wr := ⟨_, rfl⟩
        obtain ⟨t, bR, lo, hi', ht, rfl, rfl, hR, hlo, hhi, hz1o, hb⟩ := hrel
        have hsz := hb.out.size
        by_cases hlt : t < T
        · go_wp2_with (at_make; refine wpList_make_full _ rfl _ _ 22 rfl wo.heap.size 2 i0 (.int .i64 0) 1 (by kernel_rfl) hi hz0 hz1 .i64 .i64 n n n rfl rfl rfl rfl (by rw [hz2]; omega) (by unfold maxLen; omega) (Nat.le_refl _) ?_; intro w3 hrow hgrow)
          have hz3 := hgrow.size
          have hb3 : Below wo.heap.size wo w3 := (Below.refl _ wo).grown hgrow (Nat.le_refl _) (by simp)
          rw [zeros_tabW] at hrow
          have hN0 := Sw.of_owns (d := 0) hrow (tab_len _ _)
          rw [tab_congr (h := fun j => nxW W s n t 0 0 (j : Int)) (fun j _ => (nxW_zero W s n t (j : Int)).symm)] at hN0
          have HN0 := Lib.hid hN0
          have HR0 := Lib.hid (hR.out.later hb3)
          have Hb3 := Lib.hid (hb.out.trans (hb3.mono hsz))
          clear hrow hgrow hN0 hb3
          go_wp2
          go_loopw [14] (fun i wi => ∃ k : Nat, k ≤ n ∧ i = .int .i64 (k : Int) ∧ Hid (Sw (Value.int .i64) 0 wi (.slice (some ⟨bR, 0, none⟩) n n) (tab n fun j => rwI W s n t (j : Int)) lo hi') ∧ Hid (Sw (Value.int .i64) 0 wi (.slice (some ⟨wo.heap.size, 0, none⟩) n n) (tab n fun j => nxW W s n t k 0 (j : Int)) wo.heap.size w3.heap.size) ∧ w3.heap.size ≤ wi.heap.size ∧ Hid (Below w.heap.size w wi)) (fun i _ => n - (intOf i).toNat)
          case atStart => exact ⟨0, Nat.zero_le _, rfl, HR0, HN0, Nat.le_refl _, Hb3⟩
          case round =>
            obtain ⟨wk, rfl⟩ : ∃ z, z = wr := ⟨_, rfl⟩
            obtain ⟨k, hk, rfl, hRk, hNk, hszk, hbk⟩ := hrel
            by_cases hlk : k < n
            · go_wp2
              go_loopw [15] (fun i wi => ∃ x : Nat, x ≤ s ∧ i = .int .i64 (x : Int) ∧ Hid (Sw (Value.int .i64) 0 wi (.slice (some ⟨bR, 0, none⟩) n n) (tab n fun j => rwI W s n t (j : Int)) lo hi') ∧ Hid (Sw (Value.int .i64) 0 wi (.slice (some ⟨wo.heap.size, 0, none⟩) n n) (tab n fun j => nxW W s n t k x (j : Int)) wo.heap.size w3.heap.size) ∧ w3.heap.size ≤ wi.heap.size ∧ Hid (Below w.heap.size w wi)) (fun i _ => s - (intOf i).toNat)
              case atStart => exact ⟨0, Nat.zero_le _, rfl, hRk, hNk, hszk, hbk⟩
              case round =>
                obtain ⟨wx, rfl⟩ : ∃ z, z = wr := ⟨_, rfl⟩
                obtain ⟨x, hx, rfl, hRx, hNx, hszx, hbx⟩ := hrel
                by_cases hlx : x < s
                · have hEl : (W.take k ++ [(x : Int)]).length = k + 1 := by rw [List.length_append, List.length_take, Hn.out, Nat.min_eq_left (by omega)]; rfl
                  have hsx := hbx.out.size
                  have Hal := Lib.hid (show Below wx.heap.size wx (wx.alloc (.cells #[] 2)) from (Below.refl _ _).alloc (Nat.le_refl _) _)
                  have Hown0 : Hid ((wx.alloc (.cells #[] 2)).ownsRow wx.heap.size 2 1 (.slice (some ⟨wx.heap.size, 0, none⟩) 0 0) 0 []) := Lib.hid (own_zero wx _ _ (fun _ => 0) (Nat.le_refl _))
                  have HL : Hid (((W.take k).map (Value.int .i64)).length = k * 1) := Lib.hid (by rw [List.length_map, List.length_take, Hn.out]; omega)
                  have HO : Hid (∀ j u, ((W.take k).map (Value.int .i64))[j]? = some u → (wx.alloc (.cells #[] 2)).cell? ((⟨b, off, none⟩ : Addr).add j) = some u) := Lib.hid (by
                    refine news_of2 (gs := W.take k) (fun i hi => ?_)
                    have hi' : i < k := by rw [List.length_take] at hi; omega
                    rw [Hal.out.cell (by show b < _; omega), hbx.out.cell hbs, Hc.out i (by rw [Hn.out]; omega)]
                    simp [List.getD, hi'])
                  go_wp2_with (first
                    | (at_builtin; refine wpList_append_own _ rfl (.tmp 64) (.tmp 67) 22 rfl wx.heap.size 2 i0 (.int .i64 0) 1 8 (by kernel_rfl) hi hz0 hz1 hz2 rfl (by decide) _ _ _ rfl Hown0.out ⟨b, off, none⟩ k cap ((W.take k).map (Value.int .i64)) rfl HL.out HO.out (ints_oneCell _ _) (by unfold maxLen; omega) (by omega) (by simp) ?_; intro v4 w4 hown4 hgrow4 hne4; clear hne4; have hb4 := Hal.out.grown hgrow4 (by simp) (fun j hj => (Hown0.out.lt j hj).1); simp only [Nat.zero_add, List.nil_append] at hown4; have Hown4 := Lib.hid hown4; have Hb4 := Lib.hid hb4; have hz4 := hb4.size; clear hown4 hgrow4 hb4)
                    | (at_builtin; refine wpList_append_own _ rfl (.tmp 68) (.tmp 70) 22 rfl wx.heap.size 2 i0 (.int .i64 0) 1 8 (by kernel_rfl) hi hz0 hz1 hz2 rfl (by decide) _ _ _ rfl (Hown4.out.alloc _) ⟨w4.heap.size, 0, none⟩ 1 1 [.int .i64 (x : Int)] rfl rfl (cell_one_new _ _ _) (one_int _) (by unfold maxLen; omega) (by omega) (by simp; omega) ?_; intro v5 w5 hown5 hgrow5 hne5; clear hne5; have hb5 := (Hb4.out.alloc hz4 _).grown hgrow5 (by simp; omega) (fun j hj => (Hown4.out.lt j hj).1); have hE := Sw.of_owns (fs := W.take k ++ [(x : Int)]) (d := 0) (by rw [List.map_append]; exact hown5) hEl; have Hb5 := Lib.hid hb5; have hz5 := hb5.size; clear hown5 hgrow5 hb5; obtain ⟨p5, cap5, e5, -⟩ := id hE; rw [hEl] at e5; subst e5; have HE := Lib.hid hE.sl; clear hE))
                  have hsE : stepE W k (x : Int) = lastE (W.take k ++ [(x : Int)]) W (k + 1) := rfl
                  have HsE := Lib.hid hsE
                  have HwB : Hid (Sl (Value.int .i64) 0 w5 (.slice (some ⟨b, off, none⟩) n cap) W) := Lib.hid (HS.out.later (hbx.out.trans (Hb5.out.mono hsx)))
                  have HR5 := Lib.hid (hRx.out.later Hb5.out)
                  have HN5 := Lib.hid (hNx.out.later Hb5.out)
                  have HB5 := Lib.hid (hbx.out.trans (Hb5.out.mono hsx))
                  clear hsE
                  go_loopw [17] (fun lv wi => ∃ j q : Nat, j ≤ k + 1 ∧ lv = .int .i64 (j : Int) ∧ Hid (lastE (W.take k ++ [(x : Int)]) W (k + 1) = lastE (W.take k ++ [(x : Int)]) W j) ∧ wi = w5.drewN q) (fun lv _ => (intOf lv).toNat)
                  case atStart => exact ⟨k + 1, 0, Nat.le_refl _, by go_num, Lib.hid rfl, rfl⟩
                  case round =>
                    obtain ⟨j, q, hj, rfl, hjE, rfl⟩ := hrel
                    have Hh := Lib.hid (fun (h1 : 1 ≤ j) => ends_any (W.take k ++ [(x : Int)]) W (.slice p5 (k + 1) cap5) (.slice (some ⟨b, off, none⟩) n cap) j (w5.drewN q) (by omega) (by have := Hn.out; omega) (by omega) h1 (HE.out.drewN q) (HwB.out.drewN q))
                    by_cases hc : 1 ≤ j ∧ endsB (W.take k ++ [(x : Int)]) W j = false
                    · obtain ⟨hj1, hee⟩ := hc
                      have Hh2 := Lib.hid (Hh.out hj1)
                      rw [hee] at Hh2
                      have HnE : Hid (lastE (W.take k ++ [(x : Int)]) W (k + 1) = lastE (W.take k ++ [(x : Int)]) W (j - 1)) := Lib.hid (by
                        rw [hjE.out]
                        obtain ⟨m, rfl⟩ : ∃ m, j = m + 1 := ⟨j - 1, by omega⟩
                        exact lastE_no hee)
                      have d0 : decide ((0 : Int) < (j : Int)) = true := decide_eq_true (by omega)
                      clear hee Hh hjE
                      go_wp2_with (go_at_call 79; refine Hh2.out.mono ?_; rintro e wq ⟨rfl, ⟨q2, rfl⟩⟩)
                      go_roundw
                      case rel => exact ⟨j - 1, _, by omega, by rw [show ((j - 1 : Nat) : Int) = (j : Int) - 1 by omega], HnE, rfl⟩
                      case measure => simp [intOf]; omega
                    · have hje : stepE W k (x : Int) = j := by
                        rw [HsE.out, hjE.out]
                        by_cases h0 : j = 0
                        · subst h0; rfl
                        · obtain ⟨m, rfl⟩ : ∃ m, j = m + 1 := ⟨j - 1, by omega⟩
                          refine lastE_yes ?_
                          cases he : endsB (W.take k ++ [(x : Int)]) W (m + 1)
                          · exact absurd ⟨by omega, he⟩ hc
                          · rfl
                      have hst := fun r => Hst.out t k x r
                      rw [hje] at hst
                      have HT := Lib.hid hst
                      have Hh2 : 1 ≤ j → Hid (∀ q, Calls Try.prog 79 #[.slice p5 (k + 1) cap5, .slice (some ⟨b, off, none⟩) n cap, .int .i64 (j : Int)] (w5.drewN q) fun e w' => e = .returned (.bool true) ∧ Drawn (w5.drewN q) w') := fun h1 => Lib.hid (fun q => by
                        have h2 := ends_any (W.take k ++ [(x : Int)]) W (.slice p5 (k + 1) cap5) (.slice (some ⟨b, off, none⟩) n cap) j (w5.drewN q) (by omega) (by have := Hn.out; omega) (by omega) h1 (HE.out.drewN q) (HwB.out.drewN q)
                        cases he : endsB (W.take k ++ [(x : Int)]) W j
                        · exact absurd ⟨h1, he⟩ hc
                        · rw [he] at h2; exact h2)
                      clear hje hst hjE Hh hc
                      by_cases hjn : j < n
                      · obtain ⟨b2, o2, e2, -, -, cN, fN⟩ := HN5.out.open' j (by rw [tab_len]; exact hjn)
                        obtain ⟨b1, o1, e1, -, -, cR, -⟩ := HR5.out.open' k (by rw [tab_len]; exact hlk)
                        cases e1
                        cases e2
                        rw [tab_get _ _ _ hjn, Nat.zero_add] at cN
                        rw [tab_get _ _ _ hlk, Nat.zero_add] at cR
                        rw [Nat.zero_add] at fN
                        have hbk2 := HN5.out.block (by rw [tab_len]; omega)
                        have hbr2 := HR5.out.block (by rw [tab_len]; omega)
                        obtain ⟨x0, x1⟩ := Hbd.out t k x (j : Int) hlt hlk (by omega)
                        obtain ⟨y0, y1⟩ := Hbd.out t k (x + 1) (j : Int) hlt hlk (by omega)
                        rw [HT.out, if_pos rfl] at y0 y1
                        obtain ⟨r0, r1⟩ := Hrw.out t k (by omega) hlk
                        have HN6 : Hid (Sw (Value.int .i64) 0 (w5.setCell ⟨wo.heap.size, j, none⟩ (.int .i64 (nxW W s n t k x (j : Int) + rwI W s n t (k : Int)))) (.slice (some ⟨wo.heap.size, 0, none⟩) n n) (tab n fun i => nxW W s n t k (x + 1) (i : Int)) wo.heap.size w3.heap.size) := Lib.hid (by
                          have h1 := HN5.out.store j (by rw [tab_len]; exact hjn) (nxW W s n t k x (j : Int) + rwI W s n t (k : Int))
                          rw [tab_setW, Nat.zero_add, tab_congr (h := fun i => nxW W s n t k (x + 1) (i : Int)) (fun i _ => by
                            rw [HT.out]
                            by_cases e : i = j
                            · subst e; rw [if_pos rfl, if_pos rfl]
                            · rw [if_neg e, if_neg (by omega), Int.add_zero])] at h1
                          exact h1)
                        have HR6 : Hid (Sw (Value.int .i64) 0 (w5.setCell ⟨wo.heap.size, j, none⟩ (.int .i64 (nxW W s n t k x (j : Int) + rwI W s n t (k : Int)))) (.slice (some ⟨bR, 0, none⟩) n n) (tab n fun j => rwI W s n t (j : Int)) lo hi') := Lib.hid (HR5.out.apart ((Only.refl wo.heap.size w3.heap.size w5).step' _ _ (Nat.le_refl _) hbk2.2) (.inl hhi))
                        generalize nxW W s n t k x (j : Int) = X at *
                        generalize rwI W s n t (k : Int) = R at *
                        clear HT HsE
                        have dn : decide (j < n) = true := decide_eq_true hjn
                        have cN' : ∀ q, (w5.drewN q).cell? ⟨wo.heap.size, j, none⟩ = some (.int .i64 X) := fun q => cN
                        have hzf : w3.heap.size ≤ w5.heap.size := by omega
                        rcases Nat.lt_or_ge 0 j with h0 | h0
                        · have H2 := Hh2 h0
                          have d0 : decide ((0 : Int) < (j : Int)) = true := decide_eq_true (by omega)
                          clear Hh2
                          go_wp2_with (go_at_call 79; refine (H2.out _).mono ?_; rintro e wq ⟨rfl, ⟨q2, rfl⟩⟩)
                          go_region
                          all_goals
                            go_wp2
                            go_roundw
                            case rel => exact ⟨x + 1, by omega, by go_num, Lib.hid HR6.out, Lib.hid HN6.out, by simpa using hzf, Lib.hid (below_drewN (HB5.out.setCell (by omega) _) _)⟩
                            case measure => simp [intOf]; omega
                        · have d0 : decide ((0 : Int) < (j : Int)) = false := decide_eq_false (by omega)
                          clear Hh2
                          go_wp2
                          go_region
                          all_goals
                            go_wp2
                            go_roundw
                            case rel => exact ⟨x + 1, by omega, by go_num, Lib.hid HR6.out, Lib.hid HN6.out, by simpa using hzf, Lib.hid (below_drewN (HB5.out.setCell (by omega) _) _)⟩
                            case measure => simp [intOf]; omega
                      · have HN6 : Hid (Sw (Value.int .i64) 0 w5 (.slice (some ⟨wo.heap.size, 0, none⟩) n n) (tab n fun i => nxW W s n t k (x + 1) (i : Int)) wo.heap.size w3.heap.size) := Lib.hid (by
                          have h1 := HN5.out
                          rw [tab_congr (h := fun i => nxW W s n t k (x + 1) (i : Int)) (fun i hi => by rw [HT.out, if_neg (by omega), Int.add_zero])] at h1
                          exact h1)
                        have dn : decide (j < n) = false := decide_eq_false hjn
                        have hzf : w3.heap.size ≤ w5.heap.size := by omega
                        have H2 := Hh2 (by omega)
                        have d0 : decide ((0 : Int) < (j : Int)) = true := decide_eq_true (by omega)
                        clear HT HsE Hh2
                        go_wp2_with (go_at_call 79; refine (H2.out _).mono ?_; rintro e wq ⟨rfl, ⟨q2, rfl⟩⟩)
                        go_roundw
                        case rel => exact ⟨x + 1, by omega, by go_num, Lib.hid HR5.out, Lib.hid HN6.out, by simpa using hzf, Lib.hid (below_drewN HB5.out _)⟩
                        case measure => simp [intOf]; omega
                · obtain rfl : s = x := by omega
                  go_wp2
                  go_roundw
                  case rel => exact ⟨k + 1, by omega, by go_num, hRx, Lib.hid (by have h1 := hNx.out; rwa [tab_congr (h := fun j => nxW W s n t (k + 1) 0 (j : Int)) (fun j _ => nxW_done W s n t k (j : Int))] at h1), hszx, hbx⟩
                  case measure => simp [intOf]; omega
            · obtain rfl : n = k := by omega
              go_wp2
              go_roundw
              case rel => exact ⟨t + 1, wo.heap.size, wo.heap.size, w3.heap.size, by omega, by go_num, rfl, Lib.hid (by have h1 := hNk.out; rwa [tab_congr (h := fun j => rwI W s n (t + 1) (j : Int)) (fun j hj => nxW_all W s n t j hj)] at h1), by omega, hszk, by omega, hbk⟩
              case measure => simp [intOf]; omega
        · obtain rfl : T = t := by omega
          go_wp2
          go_loop [18, 19] (fun c i => ∃ k : Nat, k ≤ n ∧ i = .int .i64 (k : Int) ∧ c = .int .i64 (sumA (fun j => rwI W s n T (j : Int)) k)) (fun _ i => n - (intOf i).toNat)
          case atStart => exact ⟨0, Nat.zero_le _, rfl, rfl⟩
          case round =>
            obtain ⟨k, hk, rfl, rfl⟩ := hrel
            by_cases hlk : k < n
            · obtain ⟨b1, o1, e1, -, -, cR, -⟩ := hR.out.open' k (by rw [tab_len]; exact hlk)
              cases e1
              rw [tab_get _ _ _ hlk, Nat.zero_add] at cR
              have HE := Lib.hid (sA_succ (fun j => rwI W s n T (j : Int)) k)
              have h1 := sA_nonneg (g := fun j => rwI W s n T (j : Int)) k (fun j _ => rw_nonneg W s n T _)
              have h2 := sA_part (g := fun j => rwI W s n T (j : Int)) n (fun j _ => rw_nonneg W s n T _) (k + 1) (by omega)
              have h3 := rw_total W s n T
              have h4 := HB.out T (Nat.le_refl _)
              have h5 := rw_nonneg W s n T (k : Int)
              rw [HE.out] at h2
              have h6 := Int.le_trans h2 (Int.le_trans h3 h4)
              clear h2 h3 h4
              generalize rwI W s n T (k : Int) = R at *
              generalize sumA (fun j => rwI W s n T (j : Int)) k = S at *
              go_wp2
              go_round
              case rel => exact ⟨k + 1, by omega, by go_num, by rw [HE.out]⟩
              case measure => simp [intOf]; omega
            · obtain rfl : n = k := by omega
              go_wp2
              go_ret2
              exact ⟨rfl, hb.out⟩
end Go.Proofs.Ytolmhnekfokpdaa
