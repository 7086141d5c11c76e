/- Contracts: decks of ranks, the model's function. -/
import Derived.Test.YtcoehcoohppbjaaUe
import Derived.Deep.RegionLawGrows
set_option linter.unusedVariables false
namespace Go
theorem step_append_row {P : Program} (w : World) {ops : Array Oper} {o : Oper} {a : Act} {K : Act → World → Prop} {Q : Exit → Act → World → Prop} {E : Prop} (hgd : o.guard = none) (s x : Operand) (t : TypeId)
    (ho : o.op = .call { callee := .builtin .append, args := #[s, x], argTypes := #[t, t] })
    (base : Nat) (e : TypeId) (i : TypeInfo) (z : Value) (size bytes : Nat) (ht : P.underlying t = some (.slice e)) (hi : P.info? e = some i) (hz : i.zero = some z)
    (hsize : i.size = size) (hby : i.bytes = bytes) (hzs : z.cells.size = size) (hsz : 0 < size)
    (g0 c0 n : Nat) (xs : List Value) (hs : a.eval s = .slice (some ⟨g0, 0, none⟩) n c0) (hown : w.ownsRow base e size (.slice (some ⟨g0, 0, none⟩) n c0) n xs)
    (ad : Addr) (m c : Nat) (news : List Value) (hx : a.eval x = .slice (some ad) m c) (hl : news.length = m * size) (hnews : ∀ j u, news[j]? = some u → w.cell? (ad.add j) = some u) (h1 : ∀ u ∈ news, u.oneCell' = true)
    (h63 : n + m ≤ maxLen) (hbytes : (n + m) * bytes ≤ 140737488355328) (hbase : base ≤ w.heap.size) (H : Nat) (hH : w.heap.size = H)
    (h : ∀ g cap w', w'.ownsRow base e size (.slice (some ⟨g, 0, none⟩) (n + m) cap) (n + m) (xs ++ news) → w.grownBy w' (some g0) → (g = g0 ∨ g = H) → K (a.put o.dst (.slice (some ⟨g, 0, none⟩) (n + m) cap)) w') :
    if Region.wanted o (yielded ops a.tmps) = true then Oper.wp P o a w K Q else E := by
  have hw : Region.wanted o (yielded ops a.tmps) = true := by simp [Region.wanted, hgd]
  rw [if_pos hw]
  obtain ⟨v', w', hr, h2, h3, h4, h5⟩ := run_append_own_at (P := P) w base t o.type e i z size bytes ht hi hz hsize hby hzs hsz _ n xs hown ad m c news hl hnews h1 h63 hbytes hbase
  obtain ⟨g, cap, rfl⟩ : ∃ g cap, v' = .slice (some ⟨g, 0, none⟩) (n + m) cap := by
    rcases h2.2 with ⟨hn, _⟩ | ⟨g, cap, cur, hv, _⟩
    · have := (h4.1 hn).1
      cases this
    · exact ⟨g, cap, hv⟩
  unfold Oper.wp execOp
  simp only [ho, resolve, invoke, builtin, Sem.run_bind, Sem.run_pure, Result.andThen_ok, List.map_toArray, List.map_cons, List.map_nil, hs, hx, hr]
  refine h g cap w' h2 h3 ?_
  rcases h5 with h5 | h5
  · left; simpa [Value.ownBlock] using h5
  · right
    have : g = w.heap.size := by simpa [Value.ownBlock] using h5
    rw [this, hH]
end Go
namespace Go.Proofs.Ytcoehcoohppbjaa
open Go.RowKit
theorem news_of {w : World} {b off : Nat} {gs : List Int} (hc : ∀ i, i < gs.length → w.cell? ⟨b, off + i, none⟩ = some (.int .i64 (gs.getD i 0))) :
    ∀ j u, (gs.map (Value.int .i64))[j]? = some u → w.cell? ((⟨b, off, none⟩ : Addr).add j) = some u := by
  intro j u hu
  rw [List.getElem?_map, Option.map_eq_some_iff] at hu
  obtain ⟨x, hx, rfl⟩ := hu
  have hj := (List.getElem?_eq_some_iff.1 hx).1
  rw [Addr.add_lit, hc j hj]
  simp [List.getD, hx]
theorem idxR_at (n r m : Nat) (h : m < n) : idxR n r (n - (m + 1)) = r % fct (m + 1) / fct m := by
  unfold idxR
  rw [show n - 1 - (n - (m + 1)) = m by omega, show n - (n - (m + 1)) = m + 1 by omega, mod_fct]
set_option maxRecDepth 100000 in
set_option maxHeartbeats 600000 in
theorem rk_spec (n r : Nat) (w : World) (n1 : 1 ≤ n) (n2 : n ≤ 20) (hr : r < fct n) :
    Calls Try.prog 58 #[.int .i64 (n : Int), .int .i64 (r : Int)] w fun e w' => ∃ v, e = .returned (.tuple #[v, .bool true]) ∧ Sw (Value.int .i64) 0 w' v (tab n (rkG n r)) w.heap.size w'.heap.size ∧ Below w.heap.size w w' := by
  have hfn := fct_20 n n2
  have Hin := Lib.hid (fun z => in_yes (n : Int) 1 20 z (by omega) (by omega))
  have Hin2 := Lib.hid (fun z => in_yes (r : Int) 0 (((fct n : Nat) : Int) - 1) z (by omega) (by omega))
  have Hpn := Lib.hid (fun z => product_any n z n2)
  have Hnew := Lib.hid (fun z => l02New_any n z (by omega))
  have Hprod := Lib.hid (fun m (h : m ≤ 20) z => product_any m z h)
  have Hidx := Lib.hid (fun m h => idxR_at n r m h)
  have Hmm := Lib.hid (fun q => mod_mod_fct r q)
  have Hfp := Lib.hid fct_pos
  have Hf20 := Lib.hid fct_20
  have Hlen := Lib.hid (leftR_len n r)
  have Hilt := Lib.hid (idxR_lt n r)
  have HS0 : Hid (leftR n r 0 = tab n fun k => (k : Int)) := Lib.hid rfl
  have HSk : Hid (∀ k, leftR n r (k + 1) = (leftR n r k).eraseIdx (idxR n r k)) := Lib.hid (fun _ => rfl)
  have HG : Hid (∀ k, rkG n r k = (leftR n r k).getD (idxR n r k) 0) := Lib.hid (fun _ => rfl)
  have Hr0 := Lib.hid (show r % fct n = r from Nat.mod_eq_of_lt hr)
  obtain ⟨i0, hi, hz0, hz1, hz2⟩ := info_parts (show (Try.prog.info? 2).map (fun i => (i.zero, i.size, i.bytes)) = some (some (.int .i64 0), 1, 8) by kernel_rfl)
  generalize hFn : fct n = Fn at Hin2 Hpn hfn
  have HFn := Lib.hid hFn
  clear hFn
  go_enter Try.func58, Try.ntmps58
  go_wp2_with (first | (go_at_call 83; first | (with_reducible refine (Hin.out _).mono ?_; rintro e w' ⟨rfl, rfl⟩) | (with_reducible refine (Hin2.out _).mono ?_; rintro e w' ⟨rfl, rfl⟩)) | (go_at_call 106; refine (Hpn.out _).mono ?_; rintro e w' ⟨rfl, rfl⟩) | (go_at_call 69; refine (Hnew.out _).mono ?_; rintro e w1 ⟨v, rfl, hs, hb⟩; obtain ⟨b0, c0, rfl, hb0, hb1⟩ := hs.form (by omega); have Hs := Lib.hid hs; have Hb := Lib.hid hb; clear hs hb))
  have hsz := Hb.out.size
  clear Hin Hin2 Hpn Hnew
  go_loopg [1, 6, 7, 8] n (fun gk rv v u iv wr => ∃ (p bu cu bv cv : Nat), p ≤ n ∧ gk = p ∧ rv = .int .i64 ((r % fct p : Nat) : Int) ∧ ((p = 0 ∧ iv = .int .i64 (-1)) ∨ ∃ m : Nat, p = m + 1 ∧ iv = .int .i64 (m : Int)) ∧ u = .slice (some ⟨bu, 0, none⟩) (n - p) cu ∧ v = .slice (some ⟨bv, 0, none⟩) p cv ∧ Hid (wr.ownsRow w.heap.size 2 1 (.slice (some ⟨bu, 0, none⟩) (n - p) cu) (n - p) ((tab (n - p) (rkG n r)).map (Value.int .i64))) ∧ Hid (wr.ownsRow w.heap.size 2 1 (.slice (some ⟨bv, 0, none⟩) p cv) p ((leftR n r (n - p)).map (Value.int .i64))) ∧ bu ≠ bv ∧ Hid (Below w.heap.size w wr))
  case atStart =>
    refine ⟨n, w1.heap.size, 0, b0, c0, Nat.le_refl _, rfl, by rw [Hr0.out], .inr ⟨n - 1, by omega, by congr 1; omega⟩, by rw [Nat.sub_self], rfl, ?_, ?_, by omega, ?_⟩
    · rw [Nat.sub_self]; exact Lib.hid (own_zero w1 w.heap.size 2 (rkG n r) hsz)
    · rw [Nat.sub_self, HS0.out]; exact Lib.hid (Hs.out.alloc _)
    · exact Lib.hid (Hb.out.alloc hsz _)
  case round =>
    obtain ⟨p, bu, cu, bv, cv, hp, rfl, rfl, hiv, rfl, rfl, hou, hle, hne, hb⟩ := hrel
    rcases hiv with ⟨rfl, rfl⟩ | ⟨m, rfl, rfl⟩
    · rw [Nat.sub_zero] at hou
      go_wp2
      go_ret2
      exact ⟨_, rfl, Sw.of_owns hou.out (tab_len _ _), hb.out⟩
    · have hk : n - m = n - (m + 1) + 1 := by omega
      have HK := Lib.hid (HSk.out (n - (m + 1)))
      have hq := Hilt.out (n - (m + 1)) (by omega)
      have HI := Lib.hid (Hidx.out m (by omega))
      have HLl := Lib.hid (Hlen.out (n - (m + 1)) (by omega))
      have Hx := Lib.hid (HG.out (n - (m + 1)))
      have Hpm := Lib.hid (fun z => Hprod.out m (by omega) z)
      have hF := Hfp.out m
      have hF2 := Hf20.out m (by omega)
      have hR : r % fct (m + 1) ≤ 2432902008176640000 := Nat.le_trans (Nat.le_of_lt (Nat.mod_lt _ (Hfp.out (m + 1)))) (Hf20.out (m + 1) (by omega))
      have HR2 := Lib.hid (Hmm.out m)
      have hr1 := Nat.mod_lt (r % fct (m + 1)) hF
      have hnn : n - (n - (m + 1)) = m + 1 := by omega
      rw [hnn] at hq HLl
      generalize idxR n r (n - (m + 1)) = q at *
      have HI2 := Lib.hid HI.out.symm
      generalize r % fct (m + 1) = R at *
      generalize hFm : fct m = F at *
      have HFm := Lib.hid hFm
      clear hFm
      have e1 : Int.tdiv (R : Int) (F : Int) = (q : Int) := by rw [Int.tdiv_eq_ediv_of_nonneg (by omega), ← Int.natCast_ediv, HI2.out]
      have e2 : Int.tmod (R : Int) (F : Int) = ((r % F : Nat) : Int) := by rw [Int.tmod_eq_emod_of_nonneg (by omega), ← Int.natCast_emod, HR2.out]
      rw [HR2.out] at hr1
      generalize hR3 : r % F = R3 at *
      have HR3 := Lib.hid hR3
      clear hR3 HR2 HI HI2
      have hF0 : ((F : Int) = 0) = False := eq_false (by omega)
      have c1 := own_cell hle.out q (by omega)
      rw [← Hx.out] at c1
      have hcv : m + 1 ≤ cv := own_cap hle.out
      have hvs : bv < wr.heap.size := (hle.out.lt _ rfl).2
      have hus : bu < wr.heap.size := (hou.out.lt _ rfl).2
      have hbb : w.heap.size ≤ bv := (hle.out.lt _ rfl).1
      have hsz2 : w.heap.size ≤ wr.heap.size := hb.out.size
      have Hsn : Hid (∀ {W : World} {v : Value}, W.ownsRow w.heap.size 2 1 v (n - (m + 1) + 1) ((tab (n - (m + 1)) (rkG n r)).map (Value.int .i64) ++ [.int .i64 (rkG n r (n - (m + 1)))]) → W.ownsRow w.heap.size 2 1 v (n - (m + 1) + 1) ((tab (n - (m + 1) + 1) (rkG n r)).map (Value.int .i64))) := Lib.hid (fun h => own_snoc h)
      generalize rkG n r (n - (m + 1)) = x at *
      generalize leftR n r (n - (m + 1)) = L at *
      generalize hT : (tab (n - (m + 1)) (rkG n r)).map (Value.int .i64) = T at *
      have hj1 : n - (m + 1) ≤ 20 := by omega
      generalize hJ : n - (m + 1) = J at *
      have HJ := Lib.hid hJ
      have HTT := Lib.hid hT
      clear hJ hT hnn Hx
      go_upto_region 11 with (first | (go_at_call 106; refine (Hpm.out _).mono ?_; rintro e w' ⟨rfl, rfl⟩) | (at_builtin; refine wpList_append_lies _ rfl _ _ 22 rfl w.heap.size 2 i0 (.int .i64 0) 1 8 (by kernel_rfl) hi hz0 hz1 hz2 rfl (by decide) _ _ _ rfl (hou.out.alloc _) ⟨wr.heap.size, 0, none⟩ 1 1 [.int .i64 x] rfl rfl (cell_one_new _ _ _) (one_int _) (by omega) (by unfold maxLen; omega) (by omega) (by simp; omega) (wr.heap.size + 1) (by simp) ?_; intro b2 c2 w2 hown2 hgrow2 hat2 hlt2))
      have hgrow2 : World.grownBy (wr.alloc (.cells #[.int .i64 x] 2)) w2 (some bu) := hgrow2
      have hat2 : some bu = some b2 ∨ b2 = wr.heap.size + 1 := hat2
      have HO2 := Lib.hid (Hsn.out hown2)
      have HW2 := Lib.hid ((hle.out.alloc _).kept hgrow2 (.inr (by simp [Value.ownBlock]; omega)))
      have hne2 : b2 ≠ bv := by
        rcases hat2 with h | h
        · cases h; exact hne
        · omega
      have HB2 := Lib.hid ((hb.out.alloc hsz2 _).grown hgrow2 (by simp; omega) (fun b hb => (hou.out.lt b hb).1))
      have h2s : b2 < w2.heap.size := hlt2
      have hv2 : bv < w2.heap.size := (HW2.out.lt _ rfl).2
      have hsz3 : w.heap.size ≤ w2.heap.size := HB2.out.size
      clear hown2 hgrow2 hat2 hlt2 c1 hou hle hb hvs hus hsz2
      have HE := Lib.hid (own_zero w2 w.heap.size 2 (fun _ => 0) hsz3)
      have Hl1 : Hid (((L.take q).map (Value.int .i64)).length = q * 1) := Lib.hid (by rw [List.length_map, List.length_take, HLl.out]; omega)
      have Hl2 : Hid (((L.drop (q + 1)).map (Value.int .i64)).length = (m - q) * 1) := Lib.hid (by rw [List.length_map, List.length_drop, HLl.out]; omega)
      have Hn1 := Lib.hid (fun (W : World) (hB : Below w2.heap.size w2 W) => news_of (w := W) (b := bv) (off := 0) (gs := L.take q) (fun i hi => by
        have hi2 : i < q := by have := hi; rw [List.length_take] at this; omega
        rw [Nat.zero_add, hB.cell (show (⟨bv, i, none⟩ : Addr).block < _ from hv2), own_cell HW2.out i (by omega)]
        simp [List.getD, hi2]))
      have BA := Lib.hid ((Below.refl w2.heap.size w2).alloc (Nat.le_refl _) (.cells #[] 2))
      have hq1 : (q : Int) ≤ (m : Int) + 1 := by omega
      have hq2 : (q : Int) + 1 ≤ (m : Int) + 1 := by omega
      have hq3 : (q : Int) ≤ (cv : Int) := by omega
      have hwq : IntKind.i64.wrap ((q : Int) + 1) = (q : Int) + 1 := IntWalk.i64_in _ (by omega)
      have hwn : ((q : Int) + 1).toNat = q + 1 := by omega
      have hw0 : (0 : Int) ≤ (q : Int) + 1 := by omega
      by_cases hqc : q + 1 < cv
      · have hqc1 : (q : Int) + 1 < (cv : Int) := by omega
        have hqc2 : (cv = q + 1) = False := eq_false (by omega)
        have Hn2 := Lib.hid (fun (W : World) (hB : Below w2.heap.size w2 W) => news_of (w := W) (b := bv) (off := q + 1) (gs := L.drop (q + 1)) (fun i hi => by
          have hi2 : q + 1 + i < m + 1 := by have := hi; rw [List.length_drop, HLl.out] at this; omega
          rw [hB.cell (show (⟨bv, q + 1 + i, none⟩ : Addr).block < _ from hv2), own_cell HW2.out (q + 1 + i) (by omega)]
          simp [List.getD]))
        go_region_law (first | (refine step_append_row _ (by rfl) (.tmp 45) (.tmp 48) 22 (by rfl) w.heap.size 2 i0 _ 1 8 (by kernel_rfl) hi hz0 hz1 hz2 rfl (by omega) w2.heap.size 0 0 _ (by rfl) (by first | exact HE.out | exact HE.out.drew) ⟨bv, 0, none⟩ q cv ((L.take q).map (Value.int .i64)) (by rfl) Hl1.out (Hn1.out _ (by first | exact BA.out | exact BA.out.drew)) (ints_one _) (by unfold maxLen; omega) (by omega) (by simp; omega) (w2.heap.size + 1) (by simp) ?_; intro b3 c3 w3 hown3 hgrow3 hat3; rw [Nat.zero_add] at hown3; obtain ⟨HO3, HB3, HK3, hb3⟩   := du_fact (b4 := b3) HO2.out HB2.out (by first | exact BA.out | exact BA.out.drew) hsz3 hgrow3 (Nat.le_refl _) (hat3.imp (fun h => congrArg some h.symm) (fun h => h.trans (by simp))); have hsz4 : w2.heap.size ≤ w3.heap.size := HK3.out.size) | (refine step_append_row _ (by rfl) (.tmp 49) (.tmp 53) 22 (by rfl) w.heap.size 2 i0 _ 1 8 (by kernel_rfl) hi hz0 hz1 hz2 rfl (by omega) b3 c3 q _ (by rfl) (by first | exact hown3 | exact hown3.drew) ⟨bv, q + 1, none⟩ (m - q) (cv - (q + 1)) ((L.drop (q + 1)).map (Value.int .i64)) (by rfl) Hl2.out (Hn2.out _ (by first | exact HK3.out | exact HK3.out.drew)) (ints_one _) (by unfold maxLen; omega) (by omega) (Nat.le_trans hsz3 hsz4) _ rfl ?_; intro b4 c4 w4 hown4 hgrow4 hat4; obtain ⟨HO4, HB4, HK4, hb4⟩ := du_fact (b4 := b4) HO2.out HB2.out (by first | exact HK3.out | exact HK3.out.drew) hsz3 hgrow4 hb3 (hat4.imp (fun h => congrArg some h.symm) (fun h => h))))
        all_goals
          have HF : Hid (w4.ownsRow w.heap.size 2 1 (.slice (some ⟨b4, 0, none⟩) m c4) m ((leftR n r (J + 1)).map (Value.int .i64))) := Lib.hid (by
            have h := hown4
            try rw [show q + (m - q) = m by omega] at h
            rw [HK.out, List.eraseIdx_eq_take_drop_succ, List.map_append]
            exact h)
          have hne4 : b2 ≠ b4 := by omega
          try rw [show q + (m - q) = m by omega]
          have hmm : n - m = J + 1 := by omega
          clear hown3 hgrow3 hat3 hown4 hgrow4 hat4 HO3 HB3 HK3 HK4 HE Hl1 Hl2 Hn1 Hn2 BA HW2 HO2 HB2
          go_wp2
          go_roundg m
          case measure => omega
          case rel => exact ⟨m, b2, c2, b4, c4, by omega, rfl, by rw [HFm.out, HR3.out], by
            rcases Nat.eq_zero_or_pos m with h | h
            · exact .inl ⟨h, by subst h; rfl⟩
            · exact .inr ⟨m - 1, by omega, by congr 1; omega⟩, by rw [hmm], rfl, by rw [hmm]; exact HO4, by rw [hmm]; exact HF, hne4, HB4⟩
      · obtain rfl : m = q := by omega
        obtain rfl : cv = m + 1 := by omega
        have Hl2 : Hid (((L.drop (m + 1)).map (Value.int .i64)).length = 0 * 1) := Lib.hid (by rw [Hl2.out, Nat.sub_self])
        have Hn2 := Lib.hid (fun (W : World) (hB : Below w2.heap.size w2 W) => news_of (w := W) (b := bv) (off := 0) (gs := L.drop (m + 1)) (fun i hi => by
          exfalso
          rw [List.length_drop, HLl.out] at hi; omega))
        go_region_law (first | (refine step_append_row _ (by rfl) (.tmp 45) (.tmp 48) 22 (by rfl) w.heap.size 2 i0 _ 1 8 (by kernel_rfl) hi hz0 hz1 hz2 rfl (by omega) w2.heap.size 0 0 _ (by rfl) (by first | exact HE.out | exact HE.out.drew) ⟨bv, 0, none⟩ m (m + 1) ((L.take m).map (Value.int .i64)) (by rfl) Hl1.out (Hn1.out _ (by first | exact BA.out | exact BA.out.drew)) (ints_one _) (by unfold maxLen; omega) (by omega) (by simp; omega) (w2.heap.size + 1) (by simp) ?_; intro b3 c3 w3 hown3 hgrow3 hat3; rw [Nat.zero_add] at hown3; obtain ⟨HO3, HB3, HK3, hb3⟩   := du_fact (b4 := b3) HO2.out HB2.out (by first | exact BA.out | exact BA.out.drew) hsz3 hgrow3 (Nat.le_refl _) (hat3.imp (fun h => congrArg some h.symm) (fun h => h.trans (by simp))); have hsz4 : w2.heap.size ≤ w3.heap.size := HK3.out.size) | (refine step_append_row _ (by rfl) (.tmp 49) (.tmp 53) 22 (by rfl) w.heap.size 2 i0 _ 1 8 (by kernel_rfl) hi hz0 hz1 hz2 rfl (by omega) b3 c3 m _ (by rfl) (by first | exact hown3 | exact hown3.drew) ⟨bv, 0, none⟩ 0 0 ((L.drop (m + 1)).map (Value.int .i64)) (by rfl) Hl2.out (Hn2.out _ (by first | exact HK3.out | exact HK3.out.drew)) (ints_one _) (by unfold maxLen; omega) (by omega) (Nat.le_trans hsz3 hsz4) _ rfl ?_; intro b4 c4 w4 hown4 hgrow4 hat4; obtain ⟨HO4, HB4, HK4, hb4⟩ := du_fact (b4 := b4) HO2.out HB2.out (by first | exact HK3.out | exact HK3.out.drew) hsz3 hgrow4 hb3 (hat4.imp (fun h => congrArg some h.symm) (fun h => h))))
        all_goals
          have HF : Hid (w4.ownsRow w.heap.size 2 1 (.slice (some ⟨b4, 0, none⟩) m c4) m ((leftR n r (J + 1)).map (Value.int .i64))) := Lib.hid (by
            have h := hown4
            try rw [show m + 0 = m by omega] at h
            rw [HK.out, List.eraseIdx_eq_take_drop_succ, List.map_append]
            exact h)
          have hne4 : b2 ≠ b4 := by omega
          try rw [show m + 0 = m by omega]
          have hmm : n - m = J + 1 := by omega
          clear hown3 hgrow3 hat3 hown4 hgrow4 hat4 HO3 HB3 HK3 HK4 HE Hl1 Hl2 Hn1 Hn2 BA HW2 HO2 HB2
          go_wp2
          go_roundg m
          case measure => omega
          case rel => exact ⟨m, b2, c2, b4, c4, by omega, rfl, by rw [HFm.out, HR3.out], by
            rcases Nat.eq_zero_or_pos m with h | h
            · exact .inl ⟨h, by subst h; rfl⟩
            · exact .inr ⟨m - 1, by omega, by congr 1; omega⟩, by rw [hmm], rfl, by rw [hmm]; exact HO4, by rw [hmm]; exact HF, hne4, HB4⟩
end Go.Proofs.Ytcoehcoohppbjaa
