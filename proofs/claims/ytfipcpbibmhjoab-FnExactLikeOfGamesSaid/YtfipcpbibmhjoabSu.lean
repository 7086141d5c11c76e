/- Contracts: how likely games are, the model's. -/
import Derived.Test.YtfipcpbibmhjoabSt
set_option linter.unusedVariables false
namespace Go.Proofs.Ytfipcpbibmhjoab
open Go.RowKit Fl
set_option maxRecDepth 100000 in
set_option maxHeartbeats 1000000 in
theorem spec_LikeOfGames (ss : List Nat) (u : Value) (n : Nat) (fs : List Int) (v : Value) (w : World) (hm : ss.length ≤ 1048576) (hw : ∀ x ∈ ss, x < 4294967296) (g : Sl (Value.float .f32) 0 w u ss) (hn : n ≤ 1048576) (h : SlK 3 w v n fs) :
    Calls Try.prog 26 #[u, v] w fun e w' => e = .returned (.tuple #[.float .f32 (res_LikeOfGames ss n fs), .bool (ok_LikeOfGames ss n fs)]) ∧ Below w.heap.size w w' := by
  have Hg := Lib.hid (games_spec (ss.length : Int) n fs v w hn h)
  cases hv : gamesB (ss.length : Int) n fs
  · have E1 := Lib.hid (show res_LikeOfGames ss n fs = 0 by unfold res_LikeOfGames; rw [hv]; rfl)
    have E2 := Lib.hid (show ok_LikeOfGames ss n fs = false by unfold ok_LikeOfGames; rw [hv]; rfl)
    rw [hv] at Hg
    rw [E1.out, E2.out]
    obtain ⟨-, q, cap, rfl, -⟩ := h
    obtain ⟨p1, cap1, rfl, -⟩ := g
    clear hv E1 E2
    generalize ss.length = p at *
    go_enter Try.func26, Try.ntmps26
    go_wp2_with (refine (Hg.out).mono ?_; rintro e w0 ⟨rfl, hd⟩; have Hb0 := Lib.hid (hd.below w.heap.size); clear hd)
    go_ret2
    exact ⟨rfl, Hb0.out⟩
  obtain ⟨-, hn2, hg⟩ := gamesB_at hv
  have Hbad := Lib.hid (fun (hp : posAll ss = false) => show res_LikeOfGames ss n fs = 0 ∧ ok_LikeOfGames ss n fs = false by unfold res_LikeOfGames ok_LikeOfGames; rw [hv, hp]; exact ⟨rfl, rfl⟩)
  have Hgood := Lib.hid (fun (hp : posAll ss = true) => show res_LikeOfGames ss n fs = (finOut (likeT ss fs n)).1 ∧ ok_LikeOfGames ss n fs = (finOut (likeT ss fs n)).2 by unfold res_LikeOfGames ok_LikeOfGames; rw [hv, hp]; exact ⟨rfl, rfl⟩)
  have Hno := Lib.hid (fun k (hk : k < ss.length) h => show posAll ss = false from all_not (p := fun k => aboveB (ss.getD k 0)) k hk h)
  have Hyes := Lib.hid (fun h => show posAll ss = true from all_of (p := fun k => aboveB (ss.getD k 0)) h)
  have HA := Lib.hid (fun k z => above_spec (ss.getD k 0) (lt_getD hw k) z)
  rw [hv] at Hg
  generalize hR1 : res_LikeOfGames ss n fs = R1 at *
  generalize hR2 : ok_LikeOfGames ss n fs = R2 at *
  clear hR1 hR2
  have Hat := Lib.hid (fun k hk => gAt_nat (hg k hk))
  have Hst := Lib.hid (fun k => show likeT ss fs (k + 1) = fop .add .f32 (likeT ss fs k) (termT (cn .f32 (ss.getD (gx fs k) 0)) (cn .f32 (ss.getD (gy fs k) 0)) (gz fs k)) from rfl)
  have H0 := Lib.hid (show likeT ss fs 0 = 0 from rfl)
  have Hwf := Lib.hid (lt_getD hw)
  have HFin := Lib.hid (fun r (h : cn .f32 r = likeT ss fs n) => finOut_cn h)
  have HN := Lib.hid (fun x hx z => number_spec x hx z)
  have HL := Lib.hid (fun x hx z => log_spec x hx z)
  obtain ⟨p, hpe⟩ : ∃ p, p = ss.length := ⟨_, rfl⟩
  rw [← hpe] at Hg Hat hm Hno Hyes
  have Hslen := Lib.hid hpe.symm
  have Hsl := Lib.hid h
  obtain ⟨-, q, cap, rfl, -⟩ := h
  obtain ⟨p1, cap1, rfl, hss⟩ := g
  have Hss := Lib.hid hss
  rw [← hpe]
  clear hv hg hss hpe
  obtain ⟨V, hV⟩ : ∃ V, V = finOut (likeT ss fs n) := ⟨_, rfl⟩
  rw [← hV] at HFin Hgood
  clear hV
  go_enter Try.func26, Try.ntmps26
  go_wp2_with (refine (Hg.out).mono ?_; rintro e w0 ⟨rfl, hd⟩; have Hb0 := Lib.hid (hd.below w.heap.size); clear hd)
  go_loopw [20] (fun i wr => ∃ k : Nat, k ≤ p ∧ i = .int .i64 (k : Int) ∧ Hid (∀ j, j < k → aboveB (ss.getD j 0) = true) ∧ Hid (Below w.heap.size w wr)) (fun i _ => p - (intOf i).toNat)
  case atStart => exact ⟨0, Nat.zero_le _, rfl, Lib.hid (fun j h => absurd h (by omega)), Hb0⟩
  case round =>
    obtain ⟨k, hk, rfl, hdn, hb⟩ := hrel
    by_cases hlt : k < p
    · obtain ⟨hcap2, b2, off2, e2, hbs2, hsc⟩ := Hss.out (by rw [Hslen.out]; omega)
      cases e2
      have d0 : wr.cell? ⟨b2, off2 + k, none⟩ = some (Value.float .f32 (ss.getD k 0)) := by rw [hb.out.cell hbs2]; exact hsc k (by rw [Hslen.out]; omega)
      have HA2 := Lib.hid (HA.out k)
      have Hno2 := Lib.hid (fun h => Hno.out k hlt h)
      have HD : Hid (aboveB (ss.getD k 0) = true → ∀ j, j < k + 1 → aboveB (ss.getD j 0) = true) := Lib.hid (fun hg j hj => by
        by_cases e : j = k
        · subst e; exact hg
        · exact hdn.out j (by omega))
      clear hsc Hno Hyes hdn HA
      generalize ss.getD k 0 = a at *
      cases hr : aboveB a
      · have HR := Lib.hid (Hbad.out (Hno2.out hr))
        rw [hr] at HA2
        clear hr HD Hno2 Hbad Hgood Hat Hst H0 Hwf HFin HN HL
        go_wp2_with (refine (HA2.out _).mono ?_; rintro e w' ⟨rfl, hd⟩; have Hbz := Lib.hid (Below.still hb.out hd.only); clear hd)
        go_ret2
        exact ⟨ret2f HR.out.1.symm HR.out.2.symm, Hbz.out⟩
      · have HD2 := Lib.hid (HD.out hr)
        rw [hr] at HA2
        clear hr HD Hno2
        go_wp2_with (refine (HA2.out _).mono ?_; rintro e w' ⟨rfl, hd⟩; have Hbz := Lib.hid (Below.still hb.out hd.only); clear hd)
        go_roundw
        case rel => exact ⟨k + 1, by omega, by go_num, HD2, Hbz⟩
        case measure => simp [intOf]; omega
    · obtain rfl : k = p := by omega
      have HGd := Lib.hid (Hgood.out (Hyes.out hdn.out))
      have Hb1 := hb
      obtain ⟨wo, rfl⟩ : ∃ z, z = wr := ⟨_, rfl⟩
      clear Hno Hyes hdn HA Hgood Hbad hlt hk
      go_wp2
      go_loopw [7, 32] (fun c i wr => ∃ (k : Nat) (r : Nat), k ≤ n ∧ i = .int .i64 (k : Int) ∧ c = .float .f32 r ∧ r < 4294967296 ∧ Hid (cn .f32 r = likeT ss fs k) ∧ Hid (Below w.heap.size w wr)) (fun _ i _ => n - (intOf i).toNat)
      case atStart => exact ⟨0, 0, Nat.zero_le _, rfl, rfl, by decide, Lib.hid (by rw [H0.out]; exact zero_cn), Hb1⟩
      case round =>
        obtain ⟨k, r, hk, rfl, rfl, wfr, Er, hb⟩ := hrel
        have hsz := hb.out.size
        by_cases hlt : k < n
        · skip
          obtain ⟨-, q', cap', e1, hf⟩ := Hsl.out
          cases e1
          obtain ⟨hcap, b, off, rfl, hbs, hc⟩ := hf (by omega)
          have c0 : wr.cell? ⟨b, off + k * 3, none⟩ = some (Value.int .i64 (fs.getD (k * 3) 0)) := by rw [hb.out.cell hbs]; exact hc (k * 3) (by omega)
          have c1 : wr.cell? ⟨b, off + k * 3 + 1, none⟩ = some (Value.int .i64 (fs.getD (k * 3 + 1) 0)) := by rw [hb.out.cell hbs]; exact hc (k * 3 + 1) (by omega)
          have c2 : wr.cell? ⟨b, off + k * 3 + 2, none⟩ = some (Value.int .i64 (fs.getD (k * 3 + 2) 0)) := by rw [hb.out.cell hbs]; exact hc (k * 3 + 2) (by omega)
          obtain ⟨a1, a2, a3, a4, a5, a6, a7⟩ := Hat.out k hlt
          rw [a1] at c0
          rw [a2] at c1
          rw [a3] at c2
          have hst := Hst.out k
          have wfa := Hwf.out (gx fs k)
          have wfb := Hwf.out (gy fs k)
          clear hc hf a1 a2 a3
          generalize gx fs k = x at *
          generalize gy fs k = y at *
          generalize gz fs k = z at *
          obtain ⟨hcap2, b2, off2, e2, hbs2, hsc⟩ := Hss.out (by rw [Hslen.out]; omega)
          cases e2
          have d0 : wr.cell? ⟨b2, off2 + x, none⟩ = some (Value.float .f32 (ss.getD x 0)) := by rw [hb.out.cell hbs2]; exact hsc x (by rw [Hslen.out]; omega)
          have d1 : wr.cell? ⟨b2, off2 + y, none⟩ = some (Value.float .f32 (ss.getD y 0)) := by rw [hb.out.cell hbs2]; exact hsc y (by rw [Hslen.out]; omega)
          clear hsc
          generalize ss.getD x 0 = a at *
          generalize ss.getD y 0 = b at *
          have Hst2 := Lib.hid hst
          clear hst
          go_wp2_with fail
          go_region_with (refine upon_farith .add (by simp) _ .f32 _ _ ?_; intro s ns Hs)
          all_goals
            have Es := Lib.hid (show cn .f32 s = fop .add .f32 (cn .f32 a) (cn .f32 b) from fop_of Hs.out rfl rfl)
            have wfs := wf32 Hs.out.wf
            clear Hs
            go_wp2_with (first | (refine wpList_farith rfl .mul _ _ _ _ rfl (by simp) .f32 1056964608 _ rfl rfl ?_; intro h1 nh1 Hh1; have Eh1 := Lib.hid (show cn .f32 h1 = halfC z from fop_of Hh1.out halfn_cn (ofInt_cn _)); have wfh1 := wf32 Hh1.out.wf; clear Hh1) | (refine wpList_farith rfl .quo _ _ _ _ rfl (by simp) .f32 a s rfl rfl ?_; intro q nq Hq; have Eq := Lib.hid (show cn .f32 q = quoA (cn .f32 a) (cn .f32 b) from fop_of Hq.out rfl Es.out); have wfq := wf32 Hq.out.wf; clear Hq) | (refine wpList_farith rfl .quo _ _ _ _ rfl (by simp) .f32 b s rfl rfl ?_; intro q2 nq2 Hq2; have Eq2 := Lib.hid (show cn .f32 q2 = quoB (cn .f32 a) (cn .f32 b) from fop_of Hq2.out rfl Es.out); have wfq2 := wf32 Hq2.out.wf; clear Hq2) | (go_at_call 65; (with_reducible refine (HL.out q wfq _).mono ?_); rintro e w' ⟨l, nll, rfl, rfl, hll⟩; have El := Lib.hid (show cn .f32 l = logC _ from (logC_of wfq hll).trans (by rw [Eq.out])); clear hll) | (go_at_call 65; (with_reducible refine (HL.out q2 wfq2 _).mono ?_); rintro e w' ⟨l2, nll2, rfl, rfl, hll2⟩; have El2 := Lib.hid (show cn .f32 l2 = logC _ from (logC_of wfq2 hll2).trans (by rw [Eq2.out])); clear hll2) | (refine wpList_farith rfl .mul _ _ _ _ rfl (by simp) .f32 h1 l rfl rfl ?_; intro won nwon Hwon; have Ewon := Lib.hid (show cn .f32 won = fop .mul .f32 (halfC z) (logC (quoA (cn .f32 a) (cn .f32 b))) from fop_of Hwon.out Eh1.out El.out); have wfwon := wf32 Hwon.out.wf; clear Hwon) | (refine wpList_farith rfl .sub _ _ _ _ rfl (by simp) .f32 1065353216 h1 rfl rfl ?_; intro g1 ng1 Hg1; have Eg1 := Lib.hid (show cn .f32 g1 = fop .sub .f32 1065353216 (halfC z) from fop_of Hg1.out one_cn Eh1.out); have wfg1 := wf32 Hg1.out.wf; clear Hg1) | (refine wpList_farith rfl .mul _ _ _ _ rfl (by simp) .f32 g1 l2 rfl rfl ?_; intro lost nlost Hlost; have Elost := Lib.hid (show cn .f32 lost = fop .mul .f32 (fop .sub .f32 1065353216 (halfC z)) (logC (quoB (cn .f32 a) (cn .f32 b))) from fop_of Hlost.out Eg1.out El2.out); have wflost := wf32 Hlost.out.wf; clear Hlost) | (refine wpList_farith rfl .add _ _ _ _ rfl (by simp) .f32 won lost rfl rfl ?_; intro u9 nu9 Hu9; have Eu9 := Lib.hid (show cn .f32 u9 = termT (cn .f32 a) (cn .f32 b) z from fop_of Hu9.out Ewon.out Elost.out); have wfu9 := wf32 Hu9.out.wf; clear Hu9) | (refine wpList_farith rfl .add _ _ _ _ rfl (by simp) .f32 r u9 rfl rfl ?_; intro r2 nr2 Hr2; have Er2 := Lib.hid (show cn .f32 r2 = fop .add .f32 (likeT ss fs k) (termT (cn .f32 a) (cn .f32 b) z) from fop_of Hr2.out Er.out Eu9.out); have wfr2 := wf32 Hr2.out.wf; clear Hr2))
            go_roundw
            case rel => exact ⟨k + 1, r2, by omega, by go_num, rfl, wfr2, Lib.hid (by rw [Hst2.out]; exact Er2.out), Lib.hid (below_drewN hb.out _)⟩
            case measure => simp [intOf]; omega
        · obtain rfl : k = n := by omega
          have HV := Lib.hid (HFin.out r Er.out)
          have HNr := Lib.hid (fun z => HN.out r wfr z)
          rw [HV.out] at HNr
          clear Hat Hst Hwf HFin HN HL HV Hg
          go_wp2_with (go_at_call 66; refine (HNr.out _).mono ?_; rintro e w' ⟨rfl, hdr⟩; have Hbz := Lib.hid (Below.still hb.out hdr.only); clear hdr)
          go_ret2
          exact ⟨ret2f HGd.out.1.symm HGd.out.2.symm, Hbz.out⟩
end Go.Proofs.Ytfipcpbibmhjoab
