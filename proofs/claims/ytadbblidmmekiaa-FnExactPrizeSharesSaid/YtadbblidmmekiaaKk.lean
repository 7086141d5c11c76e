/- Contracts: shares of prizes, the program's. -/
import Derived.Test.YtadbblidmmekiaaKj
set_option linter.unusedVariables false
namespace Go.Proofs.Ytadbblidmmekiaa
open Go.RowKit Fl


set_option maxRecDepth 100000 in
set_option maxHeartbeats 4000000 in
theorem impl_PrizeShares (fs : List Int) (v : Value) (ps : List Int) (u : Value) (w : World) (hn : fs.length ≤ 1048576) (hn2 : ps.length ≤ 1048576) (h : Sl (Value.int .i64) 0 w v fs) (g : Sl (Value.int .i64) 0 w u ps) :
    Calls Try.prog 16 #[v, u] w fun e w' => ∃ r, e = .returned (.tuple #[r, .bool (ok_PrizeShares fs ps)]) ∧ SwF w' r (res_PrizeShares fs ps) w.heap.size w'.heap.size ∧ Below w.heap.size w w' := by
  have Hpc := Lib.hid (impl_PlaceChances fs v w hn h)
  have Hsk : Hid (∀ z, Below w.heap.size w z → Calls Try.prog 50 #[u] z fun e w' => e = .returned (.bool (stakesB ps)) ∧ z = w') := Lib.hid (fun z hz => stakes_any ps u z hn2 (g.later hz))
  obtain ⟨p, cap, rfl, hf⟩ := h
  obtain ⟨q, cap2, rfl, hg⟩ := g
  have Hg := Lib.hid hg
  clear hf hg
  cases hB : stackB fs
  · have Hok : Hid (ok_PrizeShares fs ps = false) := Lib.hid (by unfold ok_PrizeShares; rw [hB]; rfl)
    have Hre := Lib.hid (ps_no fs ps Hok.out)
    rw [show ok_PlaceChances fs = false from hB] at Hpc
    rw [Hok.out, Hre.out]
    clear hB
    generalize fs.length = n at *
    generalize ps.length = m at *
    go_enter Try.func16, Try.ntmps16
    go_wp2_with fail
    refine Hpc.out.mono ?_
    rintro e w1 ⟨r, rfl, -, hb⟩
    have Hb := Lib.hid hb
    clear hb
    go_wp2
    go_ret2
    exact ⟨_, rfl, SwF.nil _ _ _ _ _, Hb.out⟩
  · obtain ⟨n1, n6, -⟩ := stackB_yes hB
    rw [show ok_PlaceChances fs = true from hB, show res_PlaceChances fs = allC fs fs.length by unfold res_PlaceChances; rw [hB]; rfl] at Hpc
    by_cases hlen : ps.length = fs.length
    · cases hS : stakesB ps
      · have Hok : Hid (ok_PrizeShares fs ps = false) := Lib.hid (by unfold ok_PrizeShares; rw [hS, Bool.and_false, Bool.and_false])
        have Hre := Lib.hid (ps_no fs ps Hok.out)
        rw [Hok.out, Hre.out]
        rw [hS] at Hsk
        rw [hlen] at Hg hn2 Hsk ⊢
        clear hB hlen hS
        generalize fs.length = n at *
        have hne : ((n : Int) != (n : Int)) = false := by simp
        go_enter Try.func16, Try.ntmps16
        go_wp2_with fail
        refine Hpc.out.mono ?_
        rintro e w1 ⟨r, rfl, -, hb⟩
        have Hb := Lib.hid hb
        clear hb
        go_wp2_with (go_at_call 50; with_reducible refine (Hsk.out _ Hb.out).mono ?_; rintro e w' ⟨rfl, rfl⟩)
        go_ret2
        exact ⟨_, rfl, SwF.nil _ _ _ _ _, Hb.out⟩
      · have ho : ok_PrizeShares fs ps = true := by unfold ok_PrizeShares; rw [hB, decide_eq_true hlen, hS]; rfl
        rw [ps_yes fs ps ho, ho]
        have HC : Hid ((allC fs fs.length).length = fs.length * fs.length) := Lib.hid (allC_len fs fs.length)
        rw [hS] at Hsk
        rw [hlen] at Hg hn2 Hsk ⊢
        clear hB hlen hS ho
        generalize allC fs fs.length = C at *
        obtain ⟨i0, hi, hz0, hz1, hz2⟩ := info_parts (show (Try.prog.info? 55).map (fun i => (i.zero, i.size, i.bytes)) = some (some (.float .f32 0), 1, 4) by kernel_rfl)
        generalize fs.length = n at *
        have Hs1 := Lib.hid (fun i k => (show shrC C ps n i (k + 1) = fop .add .f32 (shrC C ps n i k) (fop .mul .f32 (C.getD (i * n + k) 0) (floatOfInt .f32 (ps.getD k 0))) from rfl))
        have Hz := Lib.hid (shrM_zero C ps n)
        have Hrw := Lib.hid (shrM_row C ps n)
        have Hdn := Lib.hid (shrM_done C ps n)
        have Hml := Lib.hid (shrM_len C ps n)
        have Hmg := Lib.hid (shrM_get C ps n)
        have Hms := Lib.hid (shrM_set C ps n)
        have hne : ((n : Int) != (n : Int)) = false := by simp
        go_enter Try.func16, Try.ntmps16
        go_wp2_with fail
        refine Hpc.out.mono ?_
        rintro e w1 ⟨r, rfl, hr, hb⟩
        have Hb := Lib.hid hb
        have hsz := hb.size
        obtain ⟨gs, eg, hsw⟩ := hr
        have hgl : gs.length = n * n := by rw [← HC.out, ← eg, List.length_map]
        have hnn : 1 * 1 ≤ n * n := Nat.mul_le_mul n1 n1
        obtain ⟨pr, capr, rfl, hfr⟩ := hsw
        obtain ⟨hcr, br, offr, rfl, gr1, gr2, gr3, hcr2⟩ := hfr (by omega)
        have Hcell : Hid (∀ wr, Below w1.heap.size w1 wr → ∀ j, j < n * n → wr.cell? ⟨br, offr + j, none⟩ = some (.float .f32 (gs.getD j 0)) ∧ cn .f32 (gs.getD j 0) = C.getD j 0) := Lib.hid (fun wr hbw j hj => by
          refine ⟨by rw [hbw.cell (by show br < _; omega)]; exact (hcr2 j (by omega)).1, ?_⟩
          rw [← eg]; simp [List.getD, show j < gs.length by omega])
        have Hpri : Hid (∀ wr, Below w1.heap.size w1 wr → 0 < n → ∃ b off, n ≤ cap2 ∧ q = some ⟨b, off, none⟩ ∧ ∀ j, j < n → wr.cell? ⟨b, off + j, none⟩ = some (.int .i64 (ps.getD j 0))) := Lib.hid (fun wr hbw h0 => by
          obtain ⟨hcap, b, off, rfl, hbs, hc⟩ := Hg.out h0
          exact ⟨b, off, hcap, rfl, fun j hj => by rw [hbw.cell (by show b < _; omega), Hb.out.cell hbs]; exact hc j hj⟩)
        have hlr : n * n ≤ 36 := by
          have : n * n ≤ 6 * 6 := Nat.mul_le_mul n6 n6
          omega
        rw [hgl] at hcr ⊢
        clear hb hfr hcr2 eg hgl
        generalize hNN : n * n = NN at *
        have HNN := Lib.hid hNN
        clear hNN hnn
        go_wp2_with (first | (go_at_call 50; with_reducible refine (Hsk.out _ Hb.out).mono ?_; rintro e w' ⟨rfl, rfl⟩) | (at_make; refine wpList_make_full _ rfl _ _ 23 rfl w1.heap.size 55 i0 (.float .f32 0) 1 (by kernel_rfl) hi hz0 hz1 .i64 .i64 n n n rfl rfl rfl rfl (by rw [hz2]; omega) (by unfold maxLen; omega) (Nat.le_refl _) ?_; intro w2 hown hgrow; have Hbel := Lib.hid ((Below.refl _ w1).grown hgrow (Nat.le_refl _) (by simp)); have Hown := Lib.hid hown; clear hown hgrow))
        go_loopw [36] (fun i wr => ∃ (a : Nat) (ts : List Nat), a ≤ n ∧ i = .int .i64 (a : Int) ∧ Hid (ts.map (cn .f32) = shrM C ps n a 0) ∧ Hid (wr.ownsRow w1.heap.size 55 1 (.slice (some ⟨w1.heap.size, 0, none⟩) n n) n (ts.map (Value.float .f32))) ∧ Below w1.heap.size w1 wr) (fun i _ => n - (intOf i).toNat)
        case atStart =>
          refine ⟨0, List.replicate n 0, Nat.zero_le _, rfl, Lib.hid ?_, Lib.hid ?_, Hbel.out⟩
          · rw [Hz.out, List.map_replicate, Is.zero.1]
          · have h0 := Hown.out
            have e : (madeCells (Value.float .f32 0).cells (n * 1)).toList = (List.replicate n 0).map (Value.float .f32) := by
              rw [Nat.mul_one, List.map_replicate]
              exact made1 _ n
            rw [e] at h0
            exact h0
        case round =>
          obtain ⟨a, ts, ha, rfl, hts, hown, hbw⟩ := hrel
          have Hbw := Lib.hid hbw
          clear hbw
          by_cases hlt : a < n
          · obtain ⟨wi, rfl⟩ : ∃ wi : World, wi = wr := ⟨_, rfl⟩
            go_wp2
            go_loopw [41] (fun i wr => ∃ (c : Nat) (ts : List Nat), c ≤ n ∧ i = .int .i64 (c : Int) ∧ Hid (ts.map (cn .f32) = shrM C ps n a c) ∧ Hid (wr.ownsRow w1.heap.size 55 1 (.slice (some ⟨w1.heap.size, 0, none⟩) n n) n (ts.map (Value.float .f32))) ∧ Below w1.heap.size w1 wr) (fun i _ => n - (intOf i).toNat)
            case atStart => exact ⟨0, ts, Nat.zero_le _, rfl, hts, hown, Hbw.out⟩
            case round =>
              obtain ⟨c, us, hc, rfl, hus, hown2, hbw2⟩ := hrel
              have Hbw2 := Lib.hid hbw2
              clear hbw2
              by_cases hlt2 : c < n
              · obtain ⟨b, off, hcap, rfl, hpc⟩ := Hpri.out wr Hbw2.out (by omega)
                have c1 := hpc c hlt2
                have hidx : a * n + c < NN := by
                  rw [← HNN.out]
                  have h1 : (a + 1) * n ≤ n * n := Nat.mul_le_mul (by omega) (Nat.le_refl _)
                  rw [Nat.succ_mul] at h1
                  omega
                obtain ⟨c2, hcn⟩ := Hcell.out wr Hbw2.out (a * n + c) hidx
                have Hcn := Lib.hid hcn
                have Hs := Lib.hid (Hs1.out a c)
                have hul : us.length = n := by
                  have := congrArg List.length hus.out
                  rw [List.length_map, Hml.out] at this
                  exact this
                have c3 : wr.cell? ⟨w1.heap.size, a, none⟩ = some (.float .f32 (us.getD a 0)) := by
                  rw [hown2.out.cellAt a (by omega), List.getElem?_map, List.getElem?_eq_getElem (by omega), getD_lt us 0 a (by omega)]; rfl
                have c4 := hown2.out.frozenAt a
                have Hx : Hid (cn .f32 (us.getD a 0) = shrC C ps n a c) := Lib.hid (by
                  rw [← Hmg.out a c hlt, ← hus.out]; simp [List.getD, show a < us.length by omega])
                have Hst2 : Hid (∀ m z, World.ownsRow ((wr.drewN m).setCell ⟨w1.heap.size, a, none⟩ (.float .f32 z)) w1.heap.size 55 1 (.slice (some ⟨w1.heap.size, 0, none⟩) n n) n ((us.set a z).map (Value.float .f32))) := Lib.hid (fun m z => by
                  have hh : World.ownsRow (wr.drewN m) w1.heap.size 55 1 (.slice (some ⟨w1.heap.size, 0, none⟩) n n) n (us.map (Value.float .f32)) := hown2.out
                  obtain ⟨hs1, _⟩ := hh.stored a (.float .f32 z)
                  rw [← List.map_set] at hs1
                  exact hs1)
                have Hcm : Hid (∀ z, cn .f32 z = shrC C ps n a (c + 1) → (us.set a z).map (cn .f32) = shrM C ps n a (c + 1)) := Lib.hid (fun z hz => by
                  rw [List.map_set, hus.out, hz, Hms.out a c hlt])
                have hzb : w1.heap.size ≤ w1.heap.size := Nat.le_refl _
                have Hbz : Hid (∀ m z, Below w1.heap.size w1 ((wr.drewN m).setCell ⟨w1.heap.size, a, none⟩ (.float .f32 z))) := Lib.hid (fun m z => (below_drewN Hbw2.out m).setCell (p := ⟨w1.heap.size, a, none⟩) hzb _)
                have hbl : w1.heap.size < wr.heap.size := (hown2.out.lt _ rfl).2
                have hmi : (a : Int) * (n : Int) + (c : Int) = ((a * n + c : Nat) : Int) := by push_cast; rfl
                have hm0 : 0 ≤ (a : Int) * (n : Int) ∧ (a : Int) * (n : Int) ≤ 36 := by
                  have : ((a * n : Nat) : Int) = (a : Int) * (n : Int) := Int.natCast_mul a n
                  omega
                obtain ⟨m0, m1⟩ := hm0
                have hm2 : ((a : Int) * (n : Int) + (c : Int)).toNat = a * n + c := by rw [hmi]; rfl
                have hi1 : (a : Int) * (n : Int) + (c : Int) < (NN : Int) := by rw [hmi]; omega
                have hi0 : 0 ≤ (a : Int) * (n : Int) + (c : Int) := by omega
                clear hmi hpc hcn hul
                generalize ps.getD c 0 = y at *
                generalize gs.getD (a * n + c) 0 = g at *
                generalize us.getD a 0 = x at *
                go_wp2
                have hw1 : IntKind.i64.wrap ((a : Int) * (n : Int)) = (a : Int) * (n : Int) := IntWalk.i64_in _ (by omega)
                have hw2 : IntKind.i64.wrap ((a : Int) * (n : Int) + (c : Int)) = (a : Int) * (n : Int) + (c : Int) := IntWalk.i64_in _ (by omega)
                go_region_with (first | (refine upon_farith .mul (by simp) _ .f32 _ _ ?_; intro m nm Hm) | (refine upon_farith .add (by simp) _ .f32 _ _ ?_; intro z nz Hz))
                all_goals
                  clear hw1 hw2
                  go_wp2
                  go_roundw
                  case rel => exact ⟨c + 1, _, by omega, by go_num, Lib.hid (Hcm.out _ (by rw [Hs.out]; exact shr_step Hx.out Hcn.out (by assumption : Hid _).out (by assumption : Hid _).out)), Lib.hid (Hst2.out _ _), Hbz.out _ _⟩
                  case measure => simp [intOf]; omega
              · obtain rfl : c = n := by omega
                have hts3 : Hid (us.map (cn .f32) = shrM C ps c (a + 1) 0) := Lib.hid (by rw [← Hrw.out]; exact hus.out)
                go_wp2
                go_roundw
                case rel => exact ⟨a + 1, us, by omega, by go_num, hts3, hown2, Hbw2.out⟩
                case measure => simp [intOf]; omega
          · obtain rfl : a = n := by omega
            have Hbz := Lib.hid (Hb.out.trans (Hbw.out.mono hsz))
            have Hfin : Hid (SwF wr (.slice (some ⟨w1.heap.size, 0, none⟩) a a) (shrL C ps a a) w.heap.size wr.heap.size) := Lib.hid (by
              have hl : ts.length = a := by
                have := congrArg List.length hts.out
                rw [List.length_map, Hml.out] at this
                exact this
              exact ⟨ts, by rw [hts.out, Hdn.out], (Sw.of_owns hown.out hl).mono hsz (Nat.le_refl _) (Nat.le_refl _)⟩)
            go_wp2
            go_ret2
            exact ⟨_, rfl, Hfin.out, Hbz.out⟩
    · have Hok : Hid (ok_PrizeShares fs ps = false) := Lib.hid (by unfold ok_PrizeShares; rw [decide_eq_false hlen]; simp)
      have Hre := Lib.hid (ps_no fs ps Hok.out)
      rw [Hok.out, Hre.out]
      have hne : ((ps.length : Int) != (fs.length : Int)) = true := by simp; omega
      have hne2 : ((ps.length : Int) = (fs.length : Int)) = False := eq_false (by omega)
      clear hB hlen
      generalize fs.length = n at *
      generalize ps.length = m at *
      go_enter Try.func16, Try.ntmps16
      go_wp2_with fail
      refine Hpc.out.mono ?_
      rintro e w1 ⟨r, rfl, -, hb⟩
      have Hb := Lib.hid hb
      clear hb
      go_wp2
      go_ret2
      exact ⟨_, rfl, SwF.nil _ _ _ _ _, Hb.out⟩
end Go.Proofs.Ytadbblidmmekiaa
