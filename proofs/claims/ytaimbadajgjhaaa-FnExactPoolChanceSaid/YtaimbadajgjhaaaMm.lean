/- Contracts: PoolChance, the model. -/
import Derived.Test.YtaimbadajgjhaaaMl
set_option linter.unusedVariables false
namespace Go.Proofs.Ytaimbadajgjhaaa
open Go.RowKit

theorem poolS_skip (h c : Int) (D need k : Nat) (hk : ¬ need ≤ k) : poolS h c D need (k + 1) = poolS h c D need k := by rw [poolS, if_neg hk, Int.add_zero]
set_option maxRecDepth 100000 in
set_option maxHeartbeats 4000000 in
theorem spec_PoolChance (a : Int) (al : -9223372036854775808 ≤ a) (au : a ≤ 9223372036854775807) (fs : List Int) (v : Value) (least : Int) (ll : -9223372036854775808 ≤ least) (lu : least ≤ 9223372036854775807) (need : Int) (nl : -9223372036854775808 ≤ need) (nu : need ≤ 9223372036854775807) (w : World) (hn : fs.length ≤ 1048576) (h : Dv w v fs) :
    Calls Try.prog 46 #[.int .i64 a, v, .int .i64 least, .int .i64 need] w fun e w' => e = .returned (.tuple #[.int .i64 (res_PoolChance a fs least need), .int .i64 (res2_PoolChance a fs least need), .bool (ok_PoolChance a fs least need)]) ∧ Below w.heap.size w w' := by
  obtain ⟨s, rfl, h⟩ := h
  have hb0 := (Below.refl _ w).alloc (Nat.le_refl _) (.cells #[s] 27)
  have b2 := Boxed.new w 27 s
  generalize hW : w.alloc (.cells #[s] 27) = W at hb0 b2
  have HW := Lib.hid hW
  have Hb0 := Lib.hid hb0
  have k2 := b2.cell
  clear hb0 hW b2
  have H1 := Lib.hid (fun z => inB_any a 1 8 z)
  have H3 := Lib.hid (fun z => inB_any need 0 a z)
  have Hv := Lib.hid (fun z (hz : Drawn W z) => valid_spec fs s w.heap.size 0 z hn ((h.later Hb0.out).drawn hz) ((hz.cell _).trans k2))
  have E : okPool a fs need = (((decide (1 ≤ a) && decide (a ≤ 8)) && dieB fs) && (decide (0 ≤ need) && decide (need ≤ a))) := rfl
  by_cases hA : 1 ≤ a ∧ a ≤ 8
  · rw [decide_eq_true hA.1, decide_eq_true hA.2, Bool.true_and, Bool.true_and] at E
    rw [decide_eq_true hA.1, decide_eq_true hA.2] at H1
    cases hdie : dieB fs
    · rw [hdie] at Hv E
      obtain ⟨e0, e1, e2⟩ := pool_no (least := least) (E.trans (Bool.false_and _))
      rw [e0, e1, e2]
      clear e0 e1 e2 E hdie h
      go_enter Try.func46, Try.ntmps46
      go_wp2_with fail
      rw [HW.out]
      refine (H1.out _).mono ?_
      rintro e w2 ⟨rfl, rfl⟩
      go_wp2_with fail
      refine (Hv.out _ (Drawn.refl _)).mono ?_
      rintro e w2 ⟨rfl, hd⟩
      have Hb := Lib.hid (Hb0.out.trans (hd.below _))
      clear hd
      go_wp2
      go_ret3
      exact ⟨rfl, Hb.out⟩
    · rw [hdie] at Hv E
      obtain ⟨d1, d2, -⟩ := dieB_at hdie
      by_cases hN : 0 ≤ need ∧ need ≤ a
      · rw [decide_eq_true hN.1, decide_eq_true hN.2] at E H3
        unfold ok_PoolChance res_PoolChance res2_PoolChance
        rw [E, if_pos (by rfl), if_pos (by rfl)]
        unfold poolX poolY
        have hh : hitN least fs ≤ fs.length := cntP_le _ _ _
        have hhd : hitN least fs = cntP (fun x => decide (least ≤ x)) fs fs.length := rfl
        have Hle := Lib.hid (cntP_le (fun x => decide (least ≤ x)) fs)
        have Hcs := Lib.hid (fun k => show cntP (fun x => decide (least ≤ x)) fs (k + 1) = cntP (fun x => decide (least ≤ x)) fs k + (if decide (least ≤ fs.getD k 0) = true then 1 else 0) from rfl)
        obtain ⟨p, cap, rfl, hf⟩ := h
        have Hf := Lib.hid hf
        clear hf
        generalize hitN least fs = hh' at *
        have Hhd := Lib.hid hhd
        clear hhd
        obtain ⟨D, rfl⟩ : ∃ D : Nat, a = D := ⟨a.toNat, by omega⟩
        obtain ⟨N, rfl⟩ : ∃ N : Nat, need = N := ⟨need.toNat, by omega⟩
        rw [Int.toNat_natCast, Int.toNat_natCast]
        obtain ⟨n, hn1⟩ : ∃ n, n = fs.length := ⟨_, rfl⟩
        rw [← hn1] at d1 d2 hh k2 HW Hf Hhd
        rw [← hn1]
        clear hn1 E hdie
        have hD8 : D ≤ 8 := by omega
        have hND : N ≤ D := by omega
        have c0 : 0 ≤ (n : Int) - (hh' : Int) := by omega
        have c12 : (n : Int) - (hh' : Int) ≤ 12 := by omega
        have HT := Lib.hid (fun i (hi : i ≤ D) => poolT_bd (hh' : Int) ((n : Int) - hh') D i (by omega) (by omega) c0 c12 hD8 hi)
        have HS := Lib.hid (fun k (hk : k ≤ D + 1) => poolS_bd (hh' : Int) ((n : Int) - hh') D N (by omega) (by omega) c0 c12 hD8 k hk)
        have Hst := Lib.hid (fun k (hk : N ≤ k) => poolS_step (hh' : Int) ((n : Int) - hh') D N k hk)
        have Hsk := Lib.hid (fun k (hk : ¬ N ≤ k) => poolS_skip (hh' : Int) ((n : Int) - hh') D N k hk)
        have Hp1 := Lib.hid (fun k z (hk : k ≤ D) => power5_any (hh' : Int) k z (by omega) (fun j hj => by have := (HT.out j (by omega)).1; omega))
        have Hp2 := Lib.hid (fun k z (hk : k ≤ D) => power5_any ((n : Int) - hh') k z (by omega) (fun j hj => by have := (HT.out (D - j) (by omega)).2.1; rw [show D - (D - j) = j by omega] at this; omega))
        have Hy1 := pwI_one (n : Int) (by omega) D
        have Hy2 := pwI_mono5 (n : Int) 12 (by omega) (by omega) D
        have Hy3 := (pw12_at D D hD8 (Nat.le_refl _)).2.1
        have Hp3 := Lib.hid (fun z => power5_any (n : Int) D z (by omega) (fun j hj => by have h1 := pwI_mono5 (n : Int) 12 (by omega) (by omega) j; have h2 := (pw12_at D j hD8 hj).2.1; omega))
        have HSD := HS.out (D + 1) (Nat.le_refl _)
        have Hfr := Lib.hid (fun z => frac5_any (poolS (hh' : Int) ((n : Int) - hh') D N (D + 1)) (pwI (n : Int) D) z HSD.1 (by omega) Hy1 (by omega))
        generalize hC : (n : Int) - (hh' : Int) = C at *
        have HC := Lib.hid hC
        clear hC
        have Hnx := Lib.hid (fun k (hk : k ≤ D) => setsQ_next D (by omega) k (by omega))
        have Hsm := Lib.hid (fun k (hk : k ≤ D) => setsQ_mul D (by omega) k (by omega))
        go_enter Try.func46, Try.ntmps46
        go_wp2_with fail
        rw [HW.out]
        refine (H1.out _).mono ?_
        rintro e w2 ⟨rfl, rfl⟩
        go_wp2_with fail
        refine (Hv.out _ (Drawn.refl _)).mono ?_
        rintro e w2 ⟨rfl, hd⟩
        have k3 := (hd.cell _).trans k2
        have Hd0 := Lib.hid hd
        clear hd
        go_wp2_with fail
        refine (H3.out _).mono ?_
        rintro e w3 ⟨rfl, rfl⟩
        go_wp2
        clear H1 H3 Hv
        go_loopw [12, 38] (fun c i wr => ∃ k : Nat, k ≤ n ∧ i = .int .i64 (k : Int) ∧ c = .int .i64 ((cntP (fun x => decide (least ≤ x)) fs k : Nat) : Int) ∧ Drawn W wr) (fun _ i _ => n - (intOf i).toNat)
        case atStart => exact ⟨0, Nat.zero_le _, rfl, rfl, Hd0.out⟩
        case round =>
          obtain ⟨k, hk, rfl, rfl, hw⟩ := hrel
          have k4 := (hw.cell _).trans k2
          have hle := Hle.out k
          by_cases hlt : k < n
          · obtain ⟨hcap, b, off, rfl, hbs, hcell⟩ := Hf.out (by omega)
            have c1 := (hw.cell _).trans (cell_keep Hb0.out (hcell k hlt))
            have hst := Hcs.out k
            clear hcell
            generalize fs.getD k 0 = x at *
            by_cases hx : least ≤ x
            · rw [decide_eq_true hx, if_pos rfl] at hst
              have Hst2 := Lib.hid hst
              clear hst
              go_wp2
              go_roundw
              case rel => exact ⟨k + 1, by omega, by go_num, by rw [Hst2.out]; go_num, hw⟩
              case measure => simp [intOf]; omega
            · rw [decide_eq_false hx, if_neg Bool.false_ne_true] at hst
              have Hst2 := Lib.hid hst
              clear hst
              go_wp2
              go_roundw
              case rel => exact ⟨k + 1, by omega, by go_num, by rw [Hst2.out]; rfl, hw⟩
              case measure => simp [intOf]; omega
          · obtain rfl : k = n := by omega
            have Hhe := Lib.hid Hhd.out
            rw [← Hhd.out]
            have Hw := Lib.hid hw
            clear hw k3 k4 hle Hle Hcs Hf Hd0
            go_wp2
            go_loopw [14, 15, 16] (fun c d i wr => ∃ j : Nat, j ≤ D + 1 ∧ i = .int .i64 (j : Int) ∧ c = .int .i64 (poolS (hh' : Int) C D N j) ∧ d = .int .i64 ((setsR D j : Nat) : Int) ∧ Drawn W wr) (fun _ _ i _ => D + 1 - (intOf i).toNat)
            case atStart => exact ⟨0, Nat.zero_le _, rfl, rfl, rfl, Hw.out⟩
            case round =>
              obtain ⟨j, hj, rfl, rfl, rfl, hw⟩ := hrel
              have hs := HS.out j hj
              by_cases hlt : j ≤ D
              · obtain ⟨⟨t1, t2⟩, ⟨t3, t4⟩, ⟨t5, t6⟩, t7, t8⟩ := HT.out j hlt
                have hs2 := HS.out (j + 1) (by omega)
                have hsR : setsR D j ≤ 70 := (pw12_at D j hD8 hlt).2.2.1
                have hsM := (pw12_at D j hD8 hlt).2.2.2
                have hnx := Lib.hid (Hnx.out j hlt)
                have hsm := Hsm.out j hlt
                have e1 : (D : Int) - (j : Int) = ((D - j : Nat) : Int) := by omega
                rw [e1] at hsm
                have hsq : (setsR D j : Int) * ((D - j : Nat) : Int) ≤ 560 := by rw [hsm]; omega
                have hsq0 : 0 ≤ (setsR D j : Int) * ((D - j : Nat) : Int) := by rw [hsm]; omega
                clear hsm hsM
                by_cases hge : N ≤ j
                · have hst := Hst.out j hge
                  have Hst2 := Lib.hid hst
                  rw [hst] at hs2
                  have Hc2 := Lib.hid (Hp1.out j · hlt)
                  have Hc3 := Lib.hid (Hp2.out (D - j) · (by omega))
                  have hT : poolT (hh' : Int) C D j = (setsR D j : Int) * pwI (hh' : Int) j * pwI C (D - j) := rfl
                  rw [hT] at hs2 Hst2 t7 t8
                  clear hst hT
                  have hC := HC.out
                  generalize poolS (hh' : Int) C D N j = Z at *
                  generalize pwI (hh' : Int) j = P1 at *
                  generalize pwI C (D - j) = P2 at *
                  have hnx2 := Lib.hid (hnx.out.trans (by rw [e1]))
                  generalize setsR D j = R at *
                  generalize D - j = M at *
                  clear Hp1 Hp2 Hst Hsk HT HS Hfr Hp3 Hnx Hsm hnx
                  go_wp2_with fail
                  refine (Hc2.out _).mono ?_
                  rintro e w4 ⟨rfl, rfl⟩
                  go_wp2_with fail
                  refine (Hc3.out _).mono ?_
                  rintro e w5 ⟨rfl, rfl⟩
                  go_wp2
                  go_roundw
                  case rel => exact ⟨j + 1, by omega, by go_num, by rw [Hst2.out], by rw [hnx2.out], hw⟩
                  case measure => simp [intOf]; omega
                · have hst := Hsk.out j hge
                  have Hst2 := Lib.hid hst
                  clear hst
                  generalize poolS (hh' : Int) C D N j = Z at *
                  have hnx2 := Lib.hid (hnx.out.trans (by rw [e1]))
                  generalize setsR D j = R at *
                  generalize D - j = M at *
                  clear Hp1 Hp2 Hst Hsk HT HS Hfr Hp3 Hnx Hsm hnx t1 t2 t3 t4 t5 t6 t7 t8 hs2
                  go_wp2
                  go_roundw
                  case rel => exact ⟨j + 1, by omega, by go_num, by rw [Hst2.out], by rw [hnx2.out], hw⟩
                  case measure => simp [intOf]; omega
              · obtain rfl : j = D + 1 := by omega
                go_wp2_with fail
                refine (Hp3.out _).mono ?_
                rintro e w4 ⟨rfl, rfl⟩
                go_wp2_with fail
                refine (Hfr.out _).mono ?_
                rintro e w5 ⟨rfl, hd⟩
                have Hd3 := Lib.hid (Hb0.out.trans ((hw.trans hd).below _))
                clear hd
                go_wp2
                go_ret3
                exact ⟨rfl, Hd3.out⟩
      · have e3 : (decide (0 ≤ need) && decide (need ≤ a)) = false := by simpa using hN
        rw [e3] at E H3
        obtain ⟨e0, e1, e2⟩ := pool_no (least := least) E
        rw [e0, e1, e2]
        clear e0 e1 e2 e3 E hdie h hN
        go_enter Try.func46, Try.ntmps46
        go_wp2_with fail
        rw [HW.out]
        refine (H1.out _).mono ?_
        rintro e w2 ⟨rfl, rfl⟩
        go_wp2_with fail
        refine (Hv.out _ (Drawn.refl _)).mono ?_
        rintro e w2 ⟨rfl, hd⟩
        have Hb := Lib.hid (Hb0.out.trans (hd.below _))
        clear hd
        go_wp2_with fail
        refine (H3.out _).mono ?_
        rintro e w3 ⟨rfl, rfl⟩
        go_wp2
        go_ret3
        exact ⟨rfl, Hb.out⟩
  · have e3 : (decide (1 ≤ a) && decide (a ≤ 8)) = false := by simpa using hA
    rw [e3] at E H1
    obtain ⟨e0, e1, e2⟩ := pool_no (least := least) (E.trans (by rw [Bool.false_and, Bool.false_and]))
    rw [e0, e1, e2]
    clear e0 e1 e2 e3 E h hA
    go_enter Try.func46, Try.ntmps46
    go_wp2_with fail
    rw [HW.out]
    refine (H1.out _).mono ?_
    rintro e w2 ⟨rfl, rfl⟩
    go_wp2
    go_ret3
    exact ⟨rfl, Hb0.out⟩
end Go.Proofs.Ytaimbadajgjhaaa
