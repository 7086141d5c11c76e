/- The law of heaps: its walk. -/
import Derived.Test.YtodmaomngpnboaaHpH
set_option linter.unusedVariables false
namespace Go.Proofs.Ytodmaomngpnboaa
open Go.RowKit
attribute [local go_sem] Oper.semAt_some

theorem begin_heaps (ms : List Int) (n : Nat) : (valT ms (n + 1)).getD 0 0 = 0 ∨ 1 ≤ (leftT ms (valT ms 0) 0 ms.length).length := by
  rw [valT_at ms 0 (n + 1) (by omega)]
  have h1 := mexN_le (leftT ms (valT ms 0) 0 ms.length)
  omega
theorem leftT_none (ms vs : List Int) : ∀ i, (∀ j, j < i → 1 ≤ ms.getD j 0) → leftT ms vs 0 i = []
  | 0, _ => rfl
  | i + 1, h => by
    have h1 := h i (by omega)
    rw [leftT_no _ _ _ _ (by omega)]
    exact leftT_none ms vs i (fun j hj => h j (by omega))
theorem valT_first (ms : List Int) (n : Nat) (h : ∀ j, j < ms.length → 1 ≤ ms.getD j 0) : (valT ms (n + 1)).getD 0 0 = 0 := by
  rw [valT_at ms 0 (n + 1) (by omega), leftT_none ms _ _ h]; rfl
theorem valS_first (n : Nat) : (valS (n + 1)).getD 0 0 = 0 := by
  have := valS_bd 0 (n + 1) (by omega)
  omega
set_option maxRecDepth 1000000 in
set_option maxHeartbeats 16000000 in
theorem walk_FnHeaps (fs gs : List Int) (v v2 : Value) (w : World) (hl : fs.length ≤ maxLen) (hl2 : gs.length ≤ maxLen) (hbf : BsB fs) (hbs : BsB gs) (h : Sl (Value.int .u8) 0 w v fs) (h2 : Sl (Value.int .u8) 0 w v2 gs) :
    Calls Try.prog 6 #[v, v2] w fun e w' => e = .returned (.bool true) ∧ Below w.heap.size w w' := by
  have HL := Lib.hid (long8_any fs gs v v2 w hl hl2 h h2)
  by_cases hlong : (decide (48 < fs.length) || decide (48 < gs.length)) = true
  · rw [hlong] at HL
    clear hlong h h2
    go_enter Try.func6, Try.ntmps6
    go_wp2_with (first | (go_at_call 36; refine HL.out.mono ?_; rintro e w' ⟨rfl, rfl⟩))
    go_ret
    exact ⟨rfl, Below.refl _ _⟩
  · rw [Bool.not_eq_true] at hlong
    rw [hlong] at HL
    clear hlong
    have HA := Lib.hid (fun (z : World) (hz : Below w.heap.size w z) (k n : Nat) (hn : 1 ≤ n) (hn2 : n ≤ 1000000) (hk : k ≤ 1000) => at8_any gs v2 k n z hn hn2 hk hl2 hbs (h2.later hz))
    have HB := Lib.hid (fun (z : World) (hz : Below w.heap.size w z) (k : Nat) (hk : k ≤ 1000) => at8_any fs v k 3 z (by omega) (by omega) hk hl hbf (h.later hz))
    have H40 := Lib.hid (fun z hz => HA.out z hz 40 4 (by omega) (by omega) (by omega))
    have H41 := Lib.hid (fun z hz => HA.out z hz 41 30 (by omega) (by omega) (by omega))
    have H42 := Lib.hid (fun z hz => HA.out z hz 42 4 (by omega) (by omega) (by omega))
    have x0 := r8V_lt gs 40 4 (by omega)
    have x1 := r8V_lt gs 41 30 (by omega)
    have x2 := r8V_lt gs 42 4 (by omega)
    generalize r8V gs 40 4 = m0 at *
    generalize r8V gs 41 30 = n at *
    generalize r8V gs 42 4 = h4 at *
    have HX := Lib.hid (fun z k (hk : k ≤ 1000) hz => HA.out z hz k (n + 1) (by omega) (by omega) hk)
    obtain ⟨m, hm⟩ : ∃ m, m = m0 + 1 := ⟨_, rfl⟩
    have EM := Lib.hid (show (1 : Int) + (m0 : Int) = (m : Int) by omega)
    have bm1 : 1 ≤ m := by omega
    have bm4 : m ≤ 4 := by omega
    have HMo := Lib.hid (mvL_ok fs m bm1 bm4)
    have HMl := Lib.hid (mvL_len fs m)
    have HMa := Lib.hid (fun k => mvA_bd fs k)
    have HMs := Lib.hid (fun k => show mvA fs (k + 1) = mvA fs k + (1 + r8V fs k 3) from rfl)
    have HMn := Lib.hid (fun k => mvL_next fs k)
    have HM0 := Lib.hid (show mvL fs 0 = [] from rfl)
    have HA0 := Lib.hid (show mvA fs 0 = 0 from rfl)
    have HRL := Lib.hid (fun k => r8V_lt fs k 3 (by omega))
    have HPL := Lib.hid (fun k => mvL_len fs k)
    clear HA hm h h2 hl hl2
    obtain ⟨i0, hi, hz0, hz1, hz2⟩ := info_parts (show (Try.prog.info? 2).map (fun i => (i.zero, i.size, i.bytes)) = some (some (Value.int .i64 0), 1, 8) by kernel_rfl)
    go_enter Try.func6, Try.ntmps6
    go_wp2_with fail
    refine HL.out.mono ?_
    rintro e w' ⟨rfl, rfl⟩
    have Hown0 := Lib.hid (own_zeroH w w.heap.size 2 (Nat.le_refl _))
    have Hbl0 := Lib.hid ((Below.refl w.heap.size w).alloc (Nat.le_refl _) (.cells #[] 2))
    go_wp2_with fail
    go_loopw [5, 6, 7] (fun p a i wr => ∃ (k : Nat) (lv : Value), lv = p ∧ k ≤ m ∧ a = .int .i64 ((mvA fs k : Nat) : Int) ∧ i = .int .i64 (k : Int) ∧ Hid (wr.ownsRow w.heap.size 2 1 p (mvL fs k).length ((mvL fs k).map (Value.int .i64))) ∧ Hid (Below w.heap.size w wr)) (fun _ _ i _ => m - (intOf i).toNat)
    case atStart => exact ⟨0, _, rfl, Nat.zero_le _, rfl, rfl, Lib.hid (by rw [HM0.out]; exact Hown0.out), Hbl0⟩
    case round =>
      obtain ⟨k, lv, rfl, hk, rfl, rfl, hown, hbz⟩ := hrel
      have hwz := hbz.out.size
      have HH1 := Lib.hid (H40.out wr hbz.out)
      by_cases hlt : k < m
      · have d4 : decide ((k : Int) < 1 + (m0 : Int)) = true := decide_eq_true (by have := EM.out; omega)
        have HB1 := Lib.hid (HB.out wr hbz.out k (by omega))
        have hx := HRL.out k
        have hma := HMa.out k
        have hms := HMs.out k
        have hma2 := HMa.out (k + 1)
        have HMe := Lib.hid (HMn.out k)
        have hpl := HPL.out k
        generalize r8V fs k 3 = x at *
        generalize hA2e : mvA fs (k + 1) = a2 at *
        have HA2 := Lib.hid hA2e
        clear hA2e
        generalize mvA fs k = a1 at *
        generalize mvL fs k = L at *
        have EA := Lib.hid (show (a1 : Int) + (1 + (x : Int)) = (a2 : Int) by omega)
        clear hms
        go_wp2_with fail
        refine HH1.out.mono ?_
        rintro e w' ⟨rfl, rfl⟩
        go_wp2_with fail
        refine HB1.out.mono ?_
        rintro e w' ⟨rfl, rfl⟩
        go_upto_region 9 with fail
        rw [EA.out]
        go_wp2_with (at_builtin; refine wpList_append_own _ rfl _ _ 22 rfl w.heap.size 2 i0 (.int .i64 0) 1 8 (by kernel_rfl) hi hz0 hz1 hz2 rfl (by decide) _ _ _ rfl (hown.out.alloc _) ⟨wr.heap.size, 0, none⟩ 1 1 [.int .i64 (a2 : Int)] rfl rfl (cell_one_new _ _ _) (one_int _) (by unfold maxLen; omega) (by omega) (by simp; omega) ?_; intro v3 w2 hown2 hgrow2 _)
        have Hown2 := Lib.hid (own_addY hown2)
        have Hb2 := Lib.hid ((hbz.out.alloc (by omega) _).grown hgrow2 (by simp; omega) (fun b hb => (hown.out.lt b hb).1))
        clear hown2 hgrow2
        go_wp2
        go_roundw
        case rel => exact ⟨k + 1, _, rfl, by omega, by rw [HA2.out], by go_num, Lib.hid (by rw [HMe.out]; exact Hown2.out), Hb2⟩
        case measure => simp [intOf]; omega
      · obtain rfl : k = m := by omega
        have d4 : decide ((k : Int) < 1 + (m0 : Int)) = false := decide_eq_false (by have := EM.out; omega)
        have hsl := (Sw.of_owns (d := 0) hown.out rfl).sl
        have HLl := Lib.hid (show (mvL fs k).length ≤ 1048576 by rw [HMl.out]; omega)
        have Hms := Lib.hid hsl
        have HT := Lib.hid (fun z (hz : Below wr.heap.size wr z) => impl_TakeValues (mvL fs k) lv (n : Int) (by omega) (by omega) z HLl.out (hsl.later hz))
        have hokT : ok_TakeValues (mvL fs k) (n : Int) = true := by
          unfold ok_TakeValues okTV
          rw [HMo.out, decide_eq_true (show (0 : Int) ≤ (n : Int) by omega), decide_eq_true (show (n : Int) ≤ 200 by omega)]; rfl
        have hrT : res_TakeValues (mvL fs k) (n : Int) = valT (mvL fs k) (n + 1) := by
          unfold res_TakeValues
          unfold ok_TakeValues at hokT
          rw [if_pos hokT, Int.toNat_natCast]
        rw [hokT, hrT] at HT
        have HS := Lib.hid (fun z => impl_SplitValues (n : Int) (by omega) (by omega) z)
        have hoS : okSV (n : Int) := by unfold okSV; omega
        have hokS : ok_SplitValues (n : Int) = true := decide_eq_true hoS
        have hrS : res_SplitValues (n : Int) = valS (n + 1) := by
          unfold res_SplitValues
          rw [if_pos hoS, Int.toNat_natCast]
        rw [hokS, hrS] at HS
        have HV1 := Lib.hid (valT_first (mvL fs k) n (fun j hj => (mov_one HMo.out j hj).1))
        have HV2 := Lib.hid (valS_first n)
        clear hokT hrT hoS hokS hrS hsl hown HMa HMs HMn HM0 HA0 HRL HPL HB Hown0 Hbl0
        have HWl := Lib.hid (valT_len (mvL fs k) (n + 1))
        have HSl := Lib.hid (valS_len (n + 1))
        go_wp2_with fail
        refine HH1.out.mono ?_
        rintro e w' ⟨rfl, rfl⟩
        go_wp2_with fail
        refine (H41.out _ hbz.out).mono ?_
        rintro e w' ⟨rfl, rfl⟩
        go_wp2_with fail
        refine (HT.out _ (Below.refl _ _)).mono ?_
        rintro e w3 ⟨rT, rfl, hT, hb3⟩
        have HT3 := Lib.hid hT.sl
        have HB3 := Lib.hid (hbz.out.trans (hb3.mono hwz))
        have Hms3 := Lib.hid (Hms.out.later hb3)
        clear hT hb3 HT Hms
        go_wp2_with fail
        refine (HS.out _).mono ?_
        rintro e w4 ⟨rS, rfl, hS, hb4⟩
        have HS4 := Lib.hid hS.sl
        have HB4 := Lib.hid (HB3.out.trans (hb4.mono HB3.out.size))
        have HT4 := Lib.hid (HT3.out.later hb4)
        have Hms4 := Lib.hid (Hms3.out.later hb4)
        clear hS hb4 HS HT3 Hms3 HB3
        obtain ⟨pv, cv, rfl, hvc⟩ := id HT4.out
        rw [HWl.out] at hvc HT4 ⊢
        obtain ⟨hcap, bv, ov, rfl, hbv, hcv⟩ := hvc (by omega)
        have cv0 := hcv 0 (by omega)
        rw [HV1.out, Nat.add_zero] at cv0
        obtain ⟨pr, cr, rfl, hrc⟩ := id HS4.out
        rw [HSl.out] at hrc HS4 ⊢
        obtain ⟨hcapr, br, or, rfl, hbr, hcr⟩ := hrc (by omega)
        have cr0 := hcr 0 (by omega)
        rw [HV2.out, Nat.add_zero] at cr0
        clear hvc hcv hrc hcr
        obtain ⟨pm, cm, rfl, -⟩ := id Hms4.out
        rw [HMl.out] at Hms4 ⊢
        have nn : ((n : Int) + 1 != (n : Int) + 1) = false := by simp
        have HMo' := HMo.out
        have HMl' := HMl.out
        have hb4' := HB4.out
        have hms4' := Hms4.out
        have ht4' := HT4.out
        have hs4' := HS4.out
        clear HMo HMl Hms4 HT4 HS4 HB4 HV1 HV2 HWl HSl HLl
        go_upto_region 13 with fail
        rename_i K1 h1 K0 h0
        have H1 := Lib.hid h1
        clear h1
        go_wp2
        refine H1.out _ _ ?_
        refine wp_seq_k (fun KK hKK => ?_)
        exact stageO gs (mvL fs k) v v2 n k h4 cm cv cr _ _ _ w _ _ _ _ _ _ _ _ _ _ _ _ _ _ _ _ _ _ _ _ _ _ _ _ _ _ _ _ _ _ _ _ _ _ _ _ _ _ _ _ _ _ _ _ _ _ _ _ _ _ _ _ _ _ _ _ _ _ _ _ _ _ _ _ _ _ _ _ _ _ _ _ _ _ _ _ _ _ _ _ _ _ _ _ _ _ _ _ _ _ _ _ _ _ _ _ _ _ _ _ _ _ _ _ _ _ _ _ _ _ _ _ _ _ _ _ _ _ _ _ _ _ _ _ _ _ _ _ _ _ _ _ _ _ _ _ _ _ _ _ _ _ _ _ _ _ _ _ _ _ _ _ _ _ _ _ _ _ _ _ _ _ _ _ _ _ _ _ _ _ _ _ _ _ _ _ _ _ _ _ _ _ _ _ _ _ _ _ _ _ _ _ _ _ _ _ _ _ _ _ _ _ _ _ _ _ _ _ _ _ _ _ _ _ _ _ _ _ _ _ _ _ _ _ _ _ _ _ _ _ _ _ _ _ _ _ _ _ _ _ _ _ _ _ _ _ _ _ _ _ _ _ _ _ _ _ _ _ _ _ _ _ _ _ _ _ _ _ _ _ _ _ _ _ _ _ _ _ _ _ _ _ _ _ _ _ _ _ _ _ _ _ _ _ _ _ _ _ _ _ _ _ _ _ KK hKK hb4' hms4' ht4' hs4' HMl' HMo' bm4 bm1 x1 x2 H42 HX
end Go.Proofs.Ytodmaomngpnboaa
