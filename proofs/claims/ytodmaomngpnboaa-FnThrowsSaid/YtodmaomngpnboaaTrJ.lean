/- The law of throws: its walk. -/
import Derived.Test.YtodmaomngpnboaaTrI
import Derived.Test.YtodmaomngpnboaaTrH
set_option linter.unusedVariables false
namespace Go.Proofs.Ytodmaomngpnboaa
open Go.RowKit
attribute [local go_sem] Oper.semAt_some

theorem ev_facts {a b c : Nat} (h : evB a b c = true) : ok_EvenThrows (winsL a b c) = true ∧ ok_EvenThrows (winsN a b c) = false ∧ thrB (winsL a b c) = true ∧ (res_EvenThrows (winsL a b c)).length = 3 ∧
    ∀ i, i < 3 → 1 ≤ evE a b c i ∧ evE a b c i ≤ 9 ∧ evE a b c 0 * (winsL a b c).getD i 0 + evE a b c 1 * (winsL a b c).getD (3 + i) 0 + evE a b c 2 * (winsL a b c).getD (6 + i) 0 = 0 := by
  unfold evB at h
  simp only [Bool.and_eq_true, Bool.not_eq_true', beq_iff_eq, List.all_eq_true, List.mem_range, decide_eq_true_eq] at h
  obtain ⟨⟨⟨⟨h1, h2⟩, h3⟩, h4⟩, h5⟩ := h
  exact ⟨h1, h2, h3, h4, fun i hi => ⟨(h5 i hi).1.1, (h5 i hi).1.2, (h5 i hi).2⟩⟩
theorem wins_bd (a b c : Nat) (ha : a ≤ 9) (hb : b ≤ 9) (hc : c ≤ 9) (i : Nat) : -9 ≤ (winsL a b c).getD i 0 ∧ (winsL a b c).getD i 0 ≤ 9 := by
  rcases Nat.lt_or_ge i 9 with h | h
  · obtain rfl | rfl | rfl | rfl | rfl | rfl | rfl | rfl | rfl : i = 0 ∨ i = 1 ∨ i = 2 ∨ i = 3 ∨ i = 4 ∨ i = 5 ∨ i = 6 ∨ i = 7 ∨ i = 8 := by omega
    · show -9 ≤ (0 : Int) ∧ (0 : Int) ≤ 9; omega
    · show -9 ≤ (a : Int) ∧ (a : Int) ≤ 9; omega
    · show -9 ≤ -(c : Int) ∧ -(c : Int) ≤ 9; omega
    · show -9 ≤ -(a : Int) ∧ -(a : Int) ≤ 9; omega
    · show -9 ≤ (0 : Int) ∧ (0 : Int) ≤ 9; omega
    · show -9 ≤ (b : Int) ∧ (b : Int) ≤ 9; omega
    · show -9 ≤ (c : Int) ∧ (c : Int) ≤ 9; omega
    · show -9 ≤ -(b : Int) ∧ -(b : Int) ≤ 9; omega
    · show -9 ≤ (0 : Int) ∧ (0 : Int) ≤ 9; omega
  · have e : (winsL a b c)[i]? = none := List.getElem?_eq_none (by show 9 ≤ i; exact h)
    rw [List.getD, e]; exact ⟨by decide, by decide⟩
theorem sumK_cons (x : Int) (l : List Int) : ∀ k, sumK (x :: l) (k + 1) = x + sumK l k
  | 0 => by show (0 : Int) + x = x + 0; omega
  | k + 1 => by
    show sumK (x :: l) (k + 1) + (x :: l).getD (k + 1) 0 = x + (sumK l k + l.getD k 0)
    rw [sumK_cons x l k, List.getD_cons_succ]; omega
theorem sumK_sumL : ∀ l : List Int, sumK l l.length = sumL l
  | [] => rfl
  | x :: l => by rw [List.length_cons, sumK_cons, sumK_sumL l]; rfl
theorem sumK_bd (fs : List Int) (m : Int) (hm : m ≤ 1000) (h : ∀ k, 0 ≤ fs.getD k 0 ∧ fs.getD k 0 ≤ m) : ∀ k : Nat, k ≤ 100 → 0 ≤ sumK fs k ∧ sumK fs k ≤ 1000 * (k : Int)
  | 0, _ => by show (0 : Int) ≤ 0 ∧ (0 : Int) ≤ _; omega
  | k + 1, hk => by
    have a := sumK_bd fs m hm h k (by omega)
    have b := h k
    show 0 ≤ sumK fs k + fs.getD k 0 ∧ sumK fs k + fs.getD k 0 ≤ _
    omega
set_option maxRecDepth 1000000 in
set_option maxHeartbeats 8000000 in
theorem walk_FnThrows (fs gs : List Int) (v v2 : Value) (w : World) (hl : fs.length ≤ maxLen) (hl2 : gs.length ≤ maxLen) (hbs : BsB gs) (h : Sl (Value.int .u8) 0 w v fs) (h2 : Sl (Value.int .u8) 0 w v2 gs) :
    Calls Try.prog 4 #[v, v2] w fun e w' => e = .returned (.bool true) ∧ Below w.heap.size w w' := by
  have HL := Lib.hid (long10_any fs gs v v2 w hl hl2 h h2)
  by_cases hlong : (decide (1048576 < fs.length) || decide (1048576 < gs.length)) = true
  · rw [hlong] at HL
    clear hlong h h2
    go_enter Try.func4, Try.ntmps4
    go_wp2_with (first | (go_at_call 21; refine HL.out.mono ?_; rintro e w' ⟨rfl, rfl⟩))
    go_ret
    exact ⟨rfl, Below.refl _ _⟩
  · rw [Bool.not_eq_true] at hlong
    rw [hlong] at HL
    clear hlong h
    have HA := Lib.hid (fun (z : World) (hz : Below w.heap.size w z) (k n : Nat) (hn : 1 ≤ n) (hn2 : n ≤ 1000000) (hk : k ≤ 1000) => at10_any gs v2 k n z hn hn2 hk hl2 hbs (h2.later hz))
    have H0 := Lib.hid (fun z hz => HA.out z hz 0 9 (by omega) (by omega) (by omega))
    have H1 := Lib.hid (fun z hz => HA.out z hz 1 9 (by omega) (by omega) (by omega))
    have H2 := Lib.hid (fun z hz => HA.out z hz 2 9 (by omega) (by omega) (by omega))
    have H3 := Lib.hid (fun z hz => HA.out z hz 3 60 (by omega) (by omega) (by omega))
    have x0 := b10V_lt gs 0 9 (by omega)
    have x1 := b10V_lt gs 1 9 (by omega)
    have x2 := b10V_lt gs 2 9 (by omega)
    have x3 := b10V_lt gs 3 60 (by omega)
    generalize b10V gs 0 9 = a0 at *
    generalize b10V gs 1 9 = b0 at *
    generalize b10V gs 2 9 = c0 at *
    generalize b10V gs 3 60 = r0 at *
    obtain ⟨f1, f2, f3, f4, f5⟩ := ev_facts (ev_all a0 x0 b0 x1 c0 x2)
    have EA := Lib.hid (show (1 : Int) + (a0 : Int) = ((a0 + 1 : Nat) : Int) by omega)
    have EB := Lib.hid (show (1 : Int) + (b0 : Int) = ((b0 + 1 : Nat) : Int) by omega)
    have EC := Lib.hid (show (1 : Int) + (c0 : Int) = ((c0 + 1 : Nat) : Int) by omega)
    have ER := Lib.hid (show (1 : Int) + (r0 : Int) = ((r0 + 1 : Nat) : Int) by omega)
    obtain ⟨a, ha⟩ : ∃ a, a = a0 + 1 := ⟨_, rfl⟩
    obtain ⟨b, hb⟩ : ∃ a, a = b0 + 1 := ⟨_, rfl⟩
    obtain ⟨c, hc⟩ : ∃ a, a = c0 + 1 := ⟨_, rfl⟩
    obtain ⟨r, hr⟩ : ∃ a, a = r0 + 1 := ⟨_, rfl⟩
    rw [← ha, ← hb, ← hc] at f1 f2 f3 f4 f5
    rw [← ha] at EA
    rw [← hb] at EB
    rw [← hc] at EC
    rw [← hr] at ER
    have F1 := Lib.hid f1
    have F2 := Lib.hid f2
    have F3 := Lib.hid f3
    have F4 := Lib.hid f4
    have F5 := Lib.hid f5
    have ba : 1 ≤ a ∧ a ≤ 9 := by omega
    have bb : 1 ≤ b ∧ b ≤ 9 := by omega
    have bc : 1 ≤ c ∧ c ≤ 9 := by omega
    have br : 1 ≤ r ∧ r ≤ 60 := by omega
    clear f1 f2 f3 f4 f5 ha hb hc hr h2 HA
    obtain ⟨ba1, ba2⟩ := ba
    obtain ⟨bb1, bb2⟩ := bb
    obtain ⟨bc1, bc2⟩ := bc
    obtain ⟨br1, br2⟩ := br
    go_enter Try.func4, Try.ntmps4
    go_wp2_with fail
    refine HL.out.mono ?_
    rintro e w' ⟨rfl, rfl⟩
    go_wp2_with fail
    refine (H0.out _ (Below.refl _ _)).mono ?_
    rintro e w' ⟨rfl, rfl⟩
    go_wp2_with fail
    rw [EA.out]
    refine (H1.out _ (Below.refl _ _)).mono ?_
    rintro e w' ⟨rfl, rfl⟩
    go_wp2_with fail
    rw [EB.out]
    refine (H2.out _ (Below.refl _ _)).mono ?_
    rintro e w' ⟨rfl, rfl⟩
    go_wp2_with fail
    rw [EC.out]
    have hsw := sw_lit w #[.int .i64 0, .int .i64 (a : Int), .int .i64 (-(c : Int)), .int .i64 (-(a : Int)), .int .i64 0, .int .i64 (b : Int), .int .i64 (c : Int), .int .i64 (-(b : Int)), .int .i64 0] (winsL a b c) 2 rfl
    have hbw : Below w.heap.size w (w.alloc (.cells #[.int .i64 0, .int .i64 (a : Int), .int .i64 (-(c : Int)), .int .i64 (-(a : Int)), .int .i64 0, .int .i64 (b : Int), .int .i64 (c : Int), .int .i64 (-(b : Int)), .int .i64 0] 2)) := (Below.refl _ _).alloc (Nat.le_refl _) _
    generalize w.alloc (.cells #[.int .i64 0, .int .i64 (a : Int), .int .i64 (-(c : Int)), .int .i64 (-(a : Int)), .int .i64 0, .int .i64 (b : Int), .int .i64 (c : Int), .int .i64 (-(b : Int)), .int .i64 0] 2) = w1 at *
    have HW := Lib.hid hsw
    have HB := Lib.hid hbw
    refine (impl_EvenThrows (winsL a b c) _ w1 (by show 9 ≤ 1048576; omega) hsw.sl).mono ?_
    rintro e w2 ⟨r2, rfl, hr2, hb2⟩
    rw [F1.out]
    have HB2 := Lib.hid (hbw.trans (hb2.mono hbw.size))
    have HW2 := Lib.hid (hsw.later hb2)
    have HE := Lib.hid hr2
    clear hsw hbw hr2 hb2 HW HB
    go_wp2_with fail
    refine (H3.out _ HB2.out).mono ?_
    rintro e w' ⟨rfl, rfl⟩
    go_wp2_with fail
    rw [ER.out]
    have hwl : (winsL a b c).length ≤ 1048576 := by show 9 ≤ 1048576; omega
    have hok : ok_LearnThrows (winsL a b c) (r : Int) = true := by unfold ok_LearnThrows; rw [F3.out, decide_eq_true (show (1 : Int) ≤ (r : Int) by omega), decide_eq_true (show (r : Int) ≤ 200 by omega)]; rfl
    have HI := Lib.hid (impl_LearnThrows (winsL a b c) _ (r : Int) (by omega) (by omega) w2 hwl HW2.out.sl)
    rw [hok] at HI
    have HS := Lib.hid (fun z (hz : Below w2.heap.size w2 z) => spec_LearnThrows (winsL a b c) _ (r : Int) (by omega) (by omega) z hwl (HW2.out.sl.later hz))
    rw [hok] at HS
    have e1 : res_LearnThrows (winsL a b c) (r : Int) = (lrn (winsL a b c) 3 r).1 := by
      unfold res_LearnThrows; rw [if_pos hok, Int.toNat_natCast]; rfl
    have e2 : res2_LearnThrows (winsL a b c) (r : Int) = (lrn (winsL a b c) 3 r).2 := by
      unfold res2_LearnThrows; rw [if_pos hok, Int.toNat_natCast]; rfl
    rw [e1, e2] at HI HS
    obtain ⟨l1, l2⟩ := lrn_len (winsL a b c) 3 r
    obtain ⟨s1, s2⟩ := lrn_sum (winsL a b c) 3 (by omega) r
    have bd := lrn_bd (winsL a b c) 3 (by omega) r
    have sb1 := fun k hk => sumK_bd (lrn (winsL a b c) 3 r).1 (r : Int) (by omega) (fun k => (bd k).1) k hk
    have sb2 := fun k hk => sumK_bd (lrn (winsL a b c) 3 r).2 (r : Int) (by omega) (fun k => (bd k).2) k hk
    rw [← sumK_sumL, l1] at s1
    rw [← sumK_sumL, l2] at s2
    clear hok e1 e2 bd
    generalize (lrn (winsL a b c) 3 r).1 = L1 at *
    generalize (lrn (winsL a b c) 3 r).2 = L2 at *
    have HL1 := Lib.hid l1
    have HL2 := Lib.hid l2
    have HS1 := Lib.hid s1
    have HS2 := Lib.hid s2
    have HSB1 := Lib.hid sb1
    have HSB2 := Lib.hid sb2
    clear l1 l2 s1 s2 sb1 sb2
    refine HI.out.mono ?_
    rintro e w3 ⟨m0, m1, rfl, ⟨_, _, _, _, hm0, hm1, -⟩, hb3⟩
    have HM0 := Lib.hid hm0.sl
    have HM1 := Lib.hid hm1.sl
    have HB3 := Lib.hid hb3
    clear hm0 hm1 hb3 HI
    go_wp2_with fail
    refine (HS.out _ HB3.out).mono ?_
    rintro e w4 ⟨n0, n1, rfl, ⟨_, _, _, _, hn0, hn1, -⟩, hb4⟩
    have HN0 := Lib.hid hn0.sl
    have HN1 := Lib.hid hn1.sl
    have HM0' := Lib.hid (HM0.out.later hb4)
    have HM1' := Lib.hid (HM1.out.later hb4)
    have HB4 := Lib.hid (HB3.out.trans (hb4.mono HB3.out.size))
    clear hn0 hn1 hb4 HS HB3 HM0 HM1
    obtain ⟨pe, ce, rfl, hec⟩ := HE.out
    rw [F4.out] at hec
    rw [F4.out]
    obtain ⟨hce, be, oe, rfl, -, hbe, -, hce2⟩ := hec (by omega)
    have HEC := Lib.hid (fun i (hi : i < 3) => ((HB4.out.cell (p := ⟨be, oe + i, none⟩) hbe).trans (hce2 i hi).1 : w4.cell? ⟨be, oe + i, none⟩ = some (.int .i64 (evE a b c i))))
    have HWC := Lib.hid (fun i (hi : i < 9) => by
      obtain ⟨pw, cw, ew, hwc⟩ := HW2.out.later HB4.out
      obtain ⟨_, _, _, e3, _, _, _, h3⟩ := hwc (by show 0 < 9; omega)
      cases ew
      cases e3
      have := (h3 i hi).1
      rw [Nat.zero_add] at this
      exact (this : w4.cell? ⟨w.heap.size, i, none⟩ = some (.int .i64 ((winsL a b c).getD i 0))))
    have HB4' := Lib.hid (HB2.out.trans (HB4.out.mono HB2.out.size))
    have HP0 := Lib.hid (fun z (hz : Drawn w4 z) => ints10_any L1 m0 n0 z (by rw [HL1.out]; omega) (HM0'.out.drawn hz) (HN0.out.drawn hz))
    have HP1 := Lib.hid (fun z (hz : Drawn w4 z) => ints10_any L2 m1 n1 z (by rw [HL2.out]; omega) (HM1'.out.drawn hz) (HN1.out.drawn hz))
    have HQ0 := Lib.hid (fun z (hz : Drawn w4 z) => sum10_any L1 m0 z (by rw [HL1.out]; omega) (fun k hk => by rw [HL1.out] at hk; have := HSB1.out k (by omega); omega) (HM0'.out.drawn hz))
    have HQ1 := Lib.hid (fun z (hz : Drawn w4 z) => sum10_any L2 m1 z (by rw [HL2.out]; omega) (fun k hk => by rw [HL2.out] at hk; have := HSB2.out k (by omega); omega) (HM1'.out.drawn hz))
    rw [HL1.out, HS1.out] at HQ0
    rw [HL2.out, HS2.out] at HQ1
    clear HE hec hce2 HM0' HM1' HN0 HN1 HL1 HL2 HS1 HS2 HSB1 HSB2 HB4 HW2 HB2 HL H0 H1 H2 H3 hwl
    have nr : ((r : Int) != (r : Int)) = false := by simp
    go_wp2_with fail
    refine (HP0.out _ (Drawn.refl _)).mono ?_
    rintro e w5 ⟨rfl, hd5⟩
    have Hd5 := Lib.hid hd5
    clear hd5
    go_wp2_with fail
    refine (HP1.out _ Hd5.out).mono ?_
    rintro e w6 ⟨rfl, hd6⟩
    have Hd6 := Lib.hid (Hd5.out.trans hd6)
    clear hd6 Hd5
    go_wp2_with fail
    refine (HQ0.out _ Hd6.out).mono ?_
    rintro e w' ⟨rfl, rfl⟩
    go_wp2_with fail
    refine (HQ1.out _ Hd6.out).mono ?_
    rintro e w' ⟨rfl, rfl⟩
    go_wp2_with fail
    clear HP0 HP1 HQ0 HQ1
    have HEV := Lib.hid (fun z (hz : Drawn w4 z) i (hi : i < 3) => (hz.cell _).trans (HEC.out i hi))
    have HWV := Lib.hid (fun z (hz : Drawn w4 z) i (hi : i < 9) => (hz.cell _).trans (HWC.out i hi))
    obtain ⟨a01, a02, a03⟩ := F5.out 0 (by omega)
    obtain ⟨a11, a12, a13⟩ := F5.out 1 (by omega)
    obtain ⟨a21, a22, a23⟩ := F5.out 2 (by omega)
    have e00 := HEC.out 0 (by omega)
    go_loopw [18] (fun i wr => ∃ k : Nat, k ≤ 3 ∧ i = .int .i64 (k : Int) ∧ Hid (Drawn w4 wr)) (fun i _ => 3 - (intOf i).toNat)
    case atStart => exact ⟨0, Nat.zero_le _, rfl, Hd6⟩
    case round =>
      obtain ⟨k, hk, rfl, hd⟩ := hrel
      by_cases hlt : k < 3
      · obtain ⟨k01, k02, k03⟩ := F5.out k hlt
        have ek := HEV.out wr hd.out k hlt
        have e0 := HEV.out wr hd.out 0 (by omega)
        have e1 := HEV.out wr hd.out 1 (by omega)
        have e2 := HEV.out wr hd.out 2 (by omega)
        have x0' := HWV.out wr hd.out k (by omega)
        have x1' := HWV.out wr hd.out (3 + k) (by omega)
        have x2' := HWV.out wr hd.out (6 + k) (by omega)
        have b0' := wins_bd a b c (by omega) (by omega) (by omega) k
        have b1' := wins_bd a b c (by omega) (by omega) (by omega) (3 + k)
        have b2' := wins_bd a b c (by omega) (by omega) (by omega) (6 + k)
        rw [Nat.add_zero] at e0
        have d1 : decide (evE a b c k < 1) = false := decide_eq_false (by omega)
        clear e00
        generalize evE a b c k = EK at *
        generalize evE a b c 0 = E0 at *
        generalize evE a b c 1 = E1 at *
        generalize evE a b c 2 = E2 at *
        generalize (winsL a b c).getD k 0 = X0 at *
        generalize (winsL a b c).getD (3 + k) 0 = X1 at *
        generalize (winsL a b c).getD (6 + k) 0 = X2 at *
        have p0 := prodT_bd X0 E0 b0' (by omega)
        have p1 := prodT_bd X1 E1 b1' (by omega)
        have p2 := prodT_bd X2 E2 b2' (by omega)
        rw [Int.mul_comm] at p0 p1 p2
        have nb : (E0 * X0 + E1 * X1 + E2 * X2 != 0) = false := by rw [k03]; rfl
        obtain ⟨p01, p02⟩ := p0
        obtain ⟨p11, p12⟩ := p1
        obtain ⟨p21, p22⟩ := p2
        obtain ⟨b01, b02⟩ := b0'
        obtain ⟨b11, b12⟩ := b1'
        obtain ⟨b21, b22⟩ := b2'
        have K03 := Lib.hid k03
        clear k03 a03 a13 a23
        go_wp2
        go_quiet (fail)
        go_wp2
        go_roundw
        case rel => exact ⟨k + 1, by omega, by go_num, Lib.hid (hd.out.more _)⟩
        case measure => simp [intOf]; omega
      · obtain rfl : k = 3 := by omega
        have hsz := HB4'.out.size
        have hdz : wr.heap.size = w4.heap.size := by rw [hd.out.heap]
        have hb6 : Below w.heap.size w wr := HB4'.out.trans (hd.out.below _)
        have Hb6 := Lib.hid hb6
        have Hsz := Lib.hid (show w.heap.size ≤ wr.heap.size by omega)
        clear hb6 hsz hdz hd
        go_wp2_with fail
        have hsw := sw_lit wr #[.int .i64 0, .int .i64 (-(a : Int)), .int .i64 (c : Int), .int .i64 (a : Int), .int .i64 0, .int .i64 (-(b : Int)), .int .i64 (-(c : Int)), .int .i64 (b : Int), .int .i64 0] (winsN a b c) 2 rfl
        have hbw : Below w.heap.size w (wr.alloc (.cells #[.int .i64 0, .int .i64 (-(a : Int)), .int .i64 (c : Int), .int .i64 (a : Int), .int .i64 0, .int .i64 (-(b : Int)), .int .i64 (-(c : Int)), .int .i64 (b : Int), .int .i64 0] 2)) := Hb6.out.alloc Hsz.out _
        generalize wr.alloc (.cells #[.int .i64 0, .int .i64 (-(a : Int)), .int .i64 (c : Int), .int .i64 (a : Int), .int .i64 0, .int .i64 (-(b : Int)), .int .i64 (-(c : Int)), .int .i64 (b : Int), .int .i64 0] 2) = w7 at *
        refine (impl_EvenThrows (winsN a b c) _ w7 (by show 9 ≤ 1048576; omega) hsw.sl).mono ?_
        rintro e w8 ⟨r8, rfl, hr8, hb8⟩
        rw [F2.out]
        have HB8 := Lib.hid (hbw.trans (hb8.mono hbw.size))
        clear hsw hbw hr8 hb8
        go_wp2
        go_ret
        exact ⟨rfl, HB8.out⟩
end Go.Proofs.Ytodmaomngpnboaa
