/- The law of powers: its walk. -/
import Derived.Test.YticocfoheenmdaaExp
import Derived.Test.YticocfoheenmdaaPwB
import Derived.Test.YticocfoheenmdaaPwC
import Derived.Test.YticocfoheenmdaaTe
set_option linter.unusedVariables false
namespace Go.Proofs.Yticocfoheenmdaa
open Go.RowKit Fl

theorem pw_parts {j : Nat} (h : j < 129) : small8 (X8 j) ∧ floatToFloatBits .f32 (X8 j) .f64 = some (wideN (X8 j)) ∧ tE (wideN (X8 j)) % 9223372036854775808 ≤ pb (-5) ∧ floatToFloatBits .f64 (expF (wideN (X8 j))) .f32 = some (expN j) := by
  have := pw_ok j h
  simp only [Bool.and_eq_true, decide_eq_true_eq, beq_iff_eq] at this
  exact ⟨this.1.1.1, this.1.1.2, this.1.2, this.2⟩
theorem expC (j : Nat) (h : j < 129) (w : World) : Calls Try.prog 7 #[.float .f32 (X8 j)] w fun e w' => ∃ n, e = .returned (.float .f32 (eT.getD j 0)) ∧ w' = w.drewN n := by
  obtain ⟨h1, h2, h3, h4⟩ := pw_parts h
  refine (exp_any (X8 j) _ h1 h2 h3 w).mono ?_
  rintro e w' ⟨r, n, rfl, rfl, hr⟩
  rcases hr with hr | ⟨hr, -⟩
  · rw [h4, e_at j h] at hr
    cases hr
    exact ⟨n, rfl, rfl⟩
  · rw [h4] at hr; cases hr
theorem l_parts {k : Nat} (h : k < 65) : floatBits .quo .f32 (floatOfInt .f32 ((k : Int) - 32)) 1090519040 = some (X8 (k + 32)) ∧ floatToFloatBits .f32 (X8 (k + 32)) .f64 = some (wideN (X8 (k + 32))) ∧ floatToFloatBits .f64 (logF (wT.getD (k + 32) 0)) .f32 = some (lT.getD k 0) ∧
    floatToFloatBits .f32 (lT.getD k 0) .f64 = some (wideN (lT.getD k 0)) ∧ gapB (wideN (lT.getD k 0)) (wideN (X8 (k + 32))) = true ∧ ltF (gapN (wideN (lT.getD k 0)) (wideN (X8 (k + 32)))) cM = true ∧ 0 < eT.getD (k + 32) 0 ∧ eT.getD (k + 32) 0 < 2139095040 := by
  have := l_tab k h
  unfold chkL at this
  simp only [Bool.and_eq_true, decide_eq_true_eq, beq_iff_eq] at this
  obtain ⟨⟨⟨⟨⟨⟨⟨h1, h2⟩, h3⟩, h4⟩, h5⟩, h6⟩, h7⟩, h8⟩ := this
  exact ⟨h1, h2, h3, h4, h5, h6, h7, h8⟩
theorem logC (k : Nat) (h : k < 65) (w : World) : Calls Try.prog 9 #[.float .f32 (eT.getD (k + 32) 0)] w fun e w' => ∃ n, e = .returned (.float .f32 (lT.getD k 0)) ∧ w' = w.drewN n := by
  obtain ⟨-, -, h3, -, -, -, h7, h8⟩ := l_parts h
  refine (log_any (eT.getD (k + 32) 0) (by omega) w).mono ?_
  rintro e w' ⟨r, n, rfl, rfl, -, -, -, h4⟩
  obtain ⟨u, hu, hr⟩ := h4 h7 h8
  rw [w_at (k + 32) (by omega)] at hu
  cases hu
  rw [h3] at hr
  cases hr
  exact ⟨n, rfl, rfl⟩
theorem logOne (w : World) : Calls Try.prog 9 #[.float .f32 1065353216] w fun e w' => ∃ n, e = .returned (.float .f32 0) ∧ w' = w.drewN n := by
  obtain ⟨h1, h2⟩ := l_one
  refine (log_any 1065353216 (by decide) w).mono ?_
  rintro e w' ⟨r, n, rfl, rfl, -, -, -, h4⟩
  obtain ⟨u, hu, hr⟩ := h4 (by decide) (by decide)
  rw [h1] at hu
  cases hu
  rw [h2] at hr
  cases hr
  exact ⟨n, rfl, rfl⟩
theorem gapC (a b : Nat) (h : gapB a b = true) (w : World) : Calls Try.prog 8 #[.float .f64 a, .float .f64 b] w fun e w' => e = .returned (.float .f64 (gapN a b)) ∧ w = w' := by
  have hg : gapN a b = if ltF a b = true then fop .sub .f64 b a else fop .sub .f64 a b := rfl
  unfold gapB at h
  cases e : ltF a b with
  | true =>
    rw [if_pos e] at h
    have r1 := run_ok (P := Try.prog) (eq_of_beq h)
    have t1 : (FloatKind.f64.format.order a b == some .lt) = true := e
    clear h hg e
    generalize gapN a b = g at *
    go_enter Try.func8, Try.ntmps8
    go_wp2
    go_ret
    exact ⟨rfl, rfl⟩
  | false =>
    rw [if_neg (by rw [e]; decide)] at h
    have r1 := run_ok (P := Try.prog) (eq_of_beq h)
    have t1 : (FloatKind.f64.format.order a b == some .lt) = false := e
    clear h hg e
    generalize gapN a b = g at *
    go_enter Try.func8, Try.ntmps8
    go_wp2
    go_ret
    exact ⟨rfl, rfl⟩
theorem pos_gt {a : Nat} (h : 0 < a) (h2 : a < 2139095040) : (FloatKind.f32.format.order a 0 == some .gt) = true := by
  have hn : isNan .f32 a = false := by rw [isNan32]; exact decide_eq_false (by omega)
  rw [order_key .f32 (wf_of32 (by omega)) (by decide) hn (by decide +kernel), some_beq, compare_gt]
  have e0 : key .f32 0 = 0 := by decide +kernel
  rw [e0]
  unfold key sg
  rw [show FloatKind.f32.format.signWeight = 2147483648 from by decide +kernel, decide_eq_false (show ¬ 2147483648 ≤ a by omega), if_neg (by decide)]
  exact decide_eq_true (by omega)
set_option maxRecDepth 1000000 in
set_option maxHeartbeats 8000000 in
theorem walk_FnPowers (fs gs : List Int) (v v2 : Value) (w : World) (hl : fs.length ≤ maxLen) (hl2 : gs.length ≤ maxLen) (hbf : BsB fs) (hbs : BsB gs) (h : Sl (Value.int .u8) 0 w v fs) (h2 : Sl (Value.int .u8) 0 w v2 gs) :
    Calls Try.prog 3 #[v, v2] w fun e w' => e = .returned (.bool true) ∧ Below w.heap.size w w' := by
  have HL := Lib.hid (long10_any fs gs v v2 w hl hl2 h h2)
  by_cases hlong : (decide (1048576 < fs.length) || decide (1048576 < gs.length)) = true
  · rw [hlong] at HL
    clear hlong h h2
    go_enter Try.func3, Try.ntmps3
    go_wp2_with (first | (go_at_call 5; refine HL.out.mono ?_; rintro e w' ⟨rfl, rfl⟩))
    go_ret
    exact ⟨rfl, Below.refl _ _⟩
  · rw [Bool.not_eq_true] at hlong
    rw [hlong] at HL
    clear hlong
    have HA := Lib.hid (at10_any fs v 0 65 w (by omega) (by omega) (by omega) hl hbf h)
    have HB := Lib.hid (at10_any gs v2 0 65 w (by omega) (by omega) (by omega) hl2 hbs h2)
    have hk := b10V_lt fs 0 65 (by omega)
    have hm := b10V_lt gs 0 65 (by omega)
    generalize b10V fs 0 65 = k at *
    generalize b10V gs 0 65 = m at *
    obtain ⟨k1, k2, k3, k4, k5, k6, k7, k8⟩ := l_parts hk
    obtain ⟨m1, m2, -, -, -, -, m7, m8⟩ := l_parts hm
    obtain ⟨p1, p2, p3, p4⟩ := chk_parts (p_at k m hk hm)
    obtain ⟨z1, z2⟩ := x_zero
    have HEk := Lib.hid (fun z => expC (k + 32) (by omega) z)
    have HEm := Lib.hid (fun z => expC (m + 32) (by omega) z)
    have HEs := Lib.hid (fun z => expC (k + m) (by omega) z)
    have HE0 := Lib.hid (fun z => expC 64 (by omega) z)
    rw [z1, z2] at HE0
    have HLk := Lib.hid (fun z => logC k hk z)
    have HL1 := Lib.hid (fun z => logOne z)
    have HG1 := Lib.hid (fun z => gapC _ _ k5 z)
    have HG2 := Lib.hid (fun z => gapC _ _ p2 z)
    have q1 := run_ok (P := Try.prog) k1
    have q2 := run_ok (P := Try.prog) m1
    have q3 := run_ok (P := Try.prog) (a_at k m hk hm)
    have q4 := run_ok (P := Try.prog) p1
    have q5 := run_ok (P := Try.prog) p3
    have c1 := run_conv _ _ k2
    have c2 := run_conv _ _ k4
    have c3 := run_conv _ _ (w_at (k + 32) (by omega))
    have c4 := run_conv _ _ (w_at (m + 32) (by omega))
    have c5 := run_conv _ _ (w_at (k + m) (by omega))
    have t1 : (FloatKind.f64.format.order (gapN (wideN (lT.getD k 0)) (wideN (X8 (k + 32)))) 4562254508917369340 == some .lt) = true := k6
    have t2 : (FloatKind.f64.format.order (gapN (fop .mul .f64 (wT.getD (k + 32) 0) (wT.getD (m + 32) 0)) (wT.getD (k + m) 0)) (fop .mul .f64 cM (wT.getD (k + m) 0)) == some .lt) = true := p4
    have t3 := pos_gt k7 k8
    have t4 : (FloatKind.f32.format.order 1065353216 1065353216 == some .eq) = true := by decide +kernel
    have t5 : (FloatKind.f32.format.order 0 0 == some .eq) = true := by decide +kernel
    clear k1 k2 k3 k4 k5 k6 k7 k8 m1 m2 m7 m8 p1 p2 p3 p4 z1 z2
    unfold cM at *
    generalize gapN (wideN (lT.getD k 0)) (wideN (X8 (k + 32))) = g1 at *
    generalize gapN (fop .mul .f64 (wT.getD (k + 32) 0) (wT.getD (m + 32) 0)) (wT.getD (k + m) 0) = g2 at *
    generalize fop .mul .f64 (wT.getD (k + 32) 0) (wT.getD (m + 32) 0) = P at *
    generalize fop .mul .f64 4562254508917369340 (wT.getD (k + m) 0) = D at *
    generalize wideN (lT.getD k 0) = wl at *
    generalize wideN (X8 (k + 32)) = wx at *
    generalize lT.getD k 0 = lk at *
    generalize wT.getD (k + 32) 0 = wa at *
    generalize wT.getD (m + 32) 0 = wb at *
    generalize wT.getD (k + m) 0 = wc at *
    generalize eT.getD (k + 32) 0 = ea at *
    generalize eT.getD (m + 32) 0 = eb at *
    generalize eT.getD (k + m) 0 = ec at *
    generalize X8 (k + 32) = xa at *
    generalize X8 (m + 32) = xb at *
    generalize X8 (k + m) = xc at *
    clear h h2 hl hl2
    go_enter Try.func3, Try.ntmps3
    go_wp2_with fail
    refine HL.out.mono ?_
    rintro e w' ⟨rfl, rfl⟩
    go_wp2_with fail
    refine HA.out.mono ?_
    rintro e w' ⟨rfl, rfl⟩
    go_wp2_with fail
    refine HB.out.mono ?_
    rintro e w' ⟨rfl, rfl⟩
    clear HL HA HB
    go_wp2_with fail
    refine (HEk.out _).mono ?_
    rintro e w' ⟨n1, rfl, rfl⟩
    go_wp2_with fail
    refine (HEm.out _).mono ?_
    rintro e w' ⟨n2, rfl, rfl⟩
    go_wp2_with fail
    refine (HEs.out _).mono ?_
    rintro e w' ⟨n3, rfl, rfl⟩
    go_wp2_with fail
    refine (HLk.out _).mono ?_
    rintro e w' ⟨n4, rfl, rfl⟩
    go_wp2_with fail
    refine (HG1.out _).mono ?_
    rintro e w' ⟨rfl, rfl⟩
    go_wp2_with fail
    refine (HG2.out _).mono ?_
    rintro e w' ⟨rfl, rfl⟩
    go_wp2_with fail
    refine (HE0.out _).mono ?_
    rintro e w' ⟨n5, rfl, rfl⟩
    go_wp2_with fail
    refine (HL1.out _).mono ?_
    rintro e w' ⟨n6, rfl, rfl⟩
    go_wp2
    go_ret
    refine ⟨rfl, ?_⟩
    repeat' (first | exact Below.refl _ _ | refine below_drewN ?_ _)
end Go.Proofs.Yticocfoheenmdaa
