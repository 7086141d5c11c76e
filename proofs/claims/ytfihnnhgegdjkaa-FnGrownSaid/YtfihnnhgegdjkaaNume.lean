/- Contracts: the logarithm of any 32-bit number, in both texts. -/
import Derived.Test.YtfihnnhgegdjkaaNumd
set_option linter.unusedVariables false
namespace Go.Proofs.Ytfihnnhgegdjkaa
open Go.RowKit Fl

theorem nanC : isNan .f64 9221120237041090561 = true := by decide +kernel
theorem mathNaN_any (w : World) : Calls Try.prog 44 #[] w fun e w' => e = .returned (.float .f64 9221120237041090561) ∧ w = w' := by
  go_enter Try.func44, Try.ntmps44
  go_wp2
  go_ret
  exact ⟨rfl, rfl⟩
theorem notANumber_any (w : World) : Calls Try.prog 38 #[] w fun e w' => ∃ r n, e = .returned (.float .f32 r) ∧ w' = w.drewN n ∧ isNan .f32 r = true := by
  go_enter Try.func38, Try.ntmps38
  go_wp2_with (first | (go_at_call 44; refine (mathNaN_any _).mono ?_; rintro e w' ⟨rfl, rfl⟩) | (refine wpList_fconv rfl _ _ _ rfl .f64 .f32 (by kernel_rfl) (by kernel_rfl) _ rfl ?_; intro r n hr))
  go_ret
  exact ⟨_, _, rfl, rfl, narrow_nan hr nanC⟩
theorem infNeg_any (w : World) : Calls Try.prog 39 #[.int .i64 (-1)] w fun e w' => e = .returned (.float .f64 18442240474082181120) ∧ w = w' := by
  go_enter Try.func39, Try.ntmps39
  go_wp2
  go_ret
  exact ⟨rfl, rfl⟩

/-- what the logarithm of a 32-bit number may be -/
def LogR (x r : Nat) : Prop :=
  ((isNan .f32 x = true ∨ 2147483648 < x) → isNan .f32 r = true) ∧ (x % 2147483648 = 0 → r = 4286578688) ∧ (x = 2139095040 → r = x) ∧
  (0 < x → x < 2139095040 → ∃ u, floatToFloatBits .f32 x .f64 = some u ∧ floatToFloatBits .f64 (logF u) .f32 = some r)
theorem LogR.same {x q r : Nat} (hx : x < 4294967296) (h : LogR x q) (g : LogR x r) : SameF .f32 q r := by
  obtain ⟨h1, h2, h3, h4⟩ := h
  obtain ⟨g1, g2, g3, g4⟩ := g
  by_cases c1 : isNan .f32 x = true ∨ 2147483648 < x
  · show cn _ q = cn _ r
    rw [cn_nan (h1 c1), cn_nan (g1 c1)]
  · have hn : isNan .f32 x = false := Bool.eq_false_iff.2 fun h => c1 (.inl h)
    have hx2 : x ≤ 2147483648 := Nat.le_of_not_lt fun h => c1 (.inr h)
    rw [isNan32] at hn
    have hn2 := of_decide_eq_false hn
    by_cases c2 : x % 2147483648 = 0
    · rw [h2 c2, g2 c2]; rfl
    · by_cases c3 : x = 2139095040
      · rw [h3 c3, g3 c3]; rfl
      · obtain ⟨u, a1, a2⟩ := h4 (by omega) (by omega)
        obtain ⟨v, b1, b2⟩ := g4 (by omega) (by omega)
        rw [a1] at b1; cases b1
        rw [a2] at b2; cases b2; rfl

theorem logF_narrow {u : Nat} (h1 : 3936146074321813504 ≤ u) (h2 : u < 5183643171103440896) : ∃ v, floatToFloatBits .f64 (logF u) .f32 = some v := by
  have hL : (logX u : Int) = u - logD u * 4503599627370496 ∧ 4604930618986332160 ≤ logX u ∧ logX u < 4609434218613702656 := by
    unfold logX logD; omega
  have hD : -200 ≤ logD u ∧ logD u ≤ 200 := by unfold logD; omega
  obtain ⟨_, _, _, _, _, _, _, _, _, hb⟩ := log_steps hL.2.1 hL.2.2 hD.1 hD.2
  obtain ⟨v, hv, _⟩ := narrow_ok hb (by decide +kernel)
  exact ⟨v, hv⟩

theorem run_conv (u v : Nat) (h : floatToFloatBits .f32 u .f64 = some v) (w : World) : (convert 24 29 (.float .f32 u)).run Try.prog w = .ok (.float .f64 v) w :=
  run_convert_float_float w _ _ .f32 .f64 u v (by kernel_rfl) (by kernel_rfl) h
theorem run_narrow (u v : Nat) (h : floatToFloatBits .f64 u .f32 = some v) (w : World) : (convert 29 24 (.float .f64 u)).run Try.prog w = .ok (.float .f32 v) w :=
  run_convert_float_float w _ _ .f64 .f32 u v (by kernel_rfl) (by kernel_rfl) h

set_option maxRecDepth 100000 in
theorem log_any (x : Nat) (hx : x < 4294967296) (w : World) : Calls Try.prog 30 #[.float .f32 x] w fun e w' => ∃ r n, e = .returned (.float .f32 r) ∧ w' = w.drewN n ∧ LogR x r := by
  cases hn : isNan .f32 x with
  | true =>
    go_enter Try.func30, Try.ntmps30
    go_wp2_with (first | (refine wpList_fconv rfl _ _ _ rfl .f32 .f64 (by kernel_rfl) (by kernel_rfl) _ rfl ?_; intro u n hu; have hun := (wide_nan hu).trans hn; have hun2 := neq_nan .f64 u; rw [hun] at hun2) | (go_at_call 38; refine (notANumber_any _).mono ?_; rintro e w' ⟨r3, n3, rfl, rfl, h3⟩; have H3 := Lib.hid h3; clear h3) | (go_at_call 37; refine (isNaN_any _ _).mono ?_; rintro e w' ⟨rfl, rfl⟩))
    go_ret
    exact ⟨_, _, rfl, rfl, fun _ => H3.out, fun h => absurd hn (by rw [isNan32, decide_eq_false (by omega)]; decide), fun h => absurd hn (by rw [h]; decide +kernel), fun h1 h2 => absurd hn (by rw [isNan32, decide_eq_false (by omega)]; decide)⟩
  | false =>
    have hn' := hn
    rw [isNan32] at hn'
    have hn2 := of_decide_eq_false hn'
    clear hn'
    by_cases c1 : 2147483648 < x
    · obtain ⟨u, hu, hun, _⟩ := widen x hn
      obtain ⟨k1, k2, k3⟩ := wide_ge (R := 1) (W := 3936146074321813504) hx (.inl hu) (by omega) (by omega) (by decide +kernel) (by decide)
      have hc := run_conv x u hu
      have hun2 := neq_nan .f64 u
      rw [hun] at hun2
      have hlt := lss_neg (x := u) (by omega) (by omega)
      clear k1 k2 k3 hu hn hn2
      go_enter Try.func30, Try.ntmps30
      go_wp2_with (first | (go_at_call 38; refine (notANumber_any _).mono ?_; rintro e w' ⟨r3, n3, rfl, rfl, h3⟩; have H3 := Lib.hid h3; clear h3) | (go_at_call 37; refine (isNaN_any _ _).mono ?_; rintro e w' ⟨rfl, rfl⟩))
      go_ret
      exact ⟨_, _, rfl, rfl, fun _ => H3.out, fun h => absurd h (by omega), fun h => absurd h (by omega), fun h1 h2 => absurd h2 (by omega)⟩
    · by_cases c2 : x % 2147483648 = 0
      · have hcase : x = 0 ∨ x = 2147483648 := by omega
        have d1 := run_narrow 18442240474082181120 4286578688 (by decide +kernel)
        rcases hcase with rfl | rfl
        · have hc := run_conv 0 0 (by decide +kernel)
          have e1 : isNan .f64 0 = false := by decide +kernel
          have e2 : (FloatKind.f64.format.order 0 0 != some .eq) = false := by decide +kernel
          have e3 : (FloatKind.f64.format.order 0 0 == some .lt) = false := by decide +kernel
          have e4 : (FloatKind.f64.format.order 0 0 == some .eq) = true := by decide +kernel
          clear hn hn2 c1 c2 hx
          go_enter Try.func30, Try.ntmps30
          go_wp2_with (first | (go_at_call 37; refine (isNaN_any _ _).mono ?_; rintro e w' ⟨rfl, rfl⟩) | (go_at_call 39; refine (infNeg_any _).mono ?_; rintro e w' ⟨rfl, rfl⟩))
          go_ret
          exact ⟨4286578688, 0, rfl, rfl, fun h => absurd h (by decide +kernel), fun _ => rfl, fun h => absurd h (by decide), fun h1 h2 => absurd h1 (by decide)⟩
        · have hc := run_conv 2147483648 9223372036854775808 (by decide +kernel)
          have e1 : isNan .f64 9223372036854775808 = false := by decide +kernel
          have e2 : (FloatKind.f64.format.order 9223372036854775808 9223372036854775808 != some .eq) = false := by decide +kernel
          have e3 : (FloatKind.f64.format.order 9223372036854775808 0 == some .lt) = false := by decide +kernel
          have e4 : (FloatKind.f64.format.order 9223372036854775808 0 == some .eq) = true := by decide +kernel
          clear hn hn2 c1 c2 hx
          go_enter Try.func30, Try.ntmps30
          go_wp2_with (first | (go_at_call 37; refine (isNaN_any _ _).mono ?_; rintro e w' ⟨rfl, rfl⟩) | (go_at_call 39; refine (infNeg_any _).mono ?_; rintro e w' ⟨rfl, rfl⟩))
          go_ret
          exact ⟨4286578688, 0, rfl, rfl, fun h => absurd h (by decide +kernel), fun _ => rfl, fun h => absurd h (by decide), fun h1 h2 => absurd h2 (by decide)⟩
      · by_cases c3 : x = 2139095040
        · subst c3
          have hc := run_conv 2139095040 9218868437227405312 (by decide +kernel)
          have d1 := run_narrow 9218868437227405312 2139095040 (by decide +kernel)
          have e1 : isNan .f64 9218868437227405312 = false := by decide +kernel
          have e2 : (FloatKind.f64.format.order 9218868437227405312 9218868437227405312 != some .eq) = false := by decide +kernel
          have e3 : (FloatKind.f64.format.order 9218868437227405312 0 == some .lt) = false := by decide +kernel
          have e4 : (FloatKind.f64.format.order 9218868437227405312 0 == some .eq) = false := by decide +kernel
          have e5 : (FloatKind.f64.format.order 9218868437227405312 9218868437227405311 == some .gt) = true := by decide +kernel
          clear hn hn2 c1 c2 hx
          go_enter Try.func30, Try.ntmps30
          go_wp2_with (first | (go_at_call 37; refine (isNaN_any _ _).mono ?_; rintro e w' ⟨rfl, rfl⟩) | (go_at_call 40; refine (isInf1_any _ _).mono ?_; rintro e w' ⟨rfl, rfl⟩))
          go_ret
          exact ⟨2139095040, 0, rfl, rfl, fun h => absurd h (by decide +kernel), fun h => absurd h (by decide), fun _ => rfl, fun h1 h2 => absurd h2 (by decide)⟩
        · obtain ⟨u, hu, hun, _⟩ := widen x hn
          obtain ⟨k1, k2, k3⟩ := wide_ge (R := 1) (W := 3936146074321813504) hx (.inl hu) (by omega) (by omega) (by decide +kernel) (by decide)
          have k4 := (wide_bd (R := 2139095039) hx (.inl hu) (by omega) (by decide) (show floatToFloatBits .f32 2139095039 .f64 = some 5183643170566569984 by decide +kernel) (by decide)).2.1
          rw [signWeight64] at k4
          have hu1 : 3936146074321813504 ≤ u := by omega
          have hu2 : u < 5183643171103440896 := by omega
          have hc := run_conv x u hu
          have f2 := lss_pos (x := u) (c := 0) (by omega) (by omega)
          rw [decide_eq_false (by omega)] at f2
          have f3 := eql_pos (x := u) (c := 0) (by omega) (by omega)
          rw [decide_eq_false (by omega)] at f3
          have f4 := gtr_pos (x := u) (c := 9218868437227405311) (by omega) (by omega)
          rw [decide_eq_false (by omega)] at f4
          have Hu := Lib.hid hu
          clear k1 k2 k3 k4 hu
          go_enter Try.func30, Try.ntmps30
          go_wp2_with (first | (go_at_call 37; refine (isNaN_any _ _).mono ?_; rintro e w' ⟨rfl, rfl⟩) | (go_at_call 40; refine (isInf1_any _ _).mono ?_; rintro e w' ⟨rfl, rfl⟩) | (go_at_call 42; refine (wideLog_any _ hu1 hu2 _).mono ?_; rintro e w' ⟨rfl, rfl⟩) | (go_at_call 41; refine (narrow_any _ _).mono ?_; rintro e w' ⟨q, n4, rfl, rfl, hq⟩; have Hq := Lib.hid hq; clear hq))
          go_ret
          refine ⟨_, _, rfl, rfl, fun h => ?_, fun h => absurd h c2, fun h => absurd h c3, fun h1 h2 => ⟨u, Hu.out, ?_⟩⟩
          · rcases h with h | h
            · rw [hn] at h; cases h
            · exact absurd h c1
          · obtain ⟨v, hv⟩ := logF_narrow hu1 hu2
            rcases Hq.out with h | ⟨h, _⟩
            · exact h
            · rw [hv] at h; cases h

