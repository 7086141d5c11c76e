/- Contracts: the point of the circle at a number of turns, in both texts. -/
import Derived.Test.YthdbjdpkckmbeabFu
import Derived.Test.YthdbjdpkckmbeabSin
import Derived.Laws.Cover3
set_option linter.unusedVariables false
namespace Go.Proofs.Ythdbjdpkckmbeab
open Go.RowKit Fl

theorem isFin64_any (y : Nat) (hl : y < 18446744073709551616) (w : World) : Calls Try.prog 27 #[.float .f64 y] w fun e w' => e = .returned (.bool (decide (y % 9223372036854775808 < 9218868437227405312))) ∧ w = w' := by
  have h1 : isNan .f64 y = decide (9218868437227405312 < y % 9223372036854775808) := by rw [isNan64]
  have h2 := gtr_pos (x := y % 9223372036854775808) (c := 9218868437227405311)
  by_cases hn : 9218868437227405312 < y % 9223372036854775808
  · rw [decide_eq_true hn] at h1
    clear h2
    go_enter Try.func27, Try.ntmps27
    go_wp2_with (first | (go_at_call 40; refine (isNaN_any _ _).mono ?_; rintro e w' ⟨rfl, rfl⟩))
    go_ret
    exact ⟨ret_bool (decide_eq_false (by omega)).symm, rfl⟩
  · rw [decide_eq_false hn] at h1
    have h3 := h2 (by omega) (by omega)
    have H3 := Lib.hid h3
    clear h2 h3
    go_enter Try.func27, Try.ntmps27
    go_wp2_with (first | (go_at_call 40; refine (isNaN_any _ _).mono ?_; rintro e w' ⟨rfl, rfl⟩) | (go_at_call 41; refine (isInf_any _ hl _).mono ?_; rintro e w' ⟨rfl, rfl⟩))
    go_ret
    refine ⟨ret_bool ?_, rfl⟩
    rw [H3.out]
    by_cases c : 9218868437227405311 < y % 9223372036854775808
    · rw [decide_eq_true c, decide_eq_false (by omega)]; rfl
    · rw [decide_eq_false c, decide_eq_true (by omega)]; rfl

/-- what the point of the circle may be -/
def PhaR (y re im : Nat) : Prop :=
  (9218868437227405312 ≤ y % 9223372036854775808 → isNan .f32 re = true ∧ isNan .f32 im = true) ∧
  (y % 9223372036854775808 < 9218868437227405312 → 4841369599423283200 ≤ y % 9223372036854775808 → re = 1065353216 ∧ im = 0) ∧
  (y % 9223372036854775808 < 4841369599423283200 → ∃ q, Qn (f1 y) q ∧ floatToFloatBits .f64 (re4 q (itF (f1 y) q)) .f32 = some re ∧ floatToFloatBits .f64 (im4 q (itF (f1 y) q)) .f32 = some im)
theorem PhaR.same {y a b c d : Nat} (h : PhaR y a b) (g : PhaR y c d) : SameF .f32 a c ∧ SameF .f32 b d := by
  by_cases h1 : y % 9223372036854775808 < 9218868437227405312
  · by_cases h2 : y % 9223372036854775808 < 4841369599423283200
    · obtain ⟨q, a1, a2, a3⟩ := h.2.2 h2
      obtain ⟨r, b1, b2, b3⟩ := g.2.2 h2
      obtain rfl := a1.same b1
      rw [a2] at b2
      rw [a3] at b3
      cases b2
      cases b3
      exact ⟨rfl, rfl⟩
    · obtain ⟨rfl, rfl⟩ := h.2.1 h1 (by omega)
      obtain ⟨rfl, rfl⟩ := g.2.1 h1 (by omega)
      exact ⟨rfl, rfl⟩
  · obtain ⟨a1, a2⟩ := h.1 (by omega)
    obtain ⟨b1, b2⟩ := g.1 (by omega)
    refine ⟨?_, ?_⟩
    · show cn _ a = cn _ c
      rw [cn_nan a1, cn_nan b1]
    · show cn _ b = cn _ d
      rw [cn_nan a2, cn_nan b2]

theorem wide_cos_any (p : Nat) (h : fop .sub .f64 4598175219545276416 p < 18446744073709551616 ∧ fop .sub .f64 4598175219545276416 p % 9223372036854775808 < 4841369599423283200) (w : World) : Calls Try.prog 31 #[.float .f64 (fop .sub .f64 4598175219545276416 p)] w fun e w' => e = .returned (.float .f64 (cosP p)) ∧ w = w' := wideSine_any _ h.1 h.2 w
theorem wide_sin_any (p : Nat) (h : p < 18446744073709551616 ∧ p % 9223372036854775808 < 4841369599423283200) (w : World) : Calls Try.prog 31 #[.float .f64 p] w fun e w' => e = .returned (.float .f64 (sinQ p)) ∧ w = w' := wideSine_any _ h.1 h.2 w
theorem narrow_some {a r : Nat} (h : FconvR .f64 a .f32 r) (g : ∃ v, floatToFloatBits .f64 a .f32 = some v) : floatToFloatBits .f64 a .f32 = some r := by
  obtain ⟨v, hv⟩ := g
  rcases h with h | ⟨h, _⟩
  · exact h
  · rw [hv] at h; cases h

set_option maxHeartbeats 1000000 in
theorem phasor_any (y : Nat) (hl : y < 18446744073709551616) (w : World) : Calls Try.prog 13 #[.float .f64 y] w fun e w' => ∃ re im n, e = .returned (.complex .f32 re im) ∧ w' = w.drewN n ∧ PhaR y re im := by
  by_cases h1 : y % 9223372036854775808 < 9218868437227405312
  · have hd := decide_eq_true h1
    have hg := geq_pos (x := y % 9223372036854775808) (c := 4841369599423283200) (by omega) (by omega)
    by_cases h2 : 4841369599423283200 ≤ y % 9223372036854775808
    · rw [decide_eq_true h2] at hg
      go_enter Try.func13, Try.ntmps13
      go_wp2_with (first | (go_at_call 27; refine (isFin64_any y hl _).mono ?_; rintro e w' ⟨rfl, rfl⟩) | (go_at_call 29; refine (abs_any y hl _).mono ?_; rintro e w' ⟨rfl, rfl⟩))
      go_ret
      exact ⟨1065353216, 0, 0, rfl, rfl, fun h => absurd h1 (by omega), fun _ _ => ⟨rfl, rfl⟩, fun h => absurd h (by omega)⟩
    · rw [decide_eq_false h2] at hg
      have hp0 := f1_pos hl (by omega)
      go_enter Try.func13, Try.ntmps13
      go_wp2_with (first | (go_at_call 27; refine (isFin64_any y hl _).mono ?_; rintro e w' ⟨rfl, rfl⟩) | (go_at_call 29; refine (abs_any y hl _).mono ?_; rintro e w' ⟨rfl, rfl⟩) | (go_at_call 30; refine (turnPart_any y hl (by omega) _).mono ?_; rintro e w' ⟨rfl, rfl⟩))
      clear hd hg
      generalize hgen : f1 y = g at *
      go_loop [3, 4] (fun t i => ∃ q : Nat, q ≤ 4 ∧ t = .float .f64 (itF g q) ∧ i = .int .i64 q ∧ Pos (itF g q) (RF q) ∧ ∀ j, j < q → qrtB (itF g j) = true) (fun _ i => 4 - (intOf i).toNat)
      case atStart => exact ⟨0, by omega, rfl, rfl, hp0, fun j h => absurd h (by omega)⟩
      case round =>
        obtain ⟨q, hq, rfl, rfl, hpos, hall⟩ := hrel
        cases hb : qrtB (itF g q) with
        | true =>
          have hlt : q < 4 := by
            by_cases c : q < 4
            · exact c
            · obtain rfl : q = 4 := by omega
              rw [it_end hpos] at hb
              cases hb
          obtain ⟨b1, b2⟩ := it_step hlt hpos hb
          have s1 := run_ok (P := Try.prog) b1
          have Hb := Lib.hid hb
          unfold qrtB at hb
          clear b1
          go_wp2
          go_round
          case rel =>
            refine ⟨q + 1, by omega, rfl, by go_num, b2, fun j h => ?_⟩
            by_cases c : j < q
            · exact hall j c
            · obtain rfl : j = q := by omega
              exact Hb.out
          case measure => simp [intOf]; omega
        | false =>
          have hn : Qn g q := ⟨hall, hb⟩
          have hP : Pos (itF g q) 4607182418800017408 := ⟨by
            have h5 := hpos.1
            have h6 := rf_lt q (by omega)
            omega, by decide⟩
          obtain ⟨a1, a2, a3, a4, a5, a6⟩ := ph_steps hP
          have A6 := Lib.hid a6
          have r1 := run_ok (P := Try.prog) a1
          have r2 := run_ok (P := Try.prog) a4
          have r3 := run_ok (P := Try.prog) a5
          have Hn := Lib.hid hn
          unfold qrtB at hb
          clear a1 a4 a5 a6 hn hall hpos hP
          have hcase : q = 0 ∨ q = 1 ∨ q = 2 ∨ q = 3 ∨ q = 4 := by omega
          have hc := fun w => wide_cos_any (itF g q) a2 w
          have hs := fun w => wide_sin_any (itF g q) a3 w
          generalize hgen2 : itF g q = p at *
          clear a2 a3
          rcases hcase with rfl | rfl | rfl | rfl | rfl
          all_goals
            go_wp2_with (first | (go_at_call 31; first | ((with_reducible refine (hc _).mono ?_); rintro e w' ⟨rfl, rfl⟩) | ((with_reducible refine (hs _).mono ?_); rintro e w' ⟨rfl, rfl⟩)) | (go_at_call 32; go_in) | (go_at_call 24; refine (narrow_any _ _).mono ?_; rintro e w' ⟨r4, n4, rfl, rfl, h4⟩; (first | (have H2 := H3; clear H3) | skip); have H3 := Lib.hid h4; clear h4))
            go_ret
            refine ⟨_, _, _, rfl, rfl, fun h => absurd h1 (by omega), fun _ h => absurd h h2, fun _ => ⟨_, by rw [hgen]; exact Hn.out, ?_, ?_⟩⟩
            · rw [hgen, hgen2]
              exact narrow_some H2.out (A6.out _).1
            · rw [hgen, hgen2]
              exact narrow_some H3.out (A6.out _).2
  · have hd := decide_eq_false h1
    go_enter Try.func13, Try.ntmps13
    go_wp2_with (first | (go_at_call 27; refine (isFin64_any y hl _).mono ?_; rintro e w' ⟨rfl, rfl⟩) | (go_at_call 28; refine (notANumber_any _).mono ?_; rintro e w' ⟨r3, n3, rfl, rfl, h3⟩; (first | (have H2 := H3; clear H3) | skip); have H3 := Lib.hid h3; clear h3))
    go_ret
    exact ⟨_, _, _, rfl, rfl, fun _ => ⟨H2.out, H3.out⟩, fun h => absurd h h1, fun h => absurd h (by omega)⟩

theorem wide_cos_spec (p : Nat) (h : fop .sub .f64 4598175219545276416 p < 18446744073709551616 ∧ fop .sub .f64 4598175219545276416 p % 9223372036854775808 < 4841369599423283200) (w : World) : Calls Try.prog 46 #[.float .f64 (fop .sub .f64 4598175219545276416 p)] w fun e w' => e = .returned (.float .f64 (cosP p)) ∧ w = w' := sineWide_spec _ h.1 h.2 w
theorem wide_sin_spec (p : Nat) (h : p < 18446744073709551616 ∧ p % 9223372036854775808 < 4841369599423283200) (w : World) : Calls Try.prog 46 #[.float .f64 p] w fun e w' => e = .returned (.float .f64 (sinQ p)) ∧ w = w' := sineWide_spec _ h.1 h.2 w

set_option maxHeartbeats 1000000 in
theorem phasor_spec (y : Nat) (hl : y < 18446744073709551616) (w : World) : Calls Try.prog 26 #[.float .f64 y] w fun e w' => ∃ re im n, e = .returned (.complex .f32 re im) ∧ w' = w.drewN n ∧ PhaR y re im := by
  by_cases h1 : y % 9223372036854775808 < 9218868437227405312
  · have hy : Bd .f64 y 9218868437227405311 := bd_lit ⟨hl, by omega, by decide⟩
    have q4 := run_ok (P := Try.prog) (self_sub64 hy)
    have q5 : (FloatKind.f64.format.order 0 0 != some .eq) = false := by decide +kernel
    have q6 := whole_tests hl (by omega)
    clear hy
    by_cases h2 : 4841369599423283200 ≤ y % 9223372036854775808
    · rw [decide_eq_true h2] at q6
      cases ha : (FloatKind.f64.format.order y 4841369599423283200 == some .gt || FloatKind.f64.format.order y 4841369599423283200 == some .eq)
      all_goals
        rw [ha] at q6
        first | rw [Bool.false_or] at q6 | clear q6
        go_enter Try.func26, Try.ntmps26
        go_wp2
        go_ret
        exact ⟨1065353216, 0, 0, rfl, rfl, fun h => absurd h1 (by omega), fun _ _ => ⟨rfl, rfl⟩, fun h => absurd h (by omega)⟩
    · rw [decide_eq_false h2, Bool.or_eq_false_iff] at q6
      obtain ⟨q6, q7⟩ := q6
      have hp0 := f1_pos hl (by omega)
      obtain ⟨c1, c2, c3, c4, _⟩ := turn_steps hl (show y % 9223372036854775808 < 4841369599423283200 by omega)
      have q1 := run_toI _ _ c1
      have q2 := run_ok (P := Try.prog) c2
      have q3 := run_ok (P := Try.prog) c4
      have hf0 : f1 y = (if (FloatKind.f64.format.order (f0 y) 0 == some .lt) = true then fop .add .f64 (f0 y) 4607182418800017408 else f0 y) := rfl
      clear c1 c2 c3 c4
      cases hc : (FloatKind.f64.format.order (f0 y) 0 == some .lt)
      all_goals
        have hf1 := hf0
        clear hf0
        rw [hc] at hf1
        first | rw [if_pos rfl] at hf1 | rw [if_neg (by decide)] at hf1
        first | rw [← hf1] at q3 | clear q3
        first | rw [← hf1] at hc q2 | skip
        clear hf1
        generalize trunc y = n at *
        generalize hgen : f1 y = g at *
        try generalize f0 y = z at *
        go_enter Try.func26, Try.ntmps26
        go_wp2
        go_loop [3, 4] (fun t i => ∃ q : Nat, q ≤ 4 ∧ t = .float .f64 (itF g q) ∧ i = .int .i64 q ∧ Pos (itF g q) (RF q) ∧ ∀ j, j < q → qrtB (itF g j) = true) (fun _ i => 4 - (intOf i).toNat)
        case atStart => exact ⟨0, by omega, rfl, rfl, hp0, fun j h => absurd h (by omega)⟩
        case round =>
          clear hp0
          obtain ⟨q, hq, rfl, rfl, hpos, hall⟩ := hrel
          clear q1 q2 q4 q5 q6 q7 hc
          try clear q3
          cases hb : qrtB (itF g q) with
          | true =>
            have hlt : q < 4 := by
              by_cases c : q < 4
              · exact c
              · obtain rfl : q = 4 := by omega
                rw [it_end hpos] at hb
                cases hb
            obtain ⟨b1, b2⟩ := it_step hlt hpos hb
            have s1 := run_ok (P := Try.prog) b1
            have Hb := Lib.hid hb
            unfold qrtB at hb
            clear b1
            go_wp2
            go_round
            case rel =>
              refine ⟨q + 1, by omega, rfl, by go_num, b2, fun j h => ?_⟩
              by_cases c : j < q
              · exact hall j c
              · obtain rfl : j = q := by omega
                exact Hb.out
            case measure => simp [intOf]; omega
          | false =>
            have hn : Qn g q := ⟨hall, hb⟩
            have hP : Pos (itF g q) 4607182418800017408 := ⟨by
              have h5 := hpos.1
              have h6 := rf_lt q (by omega)
              omega, by decide⟩
            obtain ⟨a1, a2, a3, a4, a5, a6⟩ := ph_steps hP
            have A6 := Lib.hid a6
            have r1 := run_ok (P := Try.prog) a1
            have r2 := run_ok (P := Try.prog) a4
            have r3 := run_ok (P := Try.prog) a5
            have Hn := Lib.hid hn
            unfold qrtB at hb
            clear a1 a4 a5 a6 hn hall hpos hP
            have hcase : q = 0 ∨ q = 1 ∨ q = 2 ∨ q = 3 ∨ q = 4 := by omega
            have hc := fun w => wide_cos_spec (itF g q) a2 w
            have hs := fun w => wide_sin_spec (itF g q) a3 w
            generalize hgen2 : itF g q = p at *
            clear a2 a3
            rcases hcase with rfl | rfl | rfl | rfl | rfl
            all_goals
              go_wp2_with (first | (go_at_call 46; first | ((with_reducible refine (hc _).mono ?_); rintro e w' ⟨rfl, rfl⟩) | ((with_reducible refine (hs _).mono ?_); rintro e w' ⟨rfl, rfl⟩)) | (go_at_call 43; refine (narrow_spec _ _).mono ?_; rintro e w' ⟨r4, n4, rfl, rfl, h4⟩; (first | (have H2 := H3; clear H3) | skip); have H3 := Lib.hid h4; clear h4))
              go_ret
              refine ⟨_, _, _, rfl, rfl, fun h => absurd h1 (by omega), fun _ h => absurd h h2, fun _ => ⟨_, by rw [hgen]; exact Hn.out, ?_, ?_⟩⟩
              · rw [hgen, hgen2]
                exact narrow_some H2.out (A6.out _).1
              · rw [hgen, hgen2]
                exact narrow_some H3.out (A6.out _).2
  · go_enter Try.func26, Try.ntmps26
    go_wp2_with (first | (refine wpList_farith rfl .sub _ _ _ _ rfl (by simp) .f64 _ _ rfl rfl ?_; intro r2 n2 hr2; have hnn := fop_none hr2 (self_sub64_none hl (by omega)); have hne : (FloatKind.f64.format.order r2 0 != some .eq) = true := by rw [order_nan_left hnn]; rfl) | (go_at_call 45; refine (l01From_any _ (by decide) (by decide) _).mono ?_; rintro e w' ⟨rfl, rfl⟩))
    go_ret
    exact ⟨_, _, _, rfl, rfl, fun _ => ⟨by decide +kernel, by decide +kernel⟩, fun h => absurd h h1, fun h => absurd h (by omega)⟩
end Go.Proofs.Ythdbjdpkckmbeab
