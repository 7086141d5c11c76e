/- Contracts: the sine of turns, in both texts. -/
import Derived.Test.YthdbjdpkckmbeabFs
import Derived.Test.YthdbjdpkckmbeabNume
set_option linter.unusedVariables false
namespace Go.Proofs.Ythdbjdpkckmbeab
open Go.RowKit Fl

@[go_sem] theorem unary_neg_float (k : FloatKind) (b : Nat) : Op.unary .neg (.float k b) = pure (.float k (Op.negFloat k b)) := rfl
theorem run_toI (u : Nat) (n : Int) (h : floatToIntVal .f64 u .i64 = some n) (w : World) : (convert 25 2 (.float .f64 u)).run Try.prog w = .ok (.int .i64 n) w :=
  run_convert_float_int w _ _ .f64 .i64 u n (by kernel_rfl) (by kernel_rfl) h
theorem turnPart_any (y : Nat) (h1 : y < 18446744073709551616) (h2 : y % 9223372036854775808 < 4841369599423283200) (w : World) : Calls Try.prog 30 #[.float .f64 y] w fun e w' => e = .returned (.float .f64 (f1 y)) ∧ w = w' := by
  obtain ⟨a1, a2, a3, a4, _⟩ := turn_steps h1 h2
  have r1 := run_toI _ _ a1
  have r2 := run_ok (P := Try.prog) a2
  have r3 := run_ok (P := Try.prog) a4
  cases hc : (FloatKind.f64.format.order (f0 y) 0 == some .lt)
  · have he : f1 y = f0 y := by unfold f1; rw [hc]; rfl
    have He := Lib.hid he
    clear a1 a2 a3 a4 he
    generalize f0 y = z at *
    generalize trunc y = n at *
    go_enter Try.func30, Try.ntmps30
    go_wp2
    go_ret
    exact ⟨ret_float He.out.symm, rfl⟩
  · have he : f1 y = fop .add .f64 (f0 y) 4607182418800017408 := by unfold f1; rw [hc]; rfl
    have He := Lib.hid he
    clear a1 a2 a3 a4 he
    generalize f0 y = z at *
    generalize trunc y = n at *
    go_enter Try.func30, Try.ntmps30
    go_wp2
    go_ret
    exact ⟨ret_float He.out.symm, rfl⟩
theorem wrap_dj : ∀ j : Nat, j < 8 → wrap64 (2 * (8 - (j : Int)) * (2 * (8 - (j : Int)) + 1)) = 2 * (8 - (j : Int)) * (2 * (8 - (j : Int)) + 1) := by decide +kernel
theorem fullCircle_any (w : World) : Calls Try.prog 50 #[] w fun e w' => e = .returned (.float .f64 4618760256179416344) ∧ w = w' := by
  go_enter Try.func50, Try.ntmps50
  go_wp2
  go_ret
  exact ⟨rfl, rfl⟩

set_option maxHeartbeats 1000000 in
theorem wideSine_any (y : Nat) (h1 : y < 18446744073709551616) (h2 : y % 9223372036854775808 < 4841369599423283200) (w : World) : Calls Try.prog 31 #[.float .f64 y] w fun e w' => e = .returned (.float .f64 (sinF (f1 y))) ∧ w = w' := by
  have hg := (turn_steps h1 h2).2.2.2.2
  have hturn := turnPart_any y h1 h2
  have Hturn := Lib.hid hturn
  clear hturn
  generalize hgg : f1 y = g at *
  have Hgg := Lib.hid hgg
  clear hgg
  obtain ⟨a1, a2, a3, a4, a5, a6, _⟩ := sine_steps hg
  have r4 := run_ok (P := Try.prog) a4
  have t1 := run_ok (P := Try.prog) a6
  cases hb : belowB g <;> cases ho : overB g
  all_goals
    have hb' := hb
    have ho' := ho
    unfold belowB at hb'
    unfold overB at ho'
    have hres : sinF g = (if belowB g = true then Op.negFloat .f64 (sinP g) else sinP g) := rfl
    rw [hb] at hres
    simp only [Bool.false_eq_true, if_false, if_true] at hres
    have e2 : f2 g = (if belowB g = true then fop .sub .f64 g 4602678819172646912 else g) := rfl
    rw [hb] at e2
    have e3 : f3 g = (if overB g = true then fop .sub .f64 4602678819172646912 (f2 g) else f2 g) := rfl
    rw [ho] at e3
    simp only [Bool.false_eq_true, if_false, if_true] at e2 e3
    rw [e3] at a3
    first | (rw [show fop .sub .f64 g 4602678819172646912 = f2 g from e2.symm] at a1) | (rw [e2] at a2 a3 ho')
    have r1 := run_ok (P := Try.prog) a1
    have r2 := run_ok (P := Try.prog) a2
    have r3 := run_ok (P := Try.prog) a3
    have Hres := Lib.hid hres
    clear hres e2 e3 hb ho a1 a2 a3 a4 a6 hg
    go_enter Try.func31, Try.ntmps31
    go_wp2_with (first | (go_at_call 30; refine (Hturn.out _).mono ?_; rintro e w' ⟨rfl, rfl⟩) | (go_at_call 50; refine (fullCircle_any _).mono ?_; rintro e w' ⟨rfl, rfl⟩))
    go_loop [7, 8] (fun p k => ∃ j : Nat, j ≤ 8 ∧ p = .float .f64 (Pf (wOf g) j) ∧ k = .int .i64 (8 - (j : Int))) (fun _ k => (intOf k).toNat)
    case atStart => exact ⟨0, by omega, rfl, rfl⟩
    case round =>
      obtain ⟨j, hj, rfl, rfl⟩ := hrel
      by_cases hlt : j < 8
      · obtain ⟨b1, b2, b3, _⟩ := p_steps a5 hlt (p_bd a5 j hj)
        have hw := wrap_dj j hlt
        have s1 := run_ok (P := Try.prog) b1
        have s2 := run_ok (P := Try.prog) b2
        have s3 := run_ok (P := Try.prog) b3
        unfold dj at s2 s3
        clear b1 b2 b3 r1 r2 r3 r4 t1
        go_wp2
        go_round
        case rel => exact ⟨j + 1, by omega, rfl, by go_num⟩
        case measure => simp [intOf]; omega
      · obtain rfl : j = 8 := by omega
        clear r1 r2 r3 r4
        go_wp2
        go_ret
        exact ⟨ret_float Hres.out.symm, rfl⟩

set_option maxHeartbeats 1000000 in
theorem sineWide_yes (y : Nat) (h1 : y < 18446744073709551616) (h2 : y % 9223372036854775808 < 4841369599423283200) (hc : (FloatKind.f64.format.order (f0 y) 0 == some .lt) = true) (w : World) : Calls Try.prog 46 #[.float .f64 y] w fun e w' => e = .returned (.float .f64 (sinF (f1 y))) ∧ w = w' := by
  have hg := (turn_steps h1 h2).2.2.2.2
  obtain ⟨c1, c2, c3, c4, _⟩ := turn_steps h1 h2
  have q1 := run_toI _ _ c1
  have q2 := run_ok (P := Try.prog) c2
  have q3 := run_ok (P := Try.prog) c4
  have hy : Bd .f64 y (pb 52) := bd_lit ⟨h1, by unfold pb; omega, by decide +kernel⟩
  have q4 := run_ok (P := Try.prog) (self_sub64 hy)
  have q5 : (FloatKind.f64.format.order 0 0 != some .eq) = false := by decide +kernel
  have q6 := whole_tests h1 (by omega)
  rw [decide_eq_false (by omega), Bool.or_eq_false_iff] at q6
  obtain ⟨q6, q7⟩ := q6
  have hf1 : f1 y = (if (FloatKind.f64.format.order (f0 y) 0 == some .lt) = true then fop .add .f64 (f0 y) 4607182418800017408 else f0 y) := rfl
  rw [hc] at hf1
  first | rw [if_pos rfl] at hf1 | rw [if_neg (by decide)] at hf1
  clear c1 c2 c3 c4 hy
  rw [← hf1] at q3
  clear hf1
  generalize trunc y = n at *
  generalize f0 y = z at *
  generalize hgg : f1 y = g at *
  have Hgg := Lib.hid hgg
  clear hgg
  obtain ⟨a1, a2, a3, a4, a5, a6, _⟩ := sine_steps hg
  have r4 := run_ok (P := Try.prog) a4
  have t1 := run_ok (P := Try.prog) a6
  cases hb : belowB g <;> cases ho : overB g
  all_goals
    have hb' := hb
    have ho' := ho
    unfold belowB at hb'
    unfold overB at ho'
    have hres : sinF g = (if belowB g = true then Op.negFloat .f64 (sinP g) else sinP g) := rfl
    rw [hb] at hres
    simp only [Bool.false_eq_true, if_false, if_true] at hres
    have e2 : f2 g = (if belowB g = true then fop .sub .f64 g 4602678819172646912 else g) := rfl
    rw [hb] at e2
    have e3 : f3 g = (if overB g = true then fop .sub .f64 4602678819172646912 (f2 g) else f2 g) := rfl
    rw [ho] at e3
    simp only [Bool.false_eq_true, if_false, if_true] at e2 e3
    rw [e3] at a3
    first | (rw [show fop .sub .f64 g 4602678819172646912 = f2 g from e2.symm] at a1) | (rw [e2] at a2 a3 ho')
    have r1 := run_ok (P := Try.prog) a1
    have r2 := run_ok (P := Try.prog) a2
    have r3 := run_ok (P := Try.prog) a3
    have Hres := Lib.hid hres
    clear hres e2 e3 hb ho a1 a2 a3 a4 a6 hg
    go_enter Try.func46, Try.ntmps46
    go_wp2
    go_loop [7, 8] (fun p k => ∃ j : Nat, j ≤ 8 ∧ p = .float .f64 (Pf (wOf g) j) ∧ k = .int .i64 (8 - (j : Int))) (fun _ k => (intOf k).toNat)
    case atStart => exact ⟨0, by omega, rfl, rfl⟩
    case round =>
      obtain ⟨j, hj, rfl, rfl⟩ := hrel
      by_cases hlt : j < 8
      · obtain ⟨b1, b2, b3, _⟩ := p_steps a5 hlt (p_bd a5 j hj)
        have hw := wrap_dj j hlt
        have s1 := run_ok (P := Try.prog) b1
        have s2 := run_ok (P := Try.prog) b2
        have s3 := run_ok (P := Try.prog) b3
        unfold dj at s2 s3
        clear b1 b2 b3 r1 r2 r3 r4 t1
        go_wp2
        go_round
        case rel => exact ⟨j + 1, by omega, rfl, by go_num⟩
        case measure => simp [intOf]; omega
      · obtain rfl : j = 8 := by omega
        clear r1 r2 r3 r4
        go_wp2
        go_ret
        exact ⟨ret_float Hres.out.symm, rfl⟩

set_option maxHeartbeats 1000000 in
theorem sineWide_no (y : Nat) (h1 : y < 18446744073709551616) (h2 : y % 9223372036854775808 < 4841369599423283200) (hc : (FloatKind.f64.format.order (f0 y) 0 == some .lt) = false) (w : World) : Calls Try.prog 46 #[.float .f64 y] w fun e w' => e = .returned (.float .f64 (sinF (f1 y))) ∧ w = w' := by
  have hg := (turn_steps h1 h2).2.2.2.2
  obtain ⟨c1, c2, c3, c4, _⟩ := turn_steps h1 h2
  have q1 := run_toI _ _ c1
  have q2 := run_ok (P := Try.prog) c2
  have q3 := run_ok (P := Try.prog) c4
  have hy : Bd .f64 y (pb 52) := bd_lit ⟨h1, by unfold pb; omega, by decide +kernel⟩
  have q4 := run_ok (P := Try.prog) (self_sub64 hy)
  have q5 : (FloatKind.f64.format.order 0 0 != some .eq) = false := by decide +kernel
  have q6 := whole_tests h1 (by omega)
  rw [decide_eq_false (by omega), Bool.or_eq_false_iff] at q6
  obtain ⟨q6, q7⟩ := q6
  have hf1 : f1 y = (if (FloatKind.f64.format.order (f0 y) 0 == some .lt) = true then fop .add .f64 (f0 y) 4607182418800017408 else f0 y) := rfl
  rw [hc] at hf1
  first | rw [if_pos rfl] at hf1 | rw [if_neg (by decide)] at hf1
  clear c1 c2 c3 c4 hy
  rw [← hf1] at q2 hc
  clear q3 hf1
  generalize trunc y = n at *
  generalize hgg : f1 y = g at *
  have Hgg := Lib.hid hgg
  clear hgg
  obtain ⟨a1, a2, a3, a4, a5, a6, _⟩ := sine_steps hg
  have r4 := run_ok (P := Try.prog) a4
  have t1 := run_ok (P := Try.prog) a6
  cases hb : belowB g <;> cases ho : overB g
  all_goals
    have hb' := hb
    have ho' := ho
    unfold belowB at hb'
    unfold overB at ho'
    have hres : sinF g = (if belowB g = true then Op.negFloat .f64 (sinP g) else sinP g) := rfl
    rw [hb] at hres
    simp only [Bool.false_eq_true, if_false, if_true] at hres
    have e2 : f2 g = (if belowB g = true then fop .sub .f64 g 4602678819172646912 else g) := rfl
    rw [hb] at e2
    have e3 : f3 g = (if overB g = true then fop .sub .f64 4602678819172646912 (f2 g) else f2 g) := rfl
    rw [ho] at e3
    simp only [Bool.false_eq_true, if_false, if_true] at e2 e3
    rw [e3] at a3
    first | (rw [show fop .sub .f64 g 4602678819172646912 = f2 g from e2.symm] at a1) | (rw [e2] at a2 a3 ho')
    have r1 := run_ok (P := Try.prog) a1
    have r2 := run_ok (P := Try.prog) a2
    have r3 := run_ok (P := Try.prog) a3
    have Hres := Lib.hid hres
    clear hres e2 e3 hb ho a1 a2 a3 a4 a6 hg
    go_enter Try.func46, Try.ntmps46
    go_wp2
    go_loop [7, 8] (fun p k => ∃ j : Nat, j ≤ 8 ∧ p = .float .f64 (Pf (wOf g) j) ∧ k = .int .i64 (8 - (j : Int))) (fun _ k => (intOf k).toNat)
    case atStart => exact ⟨0, by omega, rfl, rfl⟩
    case round =>
      obtain ⟨j, hj, rfl, rfl⟩ := hrel
      by_cases hlt : j < 8
      · obtain ⟨b1, b2, b3, _⟩ := p_steps a5 hlt (p_bd a5 j hj)
        have hw := wrap_dj j hlt
        have s1 := run_ok (P := Try.prog) b1
        have s2 := run_ok (P := Try.prog) b2
        have s3 := run_ok (P := Try.prog) b3
        unfold dj at s2 s3
        clear b1 b2 b3 r1 r2 r3 r4 t1
        go_wp2
        go_round
        case rel => exact ⟨j + 1, by omega, rfl, by go_num⟩
        case measure => simp [intOf]; omega
      · obtain rfl : j = 8 := by omega
        clear r1 r2 r3 r4
        go_wp2
        go_ret
        exact ⟨ret_float Hres.out.symm, rfl⟩

theorem sineWide_spec (y : Nat) (h1 : y < 18446744073709551616) (h2 : y % 9223372036854775808 < 4841369599423283200) (w : World) : Calls Try.prog 46 #[.float .f64 y] w fun e w' => e = .returned (.float .f64 (sinF (f1 y))) ∧ w = w' := by
  cases hc : (FloatKind.f64.format.order (f0 y) 0 == some .lt)
  · exact sineWide_no y h1 h2 hc w
  · exact sineWide_yes y h1 h2 hc w

/-- what the sine of a 32-bit number of turns may be -/
def SinR (x r : Nat) : Prop := (finB x = false → isNan .f32 r = true) ∧ (finB x = true → ∃ u, floatToFloatBits .f32 x .f64 = some u ∧ ((4841369599423283200 ≤ u % 9223372036854775808 ∧ r = 0) ∨ (u % 9223372036854775808 < 4841369599423283200 ∧ floatToFloatBits .f64 (sinF (f1 u)) .f32 = some r)))
theorem SinR.same {x q r : Nat} (h : SinR x q) (g : SinR x r) : SameF .f32 q r := by
  cases hf : finB x with
  | false =>
    show cn _ q = cn _ r
    rw [cn_nan (h.1 hf), cn_nan (g.1 hf)]
  | true =>
    obtain ⟨u, a1, a2⟩ := h.2 hf
    obtain ⟨v, b1, b2⟩ := g.2 hf
    rw [a1] at b1
    cases b1
    rcases a2 with ⟨a2, rfl⟩ | ⟨a2, a3⟩ <;> rcases b2 with ⟨b2, rfl⟩ | ⟨b2, b3⟩
    · rfl
    · omega
    · omega
    · rw [a3] at b3; cases b3; rfl
theorem sin_narrow {u : Nat} (h1 : u < 18446744073709551616) (h2 : u % 9223372036854775808 < 4841369599423283200) : ∃ v, floatToFloatBits .f64 (sinF (f1 u)) .f32 = some v := by
  obtain ⟨v, hv, _⟩ := narrow_ok (sinF_bd (turn_steps h1 h2).2.2.2.2) (by decide +kernel)
  exact ⟨v, hv⟩
theorem notFin {x u : Nat} (hx : x < 4294967296) (hf : finB x = false) (h : FconvR .f32 x .f64 u) : u < 18446744073709551616 ∧ 9218868437227405312 ≤ u % 9223372036854775808 := by
  have hf' := of_decide_eq_false hf
  refine ⟨wide_lt hx h, ?_⟩
  by_cases hn : isNan .f32 x = true
  · have hu := (wide_nan h).trans hn
    rw [isNan64] at hu
    have := of_decide_eq_true hu
    omega
  · rw [isNan32] at hn
    have hn' : ¬ 2139095040 < x % 2147483648 := fun c => hn (decide_eq_true c)
    exact (wide_ge (R := 2139095040) (W := 9218868437227405312) hx h (by omega) (by omega) (by decide +kernel) (by decide)).1

set_option maxHeartbeats 400000 in
theorem sine_any (x : Nat) (hx : x < 4294967296) (w : World) : Calls Try.prog 16 #[.float .f32 x] w fun e w' => ∃ r n, e = .returned (.float .f32 r) ∧ w' = w.drewN n ∧ SinR x r := by
  cases hf : finB x with
  | false =>
    go_enter Try.func16, Try.ntmps16
    go_wp2_with (first | (refine wpList_fconv rfl _ _ _ rfl .f32 .f64 (by kernel_rfl) (by kernel_rfl) _ rfl ?_; intro r n hr) | (go_at_call 27; refine (isFinite64_any x _ hx hr _).mono ?_; rintro e w' ⟨rfl, rfl⟩) | (go_at_call 28; refine (notANumber_any _).mono ?_; rintro e w' ⟨r3, n3, rfl, rfl, h3⟩; have H3 := Lib.hid h3; clear h3))
    go_ret
    exact ⟨_, _, rfl, rfl, fun _ => H3.out, fun h => absurd (hf.symm.trans h) (by decide)⟩
  | true =>
    have hf' := of_decide_eq_true hf
    obtain ⟨u, hu, _⟩ := widen x (by rw [isNan32]; exact decide_eq_false (by omega))
    have hc := run_conv x u hu
    have ul : u < 18446744073709551616 := wide_lt hx (.inl hu)
    have ub := (wide_bd (R := 2139095039) hx (.inl hu) (by omega) (by decide) (show floatToFloatBits .f32 2139095039 .f64 = some 5183643170566569984 by decide +kernel) (by decide)).2.1
    rw [signWeight64] at ub
    have hg := geq_pos (x := u % 9223372036854775808) (c := 4841369599423283200) (by omega) (by omega)
    have Hu := Lib.hid hu
    clear hu
    by_cases hbig : 4841369599423283200 ≤ u % 9223372036854775808
    · rw [decide_eq_true hbig] at hg
      go_enter Try.func16, Try.ntmps16
      go_wp2_with (first | (go_at_call 27; refine (isFinite64_any x u hx (.inl Hu.out) _).mono ?_; rintro e w' ⟨rfl, rfl⟩) | (go_at_call 29; refine (abs_any u ul _).mono ?_; rintro e w' ⟨rfl, rfl⟩))
      go_ret
      exact ⟨0, 0, rfl, rfl, fun h => absurd (hf.symm.trans h) (by decide), fun _ => ⟨u, Hu.out, .inl ⟨hbig, rfl⟩⟩⟩
    · rw [decide_eq_false hbig] at hg
      go_enter Try.func16, Try.ntmps16
      go_wp2_with (first | (go_at_call 27; refine (isFinite64_any x u hx (.inl Hu.out) _).mono ?_; rintro e w' ⟨rfl, rfl⟩) | (go_at_call 29; refine (abs_any u ul _).mono ?_; rintro e w' ⟨rfl, rfl⟩) | (go_at_call 31; refine (wideSine_any u ul (by omega) _).mono ?_; rintro e w' ⟨rfl, rfl⟩) | (go_at_call 24; refine (narrow_any _ _).mono ?_; rintro e w' ⟨q, n4, rfl, rfl, hq⟩; have Hq := Lib.hid hq; clear hq))
      go_ret
      refine ⟨_, _, rfl, rfl, fun h => absurd (hf.symm.trans h) (by decide), fun _ => ⟨u, Hu.out, .inr ⟨by omega, ?_⟩⟩⟩
      obtain ⟨v, hv⟩ := sin_narrow ul (by omega)
      rcases Hq.out with h | ⟨h, _⟩
      · exact h
      · rw [hv] at h; cases h

set_option maxHeartbeats 400000 in
theorem sine_spec (x : Nat) (hx : x < 4294967296) (w : World) : Calls Try.prog 33 #[.float .f32 x] w fun e w' => ∃ r n, e = .returned (.float .f32 r) ∧ w' = w.drewN n ∧ SinR x r := by
  cases hf : finB x with
  | false =>
    go_enter Try.func33, Try.ntmps33
    go_wp2_with (first | (refine wpList_fconv rfl _ _ _ rfl .f32 .f64 (by kernel_rfl) (by kernel_rfl) _ rfl ?_; intro r n hr) | (refine wpList_farith rfl .sub _ _ _ _ rfl (by simp) .f64 _ _ rfl rfl ?_; intro r2 n2 hr2; have hnn := fop_none hr2 (self_sub64_none (notFin hx hf hr).1 (notFin hx hf hr).2); have hne : (FloatKind.f64.format.order r2 0 != some .eq) = true := by rw [order_nan_left hnn]; rfl) | (go_at_call 46; go_in) | (go_at_call 47; refine (mathNaN_any _).mono ?_; rintro e w' ⟨rfl, rfl⟩) | (go_at_call 43; refine (narrow_spec _ _).mono ?_; rintro e w' ⟨q, n4, rfl, rfl, hq⟩; have Hq := Lib.hid hq; clear hq))
    go_ret
    exact ⟨_, _, rfl, rfl, fun _ => narrow_nan Hq.out nanC, fun h => absurd (hf.symm.trans h) (by decide)⟩
  | true =>
    have hf' := of_decide_eq_true hf
    obtain ⟨u, hu, _⟩ := widen x (by rw [isNan32]; exact decide_eq_false (by omega))
    have hc := run_conv x u hu
    have ul : u < 18446744073709551616 := wide_lt hx (.inl hu)
    have ub := wide_bd (R := 2139095039) hx (.inl hu) (by omega) (by decide) (show floatToFloatBits .f32 2139095039 .f64 = some 5183643170566569984 by decide +kernel) (by decide)
    have ub2 := ub.2.1
    rw [signWeight64] at ub2
    have Hu := Lib.hid hu
    clear hu
    by_cases hbig : 4841369599423283200 ≤ u % 9223372036854775808
    · have q4 := run_ok (P := Try.prog) (self_sub64 ub)
      have q5 : (FloatKind.f64.format.order 0 0 != some .eq) = false := by decide +kernel
      have q6 := whole_tests ul (by omega)
      rw [decide_eq_true hbig] at q6
      have z1 := run_narrow 0 0 (by decide +kernel)
      cases ha : (FloatKind.f64.format.order u 4841369599423283200 == some .gt || FloatKind.f64.format.order u 4841369599423283200 == some .eq)
      all_goals
        rw [ha] at q6
        first | rw [Bool.false_or] at q6 | clear q6
        clear ub
        go_enter Try.func33, Try.ntmps33
        go_wp2_with (first | (go_at_call 46; go_in) | (go_at_call 43; go_in))
        go_ret
        exact ⟨0, 0, rfl, rfl, fun h => absurd (hf.symm.trans h) (by decide), fun _ => ⟨u, Hu.out, .inl ⟨hbig, rfl⟩⟩⟩
    · clear ub
      go_enter Try.func33, Try.ntmps33
      go_wp2_with (first | (go_at_call 46; refine (sineWide_spec u ul (by omega) _).mono ?_; rintro e w' ⟨rfl, rfl⟩) | (go_at_call 43; refine (narrow_spec _ _).mono ?_; rintro e w' ⟨q, n4, rfl, rfl, hq⟩; have Hq := Lib.hid hq; clear hq))
      go_ret
      refine ⟨_, _, rfl, rfl, fun h => absurd (hf.symm.trans h) (by decide), fun _ => ⟨u, Hu.out, .inr ⟨by omega, ?_⟩⟩⟩
      obtain ⟨v, hv⟩ := sin_narrow ul (by omega)
      rcases Hq.out with h | ⟨h, _⟩
      · exact h
      · rw [hv] at h; cases h
end Go.Proofs.Ythdbjdpkckmbeab
