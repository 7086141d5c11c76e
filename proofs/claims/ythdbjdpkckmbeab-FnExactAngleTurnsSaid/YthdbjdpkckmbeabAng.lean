/- Contracts: the angle of a point, in both texts. -/
import Derived.Test.YthdbjdpkckmbeabFt
import Derived.Test.YthdbjdpkckmbeabSin
set_option linter.unusedVariables false
namespace Go.Proofs.Ythdbjdpkckmbeab
open Go.RowKit Fl

theorem sqrt_det (x r : Nat) (h : Ieee.double.sqrt x = some r) (w : World) : Calls Try.prog 25 #[.float .f64 x] w fun e w' => e = .returned (.float .f64 r) ∧ w = w' := by
  have hs : ∀ w : World, (callFunc 44 #[.float .f64 x]).run Try.prog w = .ok (.value (.float .f64 r)) w := fun w => by
    rw [call_sqrt]
    rw [sqrt_sem, show FloatKind.f64.format.sqrt x = some r from h]; rfl
  clear h
  go_enter Try.func25, Try.ntmps25
  go_wp2
  go_ret
  exact ⟨rfl, rfl⟩

set_option maxHeartbeats 1000000 in
theorem flatAngle_any (t : Nat) (ht : Bd .f64 t (pb 1)) (w : World) : Calls Try.prog 36 #[.float .f64 t] w fun e w' => e = .returned (.float .f64 (flatF t)) ∧ w = w' := by
  obtain ⟨a1, a2, a3, a4, a5, _⟩ := flat_steps ht
  have r1 := run_ok (P := Try.prog) a1
  have r2 := run_ok (P := Try.prog) a3
  have r3 := run_ok (P := Try.prog) a4
  have r4 := run_ok (P := Try.prog) a5
  clear a1 a3 a4 a5
  go_enter Try.func36, Try.ntmps36
  go_wp2
  go_loop [0, 6] (fun t' i => ∃ j : Nat, j ≤ 3 ∧ t' = .float .f64 (tF t j) ∧ i = .int .i64 j) (fun _ i => 3 - (intOf i).toNat)
  case atStart => exact ⟨0, by omega, rfl, rfl⟩
  case round =>
    obtain ⟨j, hj, rfl, rfl⟩ := hrel
    by_cases hlt : j < 3
    · obtain ⟨b1, b2, b3, b4, b5, _⟩ := step_steps (j := j + 1) (by omega) (t_bd ht j hj)
      have s1 := run_ok (P := Try.prog) b1
      have s2 := run_ok (P := Try.prog) b2
      have s4 := run_ok (P := Try.prog) b4
      have s5 := run_ok (P := Try.prog) b5
      have B3 := Lib.hid b3
      clear b1 b2 b3 b4 b5 r1 r2 r3 r4 
      go_wp2_with (go_at_call 25; refine (sqrt_det _ _ B3.out _).mono ?_; rintro e w' ⟨rfl, rfl⟩)
      go_round
      case rel => exact ⟨j + 1, by omega, rfl, by go_num⟩
      case measure => simp [intOf]; omega
    · obtain rfl : j = 3 := by omega
      go_wp2
      go_loop [4, 5] (fun p k => ∃ j : Nat, j ≤ 8 ∧ p = .float .f64 (Gf (uG t) j) ∧ k = .int .i64 (15 - 2 * (j : Int))) (fun _ k => (intOf k + 1).toNat)
      case atStart => exact ⟨0, by omega, rfl, rfl⟩
      case round =>
        obtain ⟨j, hj, rfl, rfl⟩ := hrel
        by_cases hlt : j < 8
        · obtain ⟨b1, b2, b3, _⟩ := g_steps a2 hlt (g_bd a2 j hj)
          have s1 := run_ok (P := Try.prog) b1
          have s2 := run_ok (P := Try.prog) b2
          have s3 := run_ok (P := Try.prog) b3
          unfold kg at s1 s3
          clear b1 b2 b3 r1 r2 r3 r4 
          go_wp2
          go_round
          case rel => exact ⟨j + 1, by omega, rfl, by go_num⟩
          case measure => simp [intOf]; omega
        · obtain rfl : j = 8 := by omega
          clear r1
          go_wp2_with (go_at_call 50; refine (fullCircle_any _).mono ?_; rintro e w' ⟨rfl, rfl⟩)
          go_ret
          exact ⟨rfl, rfl⟩

def ang64 (y x : Nat) : Nat :=
  angF (if x % 9223372036854775808 < y % 9223372036854775808 then fop .quo .f64 (x % 9223372036854775808) (y % 9223372036854775808) else fop .quo .f64 (y % 9223372036854775808) (x % 9223372036854775808))
    (decide (x % 9223372036854775808 < y % 9223372036854775808)) (FloatKind.f64.format.order x 0 == some .lt) (FloatKind.f64.format.order y 0 == some .lt)

set_option maxHeartbeats 2000000 in
theorem angleWide_steep (y x : Nat) (hyl : y < 18446744073709551616) (hxl : x < 18446744073709551616) (hy : y % 9223372036854775808 < 9218868437227405312) (hx : x % 9223372036854775808 < 9218868437227405312)
    (h0 : 0 < y % 9223372036854775808 ∨ 0 < x % 9223372036854775808) (hsteep : x % 9223372036854775808 < y % 9223372036854775808) (w : World) : Calls Try.prog 51 #[.float .f64 y, .float .f64 x] w fun e w' => e = .returned (.float .f64 (ang64 y x)) ∧ w = w' := by
  have hy1 : Bd .f64 y 9218868437227405311 := bd_lit ⟨hyl, by omega, by decide⟩
  have hx1 : Bd .f64 x 9218868437227405311 := bd_lit ⟨hxl, by omega, by decide⟩
  have q1 := run_ok (P := Try.prog) (self_sub64 hy1)
  have q2 := run_ok (P := Try.prog) (self_sub64 hx1)
  have q3 : (FloatKind.f64.format.order 0 0 != some .eq) = false := by decide +kernel
  have q4 := gtr_pos (x := y % 9223372036854775808) (c := x % 9223372036854775808) (by omega) (by omega)
  rw [decide_eq_true hsteep] at q4
  have z1 := zero64 hxl (by omega)
  have z2 := zero64 hyl (by omega)
  obtain ⟨k1, k2⟩ := ratio (a := x % 9223372036854775808) (b := y % 9223372036854775808) hy (by omega) (by omega)
  have q5 := run_ok (P := Try.prog) k1
  have hR : ang64 y x = angF (fop .quo .f64 (x % 9223372036854775808) (y % 9223372036854775808)) true (FloatKind.f64.format.order x 0 == some .lt) (FloatKind.f64.format.order y 0 == some .lt) := by
    unfold ang64
    rw [if_pos hsteep, decide_eq_true hsteep]
  generalize fop .quo .f64 (x % 9223372036854775808) (y % 9223372036854775808) = t at *
  have ht := k2
  have HR := Lib.hid hR
  obtain ⟨a1, a2, a3, a4, a5, _⟩ := flat_steps ht
  obtain ⟨n1, n2, n3, _⟩ := ang_steps ht
  have r1 := run_ok (P := Try.prog) a1
  have r2 := run_ok (P := Try.prog) a3
  have r3 := run_ok (P := Try.prog) a4
  have r4 := run_ok (P := Try.prog) a5
  have m1 := run_ok (P := Try.prog) n1
  have m2 := run_ok (P := Try.prog) n2
  have m3 := run_ok (P := Try.prog) n3
  clear a1 a3 a4 a5 n1 n2 n3 k1 k2 hy1 hx1 hR
  by_cases hx0 : x % 9223372036854775808 = 0
  · rw [decide_eq_true hx0] at z1
    rw [decide_eq_false (by omega)] at z2
    clear hx0
    go_enter Try.func51, Try.ntmps51
    go_wp2_with (go_at_call 29; first | ((with_reducible refine (abs_any y hyl _).mono ?_); rintro e w' ⟨rfl, rfl⟩) | ((with_reducible refine (abs_any x hxl _).mono ?_); rintro e w' ⟨rfl, rfl⟩))
    go_loop [8, 9] (fun t' i => ∃ j : Nat, j ≤ 3 ∧ t' = .float .f64 (tF t j) ∧ i = .int .i64 j) (fun _ i => 3 - (intOf i).toNat)
    case atStart => exact ⟨0, by omega, rfl, rfl⟩
    case round =>
      obtain ⟨j, hj, rfl, rfl⟩ := hrel
      by_cases hlt : j < 3
      · obtain ⟨b1, b2, b3, b4, b5, _⟩ := step_steps (j := j + 1) (by omega) (t_bd ht j hj)
        have s1 := run_ok (P := Try.prog) b1
        have s2 := run_ok (P := Try.prog) b2
        have s4 := run_ok (P := Try.prog) b4
        have s5 := run_ok (P := Try.prog) b5
        have B3 := Lib.hid b3
        clear b1 b2 b3 b4 b5 r1 r2 r3 r4 m1 m2 m3
        go_wp2_with (go_at_call 25; refine (sqrt_det _ _ B3.out _).mono ?_; rintro e w' ⟨rfl, rfl⟩)
        go_round
        case rel => exact ⟨j + 1, by omega, rfl, by go_num⟩
        case measure => simp [intOf]; omega
      · obtain rfl : j = 3 := by omega
        go_wp2
        go_loop [11, 12] (fun p k => ∃ j : Nat, j ≤ 8 ∧ p = .float .f64 (Gf (uG t) j) ∧ k = .int .i64 (15 - 2 * (j : Int))) (fun _ k => (intOf k + 1).toNat)
        case atStart => exact ⟨0, by omega, rfl, rfl⟩
        case round =>
          obtain ⟨j, hj, rfl, rfl⟩ := hrel
          by_cases hlt : j < 8
          · obtain ⟨b1, b2, b3, _⟩ := g_steps a2 hlt (g_bd a2 j hj)
            have s1 := run_ok (P := Try.prog) b1
            have s2 := run_ok (P := Try.prog) b2
            have s3 := run_ok (P := Try.prog) b3
            unfold kg at s1 s3
            clear b1 b2 b3 r1 r2 r3 r4 m1 m2 m3
            go_wp2
            go_round
            case rel => exact ⟨j + 1, by omega, rfl, by go_num⟩
            case measure => simp [intOf]; omega
          · obtain rfl : j = 8 := by omega
            clear r1
            cases hxn : (FloatKind.f64.format.order x 0 == some .lt) <;> cases hyn : (FloatKind.f64.format.order y 0 == some .lt)
            all_goals
              go_wp2
              go_ret
              refine ⟨ret_float ?_, rfl⟩
              rw [HR.out, hxn, hyn]
              rfl
  · rw [decide_eq_false hx0] at z1
    clear z2
    go_enter Try.func51, Try.ntmps51
    go_wp2_with (go_at_call 29; first | ((with_reducible refine (abs_any y hyl _).mono ?_); rintro e w' ⟨rfl, rfl⟩) | ((with_reducible refine (abs_any x hxl _).mono ?_); rintro e w' ⟨rfl, rfl⟩))
    go_loop [8, 9] (fun t' i => ∃ j : Nat, j ≤ 3 ∧ t' = .float .f64 (tF t j) ∧ i = .int .i64 j) (fun _ i => 3 - (intOf i).toNat)
    case atStart => exact ⟨0, by omega, rfl, rfl⟩
    case round =>
      obtain ⟨j, hj, rfl, rfl⟩ := hrel
      by_cases hlt : j < 3
      · obtain ⟨b1, b2, b3, b4, b5, _⟩ := step_steps (j := j + 1) (by omega) (t_bd ht j hj)
        have s1 := run_ok (P := Try.prog) b1
        have s2 := run_ok (P := Try.prog) b2
        have s4 := run_ok (P := Try.prog) b4
        have s5 := run_ok (P := Try.prog) b5
        have B3 := Lib.hid b3
        clear b1 b2 b3 b4 b5 r1 r2 r3 r4 m1 m2 m3
        go_wp2_with (go_at_call 25; refine (sqrt_det _ _ B3.out _).mono ?_; rintro e w' ⟨rfl, rfl⟩)
        go_round
        case rel => exact ⟨j + 1, by omega, rfl, by go_num⟩
        case measure => simp [intOf]; omega
      · obtain rfl : j = 3 := by omega
        go_wp2
        go_loop [11, 12] (fun p k => ∃ j : Nat, j ≤ 8 ∧ p = .float .f64 (Gf (uG t) j) ∧ k = .int .i64 (15 - 2 * (j : Int))) (fun _ k => (intOf k + 1).toNat)
        case atStart => exact ⟨0, by omega, rfl, rfl⟩
        case round =>
          obtain ⟨j, hj, rfl, rfl⟩ := hrel
          by_cases hlt : j < 8
          · obtain ⟨b1, b2, b3, _⟩ := g_steps a2 hlt (g_bd a2 j hj)
            have s1 := run_ok (P := Try.prog) b1
            have s2 := run_ok (P := Try.prog) b2
            have s3 := run_ok (P := Try.prog) b3
            unfold kg at s1 s3
            clear b1 b2 b3 r1 r2 r3 r4 m1 m2 m3
            go_wp2
            go_round
            case rel => exact ⟨j + 1, by omega, rfl, by go_num⟩
            case measure => simp [intOf]; omega
          · obtain rfl : j = 8 := by omega
            clear r1
            cases hxn : (FloatKind.f64.format.order x 0 == some .lt) <;> cases hyn : (FloatKind.f64.format.order y 0 == some .lt)
            all_goals
              go_wp2
              go_ret
              refine ⟨ret_float ?_, rfl⟩
              rw [HR.out, hxn, hyn]
              rfl

set_option maxHeartbeats 2000000 in
theorem angleWide_flat (y x : Nat) (hyl : y < 18446744073709551616) (hxl : x < 18446744073709551616) (hy : y % 9223372036854775808 < 9218868437227405312) (hx : x % 9223372036854775808 < 9218868437227405312)
    (h0 : 0 < y % 9223372036854775808 ∨ 0 < x % 9223372036854775808) (hsteep : ¬ x % 9223372036854775808 < y % 9223372036854775808) (w : World) : Calls Try.prog 51 #[.float .f64 y, .float .f64 x] w fun e w' => e = .returned (.float .f64 (ang64 y x)) ∧ w = w' := by
  have hy1 : Bd .f64 y 9218868437227405311 := bd_lit ⟨hyl, by omega, by decide⟩
  have hx1 : Bd .f64 x 9218868437227405311 := bd_lit ⟨hxl, by omega, by decide⟩
  have q1 := run_ok (P := Try.prog) (self_sub64 hy1)
  have q2 := run_ok (P := Try.prog) (self_sub64 hx1)
  have q3 : (FloatKind.f64.format.order 0 0 != some .eq) = false := by decide +kernel
  have q4 := gtr_pos (x := y % 9223372036854775808) (c := x % 9223372036854775808) (by omega) (by omega)
  rw [decide_eq_false hsteep] at q4
  have z1 := zero64 hxl (by omega)
  have z2 := zero64 hyl (by omega)
  obtain ⟨k1, k2⟩ := ratio (a := y % 9223372036854775808) (b := x % 9223372036854775808) hx (by omega) (by omega)
  have q5 := run_ok (P := Try.prog) k1
  have hR : ang64 y x = angF (fop .quo .f64 (y % 9223372036854775808) (x % 9223372036854775808)) false (FloatKind.f64.format.order x 0 == some .lt) (FloatKind.f64.format.order y 0 == some .lt) := by
    unfold ang64
    rw [if_neg hsteep, decide_eq_false hsteep]
  generalize fop .quo .f64 (y % 9223372036854775808) (x % 9223372036854775808) = t at *
  have ht := k2
  have HR := Lib.hid hR
  obtain ⟨a1, a2, a3, a4, a5, _⟩ := flat_steps ht
  obtain ⟨n1, n2, n3, _⟩ := ang_steps ht
  have r1 := run_ok (P := Try.prog) a1
  have r2 := run_ok (P := Try.prog) a3
  have r3 := run_ok (P := Try.prog) a4
  have r4 := run_ok (P := Try.prog) a5
  have m1 := run_ok (P := Try.prog) n1
  have m2 := run_ok (P := Try.prog) n2
  have m3 := run_ok (P := Try.prog) n3
  clear a1 a3 a4 a5 n1 n2 n3 k1 k2 hy1 hx1 hR
  by_cases hx0 : x % 9223372036854775808 = 0
  · exact absurd hx0 (by omega)
  · rw [decide_eq_false hx0] at z1
    clear z2
    go_enter Try.func51, Try.ntmps51
    go_wp2_with (go_at_call 29; first | ((with_reducible refine (abs_any y hyl _).mono ?_); rintro e w' ⟨rfl, rfl⟩) | ((with_reducible refine (abs_any x hxl _).mono ?_); rintro e w' ⟨rfl, rfl⟩))
    go_loop [8, 9] (fun t' i => ∃ j : Nat, j ≤ 3 ∧ t' = .float .f64 (tF t j) ∧ i = .int .i64 j) (fun _ i => 3 - (intOf i).toNat)
    case atStart => exact ⟨0, by omega, rfl, rfl⟩
    case round =>
      obtain ⟨j, hj, rfl, rfl⟩ := hrel
      by_cases hlt : j < 3
      · obtain ⟨b1, b2, b3, b4, b5, _⟩ := step_steps (j := j + 1) (by omega) (t_bd ht j hj)
        have s1 := run_ok (P := Try.prog) b1
        have s2 := run_ok (P := Try.prog) b2
        have s4 := run_ok (P := Try.prog) b4
        have s5 := run_ok (P := Try.prog) b5
        have B3 := Lib.hid b3
        clear b1 b2 b3 b4 b5 r1 r2 r3 r4 m1 m2 m3
        go_wp2_with (go_at_call 25; refine (sqrt_det _ _ B3.out _).mono ?_; rintro e w' ⟨rfl, rfl⟩)
        go_round
        case rel => exact ⟨j + 1, by omega, rfl, by go_num⟩
        case measure => simp [intOf]; omega
      · obtain rfl : j = 3 := by omega
        go_wp2
        go_loop [11, 12] (fun p k => ∃ j : Nat, j ≤ 8 ∧ p = .float .f64 (Gf (uG t) j) ∧ k = .int .i64 (15 - 2 * (j : Int))) (fun _ k => (intOf k + 1).toNat)
        case atStart => exact ⟨0, by omega, rfl, rfl⟩
        case round =>
          obtain ⟨j, hj, rfl, rfl⟩ := hrel
          by_cases hlt : j < 8
          · obtain ⟨b1, b2, b3, _⟩ := g_steps a2 hlt (g_bd a2 j hj)
            have s1 := run_ok (P := Try.prog) b1
            have s2 := run_ok (P := Try.prog) b2
            have s3 := run_ok (P := Try.prog) b3
            unfold kg at s1 s3
            clear b1 b2 b3 r1 r2 r3 r4 m1 m2 m3
            go_wp2
            go_round
            case rel => exact ⟨j + 1, by omega, rfl, by go_num⟩
            case measure => simp [intOf]; omega
          · obtain rfl : j = 8 := by omega
            clear r1
            cases hxn : (FloatKind.f64.format.order x 0 == some .lt) <;> cases hyn : (FloatKind.f64.format.order y 0 == some .lt)
            all_goals
              go_wp2
              go_ret
              refine ⟨ret_float ?_, rfl⟩
              rw [HR.out, hxn, hyn]
              rfl

theorem angleWide_any (y x : Nat) (hyl : y < 18446744073709551616) (hxl : x < 18446744073709551616) (hy : y % 9223372036854775808 < 9218868437227405312) (hx : x % 9223372036854775808 < 9218868437227405312)
    (h0 : 0 < y % 9223372036854775808 ∨ 0 < x % 9223372036854775808) (w : World) : Calls Try.prog 51 #[.float .f64 y, .float .f64 x] w fun e w' => e = .returned (.float .f64 (ang64 y x)) ∧ w = w' := by
  by_cases hs : x % 9223372036854775808 < y % 9223372036854775808
  · exact angleWide_steep y x hyl hxl hy hx h0 hs w
  · exact angleWide_flat y x hyl hxl hy hx h0 hs w

/-- what the angle of a point of 32-bit numbers may be -/
def AngR (y x r : Nat) : Prop :=
  ((finB y = false ∨ finB x = false) → isNan .f32 r = true) ∧
  (finB y = true → finB x = true → (y % 2147483648 = 0 ∧ x % 2147483648 = 0 ∧ r = 0) ∨
    ((0 < y % 2147483648 ∨ 0 < x % 2147483648) ∧ ∃ u v, floatToFloatBits .f32 y .f64 = some u ∧ floatToFloatBits .f32 x .f64 = some v ∧ floatToFloatBits .f64 (ang64 u v) .f32 = some r))
theorem AngR.same {y x q r : Nat} (h : AngR y x q) (g : AngR y x r) : SameF .f32 q r := by
  by_cases c : finB y = false ∨ finB x = false
  · show cn _ q = cn _ r
    rw [cn_nan (h.1 c), cn_nan (g.1 c)]
  · have hy : finB y = true := by cases e : finB y with | true => rfl | false => exact absurd (.inl e) c
    have hx : finB x = true := by cases e : finB x with | true => rfl | false => exact absurd (.inr e) c
    rcases h.2 hy hx with ⟨h1, h2, rfl⟩ | ⟨h1, u, v, a1, a2, a3⟩ <;> rcases g.2 hy hx with ⟨g1, g2, rfl⟩ | ⟨g1, u', v', b1, b2, b3⟩
    · rfl
    · omega
    · omega
    · rw [a1] at b1; rw [a2] at b2; cases b1; cases b2
      rw [a3] at b3; cases b3; rfl
/-- a finite 32-bit number as a 64-bit one: its range, and whether it is zero or below -/
theorem wideFacts {x u : Nat} (hx : x < 4294967296) (hf : finB x = true) (hu : floatToFloatBits .f32 x .f64 = some u) :
    u < 18446744073709551616 ∧ u % 9223372036854775808 < 9218868437227405312 ∧ (u % 9223372036854775808 = 0 ↔ x % 2147483648 = 0) ∧ (FloatKind.f64.format.order u 0 == some .lt) = (FloatKind.f32.format.order x 0 == some .lt) := by
  have hf' := of_decide_eq_true hf
  have hn : isNan .f32 x = false := by rw [isNan32]; exact decide_eq_false (by omega)
  have hb := wide_bd (R := 2139095039) hx (.inl hu) (by omega) (by decide) (show floatToFloatBits .f32 2139095039 .f64 = some 5183643170566569984 by decide +kernel) (by decide)
  have hb2 := hb.2.1
  rw [signWeight64] at hb2
  have ul := wide_lt hx (.inl hu)
  have ho := wide_order hu (show floatToFloatBits .f32 0 .f64 = some 0 by decide +kernel) hn (by decide +kernel)
  have ho' : FloatKind.f64.format.order u 0 = FloatKind.f32.format.order x 0 := ho
  refine ⟨ul, by omega, ?_, by rw [ho']⟩
  have z1 := zero64 ul (by omega)
  have z2 := zero32 x hx
  rw [ho', z2] at z1
  constructor
  · intro h; rw [decide_eq_true h] at z1; exact of_decide_eq_true z1
  · intro h; rw [decide_eq_true h, eq_comm] at z1; exact of_decide_eq_true z1
theorem ang_narrow {u v : Nat} (hu : u % 9223372036854775808 < 9218868437227405312) (hv : v % 9223372036854775808 < 9218868437227405312) (h0 : 0 < u % 9223372036854775808 ∨ 0 < v % 9223372036854775808) : ∃ r, floatToFloatBits .f64 (ang64 u v) .f32 = some r := by
  have hb : Bd .f64 (ang64 u v) (pb 85) := by
    unfold ang64
    by_cases c : v % 9223372036854775808 < u % 9223372036854775808
    · rw [if_pos c]
      exact (ang_steps (ratio hu (by omega) (by omega)).2).2.2.2 _ _ _
    · rw [if_neg c]
      exact (ang_steps (ratio hv (by omega) (by omega)).2).2.2.2 _ _ _
  obtain ⟨r, hr, _⟩ := narrow_ok hb (by decide +kernel)
  exact ⟨r, hr⟩

set_option maxHeartbeats 1000000 in
theorem angle_steep (y x u v : Nat) (hy : y < 4294967296) (hx : x < 4294967296) (fy : finB y = true) (fx : finB x = true) (hu : floatToFloatBits .f32 y .f64 = some u) (hv : floatToFloatBits .f32 x .f64 = some v)
    (h0 : 0 < y % 2147483648 ∨ 0 < x % 2147483648) (hsteep : v % 9223372036854775808 < u % 9223372036854775808) (w : World) : Calls Try.prog 18 #[.float .f32 y, .float .f32 x] w fun e w' => ∃ r n, e = .returned (.float .f32 r) ∧ w' = w.drewN n ∧ FconvR .f64 (ang64 u v) .f32 r := by
  obtain ⟨yl, y1, y2, y3⟩ := wideFacts hy fy hu
  obtain ⟨xl, x1, x2, x3⟩ := wideFacts hx fx hv
  have q4 := gtr_pos (x := u % 9223372036854775808) (c := v % 9223372036854775808) (by omega) (by omega)
  rw [decide_eq_true hsteep] at q4
  have c1 := run_conv y u hu
  have c2 := run_conv x v hv
  have z1 := zero32 y hy
  have z2 := zero32 x hx
  obtain ⟨k1, k2⟩ := ratio (a := v % 9223372036854775808) (b := u % 9223372036854775808) y1 (by omega) (by omega)
  have q5 := run_ok (P := Try.prog) k1
  have hR : ang64 u v = angF (fop .quo .f64 (v % 9223372036854775808) (u % 9223372036854775808)) true (FloatKind.f32.format.order x 0 == some .lt) (FloatKind.f32.format.order y 0 == some .lt) := by
    unfold ang64
    rw [if_pos hsteep, decide_eq_true hsteep, y3, x3]
  generalize fop .quo .f64 (v % 9223372036854775808) (u % 9223372036854775808) = t at *
  have ht := k2
  have HR := Lib.hid hR
  obtain ⟨n1, n2, n3, _⟩ := ang_steps ht
  have m1 := run_ok (P := Try.prog) n1
  have m2 := run_ok (P := Try.prog) n2
  have m3 := run_ok (P := Try.prog) n3
  clear n1 n2 n3 k1 k2 hR y2 x2 y3 x3 hu hv
  by_cases hy0 : y % 2147483648 = 0
  · rw [decide_eq_true hy0] at z1
    rw [decide_eq_false (by omega)] at z2
    clear hy0
    cases hxn : (FloatKind.f32.format.order x 0 == some .lt) <;> cases hyn : (FloatKind.f32.format.order y 0 == some .lt)
    all_goals
      rw [hxn, hyn] at HR
      go_enter Try.func18, Try.ntmps18
      go_wp2_with (first | (go_at_call 35; first | ((with_reducible refine (isFinite_any y hy _).mono ?_); rintro e w' ⟨rfl, n, rfl⟩) | ((with_reducible refine (isFinite_any x hx _).mono ?_); rintro e w' ⟨rfl, n, rfl⟩)) | (go_at_call 29; first | ((with_reducible refine (abs_any u yl _).mono ?_); rintro e w' ⟨rfl, rfl⟩) | ((with_reducible refine (abs_any v xl _).mono ?_); rintro e w' ⟨rfl, rfl⟩)) | (go_at_call 36; refine (flatAngle_any t ht _).mono ?_; rintro e w' ⟨rfl, rfl⟩) | (go_at_call 24; refine (narrow_any _ _).mono ?_; rintro e w' ⟨q, n4, rfl, rfl, hq⟩; have Hq := Lib.hid hq; clear hq))
      go_ret
      refine ⟨_, _, rfl, rfl, ?_⟩
      rw [HR.out]
      exact Hq.out
  · rw [decide_eq_false hy0] at z1
    clear z2
    cases hxn : (FloatKind.f32.format.order x 0 == some .lt) <;> cases hyn : (FloatKind.f32.format.order y 0 == some .lt)
    all_goals
      rw [hxn, hyn] at HR
      go_enter Try.func18, Try.ntmps18
      go_wp2_with (first | (go_at_call 35; first | ((with_reducible refine (isFinite_any y hy _).mono ?_); rintro e w' ⟨rfl, n, rfl⟩) | ((with_reducible refine (isFinite_any x hx _).mono ?_); rintro e w' ⟨rfl, n, rfl⟩)) | (go_at_call 29; first | ((with_reducible refine (abs_any u yl _).mono ?_); rintro e w' ⟨rfl, rfl⟩) | ((with_reducible refine (abs_any v xl _).mono ?_); rintro e w' ⟨rfl, rfl⟩)) | (go_at_call 36; refine (flatAngle_any t ht _).mono ?_; rintro e w' ⟨rfl, rfl⟩) | (go_at_call 24; refine (narrow_any _ _).mono ?_; rintro e w' ⟨q, n4, rfl, rfl, hq⟩; have Hq := Lib.hid hq; clear hq))
      go_ret
      refine ⟨_, _, rfl, rfl, ?_⟩
      rw [HR.out]
      exact Hq.out

set_option maxHeartbeats 1000000 in
theorem angle_flat (y x u v : Nat) (hy : y < 4294967296) (hx : x < 4294967296) (fy : finB y = true) (fx : finB x = true) (hu : floatToFloatBits .f32 y .f64 = some u) (hv : floatToFloatBits .f32 x .f64 = some v)
    (h0 : 0 < y % 2147483648 ∨ 0 < x % 2147483648) (hsteep : ¬ v % 9223372036854775808 < u % 9223372036854775808) (w : World) : Calls Try.prog 18 #[.float .f32 y, .float .f32 x] w fun e w' => ∃ r n, e = .returned (.float .f32 r) ∧ w' = w.drewN n ∧ FconvR .f64 (ang64 u v) .f32 r := by
  obtain ⟨yl, y1, y2, y3⟩ := wideFacts hy fy hu
  obtain ⟨xl, x1, x2, x3⟩ := wideFacts hx fx hv
  have q4 := gtr_pos (x := u % 9223372036854775808) (c := v % 9223372036854775808) (by omega) (by omega)
  rw [decide_eq_false hsteep] at q4
  have c1 := run_conv y u hu
  have c2 := run_conv x v hv
  have z1 := zero32 y hy
  have z2 := zero32 x hx
  obtain ⟨k1, k2⟩ := ratio (a := u % 9223372036854775808) (b := v % 9223372036854775808) x1 (by omega) (by omega)
  have q5 := run_ok (P := Try.prog) k1
  have hR : ang64 u v = angF (fop .quo .f64 (u % 9223372036854775808) (v % 9223372036854775808)) false (FloatKind.f32.format.order x 0 == some .lt) (FloatKind.f32.format.order y 0 == some .lt) := by
    unfold ang64
    rw [if_neg hsteep, decide_eq_false hsteep, y3, x3]
  generalize fop .quo .f64 (u % 9223372036854775808) (v % 9223372036854775808) = t at *
  have ht := k2
  have HR := Lib.hid hR
  obtain ⟨n1, n2, n3, _⟩ := ang_steps ht
  have m1 := run_ok (P := Try.prog) n1
  have m2 := run_ok (P := Try.prog) n2
  have m3 := run_ok (P := Try.prog) n3
  clear n1 n2 n3 k1 k2 hR y2 x2 y3 x3 hu hv
  by_cases hy0 : y % 2147483648 = 0
  · rw [decide_eq_true hy0] at z1
    rw [decide_eq_false (by omega)] at z2
    clear hy0
    cases hxn : (FloatKind.f32.format.order x 0 == some .lt) <;> cases hyn : (FloatKind.f32.format.order y 0 == some .lt)
    all_goals
      rw [hxn, hyn] at HR
      go_enter Try.func18, Try.ntmps18
      go_wp2_with (first | (go_at_call 35; first | ((with_reducible refine (isFinite_any y hy _).mono ?_); rintro e w' ⟨rfl, n, rfl⟩) | ((with_reducible refine (isFinite_any x hx _).mono ?_); rintro e w' ⟨rfl, n, rfl⟩)) | (go_at_call 29; first | ((with_reducible refine (abs_any u yl _).mono ?_); rintro e w' ⟨rfl, rfl⟩) | ((with_reducible refine (abs_any v xl _).mono ?_); rintro e w' ⟨rfl, rfl⟩)) | (go_at_call 36; refine (flatAngle_any t ht _).mono ?_; rintro e w' ⟨rfl, rfl⟩) | (go_at_call 24; refine (narrow_any _ _).mono ?_; rintro e w' ⟨q, n4, rfl, rfl, hq⟩; have Hq := Lib.hid hq; clear hq))
      go_ret
      refine ⟨_, _, rfl, rfl, ?_⟩
      rw [HR.out]
      exact Hq.out
  · rw [decide_eq_false hy0] at z1
    clear z2
    cases hxn : (FloatKind.f32.format.order x 0 == some .lt) <;> cases hyn : (FloatKind.f32.format.order y 0 == some .lt)
    all_goals
      rw [hxn, hyn] at HR
      go_enter Try.func18, Try.ntmps18
      go_wp2_with (first | (go_at_call 35; first | ((with_reducible refine (isFinite_any y hy _).mono ?_); rintro e w' ⟨rfl, n, rfl⟩) | ((with_reducible refine (isFinite_any x hx _).mono ?_); rintro e w' ⟨rfl, n, rfl⟩)) | (go_at_call 29; first | ((with_reducible refine (abs_any u yl _).mono ?_); rintro e w' ⟨rfl, rfl⟩) | ((with_reducible refine (abs_any v xl _).mono ?_); rintro e w' ⟨rfl, rfl⟩)) | (go_at_call 36; refine (flatAngle_any t ht _).mono ?_; rintro e w' ⟨rfl, rfl⟩) | (go_at_call 24; refine (narrow_any _ _).mono ?_; rintro e w' ⟨q, n4, rfl, rfl, hq⟩; have Hq := Lib.hid hq; clear hq))
      go_ret
      refine ⟨_, _, rfl, rfl, ?_⟩
      rw [HR.out]
      exact Hq.out

set_option maxHeartbeats 1000000 in
theorem angle_any (y x : Nat) (hy : y < 4294967296) (hx : x < 4294967296) (w : World) : Calls Try.prog 18 #[.float .f32 y, .float .f32 x] w fun e w' => ∃ r n, e = .returned (.float .f32 r) ∧ w' = w.drewN n ∧ AngR y x r := by
  cases fy : finB y
  · go_enter Try.func18, Try.ntmps18
    go_wp2_with (first | (go_at_call 35; refine (isFinite_any y hy _).mono ?_; rintro e w' ⟨rfl, n, rfl⟩) | (go_at_call 28; refine (notANumber_any _).mono ?_; rintro e w' ⟨r3, n3, rfl, rfl, h3⟩; have H3 := Lib.hid h3; clear h3))
    go_ret
    exact ⟨_, _, rfl, rfl, fun _ => H3.out, fun h => absurd (fy.symm.trans h) (by decide)⟩
  · cases fx : finB x
    · go_enter Try.func18, Try.ntmps18
      go_wp2_with (first | (go_at_call 35; first | ((with_reducible refine (isFinite_any y hy _).mono ?_); rintro e w' ⟨rfl, n, rfl⟩) | ((with_reducible refine (isFinite_any x hx _).mono ?_); rintro e w' ⟨rfl, n, rfl⟩)) | (go_at_call 28; refine (notANumber_any _).mono ?_; rintro e w' ⟨r3, n3, rfl, rfl, h3⟩; have H3 := Lib.hid h3; clear h3))
      go_ret
      exact ⟨_, _, rfl, rfl, fun _ => H3.out, fun _ h => absurd (fx.symm.trans h) (by decide)⟩
    · have hno : ¬ (finB y = false ∨ finB x = false) := by rw [fy, fx]; decide
      by_cases h0 : 0 < y % 2147483648 ∨ 0 < x % 2147483648
      · have gy := of_decide_eq_true fy
        have gx := of_decide_eq_true fx
        obtain ⟨u, hu, _⟩ := widen y (by rw [isNan32]; exact decide_eq_false (by omega))
        obtain ⟨v, hv, _⟩ := widen x (by rw [isNan32]; exact decide_eq_false (by omega))
        obtain ⟨yl, y1, y2, _⟩ := wideFacts hy fy hu
        obtain ⟨xl, x1, x2, _⟩ := wideFacts hx fx hv
        obtain ⟨r0, hr0⟩ := ang_narrow y1 x1 (by omega)
        by_cases hs : v % 9223372036854775808 < u % 9223372036854775808
        · refine (angle_steep y x u v hy hx fy fx hu hv h0 hs w).mono fun e w' ⟨r, n, he, hw, hr⟩ => ⟨r, n, he, hw, fun h => absurd h hno, fun _ _ => .inr ⟨h0, u, v, hu, hv, ?_⟩⟩
          rcases hr with hr | ⟨hr, _⟩
          · exact hr
          · rw [hr0] at hr; cases hr
        · refine (angle_flat y x u v hy hx fy fx hu hv h0 hs w).mono fun e w' ⟨r, n, he, hw, hr⟩ => ⟨r, n, he, hw, fun h => absurd h hno, fun _ _ => .inr ⟨h0, u, v, hu, hv, ?_⟩⟩
          rcases hr with hr | ⟨hr, _⟩
          · exact hr
          · rw [hr0] at hr; cases hr
      · have z1 := zero32 y hy
        have z2 := zero32 x hx
        rw [decide_eq_true (by omega)] at z1 z2
        go_enter Try.func18, Try.ntmps18
        go_wp2_with (first | (go_at_call 35; first | ((with_reducible refine (isFinite_any y hy _).mono ?_); rintro e w' ⟨rfl, n, rfl⟩) | ((with_reducible refine (isFinite_any x hx _).mono ?_); rintro e w' ⟨rfl, n, rfl⟩)))
        go_ret
        exact ⟨0, _, rfl, rfl, fun h => absurd h hno, fun _ _ => .inl ⟨by omega, by omega, rfl⟩⟩

set_option maxHeartbeats 1000000 in
theorem angle_spec (y x : Nat) (hy : y < 4294967296) (hx : x < 4294967296) (w : World) : Calls Try.prog 34 #[.float .f32 y, .float .f32 x] w fun e w' => ∃ r n, e = .returned (.float .f32 r) ∧ w' = w.drewN n ∧ AngR y x r := by
  cases fy : finB y
  · go_enter Try.func34, Try.ntmps34
    go_wp2_with (first | (refine wpList_fconv rfl _ _ _ rfl .f32 .f64 (by kernel_rfl) (by kernel_rfl) y rfl ?_; intro r n hr) | (refine wpList_fconv rfl _ _ _ rfl .f32 .f64 (by kernel_rfl) (by kernel_rfl) x rfl ?_; intro r' n' hr') | (refine wpList_farith rfl .sub _ _ _ _ rfl (by simp) .f64 r r rfl rfl ?_; intro r2 n2 hr2; have hnn := fop_none hr2 (self_sub64_none (notFin hy fy hr).1 (notFin hy fy hr).2); have hne : (FloatKind.f64.format.order r2 0 != some .eq) = true := by rw [order_nan_left hnn]; rfl) | (go_at_call 51; go_in) | (go_at_call 47; refine (mathNaN_any _).mono ?_; rintro e w' ⟨rfl, rfl⟩) | (go_at_call 43; refine (narrow_spec _ _).mono ?_; rintro e w' ⟨q, n4, rfl, rfl, hq⟩; have Hq := Lib.hid hq; clear hq))
    go_ret
    exact ⟨_, _, rfl, rfl, fun _ => narrow_nan Hq.out nanC, fun h => absurd (fy.symm.trans h) (by decide)⟩
  · have gy := of_decide_eq_true fy
    obtain ⟨u, hu, _⟩ := widen y (by rw [isNan32]; exact decide_eq_false (by omega))
    obtain ⟨yl, y1, y2, _⟩ := wideFacts hy fy hu
    have c1 := run_conv y u hu
    have hu1 : Bd .f64 u 9218868437227405311 := bd_lit ⟨yl, by omega, by decide⟩
    have q1 := run_ok (P := Try.prog) (self_sub64 hu1)
    have q3 : (FloatKind.f64.format.order 0 0 != some .eq) = false := by decide +kernel
    cases fx : finB x
    · clear hu1 y2
      go_enter Try.func34, Try.ntmps34
      go_wp2_with (first | (refine wpList_fconv rfl _ _ _ rfl .f32 .f64 (by kernel_rfl) (by kernel_rfl) x rfl ?_; intro r n hr) | (refine wpList_farith rfl .sub _ _ _ _ rfl (by simp) .f64 r r rfl rfl ?_; intro r2 n2 hr2; have hnn := fop_none hr2 (self_sub64_none (notFin hx fx hr).1 (notFin hx fx hr).2); have hne : (FloatKind.f64.format.order r2 0 != some .eq) = true := by rw [order_nan_left hnn]; rfl) | (go_at_call 51; go_in) | (go_at_call 47; refine (mathNaN_any _).mono ?_; rintro e w' ⟨rfl, rfl⟩) | (go_at_call 43; refine (narrow_spec _ _).mono ?_; rintro e w' ⟨q, n4, rfl, rfl, hq⟩; have Hq := Lib.hid hq; clear hq))
      go_ret
      exact ⟨_, _, rfl, rfl, fun _ => narrow_nan Hq.out nanC, fun _ h => absurd (fx.symm.trans h) (by decide)⟩
    · have hno : ¬ (finB y = false ∨ finB x = false) := by rw [fy, fx]; decide
      have gx := of_decide_eq_true fx
      obtain ⟨v, hv, _⟩ := widen x (by rw [isNan32]; exact decide_eq_false (by omega))
      obtain ⟨xl, x1, x2, _⟩ := wideFacts hx fx hv
      have c2 := run_conv x v hv
      have hv1 : Bd .f64 v 9218868437227405311 := bd_lit ⟨xl, by omega, by decide⟩
      have q2 := run_ok (P := Try.prog) (self_sub64 hv1)
      have Hu := Lib.hid hu
      have Hv := Lib.hid hv
      by_cases h0 : 0 < y % 2147483648 ∨ 0 < x % 2147483648
      · have h0' : 0 < u % 9223372036854775808 ∨ 0 < v % 9223372036854775808 := by omega
        obtain ⟨r0, hr0⟩ := ang_narrow y1 x1 h0'
        have Hr0 := Lib.hid hr0
        clear hu1 hv1 y2 x2 hu hv hr0 q1 q2
        go_enter Try.func34, Try.ntmps34
        go_wp2_with (first | (go_at_call 51; refine (angleWide_any u v yl xl y1 x1 h0' _).mono ?_; rintro e w' ⟨rfl, rfl⟩) | (go_at_call 43; refine (narrow_spec _ _).mono ?_; rintro e w' ⟨q, n4, rfl, rfl, hq⟩; have Hq := Lib.hid hq; clear hq))
        go_ret
        refine ⟨_, _, rfl, rfl, fun h => absurd h hno, fun _ _ => .inr ⟨h0, u, v, Hu.out, Hv.out, ?_⟩⟩
        rcases Hq.out with hr | ⟨hr, _⟩
        · exact hr
        · rw [Hr0.out] at hr; cases hr
      · have z1 := zero64 yl (by omega)
        have z2 := zero64 xl (by omega)
        rw [decide_eq_true (by omega)] at z1 z2
        have n0 := run_narrow 0 0 (by decide +kernel)
        clear hu1 hv1 y2 x2 hu hv
        go_enter Try.func34, Try.ntmps34
        go_wp2_with (first | (go_at_call 51; go_in) | (go_at_call 43; go_in))
        go_ret
        exact ⟨0, 0, rfl, rfl, fun h => absurd h hno, fun _ _ => .inl ⟨by omega, by omega, rfl⟩⟩
end Go.Proofs.Ythdbjdpkckmbeab
