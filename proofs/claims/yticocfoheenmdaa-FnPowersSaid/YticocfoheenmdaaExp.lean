/- Contract: the exponential of a number of at most 8, in the program's text. -/
import Derived.Test.YticocfoheenmdaaFv
import Derived.Test.YticocfoheenmdaaNume
set_option linter.unusedVariables false
namespace Go.Proofs.Yticocfoheenmdaa
open Go.RowKit Fl

set_option maxHeartbeats 1000000 in
theorem exp_any (x u : Nat) (h : small8 x) (hu : floatToFloatBits .f32 x .f64 = some u) (hT : tE u % 9223372036854775808 ≤ pb (-5)) (w : World) : Calls Try.prog 7 #[.float .f32 x] w fun e w' => ∃ r n, e = .returned (.float .f32 r) ∧ w' = w.drewN n ∧ FconvR .f64 (expF u) .f32 r := by
  obtain ⟨t1, t2⟩ := small_tests h
  obtain ⟨b0, b1⟩ := exp_start h hu
  have ht : Bd .f64 (tE u) (pb (-5)) := ⟨b1.1, by rw [show FloatKind.f64.format.signWeight = 9223372036854775808 from by decide +kernel]; exact hT, pb_lt (by decide)⟩
  have hc := run_conv x u hu
  have r0 := run_ok (P := Try.prog) b0
  clear b0 b1 hT hu
  have hres : expF u = Sf (Ef (tE u) 12) 8 := rfl
  have Hres := Lib.hid hres
  clear hres
  generalize tE u = t at *
  go_enter Try.func7, Try.ntmps7
  go_wp2
  go_loop [4, 5] (fun p k => ∃ j : Nat, j ≤ 12 ∧ p = .float .f64 (Ef t j) ∧ k = .int .i64 (12 - (j : Int))) (fun _ k => (intOf k).toNat)
  case atStart => exact ⟨0, by omega, rfl, rfl⟩
  case round =>
    obtain ⟨j, hj, rfl, rfl⟩ := hrel
    by_cases hlt : j < 12
    · obtain ⟨b1, b2, b3, _⟩ := e_steps ht hlt (e_bd ht j hj)
      have s1 := run_ok (P := Try.prog) b1
      have s2 := run_ok (P := Try.prog) b2
      have s3 := run_ok (P := Try.prog) b3
      unfold kE at s2 s3
      clear b1 b2 b3 r0 hc t1 t2 ht
      go_wp2
      go_round
      case rel => exact ⟨j + 1, by omega, rfl, by go_num⟩
      case measure => simp [intOf]; omega
    · obtain rfl : j = 12 := by omega
      have hp := e_bd ht 12 (by omega)
      clear r0 hc t1 t2 ht
      generalize Ef t 12 = p at *
      go_wp2
      go_loop [4, 26] (fun q k => ∃ j : Nat, j ≤ 8 ∧ q = .float .f64 (Sf p j) ∧ k = .int .i64 j) (fun _ k => 8 - (intOf k).toNat)
      case atStart => exact ⟨0, by omega, rfl, rfl⟩
      case round =>
        obtain ⟨j, hj, rfl, rfl⟩ := hrel
        by_cases hlt : j < 8
        · obtain ⟨b1, _⟩ := s_steps hlt (s_bd hp j hj)
          have s1 := run_ok (P := Try.prog) b1
          clear b1 hp
          go_wp2
          go_round
          case rel => exact ⟨j + 1, by omega, rfl, by go_num⟩
          case measure => simp [intOf]; omega
        · obtain rfl : j = 8 := by omega
          clear hp
          rw [← Hres.out] at *
          go_wp2_with (go_at_call 22; refine (narrow_any _ _).mono ?_; rintro e w' ⟨r4, n4, rfl, rfl, h4⟩; have H3 := Lib.hid h4; clear h4)
          go_ret
          exact ⟨_, _, rfl, rfl, H3.out⟩
end Go.Proofs.Yticocfoheenmdaa
