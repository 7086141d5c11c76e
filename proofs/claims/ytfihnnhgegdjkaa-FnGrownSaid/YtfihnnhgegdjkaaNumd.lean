/- Contracts: the logarithm of a number greater than zero, in both texts. -/
import Derived.Test.YtfihnnhgegdjkaaFp
import Derived.Test.YtfihnnhgegdjkaaNumc
import Derived.Lib.Hide
set_option linter.unusedVariables false
namespace Go.Proofs.Ytfihnnhgegdjkaa
open Go.RowKit Fl

@[go_sem] theorem conv64 (b : Nat) (w : World) : (convert 29 29 (.float .f64 b)).run Try.prog w = .ok (.float .f64 b) w :=
  run_convert_float_float w 29 29 .f64 .f64 b b (by kernel_rfl) (by kernel_rfl) (by simp [floatToFloatBits])

def fltOf : Value → Nat
  | .float _ n => n
  | _ => 0

set_option maxRecDepth 100000 in
set_option maxHeartbeats 1000000 in
theorem wideLog_any (x : Nat) (h1 : 3936146074321813504 ≤ x) (h2 : x < 5183643171103440896) (w : World) : Calls Try.prog 42 #[.float .f64 x] w fun e w' => e = .returned (.float .f64 (logF x)) ∧ w' = w := by
  go_enter Try.func42, Try.ntmps42
  go_wp2
  go_loop [0, 3] (fun x' d => ∃ (X : Nat) (D : Int), x' = .float .f64 X ∧ d = .int .i64 D ∧ (X : Int) + D * 4503599627370496 = x ∧ 0 ≤ D ∧ (D = 0 ∨ 4604930618986332160 ≤ X)) (fun x' _ => fltOf x')
  case atStart => exact ⟨x, 0, rfl, rfl, by omega, by omega, .inl rfl⟩
  case round =>
    obtain ⟨X, D, rfl, rfl, hx, hD, hL⟩ := hrel
    have Hx := Lib.hid hx
    have hD2 : D ≤ 200 := by omega
    have hX2 : X < 5183643171103440896 := by omega
    have hX3 : 3936146074321813504 ≤ X := by omega
    clear hx
    by_cases hX : 4609434218613702656 ≤ X
    · have hc := geq_pos (x := X) (c := 4609434218613702656) (by omega) (by omega)
      rw [decide_eq_true hX] at hc
      obtain ⟨X', hX', hv⟩ := half64' (x := X) (by omega) (by omega)
      have hlt : X' < X := by omega
      have HX' := Lib.hid hX'
      have hr := run_ok (P := Try.prog) hv
      clear hL hX' hv
      go_wp2
      go_round
      case rel =>
        have e1 := HX'.out
        have e2 := Hx.out
        exact ⟨X', D + 1, rfl, by go_num, by omega, by omega, by omega⟩
      case measure => exact hlt
    · have hc := geq_pos (x := X) (c := 4609434218613702656) (by omega) (by omega)
      rw [decide_eq_false hX] at hc
      go_wp2
      go_loop [0, 3] (fun x' d => ∃ (Y : Nat) (E : Int), x' = .float .f64 Y ∧ d = .int .i64 E ∧ (Y : Int) + E * 4503599627370496 = x ∧ Y < 4609434218613702656 ∧ 3936146074321813504 ≤ Y ∧ E ≤ 200) (fun x' _ => 4609434218613702656 - fltOf x')
      case atStart => exact ⟨X, D, rfl, rfl, Hx.out, by omega, by omega, by omega⟩
      case round =>
        obtain ⟨Y, E, rfl, rfl, hy, hY, hY2, hE⟩ := hrel
        have Hy := Lib.hid hy
        have hE2 : -200 ≤ E := by omega
        clear hy
        by_cases hY3 : Y < 4604930618986332160
        · have hc2 := lss_pos (x := Y) (c := 4604930618986332160) (by omega) (by omega)
          rw [decide_eq_true hY3] at hc2
          obtain ⟨Y', hY', hv⟩ := twice64' (x := Y) (by omega) (by omega)
          have hlt : 4609434218613702656 - Y' < 4609434218613702656 - Y := by omega
          have HY' := Lib.hid hY'
          have hr := run_ok (P := Try.prog) hv
          clear hL hY' hv
          go_wp2
          go_round
          case rel =>
            have e1 := HY'.out
            have e2 := Hy.out
            exact ⟨Y', E - 1, rfl, by go_num, by omega, by omega, by omega, by omega⟩
          case measure => exact hlt
        · have hc2 := lss_pos (x := Y) (c := 4604930618986332160) (by omega) (by omega)
          rw [decide_eq_false hY3] at hc2
          obtain ⟨a1, a2, a3, a4, a5, a6, a7, a8, a9, a10⟩ := log_steps (X := Y) (d := E) (by omega) hY hE2 hE
          have r1 := run_ok (P := Try.prog) a1
          have r2 := run_ok (P := Try.prog) a2
          have r3 := run_ok (P := Try.prog) a3
          have r4 := run_ok (P := Try.prog) a4
          clear a1 a2 a3 a4 hL
          go_wp2
          go_loop [6, 7] (fun q k => ∃ j : Nat, j ≤ 13 ∧ q = .float .f64 (Qf (uOf Y) j) ∧ k = .int .i64 (25 - 2 * (j : Int))) (fun _ k => (intOf k + 1).toNat)
          case atStart => exact ⟨0, by omega, rfl, rfl⟩
          case round =>
            obtain ⟨j, hj, rfl, rfl⟩ := hrel
            by_cases hlt : j < 13
            · obtain ⟨b1, b2, b3⟩ := q_steps a5 hlt
              have s1 := run_ok (P := Try.prog) b1
              have s2 := run_ok (P := Try.prog) b2
              have s3 := run_ok (P := Try.prog) b3
              unfold kf at s1 s3
              clear b1 b2 b3 a6 a7 a8 a9 a10
              go_wp2
              go_round
              case rel => exact ⟨j + 1, by omega, rfl, by go_num⟩
              case measure => simp [intOf]; omega
            · obtain rfl : j = 13 := by omega
              have t1 := run_ok (P := Try.prog) a6
              have t2 := run_ok (P := Try.prog) a7
              have t3 := run_ok (P := Try.prog) a8
              have t4 := run_ok (P := Try.prog) a9
              clear a6 a7 a8 a9 a10
              go_wp2
              go_ret
              have hu := log_unique Hy.out (by omega) hY
              exact ⟨ret_float (by unfold logF; rw [hu.1, hu.2]), rfl⟩
theorem isInf1_any (u : Nat) (w : World) : Calls Try.prog 40 #[.float .f64 u, .int .i64 1] w fun e w' => e = .returned (.bool (FloatKind.f64.format.order u 9218868437227405311 == some .gt)) ∧ w = w' := by
  go_enter Try.func40, Try.ntmps40
  go_wp2
  go_ret
  exact ⟨rfl, rfl⟩

