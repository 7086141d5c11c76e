/- Contracts: tenths of decibels, in both texts. -/
import Derived.Test.YthdbjdpkckmbeacFq
import Derived.Test.YthdbjdpkckmbeacNume
set_option linter.unusedVariables false
namespace Go.Proofs.Ythdbjdpkckmbeac
open Go.RowKit Fl

theorem call_floor (args : Array Value) (w : World) : (callFunc 60 args).run Try.prog w = ((Extern.MathFloor.toIntegral "math.archFloor" .down args).run Try.prog w).andThen fun v w' => .ok (.value v) w' :=
  run_callFunc_extern Try.func60 (by kernel_rfl) (by kernel_rfl) (by kernel_rfl) (by kernel_rfl) args w
theorem floor_sem (nm : String) (x : Nat) {s : Bool} {m : Nat} {e : Int} (h : FloatKind.f64.decode x = .number s m e) : Extern.MathFloor.toIntegral nm .down #[.float .f64 x] = (pure (.float .f64 (floorBits x)) : Sem Value) := by
  unfold floorBits
  show (match FloatKind.f64.decode x with
    | .nan s t => if FloatKind.f64.format.quiet t = t then (pure (.float .f64 x) : Sem Value) else do
      let kept ← choose (.extern "math.Floor,Ceil,Trunc,RoundToEven.signallingNaN kept" 2)
      pure (.float .f64 (if kept == 1 then x else FloatKind.f64.encode (.nan s (FloatKind.f64.format.quiet t))))
    | d => pure (.float .f64 (FloatKind.f64.encode (d.integral .down)))) = _
  rw [h]
theorem floor_any (x A : Nat) (h : Bd .f64 x A) (w : World) : Calls Try.prog 37 #[.float .f64 x] w fun e w' => e = .returned (.float .f64 (floorBits x)) ∧ w = w' := by
  have hs : ∀ w : World, (callFunc 60 #[.float .f64 x]).run Try.prog w = .ok (.value (.float .f64 (floorBits x))) w := fun w => by
    obtain ⟨s, m, u, hm, _⟩ := h.read
    rw [call_floor, floor_sem _ x hm]
    rfl
  clear h
  go_enter Try.func37, Try.ntmps37
  go_wp2
  go_ret
  exact ⟨rfl, rfl⟩

theorem run_toInt (u : Nat) (n : Int) (h : floatToIntVal .f64 u .i64 = some n) (w : World) : (convert 31 2 (.float .f64 u)).run Try.prog w = .ok (.int .i64 n) w :=
  run_convert_float_int w _ _ .f64 .i64 u n (by kernel_rfl) (by kernel_rfl) h

/-- the ranges of a 64-bit number that comes of a 32-bit one greater than zero -/
theorem wide_range {x u : Nat} (h0 : 0 < x) (h1 : x < 2139095040) (hu : floatToFloatBits .f32 x .f64 = some u) : 3936146074321813504 ≤ u ∧ u < 5183643171103440896 := by
  obtain ⟨k1, k2, k3⟩ := wide_ge (R := 1) (W := 3936146074321813504) (x := x) (by omega) (.inl hu) (by omega) (by omega) (by decide +kernel) (by decide)
  have k4 := (wide_bd (R := 2139095039) (x := x) (by omega) (.inl hu) (by omega) (by decide) (show floatToFloatBits .f32 2139095039 .f64 = some 5183643170566569984 by decide +kernel) (by decide)).2.1
  rw [signWeight64] at k4
  omega

set_option maxHeartbeats 400000 in
theorem tenths_spec (x u : Nat) (h0 : 0 < x) (h1 : x < 2139095040) (hu : floatToFloatBits .f32 x .f64 = some u) (w : World) : Calls Try.prog 35 #[.float .f32 x] w fun e w' => e = .returned (.int .i64 (tenF u)) ∧ w = w' := by
  obtain ⟨u1, u2⟩ := wide_range h0 h1 hu
  obtain ⟨a1, a2, a3, a4⟩ := ten_steps u1 u2
  have r0 := run_conv x u hu
  have r1 := run_ok (P := Try.prog) a1
  have r2 := run_ok (P := Try.prog) a2
  have r3 := run_toInt _ _ a4
  clear a1 a2 a4 hu
  go_enter Try.func35, Try.ntmps35
  go_wp2_with (first | (go_at_call 58; refine (logWide_spec u u1 u2 _).mono ?_; rintro e w' ⟨rfl, rfl⟩) | (go_at_call 37; refine (floor_any _ _ a3 _).mono ?_; rintro e w' ⟨rfl, rfl⟩))
  go_ret
  exact ⟨rfl, rfl⟩

theorem geq32 {x : Nat} (h0 : 0 < x) (h1 : x < 2139095040) : (FloatKind.f32.format.order x 0 == some .lt || FloatKind.f32.format.order x 0 == some .eq) = false := by
  rw [leq32 (by omega) (by rw [isNan32]; exact decide_eq_false (by omega))]
  exact decide_eq_false (by omega)

set_option maxHeartbeats 400000 in
theorem tenths_yes (x u : Nat) (h0 : 0 < x) (h1 : x < 2139095040) (hu : floatToFloatBits .f32 x .f64 = some u) (w : World) : Calls Try.prog 10 #[.float .f32 x] w fun e w' => ∃ n, e = .returned (.tuple #[.int .i64 (tenF u), .bool true]) ∧ w' = w.drewN n := by
  obtain ⟨u1, u2⟩ := wide_range h0 h1 hu
  obtain ⟨a1, a2, a3, a4⟩ := ten_steps u1 u2
  have r0 := run_conv x u hu
  have r1 := run_ok (P := Try.prog) a1
  have r2 := run_ok (P := Try.prog) a2
  have r3 := run_toInt _ _ a4
  have hf : finB x = true := by unfold finB; exact decide_eq_true (by omega)
  have hq := geq32 h0 h1
  clear a1 a2 a4 hu
  go_enter Try.func10, Try.ntmps10
  go_wp2_with (first | (go_at_call 36; refine (isFinite_any x (by omega) _).mono ?_; rintro e w' ⟨rfl, n, rfl⟩) | (go_at_call 38; refine (wideLog_any u u1 u2 _).mono ?_; rintro e w' ⟨rfl, rfl⟩) | (go_at_call 37; refine (floor_any _ _ a3 _).mono ?_; rintro e w' ⟨rfl, rfl⟩))
  go_ret2
  exact ⟨_, rfl, rfl⟩
theorem tenths_spec_yes (x u : Nat) (h0 : 0 < x) (h1 : x < 2139095040) (hu : floatToFloatBits .f32 x .f64 = some u) (w : World) : Calls Try.prog 9 #[.float .f32 x] w fun e w' => ∃ n, e = .returned (.tuple #[.int .i64 (tenF u), .bool true]) ∧ w' = w.drewN n := by
  have hf : finB x = true := by unfold finB; exact decide_eq_true (by omega)
  have hq := geq32 h0 h1
  have Hu := Lib.hid hu
  clear hu
  go_enter Try.func9, Try.ntmps9
  go_wp2_with (first | (go_at_call 34; refine (finite_spec x (by omega) _).mono ?_; rintro e w' ⟨rfl, n, rfl⟩) | (go_at_call 35; refine (tenths_spec x u h0 h1 Hu.out _).mono ?_; rintro e w' ⟨rfl, rfl⟩))
  go_ret2
  exact ⟨_, rfl, rfl⟩

/-- of other numbers there are none -/
theorem tenths_no (x : Nat) (hx : x < 4294967296) (h : x = 0 ∨ 2139095040 ≤ x) (w : World) : Calls Try.prog 10 #[.float .f32 x] w fun e w' => ∃ n, e = .returned (.tuple #[.int .i64 0, .bool false]) ∧ w' = w.drewN n := by
  cases hf : finB x
  · go_enter Try.func10, Try.ntmps10
    go_wp2_with (go_at_call 36; refine (isFinite_any x hx _).mono ?_; rintro e w' ⟨rfl, n, rfl⟩)
    go_ret2
    exact ⟨_, rfl, rfl⟩
  · have hf' := of_decide_eq_true hf
    have hq := leq32 hx (by rw [isNan32]; exact decide_eq_false (by omega))
    rw [decide_eq_true (by omega)] at hq
    clear hf'
    go_enter Try.func10, Try.ntmps10
    go_wp2_with (go_at_call 36; refine (isFinite_any x hx _).mono ?_; rintro e w' ⟨rfl, n, rfl⟩)
    go_ret2
    exact ⟨_, rfl, rfl⟩
theorem tenths_spec_no (x : Nat) (hx : x < 4294967296) (h : x = 0 ∨ 2139095040 ≤ x) (w : World) : Calls Try.prog 9 #[.float .f32 x] w fun e w' => ∃ n, e = .returned (.tuple #[.int .i64 0, .bool false]) ∧ w' = w.drewN n := by
  cases hf : finB x
  · go_enter Try.func9, Try.ntmps9
    go_wp2_with (go_at_call 34; refine (finite_spec x hx _).mono ?_; rintro e w' ⟨rfl, n, rfl⟩)
    go_ret2
    exact ⟨_, rfl, rfl⟩
  · have hf' := of_decide_eq_true hf
    have hq := leq32 hx (by rw [isNan32]; exact decide_eq_false (by omega))
    rw [decide_eq_true (by omega)] at hq
    clear hf'
    go_enter Try.func9, Try.ntmps9
    go_wp2_with (go_at_call 34; refine (finite_spec x hx _).mono ?_; rintro e w' ⟨rfl, n, rfl⟩)
    go_ret2
    exact ⟨_, rfl, rfl⟩
end Go.Proofs.Ythdbjdpkckmbeac
