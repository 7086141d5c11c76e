/- Contracts: chances, finite and positive numbers, in both texts. -/
import Derived.Test.YtfipcpbibmhjoabJa
import Derived.Test.YtfipcpbibmhjoabNumb
import Derived.Test.YtfipcpbibmhjoabLk
import Derived.Test.YtfipcpbibmhjoabCk
import Derived.Deep.Cut
set_option linter.unusedVariables false
namespace Go.Proofs.Ytfipcpbibmhjoab
open Go.RowKit Fl

theorem chance_impl (x : Nat) (w : World) : Calls Try.prog 118 #[.float .f32 x] w fun e w' => e = .returned (.bool (shareB x)) ∧ w = w' := by
  cases h1 : (FloatKind.f32.format.order x 0 == some .gt || FloatKind.f32.format.order x 0 == some .eq)
  · have H := Lib.hid (show shareB x = false by unfold shareB geB; rw [h1]; rfl)
    go_enter Try.func118, Try.ntmps118
    go_wp2
    go_ret
    exact ⟨ret_bool H.out.symm, rfl⟩
  · cases h2 : (FloatKind.f32.format.order x 1065353216 == some .lt || FloatKind.f32.format.order x 1065353216 == some .eq)
    · have H := Lib.hid (show shareB x = false by unfold shareB geB leB; rw [h1, h2]; rfl)
      go_enter Try.func118, Try.ntmps118
      go_wp2
      go_ret
      exact ⟨ret_bool H.out.symm, rfl⟩
    · have H := Lib.hid (show shareB x = true by unfold shareB geB leB; rw [h1, h2]; rfl)
      go_enter Try.func118, Try.ntmps118
      go_wp2
      go_ret
      exact ⟨ret_bool H.out.symm, rfl⟩
theorem chance_spec (x : Nat) (w : World) : Calls Try.prog 73 #[.float .f32 x] w fun e w' => e = .returned (.bool (shareB x)) ∧ w = w' := by
  cases h1 : (FloatKind.f32.format.order x 0 == some .gt || FloatKind.f32.format.order x 0 == some .eq)
  · have H := Lib.hid (show shareB x = false by unfold shareB geB; rw [h1]; rfl)
    go_enter Try.func73, Try.ntmps73
    go_wp2
    go_ret
    exact ⟨ret_bool H.out.symm, rfl⟩
  · cases h2 : (FloatKind.f32.format.order x 1065353216 == some .lt || FloatKind.f32.format.order x 1065353216 == some .eq)
    · have H := Lib.hid (show shareB x = false by unfold shareB geB leB; rw [h1, h2]; rfl)
      go_enter Try.func73, Try.ntmps73
      go_wp2
      go_ret
      exact ⟨ret_bool H.out.symm, rfl⟩
    · have H := Lib.hid (show shareB x = true by unfold shareB geB leB; rw [h1, h2]; rfl)
      go_enter Try.func73, Try.ntmps73
      go_wp2
      go_ret
      exact ⟨ret_bool H.out.symm, rfl⟩
theorem number_impl (x : Nat) (hx : x < 4294967296) (w : World) : Calls Try.prog 72 #[.float .f32 x] w fun e w' => e = .returned (.tuple #[.float .f32 (finOut x).1, .bool (finOut x).2]) ∧ Drawn w w' := by
  have Hf := Lib.hid (fun z => isFinite_any x hx z)
  have hb : finB x = finB3 x := rfl
  rw [hb] at Hf
  clear hb
  unfold finOut
  cases hB : finB3 x
  all_goals
    rw [hB] at Hf
    have HB := Lib.hid hB
    clear hB
    go_enter Try.func72, Try.ntmps72
    go_wp2_with (go_at_call 111; refine (Hf.out _).mono ?_; rintro e w' ⟨rfl, n, rfl⟩)
    go_ret2
    exact ⟨by simp, n, rfl⟩
theorem number_spec (x : Nat) (hx : x < 4294967296) (w : World) : Calls Try.prog 66 #[.float .f32 x] w fun e w' => e = .returned (.tuple #[.float .f32 (finOut x).1, .bool (finOut x).2]) ∧ Drawn w w' := by
  have Hf := Lib.hid (fun z => finite_spec x hx z)
  have hb : finB x = finB3 x := rfl
  rw [hb] at Hf
  clear hb
  unfold finOut
  cases hB : finB3 x
  all_goals
    rw [hB] at Hf
    have HB := Lib.hid hB
    clear hB
    go_enter Try.func66, Try.ntmps66
    go_wp2_with (go_at_call 103; refine (Hf.out _).mono ?_; rintro e w' ⟨rfl, n, rfl⟩)
    go_ret2
    exact ⟨by simp, n, rfl⟩
def aboveB (y : Nat) : Bool := finB3 y && gtB y 0
theorem above_spec (y : Nat) (hy : y < 4294967296) (w : World) : Calls Try.prog 64 #[.float .f32 y] w fun e w' => e = .returned (.bool (aboveB y)) ∧ Drawn w w' := by
  have Hf := Lib.hid (fun z => finite_spec y hy z)
  have hb : finB y = finB3 y := rfl
  rw [hb] at Hf
  clear hb
  unfold aboveB
  cases hB : finB3 y
  all_goals
    rw [hB] at Hf
    have HB := Lib.hid hB
    clear hB
    go_enter Try.func64, Try.ntmps64
    go_wp2_with (go_at_call 103; refine (Hf.out _).mono ?_; rintro e w' ⟨rfl, n, rfl⟩)
    go_ret
    exact ⟨by simp [gtB], n, rfl⟩


end Go.Proofs.Ytfipcpbibmhjoab
