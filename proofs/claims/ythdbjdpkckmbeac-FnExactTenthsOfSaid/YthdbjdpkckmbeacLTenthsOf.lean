/- FnExactTenthsOf: for every 32-bit number, TenthsOf answers as its model; no condition. -/
import Derived.Test.YthdbjdpkckmbeacLift
import Derived.Test.YthdbjdpkckmbeacTen
namespace Go.Proofs.Ythdbjdpkckmbeac.fnExactTenthsOf
open Go.ChangeShapes Go.WideShapes Go.ChangeAt Go.RowKit Fl
open Go.ChangeMaps (open_string)

theorem walk (a : Nat) (ha : a < 4294967296) (w : World) : Calls Try.prog 3 #[.float .f32 a] w fun e w' => e = .returned (.bool true) ∧ Below w.heap.size w w' := by
  by_cases hin : 0 < a ∧ a < 2139095040
  · obtain ⟨i0, i1⟩ := hin
    obtain ⟨u, hu, _⟩ := widen a (by rw [isNan32]; exact decide_eq_false (by omega))
    have Hu := Lib.hid hu
    clear hu
    go_enter Try.func3, Try.ntmps3
    go_wp2_with (first | (go_at_call 9; refine (tenths_spec_yes a u i0 i1 Hu.out _).mono ?_; rintro e w' ⟨n, rfl, rfl⟩) | (go_at_call 10; refine (tenths_yes a u i0 i1 Hu.out _).mono ?_; rintro e w' ⟨n, rfl, rfl⟩))
    all_goals (go_ret; exact ⟨ret_bool (by simp), below_drewN (Below.refl _ _) _⟩)
  · have hno : a = 0 ∨ 2139095040 ≤ a := by omega
    have Hno := Lib.hid hno
    clear hin hno
    go_enter Try.func3, Try.ntmps3
    go_wp2_with (first | (go_at_call 9; refine (tenths_spec_no a ha Hno.out _).mono ?_; rintro e w' ⟨n, rfl, rfl⟩) | (go_at_call 10; refine (tenths_no a ha Hno.out _).mono ?_; rintro e w' ⟨n, rfl, rfl⟩))
    all_goals (go_ret; exact ⟨ret_bool (by simp), below_drewN (Below.refl _ _) _⟩)

set_option maxRecDepth 100000 in
theorem lifted (os : Os) (started : os.Started) (H : Type) (enc : TypeId × Value → H) :
    ReturnsInHanded {} Try.checked os 3 .any (Rows.fnExactTenthsOfSpec.pre6 enc Try.prog Try.f3 Rows.fnExactTenthsOfRow.domain false) (Rows.fnExactTenthsOfSpec.post enc Try.prog Try.f3 false true false false) := by
  refine returnsInHanded_of_change (C := Try.checked) Lift.own started (by kernel_rfl) Try.func3
    (ChangeSpec.witness6 (enc := enc) (C := Try.checked) false ⟨#[], #[.float .f32 0], []⟩ 8 (by kernel_rfl) (by kernel_rfl) (by kernel_rfl) (by kernel_rfl)) ?_
  intro W base args ds gs before hval0 hW hcnd _
  have hval : ∀ (j : Nat) t v, Try.f3.params[j]? = some t → args[j]? = some v → Value.okWide Try.prog W .any base t v := hval0
  have hW' := hW
  obtain ⟨p, q, hA0, hV, rfl, hfz, hnd⟩ := hW
  have hA : DataW.TrodAll enc Try.prog W 0 (fun _ => true) true Try.f3.params.toList args.toList ds p := hA0
  obtain ⟨rfl, rfl⟩ := trodVars_none hV
  have hA1 := hA
  rw [Try.params3] at hA1 hval
  obtain ⟨v0, vs0, d0, ds0, p0, q0, hargs, rfl, rfl, h0, r0⟩ := trodAll_cons hA1
  obtain ⟨rfl, rfl, rfl⟩ := trodAll_nil r0
  obtain rfl : args = #[v0] := by cases args; simp_all
  simp only [List.append_nil] at hW' hA
  obtain ⟨a0, rfl, rfl, rfl, w0⟩ := open_float Try.underlying22 (hval 0 22 v0 rfl rfl) h0
  refine (walk a0 (wf32 w0) W).mono fun e W' ⟨he, hb⟩ => ?_
  subst he
  refine ⟨_, rfl, Lift.law_post Lift.laidOut hW' hA rfl rfl rfl rfl (by kernel_rfl) Try.underlying4 ?_ hb⟩
  rw [Try.params3]
  intro t ht
  simp only [List.mem_cons, List.not_mem_nil, or_false] at ht
  subst ht; exact ⟨by kernel_rfl, of_decide_eq_true (by kernel_rfl)⟩

theorem proved : Rows.FnExactTenthsOfSaid :=
  OpenClaim.holds_of_wide 3 Try.f3 rfl rfl rfl rfl rfl rfl rfl ⟨rfl, rfl, rfl, rfl, rfl⟩ rfl rfl rfl rfl rfl (by kernel_rfl) Try.func3 (by kernel_rfl)
    (of_decide_eq_true (by kernel_rfl)) (by unfold Func.isWrapper; first | (rw [if_pos (by decide +kernel)]; kernel_rfl) | (rw [if_neg (by decide +kernel)]; exact ⟨rfl, rfl⟩))
    (fun os started H enc _ => lifted os started H enc)
end Go.Proofs.Ythdbjdpkckmbeac.fnExactTenthsOf
