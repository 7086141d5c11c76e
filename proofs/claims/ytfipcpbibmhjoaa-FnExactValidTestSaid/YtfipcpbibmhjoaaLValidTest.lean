/- FnExactValidTest: for every test, ValidTest answers as its model; no condition. -/
import Derived.Test.YtfipcpbibmhjoaaLo
import Derived.Test.YtfipcpbibmhjoaaSc
import Derived.Test.YtfipcpbibmhjoaaSe
import Derived.Test.YtfipcpbibmhjoaaSg
import Derived.Test.YtfipcpbibmhjoaaSn
set_option linter.unusedVariables false
namespace Go.Proofs.Ytfipcpbibmhjoaa.fnExactValidTest
open Go.ChangeShapes Go.WideShapes Go.ChangeAt Go.RowKit
open Go.ChangeMaps (open_string)

set_option maxRecDepth 100000 in
set_option maxHeartbeats 4000000 in
theorem walk (x0 y0 z0 : Int) (w : World) : Calls Try.prog 10 #[.agg #[.int .i64 x0, .int .i64 y0, .int .i64 z0]] w fun e w' => e = .returned (.bool true) ∧ Below w.heap.size w w' := by
  obtain ⟨R0, Hspec, Himpl⟩ : ∃ (R0 : Bool), Hid (∀ (w : World), Calls Try.prog 39 #[.agg #[.int .i64 x0, .int .i64 y0, .int .i64 z0]] w fun e w' => e = .returned (.bool R0) ∧ Below w.heap.size w w') ∧ Hid (∀ (w : World), Calls Try.prog 41 #[.agg #[.int .i64 x0, .int .i64 y0, .int .i64 z0]] w fun e w' => e = .returned (.bool R0) ∧ Below w.heap.size w w') := ⟨(ok_ValidTest x0 y0 z0), Lib.hid fun w => spec_ValidTest x0 y0 z0 w , Lib.hid fun w => impl_ValidTest x0 y0 z0 w ⟩
  have Bel0 := Lib.hid ((Below.refl _ w).alloc (Nat.le_refl _) (.cells #[Value.int .i64 x0, Value.int .i64 y0, Value.int .i64 z0] 45))
  obtain ⟨kk0, kk1, kk2⟩ := alloc3_cells w (Value.int .i64 x0) (Value.int .i64 y0) (Value.int .i64 z0) 45
  have KC0_0 := Lib.hid kk0
  have KC1_0 := Lib.hid kk1
  have KC2_0 := Lib.hid kk2
  clear kk0 kk1 kk2
  go_enter Try.func10, Try.ntmps10
  have kc0 := KC0_0.out
  have kc1 := KC1_0.out
  have kc2 := KC2_0.out
  go_wp2_with fail
  clear kc0 kc1 kc2
  refine (toTest_any x0 y0 z0 _).mono ?_
  rintro e u1 ⟨rfl, hb⟩
  have hzz1 := hb.size
  have Bel1 := Lib.hid (below_step Bel0.out hb (Nat.le_refl _))
  have KC0_1 := Lib.hid (cell_keep hb KC0_0.out)
  have KC1_1 := Lib.hid (cell_keep hb KC1_0.out)
  have KC2_1 := Lib.hid (cell_keep hb KC2_0.out)
  clear hb Bel0 KC0_0 KC1_0 KC2_0
  go_wp2_with fail
  refine (Hspec.out  _ ).mono ?_
  rintro e u2 ⟨rfl, hb⟩
  have hzz2 := hb.size
  have Bel2 := Lib.hid (below_step Bel1.out hb (Nat.le_refl _))
  have KC0_2 := Lib.hid (cell_keep hb KC0_1.out)
  have KC1_2 := Lib.hid (cell_keep hb KC1_1.out)
  have KC2_2 := Lib.hid (cell_keep hb KC2_1.out)
  clear hb Bel1 KC0_1 KC1_1 KC2_1
  have kc0 := KC0_2.out
  have kc1 := KC1_2.out
  have kc2 := KC2_2.out
  go_wp2_with fail
  clear kc0 kc1 kc2
  refine (toTest_any x0 y0 z0 _).mono ?_
  rintro e u3 ⟨rfl, hb⟩
  have hzz3 := hb.size
  have Bel3 := Lib.hid (below_step Bel2.out hb (Nat.le_refl _))
  have KC0_3 := Lib.hid (cell_keep hb KC0_2.out)
  have KC1_3 := Lib.hid (cell_keep hb KC1_2.out)
  have KC2_3 := Lib.hid (cell_keep hb KC2_2.out)
  clear hb Bel2 KC0_2 KC1_2 KC2_2
  go_wp2_with fail
  refine (Himpl.out  _ ).mono ?_
  rintro e u4 ⟨rfl, hb⟩
  have hzz4 := hb.size
  have Bel4 := Lib.hid (below_step Bel3.out hb (Nat.le_refl _))
  have KC0_4 := Lib.hid (cell_keep hb KC0_3.out)
  have KC1_4 := Lib.hid (cell_keep hb KC1_3.out)
  have KC2_4 := Lib.hid (cell_keep hb KC2_3.out)
  clear hb Bel3 KC0_3 KC1_3 KC2_3
  go_wp2
  go_ret
  exact ⟨ret_bool (by simp), Bel4.out⟩

set_option maxRecDepth 100000 in
theorem lifted (os : Os) (started : os.Started) (H : Type) (enc : TypeId × Value → H) :
    ReturnsInHanded {} Try.checked os 10 .any (Rows.fnExactValidTestSpec.pre6 enc Try.prog Try.f10 Rows.fnExactValidTestRow.domain false) (Rows.fnExactValidTestSpec.post enc Try.prog Try.f10 false true false false) := by
  refine returnsInHanded_of_change (C := Try.checked) Lift.own started (by kernel_rfl) Try.func10
    (ChangeSpec.witness6 (enc := enc) (C := Try.checked) false ⟨#[], #[.agg #[.int .i64 0, .int .i64 0, .int .i64 0]], []⟩ 8 (by kernel_rfl) (by kernel_rfl) (by kernel_rfl) (by kernel_rfl)) ?_
  intro W base args ds gs before hval0 hW hcnd _
  have hval : ∀ (j : Nat) t v, Try.f10.params[j]? = some t → args[j]? = some v → Value.okWide Try.prog W .any base t v := hval0
  have hW' := hW
  obtain ⟨p, q, hA0, hV, rfl, hfz, hnd⟩ := hW
  have hA : DataW.TrodAll enc Try.prog W 0 (fun _ => true) true Try.f10.params.toList args.toList ds p := hA0
  obtain ⟨rfl, rfl⟩ := trodVars_none hV
  have hA1 := hA
  rw [Try.params10] at hA1 hval
  obtain ⟨v0, vs0, d0, ds0, p0, q0, hargs, rfl, rfl, h0, r0⟩ := trodAll_cons hA1
  obtain ⟨rfl, rfl, rfl⟩ := trodAll_nil r0
  obtain rfl : args = #[v0] := by cases args; simp_all
  simp only [List.append_nil] at hW' hA
  obtain ⟨x0, y0, z0, rfl⟩ := open_v3 Try.underlying2 Try.underlying45 (by kernel_rfl) rfl (by kernel_rfl) (by kernel_rfl) (hval 0 45 v0 rfl rfl) h0
  refine (walk x0 y0 z0 W ).mono fun e W' ⟨he, hb⟩ => ?_
  subst he
  refine ⟨_, rfl, Lift.law_post Lift.laidOut hW' hA rfl rfl rfl rfl (by kernel_rfl) Try.underlying4 ?_ hb⟩
  rw [Try.params10]
  intro t ht
  simp only [List.mem_cons, List.not_mem_nil, or_false] at ht
  subst ht; exact ⟨by kernel_rfl, of_decide_eq_true (by kernel_rfl)⟩

theorem proved : Rows.FnExactValidTestSaid :=
  OpenClaim.holds_of_wide 10 Try.f10 rfl rfl rfl rfl rfl rfl rfl ⟨rfl, rfl, rfl, rfl, rfl⟩ rfl rfl rfl rfl rfl (by kernel_rfl) Try.func10 (by kernel_rfl)
    (of_decide_eq_true (by kernel_rfl)) (by unfold Func.isWrapper; first | (rw [if_pos (by decide +kernel)]; kernel_rfl) | (rw [if_neg (by decide +kernel)]; exact ⟨rfl, rfl⟩))
    (fun os started H enc _ => lifted os started H enc)
end Go.Proofs.Ytfipcpbibmhjoaa.fnExactValidTest
