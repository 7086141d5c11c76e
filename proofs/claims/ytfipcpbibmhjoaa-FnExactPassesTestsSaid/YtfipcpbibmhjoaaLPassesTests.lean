/- FnExactPassesTests: for every list of tests and number, PassesTests answers as its model; no condition. -/
import Derived.Test.YtfipcpbibmhjoaaLo
import Derived.Test.YtfipcpbibmhjoaaSc
import Derived.Test.YtfipcpbibmhjoaaSe
import Derived.Test.YtfipcpbibmhjoaaSq
set_option linter.unusedVariables false
namespace Go.Proofs.Ytfipcpbibmhjoaa.fnExactPassesTests
open Go.ChangeShapes Go.WideShapes Go.ChangeAt Go.RowKit
open Go.ChangeMaps (open_string)

set_option maxRecDepth 100000 in
set_option maxHeartbeats 4000000 in
theorem walk (n0 : Nat) (fs0 : List Int) (v0 : Value) (a1 : Int) (al1 : -9223372036854775808 ≤ a1) (au1 : a1 ≤ 9223372036854775807) (w : World) (hs0 : SlK 3 w v0 n0 fs0) (hl0 : n0 ≤ maxLen) : Calls Try.prog 11 #[v0, .int .i64 a1] w fun e w' => e = .returned (.bool true) ∧ Below w.heap.size w w' := by
  unfold maxLen at hl0
  have HA0 := Lib.hid hs0
  obtain ⟨_, p0, cap0, rfl, hf0⟩ := hs0
  clear hf0
  have HS0 := Lib.hid (fun left h1 h0 z => szTests_any p0 n0 cap0 left z hl0 h1 h0)
  obtain ⟨l0, hz0⟩ : ∃ l, l = szK n0 1048576 := ⟨_, rfl⟩
  have Hz0 := Lib.hid hz0
  clear hz0
  by_cases hneg0 : l0 < 0
  · skip
    go_enter Try.func11, Try.ntmps11
    go_wp2_with fail
    refine (HS0.out _ (by omega) (by omega) _).mono ?_
    rintro e u ⟨rfl, rfl⟩
    rw [← Hz0.out]
    go_wp2
    go_ret
    exact ⟨ret_bool (by simp), Below.refl _ _⟩
  have hb0_1 : l0 ≤ 1048576 := by have := Hz0.out; unfold szK at this; split at this <;> omega
  have hn0 : n0 ≤ 1048576 := by have := Hz0.out; unfold szK at this; split at this <;> omega
  obtain ⟨R0, R1, Hspec, Himpl⟩ : ∃ (R0 : Bool) (R1 : Bool), Hid (∀ (v0 : Value) (w : World), SlK 3 w v0 n0 fs0 → Calls Try.prog 43 #[v0, .int .i64 a1] w fun e w' => e = .returned (.tuple #[.bool R0, .bool R1]) ∧ Below w.heap.size w w') ∧ Hid (∀ (v0 : Value) (w : World), SlK 3 w v0 n0 fs0 → Calls Try.prog 45 #[v0, .int .i64 a1] w fun e w' => e = .returned (.tuple #[.bool R0, .bool R1]) ∧ Below w.heap.size w w') := ⟨(res_PassesTests n0 fs0 a1), (ok_PassesTests n0 fs0 a1), Lib.hid fun v0 w h0 => spec_PassesTests n0 fs0 v0 a1 al1 au1 w hn0 h0, Lib.hid fun v0 w h0 => impl_PassesTests n0 fs0 v0 a1 al1 au1 w hn0 h0⟩
  have Bel0 := Lib.hid (Below.refl w.heap.size w)
  go_enter Try.func11, Try.ntmps11
  go_wp2_with fail
  refine (HS0.out _ (by omega) (by omega) _).mono ?_
  rintro e u ⟨rfl, rfl⟩
  rw [← Hz0.out]
  go_wp2_with fail
  refine (toTests_any n0 fs0 _ _ hn0 (HA0.out.later Bel0.out)).mono ?_
  rintro e u1 ⟨ts0, rfl, ht, hb⟩
  have hzz1 := hb.size
  have Bel1 := Lib.hid (below_step Bel0.out hb (Nat.le_refl _))
  have Fs0_1 := Lib.hid ht
  clear hb Bel0 ht
  go_wp2_with fail
  refine (Hspec.out _ _ Fs0_1.out.sl).mono ?_
  rintro e u2 ⟨rfl, hb⟩
  have hzz2 := hb.size
  have Bel2 := Lib.hid (below_step Bel1.out hb (Nat.le_refl _))
  have Fs0_2 := Lib.hid (Fs0_1.out.later hb)
  clear hb Bel1 Fs0_1
  clear Fs0_2
  go_wp2_with fail
  refine (toTests_any n0 fs0 _ _ hn0 (HA0.out.later Bel2.out)).mono ?_
  rintro e u3 ⟨tx0, rfl, ht, hb⟩
  have hzz3 := hb.size
  have Bel3 := Lib.hid (below_step Bel2.out hb (Nat.le_refl _))
  have Fx0_3 := Lib.hid ht
  clear hb Bel2 ht
  go_wp2_with fail
  refine (Himpl.out _ _ Fx0_3.out.sl).mono ?_
  rintro e u4 ⟨rfl, hb⟩
  have hzz4 := hb.size
  have Bel4 := Lib.hid (below_step Bel3.out hb (Nat.le_refl _))
  have Fx0_4 := Lib.hid (Fx0_3.out.later hb)
  clear hb Bel3 Fx0_3
  go_wp2_with fail
  refine (toTests_any n0 fs0 _ _ hn0 (HA0.out.later Bel4.out)).mono ?_
  rintro e u5 ⟨tc0, rfl, ht, hb⟩
  have hzz5 := hb.size
  have Bel5 := Lib.hid (below_step Bel4.out hb (Nat.le_refl _))
  have Fx0_5 := Lib.hid (Fx0_4.out.later hb)
  have Fc0_5 := Lib.hid ht
  clear hb Bel4 ht Fx0_4
  go_wp2_with fail
  refine (eqTests_any n0 fs0 _ _ _ hn0 Fx0_5.out.sl Fc0_5.out.sl).mono ?_
  rintro e u6 ⟨rfl, hb⟩
  have hzz6 := hb.size
  have Bel6 := Lib.hid (below_step Bel5.out hb (Nat.le_refl _))
  have Fx0_6 := Lib.hid (Fx0_5.out.later hb)
  have Fc0_6 := Lib.hid (Fc0_5.out.later hb)
  clear hb Bel5 Fx0_5 Fc0_5
  clear Fc0_6
  go_wp2
  go_ret
  exact ⟨ret_bool (by simp), Bel6.out⟩

set_option maxRecDepth 100000 in
theorem lifted (os : Os) (started : os.Started) (H : Type) (enc : TypeId × Value → H) :
    ReturnsInHanded {} Try.checked os 11 .any (Rows.fnExactPassesTestsSpec.pre6 enc Try.prog Try.f11 Rows.fnExactPassesTestsRow.domain false) (Rows.fnExactPassesTestsSpec.post enc Try.prog Try.f11 false true false false) := by
  refine returnsInHanded_of_change (C := Try.checked) Lift.own started (by kernel_rfl) Try.func11
    (ChangeSpec.witness6 (enc := enc) (C := Try.checked) false ⟨#[], #[.slice none 0 0, .int .i64 0], []⟩ 8 (by kernel_rfl) (by kernel_rfl) (by kernel_rfl) (by kernel_rfl)) ?_
  intro W base args ds gs before hval0 hW hcnd _
  have hval : ∀ (j : Nat) t v, Try.f11.params[j]? = some t → args[j]? = some v → Value.okWide Try.prog W .any base t v := hval0
  have hW' := hW
  obtain ⟨p, q, hA0, hV, rfl, hfz, hnd⟩ := hW
  have hA : DataW.TrodAll enc Try.prog W 0 (fun _ => true) true Try.f11.params.toList args.toList ds p := hA0
  obtain ⟨rfl, rfl⟩ := trodVars_none hV
  have hA1 := hA
  rw [Try.params11] at hA1 hval
  obtain ⟨v0, vs0, d0, ds0, p0, q0, hargs, rfl, rfl, h0, r0⟩ := trodAll_cons hA1
  obtain ⟨v1, vs1, d1, ds1, p1, q1, rfl, rfl, rfl, h1, r1⟩ := trodAll_cons r0
  obtain ⟨rfl, rfl, rfl⟩ := trodAll_nil r1
  obtain rfl : args = #[v0, v1] := by cases args; simp_all
  simp only [List.append_nil] at hW' hA
  obtain ⟨n0, a0, w0, l0⟩ := open_slK 3 (by decide) Try.underlying2 Try.underlying50 Try.underlying45 (by kernel_rfl) (by kernel_rfl) rfl (by kernel_rfl) (hval 0 50 v0 rfl rfl) h0
  obtain ⟨a1, rfl, rfl, rfl, w1⟩ := open_int Try.underlying2 (hval 1 2 v1 rfl rfl) h1
  refine (walk n0 a0 v0 a1 (wfi64 w1).1 (wfi64 w1).2 W w0 l0).mono fun e W' ⟨he, hb⟩ => ?_
  subst he
  refine ⟨_, rfl, Lift.law_post Lift.laidOut hW' hA rfl rfl rfl rfl (by kernel_rfl) Try.underlying4 ?_ hb⟩
  rw [Try.params11]
  intro t ht
  simp only [List.mem_cons, List.not_mem_nil, or_false] at ht
  rcases ht with rfl | rfl <;> exact ⟨by kernel_rfl, of_decide_eq_true (by kernel_rfl)⟩

theorem proved : Rows.FnExactPassesTestsSaid :=
  OpenClaim.holds_of_wide 11 Try.f11 rfl rfl rfl rfl rfl rfl rfl ⟨rfl, rfl, rfl, rfl, rfl⟩ rfl rfl rfl rfl rfl (by kernel_rfl) Try.func11 (by kernel_rfl)
    (of_decide_eq_true (by kernel_rfl)) (by unfold Func.isWrapper; first | (rw [if_pos (by decide +kernel)]; kernel_rfl) | (rw [if_neg (by decide +kernel)]; exact ⟨rfl, rfl⟩))
    (fun os started H enc _ => lifted os started H enc)
end Go.Proofs.Ytfipcpbibmhjoaa.fnExactPassesTests
