/- FnExactShuffleOrder: for every number and bool, ShuffleOrder answers as its model; no condition. -/
import Derived.Test.YtodmaomngpnboaaLo
import Derived.Test.YtodmaomngpnboaaSoC
set_option linter.unusedVariables false
namespace Go.Proofs.Ytodmaomngpnboaa.fnExactShuffleOrder
open Go.ChangeShapes Go.WideShapes Go.ChangeAt Go.RowKit
open Go.ChangeMaps (open_string)

set_option maxRecDepth 100000 in
set_option maxHeartbeats 4000000 in
theorem walk (a0 : Int) (al0 : -9223372036854775808 ≤ a0) (au0 : a0 ≤ 9223372036854775807) (a1 : Bool) (w : World) : Calls Try.prog 14 #[.int .i64 a0, .bool a1] w fun e w' => e = .returned (.bool true) ∧ Below w.heap.size w w' := by
  obtain ⟨R0, R1, Hspec, Himpl⟩ : ∃ (R0 : Int) (R1 : Bool), Hid (∀ (w : World), Calls Try.prog 65 #[.int .i64 a0, .bool a1] w fun e w' => e = .returned (.tuple #[.int .i64 R0, .bool R1]) ∧ Below w.heap.size w w') ∧ Hid (∀ (w : World), Calls Try.prog 66 #[.int .i64 a0, .bool a1] w fun e w' => e = .returned (.tuple #[.int .i64 R0, .bool R1]) ∧ Below w.heap.size w w') := ⟨(res_ShuffleOrder a0 a1), (ok_ShuffleOrder a0 a1), Lib.hid fun w => spec_ShuffleOrder a0 al0 au0 a1 w , Lib.hid fun w => impl_ShuffleOrder a0 al0 au0 a1 w ⟩
  have Bel0 := Lib.hid (Below.refl w.heap.size w)
  go_enter Try.func14, Try.ntmps14
  go_wp2_with fail
  refine (Hspec.out  _ ).mono ?_
  rintro e u1 ⟨rfl, hb⟩
  have hzz1 := hb.size
  have Bel1 := Lib.hid (below_step Bel0.out hb (Nat.le_refl _))
  clear hb Bel0 
  go_wp2_with fail
  refine (Himpl.out  _ ).mono ?_
  rintro e u2 ⟨rfl, hb⟩
  have hzz2 := hb.size
  have Bel2 := Lib.hid (below_step Bel1.out hb (Nat.le_refl _))
  clear hb Bel1 
  go_wp2
  go_ret
  exact ⟨ret_bool (by simp), Bel2.out⟩

set_option maxRecDepth 100000 in
theorem lifted (os : Os) (started : os.Started) (H : Type) (enc : TypeId × Value → H) :
    ReturnsInHanded {} Try.checked os 14 .any (Rows.fnExactShuffleOrderSpec.pre6 enc Try.prog Try.f14 Rows.fnExactShuffleOrderRow.domain false) (Rows.fnExactShuffleOrderSpec.post enc Try.prog Try.f14 false true false false) := by
  refine returnsInHanded_of_change (C := Try.checked) Lift.own started (by kernel_rfl) Try.func14
    (ChangeSpec.witness6 (enc := enc) (C := Try.checked) false ⟨#[], #[.int .i64 0, .bool false], []⟩ 8 (by kernel_rfl) (by kernel_rfl) (by kernel_rfl) (by kernel_rfl)) ?_
  intro W base args ds gs before hval0 hW hcnd _
  have hval : ∀ (j : Nat) t v, Try.f14.params[j]? = some t → args[j]? = some v → Value.okWide Try.prog W .any base t v := hval0
  have hW' := hW
  obtain ⟨p, q, hA0, hV, rfl, hfz, hnd⟩ := hW
  have hA : DataW.TrodAll enc Try.prog W 0 (fun _ => true) true Try.f14.params.toList args.toList ds p := hA0
  obtain ⟨rfl, rfl⟩ := trodVars_none hV
  have hA1 := hA
  rw [Try.params14] at hA1 hval
  obtain ⟨v0, vs0, d0, ds0, p0, q0, hargs, rfl, rfl, h0, r0⟩ := trodAll_cons hA1
  obtain ⟨v1, vs1, d1, ds1, p1, q1, rfl, rfl, rfl, h1, r1⟩ := trodAll_cons r0
  obtain ⟨rfl, rfl, rfl⟩ := trodAll_nil r1
  obtain rfl : args = #[v0, v1] := by cases args; simp_all
  simp only [List.append_nil] at hW' hA
  obtain ⟨a0, rfl, rfl, rfl, w0⟩ := open_int Try.underlying2 (hval 0 2 v0 rfl rfl) h0
  obtain ⟨a1, rfl, rfl, rfl⟩ := open_bool Try.underlying4 (hval 1 4 v1 rfl rfl) h1
  refine (walk a0 (wfi64 w0).1 (wfi64 w0).2 a1 W ).mono fun e W' ⟨he, hb⟩ => ?_
  subst he
  refine ⟨_, rfl, Lift.law_post Lift.laidOut hW' hA rfl rfl rfl rfl (by kernel_rfl) Try.underlying4 ?_ hb⟩
  rw [Try.params14]
  intro t ht
  simp only [List.mem_cons, List.not_mem_nil, or_false] at ht
  rcases ht with rfl | rfl <;> exact ⟨by kernel_rfl, of_decide_eq_true (by kernel_rfl)⟩

theorem proved : Rows.FnExactShuffleOrderSaid :=
  OpenClaim.holds_of_wide 14 Try.f14 rfl rfl rfl rfl rfl rfl rfl ⟨rfl, rfl, rfl, rfl, rfl⟩ rfl rfl rfl rfl rfl (by kernel_rfl) Try.func14 (by kernel_rfl)
    (of_decide_eq_true (by kernel_rfl)) (by unfold Func.isWrapper; first | (rw [if_pos (by decide +kernel)]; kernel_rfl) | (rw [if_neg (by decide +kernel)]; exact ⟨rfl, rfl⟩))
    (fun os started H enc _ => lifted os started H enc)
end Go.Proofs.Ytodmaomngpnboaa.fnExactShuffleOrder
