/- FnExactStreakCounts: for every number, StreakCounts answers as its model; no condition. -/
import Derived.Test.YtolmhnekfokpdaaLo
import Derived.Test.YtolmhnekfokpdaaWo
set_option linter.unusedVariables false
namespace Go.Proofs.Ytolmhnekfokpdaa.fnExactStreakCounts
open Go.ChangeShapes Go.WideShapes Go.ChangeAt Go.RowKit
open Go.ChangeMaps (open_string)

set_option maxHeartbeats 4000000 in
theorem walk (a0 : Int) (al0 : -9223372036854775808 ≤ a0) (au0 : a0 ≤ 9223372036854775807) (w : World) : Calls Try.prog 11 #[.int .i64 a0] w fun e w' => e = .returned (.bool true) ∧ Below w.heap.size w w' := by
  obtain ⟨R0, R1, hr0, Hspec, Himpl⟩ : ∃ (R0 : List Int) (R1 : Bool), R0.length ≤ 1048576 ∧ Hid (∀ (w : World), Calls Try.prog 35 #[.int .i64 a0] w fun e w' => ∃ r0, e = .returned (.tuple #[r0, .bool R1]) ∧ Sw (Value.int .i64) 0 w' r0 R0 w.heap.size w'.heap.size ∧ Below w.heap.size w w') ∧ Hid (∀ (w : World), Calls Try.prog 36 #[.int .i64 a0] w fun e w' => ∃ r0, e = .returned (.tuple #[r0, .bool R1]) ∧ Sw (Value.int .i64) 0 w' r0 R0 w.heap.size w'.heap.size ∧ Below w.heap.size w w') := ⟨(res_StreakCounts a0), (ok_StreakCounts a0), (len_StreakCounts a0), Lib.hid fun w => spec_StreakCounts a0 al0 au0 w , Lib.hid fun w => impl_StreakCounts a0 al0 au0 w ⟩
  have Bel0 := Lib.hid (Below.refl w.heap.size w)
  go_enter Try.func11, Try.ntmps11
  go_wp2_with fail
  refine (Hspec.out  _ ).mono ?_
  rintro e u1 ⟨w0, rfl, hw0, hb⟩
  have hz1 := hb.size
  have Bel1 := Lib.hid (below_step Bel0.out hb (Nat.le_refl _))
  have Fw0_1 := Lib.hid hw0
  clear hb hw0 Bel0
  go_wp2_with fail
  refine (Himpl.out  _ ).mono ?_
  rintro e u2 ⟨g0, rfl, hg0, hb⟩
  have hz2 := hb.size
  have Bel2 := Lib.hid (below_step Bel1.out hb (Nat.le_refl _))
  have Fw0_2 := Lib.hid (Fw0_1.out.later hb)
  have Fg0_2 := Lib.hid hg0
  clear hb hg0 Fw0_1 Bel1
  go_wp2_with fail
  refine (eqI_any R0 _ _ _ hr0 Fg0_2.out.sl Fw0_2.out.sl).mono ?_
  rintro e u3 ⟨rfl, ho⟩
  have hz3 := Nat.le_of_eq ho.size.symm
  have Bel3 := Lib.hid (Below.still Bel2.out ho)
  have Fw0_3 := Lib.hid (Fw0_2.out.still ho)
  have Fg0_3 := Lib.hid (Fg0_2.out.still ho)
  clear ho Fw0_2 Fg0_2 Bel2
  go_wp2_with fail
  refine (markI_any _ _ _ _ _ (1) hr0 (by omega) Fg0_3.out).mono ?_
  rintro e u4 ⟨rfl, ht, ho⟩
  have hz4 := Nat.le_of_eq ho.size.symm
  have Bel4 := Lib.hid (Below.only Bel3.out ho (by have := Below.size Bel3.out; omega))
  have Fw0_4 := Lib.hid (Fw0_3.out.apart ho (by omega))
  have Fg0_4 := Lib.hid ht
  clear ho ht Fw0_3 Fg0_3 Bel3
  go_wp2_with fail
  refine (heldI_any R0.length _ _ _ _ (1) hr0 (by omega) Fg0_4.out).mono ?_
  rintro e u5 ⟨rfl, ho⟩
  have hz5 := Nat.le_of_eq ho.size.symm
  have Bel5 := Lib.hid (Below.still Bel4.out ho)
  have Fw0_5 := Lib.hid (Fw0_4.out.still ho)
  have Fg0_5 := Lib.hid (Fg0_4.out.still ho)
  clear ho Fw0_4 Fg0_4 Bel4
  go_wp2_with fail
  refine (Himpl.out  _ ).mono ?_
  rintro e u6 ⟨h0, rfl, hh0, hb⟩
  have hz6 := hb.size
  have Bel6 := Lib.hid (below_step Bel5.out hb (Nat.le_refl _))
  have Fw0_6 := Lib.hid (Fw0_5.out.later hb)
  have Fg0_6 := Lib.hid (Fg0_5.out.later hb)
  have Fh0_6 := Lib.hid hh0
  clear hb hh0 Fw0_5 Fg0_5 Bel5
  go_wp2_with fail
  refine (eqI_any R0 _ _ _ hr0 Fh0_6.out.sl Fw0_6.out.sl).mono ?_
  rintro e u7 ⟨rfl, ho⟩
  have hz7 := Nat.le_of_eq ho.size.symm
  have Bel7 := Lib.hid (Below.still Bel6.out ho)
  have Fw0_7 := Lib.hid (Fw0_6.out.still ho)
  have Fg0_7 := Lib.hid (Fg0_6.out.still ho)
  have Fh0_7 := Lib.hid (Fh0_6.out.still ho)
  clear ho Fw0_6 Fg0_6 Fh0_6 Bel6
  go_wp2_with fail
  refine (heldI_any R0.length _ _ _ _ (1) hr0 (by omega) Fg0_7.out).mono ?_
  rintro e u8 ⟨rfl, ho⟩
  have hz8 := Nat.le_of_eq ho.size.symm
  have Bel8 := Lib.hid (Below.still Bel7.out ho)
  have Fw0_8 := Lib.hid (Fw0_7.out.still ho)
  have Fg0_8 := Lib.hid (Fg0_7.out.still ho)
  have Fh0_8 := Lib.hid (Fh0_7.out.still ho)
  clear ho Fw0_7 Fg0_7 Fh0_7 Bel7
  go_wp2
  go_ret
  exact ⟨ret_bool (by simp), Bel8.out⟩

set_option maxRecDepth 100000 in
theorem lifted (os : Os) (started : os.Started) (H : Type) (enc : TypeId × Value → H) :
    ReturnsInHanded {} Try.checked os 11 .any (Rows.fnExactStreakCountsSpec.pre6 enc Try.prog Try.f11 Rows.fnExactStreakCountsRow.domain false) (Rows.fnExactStreakCountsSpec.post enc Try.prog Try.f11 false true false false) := by
  refine returnsInHanded_of_change (C := Try.checked) Lift.own started (by kernel_rfl) Try.func11
    (ChangeSpec.witness6 (enc := enc) (C := Try.checked) false ⟨#[], #[.int .i64 0], []⟩ 8 (by kernel_rfl) (by kernel_rfl) (by kernel_rfl) (by kernel_rfl)) ?_
  intro W base args ds gs before hval0 hW hcnd _
  have hval : ∀ (j : Nat) t v, Try.f11.params[j]? = some t → args[j]? = some v → Value.okWide Try.prog W .any base t v := hval0
  have hW' := hW
  obtain ⟨p, q, hA0, hV, rfl, hfz, hnd⟩ := hW
  have hA : DataW.TrodAll enc Try.prog W 0 (fun _ => true) true Try.f11.params.toList args.toList ds p := hA0
  obtain ⟨rfl, rfl⟩ := trodVars_none hV
  have hA1 := hA
  rw [Try.params11] at hA1 hval
  obtain ⟨v0, vs0, d0, ds0, p0, q0, hargs, rfl, rfl, h0, r0⟩ := trodAll_cons hA1
  obtain ⟨rfl, rfl, rfl⟩ := trodAll_nil r0
  obtain rfl : args = #[v0] := by cases args; simp_all
  simp only [List.append_nil] at hW' hA
  obtain ⟨a0, rfl, rfl, rfl, w0⟩ := open_int Try.underlying2 (hval 0 2 v0 rfl rfl) h0
  refine (walk a0 (wfi64 w0).1 (wfi64 w0).2 W ).mono fun e W' ⟨he, hb⟩ => ?_
  subst he
  refine ⟨_, rfl, Lift.law_post Lift.laidOut hW' hA rfl rfl rfl rfl (by kernel_rfl) Try.underlying4 ?_ hb⟩
  rw [Try.params11]
  intro t ht
  simp only [List.mem_cons, List.not_mem_nil, or_false] at ht
  subst ht; exact ⟨by kernel_rfl, of_decide_eq_true (by kernel_rfl)⟩

theorem proved : Rows.FnExactStreakCountsSaid :=
  OpenClaim.holds_of_wide 11 Try.f11 rfl rfl rfl rfl rfl rfl rfl ⟨rfl, rfl, rfl, rfl, rfl⟩ rfl rfl rfl rfl rfl (by kernel_rfl) Try.func11 (by kernel_rfl)
    (of_decide_eq_true (by kernel_rfl)) (by unfold Func.isWrapper; first | (rw [if_pos (by decide +kernel)]; kernel_rfl) | (rw [if_neg (by decide +kernel)]; exact ⟨rfl, rfl⟩))
    (fun os started H enc _ => lifted os started H enc)
end Go.Proofs.Ytolmhnekfokpdaa.fnExactStreakCounts
