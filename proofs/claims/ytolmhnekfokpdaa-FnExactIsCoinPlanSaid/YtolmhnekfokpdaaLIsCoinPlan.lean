/- FnExactIsCoinPlan: for every number and list, IsCoinPlan answers as its model; no condition. -/
import Derived.Test.YtolmhnekfokpdaaLo
import Derived.Test.YtolmhnekfokpdaaCwH
set_option linter.unusedVariables false
namespace Go.Proofs.Ytolmhnekfokpdaa.fnExactIsCoinPlan
open Go.ChangeShapes Go.WideShapes Go.ChangeAt Go.RowKit
open Go.ChangeMaps (open_string)

set_option maxHeartbeats 4000000 in
theorem walk (a0 : Int) (al0 : -9223372036854775808 ≤ a0) (au0 : a0 ≤ 9223372036854775807) (fs1 : List Int) (v1 : Value) (w : World) (hs1 : Sl (Value.int .i64) 0 w v1 fs1) (hl1 : fs1.length ≤ maxLen) : Calls Try.prog 6 #[.int .i64 a0, v1] w fun e w' => e = .returned (.bool true) ∧ Below w.heap.size w w' := by
  unfold maxLen at hl1
  by_cases hbig1 : 1048576 < fs1.length
  · obtain ⟨p, cap, rfl, hf⟩ := hs1
    clear hf
    generalize fs1.length = n1 at *
    go_enter Try.func6, Try.ntmps6
    go_wp2
    all_goals (go_ret; exact ⟨ret_bool (by simp), Below.refl _ _⟩)
  have hn1 : fs1.length ≤ 1048576 := by omega
  clear hbig1 hl1
  obtain ⟨R0, R1, Hspec, Himpl⟩ : ∃ (R0 : Bool) (R1 : Bool), Hid (∀ (v1 : Value) (w : World), Sl (Value.int .i64) 0 w v1 fs1 → Calls Try.prog 25 #[.int .i64 a0, v1] w fun e w' => e = .returned (.tuple #[.bool R0, .bool R1]) ∧ Below w.heap.size w w') ∧ Hid (∀ (v1 : Value) (w : World), Sl (Value.int .i64) 0 w v1 fs1 → Calls Try.prog 26 #[.int .i64 a0, v1] w fun e w' => e = .returned (.tuple #[.bool R0, .bool R1]) ∧ Below w.heap.size w w') := ⟨(res_IsCoinPlan a0 fs1), (ok_IsCoinPlan a0 fs1), Lib.hid fun v1 w h1 => spec_IsCoinPlan a0 al0 au0 fs1 v1 w hn1 h1, Lib.hid fun v1 w h1 => impl_IsCoinPlan a0 al0 au0 fs1 v1 w hn1 h1⟩
  have HA1 := Lib.hid hs1
  obtain ⟨p1, cap1, rfl, hf1⟩ := hs1
  clear hf1
  have hd1 : decide (1048576 < (fs1.length : Int)) = false := decide_eq_false (by omega)
  have Bel0 := Lib.hid (Below.refl w.heap.size w)
  go_enter Try.func6, Try.ntmps6
  go_wp2_with fail
  refine (toI_any fs1 _ _ hn1 (HA1.out.later Bel0.out)).mono ?_
  rintro e u1 ⟨ts1, rfl, ht, hb⟩
  have hz1 := hb.size
  have Bel1 := Lib.hid (below_step Bel0.out hb (Nat.le_refl _))
  have Fs1_1 := Lib.hid ht
  clear hb ht Bel0
  go_wp2_with fail
  refine (Hspec.out _ _ Fs1_1.out.sl).mono ?_
  rintro e u2 ⟨rfl, hb⟩
  have hz2 := hb.size
  have Bel2 := Lib.hid (below_step Bel1.out hb (Nat.le_refl _))
  have Fs1_2 := Lib.hid (Fs1_1.out.later hb)
  clear hb Fs1_1 Bel1
  clear Fs1_2
  go_wp2_with fail
  refine (toI_any fs1 _ _ hn1 (HA1.out.later Bel2.out)).mono ?_
  rintro e u3 ⟨tx1, rfl, ht, hb⟩
  have hz3 := hb.size
  have Bel3 := Lib.hid (below_step Bel2.out hb (Nat.le_refl _))
  have Fx1_3 := Lib.hid ht
  clear hb ht Bel2
  go_wp2_with fail
  refine (Himpl.out _ _ Fx1_3.out.sl).mono ?_
  rintro e u4 ⟨rfl, hb⟩
  have hz4 := hb.size
  have Bel4 := Lib.hid (below_step Bel3.out hb (Nat.le_refl _))
  have Fx1_4 := Lib.hid (Fx1_3.out.later hb)
  clear hb Fx1_3 Bel3
  go_wp2_with fail
  refine (toI_any fs1 _ _ hn1 (HA1.out.later Bel4.out)).mono ?_
  rintro e u5 ⟨tc1, rfl, ht, hb⟩
  have hz5 := hb.size
  have Bel5 := Lib.hid (below_step Bel4.out hb (Nat.le_refl _))
  have Fx1_5 := Lib.hid (Fx1_4.out.later hb)
  have Fc1_5 := Lib.hid ht
  clear hb ht Fx1_4 Bel4
  go_wp2_with fail
  refine (eqI_any fs1 _ _ _ hn1 Fx1_5.out.sl Fc1_5.out.sl).mono ?_
  rintro e u6 ⟨rfl, ho⟩
  have hz6 := Nat.le_of_eq ho.size.symm
  have Bel6 := Lib.hid (Below.still Bel5.out ho)
  have Fx1_6 := Lib.hid (Fx1_5.out.still ho)
  have Fc1_6 := Lib.hid (Fc1_5.out.still ho)
  clear ho Fx1_5 Fc1_5 Bel5
  clear Fc1_6
  go_wp2
  go_ret
  exact ⟨ret_bool (by simp), Bel6.out⟩

set_option maxRecDepth 100000 in
theorem lifted (os : Os) (started : os.Started) (H : Type) (enc : TypeId × Value → H) :
    ReturnsInHanded {} Try.checked os 6 .any (Rows.fnExactIsCoinPlanSpec.pre6 enc Try.prog Try.f6 Rows.fnExactIsCoinPlanRow.domain false) (Rows.fnExactIsCoinPlanSpec.post enc Try.prog Try.f6 false true false false) := by
  refine returnsInHanded_of_change (C := Try.checked) Lift.own started (by kernel_rfl) Try.func6
    (ChangeSpec.witness6 (enc := enc) (C := Try.checked) false ⟨#[], #[.int .i64 0, .slice none 0 0], []⟩ 8 (by kernel_rfl) (by kernel_rfl) (by kernel_rfl) (by kernel_rfl)) ?_
  intro W base args ds gs before hval0 hW hcnd _
  have hval : ∀ (j : Nat) t v, Try.f6.params[j]? = some t → args[j]? = some v → Value.okWide Try.prog W .any base t v := hval0
  have hW' := hW
  obtain ⟨p, q, hA0, hV, rfl, hfz, hnd⟩ := hW
  have hA : DataW.TrodAll enc Try.prog W 0 (fun _ => true) true Try.f6.params.toList args.toList ds p := hA0
  obtain ⟨rfl, rfl⟩ := trodVars_none hV
  have hA1 := hA
  rw [Try.params6] at hA1 hval
  obtain ⟨v0, vs0, d0, ds0, p0, q0, hargs, rfl, rfl, h0, r0⟩ := trodAll_cons hA1
  obtain ⟨v1, vs1, d1, ds1, p1, q1, rfl, rfl, rfl, h1, r1⟩ := trodAll_cons r0
  obtain ⟨rfl, rfl, rfl⟩ := trodAll_nil r1
  obtain rfl : args = #[v0, v1] := by cases args; simp_all
  simp only [List.append_nil] at hW' hA
  obtain ⟨a0, rfl, rfl, rfl, w0⟩ := open_int Try.underlying2 (hval 0 2 v0 rfl rfl) h0
  obtain ⟨a1, w1, _, l1⟩ := open_sl (Value.int .i64) 0 (fun b => (Lit.int .i64 b).wf = true) (int_el Try.underlying2) Try.underlying22 (by kernel_rfl) (hval 1 22 v1 rfl rfl) h1
  refine (walk a0 (wfi64 w0).1 (wfi64 w0).2 a1 v1 W w1 l1).mono fun e W' ⟨he, hb⟩ => ?_
  subst he
  refine ⟨_, rfl, Lift.law_post Lift.laidOut hW' hA rfl rfl rfl rfl (by kernel_rfl) Try.underlying4 ?_ hb⟩
  rw [Try.params6]
  intro t ht
  simp only [List.mem_cons, List.not_mem_nil, or_false] at ht
  rcases ht with rfl | rfl <;> exact ⟨by kernel_rfl, of_decide_eq_true (by kernel_rfl)⟩

theorem proved : Rows.FnExactIsCoinPlanSaid :=
  OpenClaim.holds_of_wide 6 Try.f6 rfl rfl rfl rfl rfl rfl rfl ⟨rfl, rfl, rfl, rfl, rfl⟩ rfl rfl rfl rfl rfl (by kernel_rfl) Try.func6 (by kernel_rfl)
    (of_decide_eq_true (by kernel_rfl)) (by unfold Func.isWrapper; first | (rw [if_pos (by decide +kernel)]; kernel_rfl) | (rw [if_neg (by decide +kernel)]; exact ⟨rfl, rfl⟩))
    (fun os started H enc _ => lifted os started H enc)
end Go.Proofs.Ytolmhnekfokpdaa.fnExactIsCoinPlan
