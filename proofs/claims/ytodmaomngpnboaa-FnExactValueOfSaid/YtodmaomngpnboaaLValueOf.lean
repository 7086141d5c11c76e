/- FnExactValueOf: for every list, ValueOf answers as its model; no condition. -/
import Derived.Test.YtodmaomngpnboaaLo
import Derived.Test.YtodmaomngpnboaaHsL
set_option linter.unusedVariables false
namespace Go.Proofs.Ytodmaomngpnboaa.fnExactValueOf
open Go.ChangeShapes Go.WideShapes Go.ChangeAt Go.RowKit
open Go.ChangeMaps (open_string)

set_option maxHeartbeats 4000000 in
theorem walk (fs0 : List Int) (v0 : Value) (w : World) (hs0 : Sl (Value.int .i64) 0 w v0 fs0) (hl0 : fs0.length ≤ maxLen) : Calls Try.prog 12 #[v0] w fun e w' => e = .returned (.bool true) ∧ Below w.heap.size w w' := by
  unfold maxLen at hl0
  by_cases hbig0 : 1048576 < fs0.length
  · obtain ⟨p, cap, rfl, hf⟩ := hs0
    clear hf
    generalize fs0.length = n0 at *
    go_enter Try.func12, Try.ntmps12
    go_wp2
    all_goals (go_ret; exact ⟨ret_bool (by simp), Below.refl _ _⟩)
  have hn0 : fs0.length ≤ 1048576 := by omega
  clear hbig0 hl0
  obtain ⟨R0, R1, Hspec, Himpl⟩ : ∃ (R0 : Int) (R1 : Bool), Hid (∀ (v0 : Value) (w : World), Sl (Value.int .i64) 0 w v0 fs0 → Calls Try.prog 57 #[v0] w fun e w' => e = .returned (.tuple #[.int .i64 R0, .bool R1]) ∧ Below w.heap.size w w') ∧ Hid (∀ (v0 : Value) (w : World), Sl (Value.int .i64) 0 w v0 fs0 → Calls Try.prog 58 #[v0] w fun e w' => e = .returned (.tuple #[.int .i64 R0, .bool R1]) ∧ Below w.heap.size w w') := ⟨(res_ValueOf fs0), (ok_ValueOf fs0), Lib.hid fun v0 w h0 => spec_ValueOf fs0 v0 w hn0 h0, Lib.hid fun v0 w h0 => impl_ValueOf fs0 v0 w hn0 h0⟩
  have HA0 := Lib.hid hs0
  obtain ⟨p0, cap0, rfl, hf0⟩ := hs0
  clear hf0
  have hd0 : decide (1048576 < (fs0.length : Int)) = false := decide_eq_false (by omega)
  have Bel0 := Lib.hid (Below.refl w.heap.size w)
  go_enter Try.func12, Try.ntmps12
  go_wp2_with fail
  refine (toI_any fs0 _ _ hn0 (HA0.out.later Bel0.out)).mono ?_
  rintro e u1 ⟨ts0, rfl, ht, hb⟩
  have hz1 := hb.size
  have Bel1 := Lib.hid (below_step Bel0.out hb (Nat.le_refl _))
  have Fs0_1 := Lib.hid ht
  clear hb ht Bel0
  go_wp2_with fail
  refine (Hspec.out _ _ Fs0_1.out.sl).mono ?_
  rintro e u2 ⟨rfl, hb⟩
  have hz2 := hb.size
  have Bel2 := Lib.hid (below_step Bel1.out hb (Nat.le_refl _))
  have Fs0_2 := Lib.hid (Fs0_1.out.later hb)
  clear hb Fs0_1 Bel1
  clear Fs0_2
  go_wp2_with fail
  refine (toI_any fs0 _ _ hn0 (HA0.out.later Bel2.out)).mono ?_
  rintro e u3 ⟨tx0, rfl, ht, hb⟩
  have hz3 := hb.size
  have Bel3 := Lib.hid (below_step Bel2.out hb (Nat.le_refl _))
  have Fx0_3 := Lib.hid ht
  clear hb ht Bel2
  go_wp2_with fail
  refine (Himpl.out _ _ Fx0_3.out.sl).mono ?_
  rintro e u4 ⟨rfl, hb⟩
  have hz4 := hb.size
  have Bel4 := Lib.hid (below_step Bel3.out hb (Nat.le_refl _))
  have Fx0_4 := Lib.hid (Fx0_3.out.later hb)
  clear hb Fx0_3 Bel3
  go_wp2_with fail
  refine (toI_any fs0 _ _ hn0 (HA0.out.later Bel4.out)).mono ?_
  rintro e u5 ⟨tc0, rfl, ht, hb⟩
  have hz5 := hb.size
  have Bel5 := Lib.hid (below_step Bel4.out hb (Nat.le_refl _))
  have Fx0_5 := Lib.hid (Fx0_4.out.later hb)
  have Fc0_5 := Lib.hid ht
  clear hb ht Fx0_4 Bel4
  go_wp2_with fail
  refine (eqI_any fs0 _ _ _ hn0 Fx0_5.out.sl Fc0_5.out.sl).mono ?_
  rintro e u6 ⟨rfl, ho⟩
  have hz6 := Nat.le_of_eq ho.size.symm
  have Bel6 := Lib.hid (Below.still Bel5.out ho)
  have Fx0_6 := Lib.hid (Fx0_5.out.still ho)
  have Fc0_6 := Lib.hid (Fc0_5.out.still ho)
  clear ho Fx0_5 Fc0_5 Bel5
  clear Fc0_6
  go_wp2
  go_ret
  exact ⟨ret_bool (by simp), Bel6.out⟩

set_option maxRecDepth 100000 in
theorem lifted (os : Os) (started : os.Started) (H : Type) (enc : TypeId × Value → H) :
    ReturnsInHanded {} Try.checked os 12 .any (Rows.fnExactValueOfSpec.pre6 enc Try.prog Try.f12 Rows.fnExactValueOfRow.domain false) (Rows.fnExactValueOfSpec.post enc Try.prog Try.f12 false true false false) := by
  refine returnsInHanded_of_change (C := Try.checked) Lift.own started (by kernel_rfl) Try.func12
    (ChangeSpec.witness6 (enc := enc) (C := Try.checked) false ⟨#[], #[.slice none 0 0], []⟩ 8 (by kernel_rfl) (by kernel_rfl) (by kernel_rfl) (by kernel_rfl)) ?_
  intro W base args ds gs before hval0 hW hcnd _
  have hval : ∀ (j : Nat) t v, Try.f12.params[j]? = some t → args[j]? = some v → Value.okWide Try.prog W .any base t v := hval0
  have hW' := hW
  obtain ⟨p, q, hA0, hV, rfl, hfz, hnd⟩ := hW
  have hA : DataW.TrodAll enc Try.prog W 0 (fun _ => true) true Try.f12.params.toList args.toList ds p := hA0
  obtain ⟨rfl, rfl⟩ := trodVars_none hV
  have hA1 := hA
  rw [Try.params12] at hA1 hval
  obtain ⟨v0, vs0, d0, ds0, p0, q0, hargs, rfl, rfl, h0, r0⟩ := trodAll_cons hA1
  obtain ⟨rfl, rfl, rfl⟩ := trodAll_nil r0
  obtain rfl : args = #[v0] := by cases args; simp_all
  simp only [List.append_nil] at hW' hA
  obtain ⟨a0, w0, _, l0⟩ := open_sl (Value.int .i64) 0 (fun b => (Lit.int .i64 b).wf = true) (int_el Try.underlying2) Try.underlying22 (by kernel_rfl) (hval 0 22 v0 rfl rfl) h0
  refine (walk a0 v0 W w0 l0).mono fun e W' ⟨he, hb⟩ => ?_
  subst he
  refine ⟨_, rfl, Lift.law_post Lift.laidOut hW' hA rfl rfl rfl rfl (by kernel_rfl) Try.underlying4 ?_ hb⟩
  rw [Try.params12]
  intro t ht
  simp only [List.mem_cons, List.not_mem_nil, or_false] at ht
  subst ht; exact ⟨by kernel_rfl, of_decide_eq_true (by kernel_rfl)⟩

theorem proved : Rows.FnExactValueOfSaid :=
  OpenClaim.holds_of_wide 12 Try.f12 rfl rfl rfl rfl rfl rfl rfl ⟨rfl, rfl, rfl, rfl, rfl⟩ rfl rfl rfl rfl rfl (by kernel_rfl) Try.func12 (by kernel_rfl)
    (of_decide_eq_true (by kernel_rfl)) (by unfold Func.isWrapper; first | (rw [if_pos (by decide +kernel)]; kernel_rfl) | (rw [if_neg (by decide +kernel)]; exact ⟨rfl, rfl⟩))
    (fun os started H enc _ => lifted os started H enc)
end Go.Proofs.Ytodmaomngpnboaa.fnExactValueOf
