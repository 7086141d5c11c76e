/- FnExactLegalPlays: for every list and number, LegalPlays answers as its model; no condition. -/
import Derived.Test.YtodmaomngpnboaaLo
import Derived.Test.YtodmaomngpnboaaLpC
import Derived.Test.YtodmaomngpnboaaLpD
set_option linter.unusedVariables false
namespace Go.Proofs.Ytodmaomngpnboaa.fnExactLegalPlays
open Go.ChangeShapes Go.WideShapes Go.ChangeAt Go.RowKit
open Go.ChangeMaps (open_string)

set_option maxHeartbeats 4000000 in
theorem walk (fs0 : List Int) (v0 : Value) (a1 : Int) (al1 : -9223372036854775808 ≤ a1) (au1 : a1 ≤ 9223372036854775807) (w : World) (hs0 : Sl (Value.int .i64) 0 w v0 fs0) (hl0 : fs0.length ≤ maxLen) : Calls Try.prog 7 #[v0, .int .i64 a1] w fun e w' => e = .returned (.bool true) ∧ Below w.heap.size w w' := by
  unfold maxLen at hl0
  by_cases hbig0 : 1048576 < fs0.length
  · obtain ⟨p, cap, rfl, hf⟩ := hs0
    clear hf
    generalize fs0.length = n0 at *
    go_enter Try.func7, Try.ntmps7
    go_wp2
    all_goals (go_ret; exact ⟨ret_bool (by simp), Below.refl _ _⟩)
  have hn0 : fs0.length ≤ 1048576 := by omega
  clear hbig0 hl0
  obtain ⟨R0, R1, hr0, Hspec, Himpl⟩ : ∃ (R0 : List Int) (R1 : Bool), R0.length ≤ 1048576 ∧ Hid (∀ (v0 : Value) (w : World), Sl (Value.int .i64) 0 w v0 fs0 → Calls Try.prog 42 #[v0, .int .i64 a1] w fun e w' => ∃ r0, e = .returned (.tuple #[r0, .bool R1]) ∧ Sw (Value.int .i64) 0 w' r0 R0 w.heap.size w'.heap.size ∧ Below w.heap.size w w') ∧ Hid (∀ (v0 : Value) (w : World), Sl (Value.int .i64) 0 w v0 fs0 → Calls Try.prog 43 #[v0, .int .i64 a1] w fun e w' => ∃ r0, e = .returned (.tuple #[r0, .bool R1]) ∧ Sw (Value.int .i64) 0 w' r0 R0 w.heap.size w'.heap.size ∧ Below w.heap.size w w') := ⟨(res_LegalPlays fs0 a1), (ok_LegalPlays fs0 a1), (len_LegalPlays fs0 a1), Lib.hid fun v0 w h0 => spec_LegalPlays fs0 v0 a1 al1 au1 w hn0 h0, Lib.hid fun v0 w h0 => impl_LegalPlays fs0 v0 a1 al1 au1 w hn0 h0⟩
  have HA0 := Lib.hid hs0
  obtain ⟨p0, cap0, rfl, hf0⟩ := hs0
  clear hf0
  have hd0 : decide (1048576 < (fs0.length : Int)) = false := decide_eq_false (by omega)
  have Bel0 := Lib.hid (Below.refl w.heap.size w)
  go_enter Try.func7, Try.ntmps7
  go_wp2_with fail
  refine (toI_any fs0 _ _ hn0 (HA0.out.later Bel0.out)).mono ?_
  rintro e u1 ⟨ts0, rfl, ht, hb⟩
  have hz1 := hb.size
  have Bel1 := Lib.hid (below_step Bel0.out hb (Nat.le_refl _))
  have Fs0_1 := Lib.hid ht
  clear hb ht Bel0
  go_wp2_with fail
  refine (Hspec.out _ _ Fs0_1.out.sl).mono ?_
  rintro e u2 ⟨w0, rfl, hw0, hb⟩
  have hz2 := hb.size
  have Bel2 := Lib.hid (below_step Bel1.out hb (Nat.le_refl _))
  have Fs0_2 := Lib.hid (Fs0_1.out.later hb)
  have Fw0_2 := Lib.hid hw0
  clear hb hw0 Fs0_1 Bel1
  clear Fs0_2
  go_wp2_with fail
  refine (toI_any fs0 _ _ hn0 (HA0.out.later Bel2.out)).mono ?_
  rintro e u3 ⟨tx0, rfl, ht, hb⟩
  have hz3 := hb.size
  have Bel3 := Lib.hid (below_step Bel2.out hb (Nat.le_refl _))
  have Fw0_3 := Lib.hid (Fw0_2.out.later hb)
  have Fx0_3 := Lib.hid ht
  clear hb ht Fw0_2 Bel2
  go_wp2_with fail
  refine (Himpl.out _ _ Fx0_3.out.sl).mono ?_
  rintro e u4 ⟨g0, rfl, hg0, hb⟩
  have hz4 := hb.size
  have Bel4 := Lib.hid (below_step Bel3.out hb (Nat.le_refl _))
  have Fw0_4 := Lib.hid (Fw0_3.out.later hb)
  have Fx0_4 := Lib.hid (Fx0_3.out.later hb)
  have Fg0_4 := Lib.hid hg0
  clear hb hg0 Fw0_3 Fx0_3 Bel3
  go_wp2_with fail
  refine (eqI_any R0 _ _ _ hr0 Fg0_4.out.sl Fw0_4.out.sl).mono ?_
  rintro e u5 ⟨rfl, ho⟩
  have hz5 := Nat.le_of_eq ho.size.symm
  have Bel5 := Lib.hid (Below.still Bel4.out ho)
  have Fw0_5 := Lib.hid (Fw0_4.out.still ho)
  have Fx0_5 := Lib.hid (Fx0_4.out.still ho)
  have Fg0_5 := Lib.hid (Fg0_4.out.still ho)
  clear ho Fw0_4 Fx0_4 Fg0_4 Bel4
  go_wp2_with fail
  refine (toI_any fs0 _ _ hn0 (HA0.out.later Bel5.out)).mono ?_
  rintro e u6 ⟨tc0, rfl, ht, hb⟩
  have hz6 := hb.size
  have Bel6 := Lib.hid (below_step Bel5.out hb (Nat.le_refl _))
  have Fw0_6 := Lib.hid (Fw0_5.out.later hb)
  have Fx0_6 := Lib.hid (Fx0_5.out.later hb)
  have Fg0_6 := Lib.hid (Fg0_5.out.later hb)
  have Fc0_6 := Lib.hid ht
  clear hb ht Fw0_5 Fx0_5 Fg0_5 Bel5
  go_wp2_with fail
  refine (eqI_any fs0 _ _ _ hn0 Fx0_6.out.sl Fc0_6.out.sl).mono ?_
  rintro e u7 ⟨rfl, ho⟩
  have hz7 := Nat.le_of_eq ho.size.symm
  have Bel7 := Lib.hid (Below.still Bel6.out ho)
  have Fw0_7 := Lib.hid (Fw0_6.out.still ho)
  have Fx0_7 := Lib.hid (Fx0_6.out.still ho)
  have Fg0_7 := Lib.hid (Fg0_6.out.still ho)
  have Fc0_7 := Lib.hid (Fc0_6.out.still ho)
  clear ho Fw0_6 Fx0_6 Fg0_6 Fc0_6 Bel6
  clear Fc0_7
  go_wp2_with fail
  refine (markI_any _ _ _ _ _ (1) hn0 (by omega) Fx0_7.out).mono ?_
  rintro e u8 ⟨rfl, ht, ho⟩
  have hz8 := Nat.le_of_eq ho.size.symm
  have Bel8 := Lib.hid (Below.only Bel7.out ho (by have := Below.size Bel7.out; omega))
  have Fw0_8 := Lib.hid (Fw0_7.out.apart ho (by omega))
  have Fx0_8 := Lib.hid ht
  have Fg0_8 := Lib.hid (Fg0_7.out.apart ho (by omega))
  clear ho ht Fw0_7 Fx0_7 Fg0_7 Bel7
  go_wp2_with fail
  refine (eqI_any R0 _ _ _ hr0 Fg0_8.out.sl Fw0_8.out.sl).mono ?_
  rintro e u9 ⟨rfl, ho⟩
  have hz9 := Nat.le_of_eq ho.size.symm
  have Bel9 := Lib.hid (Below.still Bel8.out ho)
  have Fw0_9 := Lib.hid (Fw0_8.out.still ho)
  have Fx0_9 := Lib.hid (Fx0_8.out.still ho)
  have Fg0_9 := Lib.hid (Fg0_8.out.still ho)
  clear ho Fw0_8 Fx0_8 Fg0_8 Bel8
  clear Fx0_9
  go_wp2_with fail
  refine (markI_any _ _ _ _ _ (1) hr0 (by omega) Fg0_9.out).mono ?_
  rintro e u10 ⟨rfl, ht, ho⟩
  have hz10 := Nat.le_of_eq ho.size.symm
  have Bel10 := Lib.hid (Below.only Bel9.out ho (by have := Below.size Bel9.out; omega))
  have Fw0_10 := Lib.hid (Fw0_9.out.apart ho (by omega))
  have Fg0_10 := Lib.hid ht
  clear ho ht Fw0_9 Fg0_9 Bel9
  go_wp2_with fail
  refine (heldI_any R0.length _ _ _ _ (1) hr0 (by omega) Fg0_10.out).mono ?_
  rintro e u11 ⟨rfl, ho⟩
  have hz11 := Nat.le_of_eq ho.size.symm
  have Bel11 := Lib.hid (Below.still Bel10.out ho)
  have Fw0_11 := Lib.hid (Fw0_10.out.still ho)
  have Fg0_11 := Lib.hid (Fg0_10.out.still ho)
  clear ho Fw0_10 Fg0_10 Bel10
  go_wp2_with fail
  refine (toI_any fs0 _ _ hn0 (HA0.out.later Bel11.out)).mono ?_
  rintro e u12 ⟨ty0, rfl, ht, hb⟩
  have hz12 := hb.size
  have Bel12 := Lib.hid (below_step Bel11.out hb (Nat.le_refl _))
  have Fw0_12 := Lib.hid (Fw0_11.out.later hb)
  have Fg0_12 := Lib.hid (Fg0_11.out.later hb)
  have Fy0_12 := Lib.hid ht
  clear hb ht Fw0_11 Fg0_11 Bel11
  go_wp2_with fail
  refine (Himpl.out _ _ Fy0_12.out.sl).mono ?_
  rintro e u13 ⟨h0, rfl, hh0, hb⟩
  have hz13 := hb.size
  have Bel13 := Lib.hid (below_step Bel12.out hb (Nat.le_refl _))
  have Fw0_13 := Lib.hid (Fw0_12.out.later hb)
  have Fg0_13 := Lib.hid (Fg0_12.out.later hb)
  have Fy0_13 := Lib.hid (Fy0_12.out.later hb)
  have Fh0_13 := Lib.hid hh0
  clear hb hh0 Fw0_12 Fg0_12 Fy0_12 Bel12
  clear Fy0_13
  go_wp2_with fail
  refine (eqI_any R0 _ _ _ hr0 Fh0_13.out.sl Fw0_13.out.sl).mono ?_
  rintro e u14 ⟨rfl, ho⟩
  have hz14 := Nat.le_of_eq ho.size.symm
  have Bel14 := Lib.hid (Below.still Bel13.out ho)
  have Fw0_14 := Lib.hid (Fw0_13.out.still ho)
  have Fg0_14 := Lib.hid (Fg0_13.out.still ho)
  have Fh0_14 := Lib.hid (Fh0_13.out.still ho)
  clear ho Fw0_13 Fg0_13 Fh0_13 Bel13
  go_wp2_with fail
  refine (heldI_any R0.length _ _ _ _ (1) hr0 (by omega) Fg0_14.out).mono ?_
  rintro e u15 ⟨rfl, ho⟩
  have hz15 := Nat.le_of_eq ho.size.symm
  have Bel15 := Lib.hid (Below.still Bel14.out ho)
  have Fw0_15 := Lib.hid (Fw0_14.out.still ho)
  have Fg0_15 := Lib.hid (Fg0_14.out.still ho)
  have Fh0_15 := Lib.hid (Fh0_14.out.still ho)
  clear ho Fw0_14 Fg0_14 Fh0_14 Bel14
  go_wp2
  go_ret
  exact ⟨ret_bool (by simp), Bel15.out⟩

set_option maxRecDepth 100000 in
theorem lifted (os : Os) (started : os.Started) (H : Type) (enc : TypeId × Value → H) :
    ReturnsInHanded {} Try.checked os 7 .any (Rows.fnExactLegalPlaysSpec.pre6 enc Try.prog Try.f7 Rows.fnExactLegalPlaysRow.domain false) (Rows.fnExactLegalPlaysSpec.post enc Try.prog Try.f7 false true false false) := by
  refine returnsInHanded_of_change (C := Try.checked) Lift.own started (by kernel_rfl) Try.func7
    (ChangeSpec.witness6 (enc := enc) (C := Try.checked) false ⟨#[], #[.slice none 0 0, .int .i64 0], []⟩ 8 (by kernel_rfl) (by kernel_rfl) (by kernel_rfl) (by kernel_rfl)) ?_
  intro W base args ds gs before hval0 hW hcnd _
  have hval : ∀ (j : Nat) t v, Try.f7.params[j]? = some t → args[j]? = some v → Value.okWide Try.prog W .any base t v := hval0
  have hW' := hW
  obtain ⟨p, q, hA0, hV, rfl, hfz, hnd⟩ := hW
  have hA : DataW.TrodAll enc Try.prog W 0 (fun _ => true) true Try.f7.params.toList args.toList ds p := hA0
  obtain ⟨rfl, rfl⟩ := trodVars_none hV
  have hA1 := hA
  rw [Try.params7] at hA1 hval
  obtain ⟨v0, vs0, d0, ds0, p0, q0, hargs, rfl, rfl, h0, r0⟩ := trodAll_cons hA1
  obtain ⟨v1, vs1, d1, ds1, p1, q1, rfl, rfl, rfl, h1, r1⟩ := trodAll_cons r0
  obtain ⟨rfl, rfl, rfl⟩ := trodAll_nil r1
  obtain rfl : args = #[v0, v1] := by cases args; simp_all
  simp only [List.append_nil] at hW' hA
  obtain ⟨a0, w0, _, l0⟩ := open_sl (Value.int .i64) 0 (fun b => (Lit.int .i64 b).wf = true) (int_el Try.underlying2) Try.underlying22 (by kernel_rfl) (hval 0 22 v0 rfl rfl) h0
  obtain ⟨a1, rfl, rfl, rfl, w1⟩ := open_int Try.underlying2 (hval 1 2 v1 rfl rfl) h1
  refine (walk a0 v0 a1 (wfi64 w1).1 (wfi64 w1).2 W w0 l0).mono fun e W' ⟨he, hb⟩ => ?_
  subst he
  refine ⟨_, rfl, Lift.law_post Lift.laidOut hW' hA rfl rfl rfl rfl (by kernel_rfl) Try.underlying4 ?_ hb⟩
  rw [Try.params7]
  intro t ht
  simp only [List.mem_cons, List.not_mem_nil, or_false] at ht
  rcases ht with rfl | rfl <;> exact ⟨by kernel_rfl, of_decide_eq_true (by kernel_rfl)⟩

theorem proved : Rows.FnExactLegalPlaysSaid :=
  OpenClaim.holds_of_wide 7 Try.f7 rfl rfl rfl rfl rfl rfl rfl ⟨rfl, rfl, rfl, rfl, rfl⟩ rfl rfl rfl rfl rfl (by kernel_rfl) Try.func7 (by kernel_rfl)
    (of_decide_eq_true (by kernel_rfl)) (by unfold Func.isWrapper; first | (rw [if_pos (by decide +kernel)]; kernel_rfl) | (rw [if_neg (by decide +kernel)]; exact ⟨rfl, rfl⟩))
    (fun os started H enc _ => lifted os started H enc)
end Go.Proofs.Ytodmaomngpnboaa.fnExactLegalPlays
