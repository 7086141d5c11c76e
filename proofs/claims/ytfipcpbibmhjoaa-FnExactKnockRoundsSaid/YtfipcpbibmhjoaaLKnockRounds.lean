/- FnExactKnockRounds: for every list of bools and number, KnockRounds answers as its model; no condition. -/
import Derived.Test.YtfipcpbibmhjoaaLo
import Derived.Test.YtfipcpbibmhjoaaSy
set_option linter.unusedVariables false
namespace Go.Proofs.Ytfipcpbibmhjoaa.fnExactKnockRounds
open Go.ChangeShapes Go.WideShapes Go.ChangeAt Go.RowKit
open Go.ChangeMaps (open_string)

set_option maxRecDepth 100000 in
set_option maxHeartbeats 4000000 in
theorem walk (fs0 : List Bool) (v0 : Value) (a1 : Int) (al1 : -9223372036854775808 ≤ a1) (au1 : a1 ≤ 9223372036854775807) (w : World) (hs0 : Sl Value.bool false w v0 fs0) (hl0 : fs0.length ≤ maxLen) : Calls Try.prog 13 #[v0, .int .i64 a1] w fun e w' => e = .returned (.bool true) ∧ Below w.heap.size w w' := by
  unfold maxLen at hl0
  by_cases hbig0 : 1048576 < fs0.length
  · skip
    obtain ⟨p0, cap0, rfl, hf0⟩ := hs0
    clear hf0
    generalize fs0.length = m0 at *
    go_enter Try.func13, Try.ntmps13
    go_wp2
    all_goals (go_ret; exact ⟨ret_bool (by simp), Below.refl _ _⟩)
  have hn0 : fs0.length ≤ 1048576 := by omega
  clear hbig0 hl0
  have HA0 := Lib.hid hs0
  obtain ⟨p0, cap0, rfl, hf0⟩ := hs0
  clear hf0
  have hd0 : decide (1048576 < (fs0.length : Int)) = false := decide_eq_false (by omega)
  obtain ⟨R0, R1, hr0, Hspec, Himpl⟩ : ∃ (R0 : List Int) (R1 : Bool), R0.length ≤ 1048576 ∧ Hid (∀ (v0 : Value) (w : World), Sl Value.bool false w v0 fs0 → Calls Try.prog 50 #[v0, .int .i64 a1] w fun e w' => ∃ r0, e = .returned (.tuple #[r0, .bool R1]) ∧ Sw (Value.int .i64) 0 w' r0 R0 w.heap.size w'.heap.size ∧ Below w.heap.size w w') ∧ Hid (∀ (v0 : Value) (w : World), Sl Value.bool false w v0 fs0 → Calls Try.prog 52 #[v0, .int .i64 a1] w fun e w' => ∃ r0, e = .returned (.tuple #[r0, .bool R1]) ∧ Sw (Value.int .i64) 0 w' r0 R0 w.heap.size w'.heap.size ∧ Below w.heap.size w w') := ⟨(res_KnockRounds fs0 a1), (ok_KnockRounds fs0 a1), (len_KnockRounds fs0 a1), Lib.hid fun v0 w h0 => spec_KnockRounds fs0 v0 a1 al1 au1 w hn0 h0, Lib.hid fun v0 w h0 => impl_KnockRounds fs0 v0 a1 al1 au1 w hn0 h0⟩
  have Bel0 := Lib.hid (Below.refl w.heap.size w)
  go_enter Try.func13, Try.ntmps13
  go_wp2_with fail
  refine (toB_any fs0 _ _ hn0 (HA0.out.later Bel0.out)).mono ?_
  rintro e u1 ⟨ts0, rfl, ht, hb⟩
  have hzz1 := hb.size
  have Bel1 := Lib.hid (below_step Bel0.out hb (Nat.le_refl _))
  have Fs0_1 := Lib.hid ht
  clear hb Bel0 ht
  go_wp2_with fail
  refine (Hspec.out _ _ Fs0_1.out.sl).mono ?_
  rintro e u2 ⟨w0, rfl, hw0, hb⟩
  have hzz2 := hb.size
  have Bel2 := Lib.hid (below_step Bel1.out hb (Nat.le_refl _))
  have Fs0_2 := Lib.hid (Fs0_1.out.later hb)
  have Fw0_2 := Lib.hid hw0
  clear hb Bel1 hw0 Fs0_1
  clear Fs0_2
  go_wp2_with fail
  refine (toB_any fs0 _ _ hn0 (HA0.out.later Bel2.out)).mono ?_
  rintro e u3 ⟨tx0, rfl, ht, hb⟩
  have hzz3 := hb.size
  have Bel3 := Lib.hid (below_step Bel2.out hb (Nat.le_refl _))
  have Fw0_3 := Lib.hid (Fw0_2.out.later hb)
  have Fx0_3 := Lib.hid ht
  clear hb Bel2 ht Fw0_2
  go_wp2_with fail
  refine (Himpl.out _ _ Fx0_3.out.sl).mono ?_
  rintro e u4 ⟨g0, rfl, hg0, hb⟩
  have hzz4 := hb.size
  have Bel4 := Lib.hid (below_step Bel3.out hb (Nat.le_refl _))
  have Fw0_4 := Lib.hid (Fw0_3.out.later hb)
  have Fx0_4 := Lib.hid (Fx0_3.out.later hb)
  have Fg0_4 := Lib.hid hg0
  clear hb Bel3 hg0 Fw0_3 Fx0_3
  go_wp2_with fail
  refine (eqI_any R0 _ _ _ hr0 Fg0_4.out.sl Fw0_4.out.sl).mono ?_
  rintro e u5 ⟨rfl, ho⟩
  have hzz5 := Nat.le_of_eq ho.size.symm
  have Bel5 := Lib.hid (Below.still Bel4.out ho)
  have Fw0_5 := Lib.hid (Fw0_4.out.still ho)
  have Fx0_5 := Lib.hid (Fx0_4.out.still ho)
  have Fg0_5 := Lib.hid (Fg0_4.out.still ho)
  clear ho Bel4  Fw0_4 Fx0_4 Fg0_4
  go_wp2_with fail
  refine (toB_any fs0 _ _ hn0 (HA0.out.later Bel5.out)).mono ?_
  rintro e u6 ⟨tc0, rfl, ht, hb⟩
  have hzz6 := hb.size
  have Bel6 := Lib.hid (below_step Bel5.out hb (Nat.le_refl _))
  have Fw0_6 := Lib.hid (Fw0_5.out.later hb)
  have Fx0_6 := Lib.hid (Fx0_5.out.later hb)
  have Fg0_6 := Lib.hid (Fg0_5.out.later hb)
  have Fc0_6 := Lib.hid ht
  clear hb Bel5 ht Fw0_5 Fx0_5 Fg0_5
  go_wp2_with fail
  refine (eqB_any fs0 _ _ _ hn0 Fx0_6.out.sl Fc0_6.out.sl).mono ?_
  rintro e u7 ⟨rfl, ho⟩
  have hzz7 := Nat.le_of_eq ho.size.symm
  have Bel7 := Lib.hid (Below.still Bel6.out ho)
  have Fw0_7 := Lib.hid (Fw0_6.out.still ho)
  have Fx0_7 := Lib.hid (Fx0_6.out.still ho)
  have Fg0_7 := Lib.hid (Fg0_6.out.still ho)
  have Fc0_7 := Lib.hid (Fc0_6.out.still ho)
  clear ho Bel6  Fw0_6 Fx0_6 Fg0_6 Fc0_6
  clear Fc0_7
  go_wp2_with fail
  refine (markB_any _ _ _ _ _ (1) hn0 (by omega) Fx0_7.out).mono ?_
  rintro e u8 ⟨rfl, ht, ho⟩
  have hzz8 := Nat.le_of_eq ho.size.symm
  have Bel8 := Lib.hid (Below.only Bel7.out ho (by have := Below.size Bel7.out; omega))
  have Fw0_8 := Lib.hid (Fw0_7.out.apart ho (by omega))
  have Fx0_8 := Lib.hid ht
  have Fg0_8 := Lib.hid (Fg0_7.out.apart ho (by omega))
  clear ho Bel7 ht Fw0_7 Fx0_7 Fg0_7
  go_wp2_with fail
  refine (eqI_any R0 _ _ _ hr0 Fg0_8.out.sl Fw0_8.out.sl).mono ?_
  rintro e u9 ⟨rfl, ho⟩
  have hzz9 := Nat.le_of_eq ho.size.symm
  have Bel9 := Lib.hid (Below.still Bel8.out ho)
  have Fw0_9 := Lib.hid (Fw0_8.out.still ho)
  have Fx0_9 := Lib.hid (Fx0_8.out.still ho)
  have Fg0_9 := Lib.hid (Fg0_8.out.still ho)
  clear ho Bel8  Fw0_8 Fx0_8 Fg0_8
  clear Fx0_9
  go_wp2_with fail
  refine (markI_any _ _ _ _ _ (1) hr0 (by omega) Fg0_9.out).mono ?_
  rintro e u10 ⟨rfl, ht, ho⟩
  have hzz10 := Nat.le_of_eq ho.size.symm
  have Bel10 := Lib.hid (Below.only Bel9.out ho (by have := Below.size Bel9.out; omega))
  have Fw0_10 := Lib.hid (Fw0_9.out.apart ho (by omega))
  have Fg0_10 := Lib.hid ht
  clear ho Bel9 ht Fw0_9 Fg0_9
  go_wp2_with fail
  refine (heldI_any R0.length _ _ _ _ (1) hr0 (by omega) Fg0_10.out).mono ?_
  rintro e u11 ⟨rfl, ho⟩
  have hzz11 := Nat.le_of_eq ho.size.symm
  have Bel11 := Lib.hid (Below.still Bel10.out ho)
  have Fw0_11 := Lib.hid (Fw0_10.out.still ho)
  have Fg0_11 := Lib.hid (Fg0_10.out.still ho)
  clear ho Bel10  Fw0_10 Fg0_10
  go_wp2_with fail
  refine (toB_any fs0 _ _ hn0 (HA0.out.later Bel11.out)).mono ?_
  rintro e u12 ⟨ty0, rfl, ht, hb⟩
  have hzz12 := hb.size
  have Bel12 := Lib.hid (below_step Bel11.out hb (Nat.le_refl _))
  have Fw0_12 := Lib.hid (Fw0_11.out.later hb)
  have Fg0_12 := Lib.hid (Fg0_11.out.later hb)
  have Fy0_12 := Lib.hid ht
  clear hb Bel11 ht Fw0_11 Fg0_11
  go_wp2_with fail
  refine (Himpl.out _ _ Fy0_12.out.sl).mono ?_
  rintro e u13 ⟨h0, rfl, hh0, hb⟩
  have hzz13 := hb.size
  have Bel13 := Lib.hid (below_step Bel12.out hb (Nat.le_refl _))
  have Fw0_13 := Lib.hid (Fw0_12.out.later hb)
  have Fg0_13 := Lib.hid (Fg0_12.out.later hb)
  have Fy0_13 := Lib.hid (Fy0_12.out.later hb)
  have Fh0_13 := Lib.hid hh0
  clear hb Bel12 hh0 Fw0_12 Fg0_12 Fy0_12
  clear Fy0_13
  go_wp2_with fail
  refine (eqI_any R0 _ _ _ hr0 Fh0_13.out.sl Fw0_13.out.sl).mono ?_
  rintro e u14 ⟨rfl, ho⟩
  have hzz14 := Nat.le_of_eq ho.size.symm
  have Bel14 := Lib.hid (Below.still Bel13.out ho)
  have Fw0_14 := Lib.hid (Fw0_13.out.still ho)
  have Fg0_14 := Lib.hid (Fg0_13.out.still ho)
  have Fh0_14 := Lib.hid (Fh0_13.out.still ho)
  clear ho Bel13  Fw0_13 Fg0_13 Fh0_13
  go_wp2_with fail
  refine (heldI_any R0.length _ _ _ _ (1) hr0 (by omega) Fg0_14.out).mono ?_
  rintro e u15 ⟨rfl, ho⟩
  have hzz15 := Nat.le_of_eq ho.size.symm
  have Bel15 := Lib.hid (Below.still Bel14.out ho)
  have Fw0_15 := Lib.hid (Fw0_14.out.still ho)
  have Fg0_15 := Lib.hid (Fg0_14.out.still ho)
  have Fh0_15 := Lib.hid (Fh0_14.out.still ho)
  clear ho Bel14  Fw0_14 Fg0_14 Fh0_14
  go_wp2
  go_ret
  exact ⟨ret_bool (by simp), Bel15.out⟩

set_option maxRecDepth 100000 in
theorem lifted (os : Os) (started : os.Started) (H : Type) (enc : TypeId × Value → H) :
    ReturnsInHanded {} Try.checked os 13 .any (Rows.fnExactKnockRoundsSpec.pre6 enc Try.prog Try.f13 Rows.fnExactKnockRoundsRow.domain false) (Rows.fnExactKnockRoundsSpec.post enc Try.prog Try.f13 false true false false) := by
  refine returnsInHanded_of_change (C := Try.checked) Lift.own started (by kernel_rfl) Try.func13
    (ChangeSpec.witness6 (enc := enc) (C := Try.checked) false ⟨#[], #[.slice none 0 0, .int .i64 0], []⟩ 8 (by kernel_rfl) (by kernel_rfl) (by kernel_rfl) (by kernel_rfl)) ?_
  intro W base args ds gs before hval0 hW hcnd _
  have hval : ∀ (j : Nat) t v, Try.f13.params[j]? = some t → args[j]? = some v → Value.okWide Try.prog W .any base t v := hval0
  have hW' := hW
  obtain ⟨p, q, hA0, hV, rfl, hfz, hnd⟩ := hW
  have hA : DataW.TrodAll enc Try.prog W 0 (fun _ => true) true Try.f13.params.toList args.toList ds p := hA0
  obtain ⟨rfl, rfl⟩ := trodVars_none hV
  have hA1 := hA
  rw [Try.params13] at hA1 hval
  obtain ⟨v0, vs0, d0, ds0, p0, q0, hargs, rfl, rfl, h0, r0⟩ := trodAll_cons hA1
  obtain ⟨v1, vs1, d1, ds1, p1, q1, rfl, rfl, rfl, h1, r1⟩ := trodAll_cons r0
  obtain ⟨rfl, rfl, rfl⟩ := trodAll_nil r1
  obtain rfl : args = #[v0, v1] := by cases args; simp_all
  simp only [List.append_nil] at hW' hA
  obtain ⟨a0, w0, _, l0⟩ := open_sl Value.bool false (fun _ => True) (bool_el Try.underlying4) Try.underlying62 (by kernel_rfl) (hval 0 62 v0 rfl rfl) h0
  obtain ⟨a1, rfl, rfl, rfl, w1⟩ := open_int Try.underlying2 (hval 1 2 v1 rfl rfl) h1
  refine (walk a0 v0 a1 (wfi64 w1).1 (wfi64 w1).2 W w0 l0).mono fun e W' ⟨he, hb⟩ => ?_
  subst he
  refine ⟨_, rfl, Lift.law_post Lift.laidOut hW' hA rfl rfl rfl rfl (by kernel_rfl) Try.underlying4 ?_ hb⟩
  rw [Try.params13]
  intro t ht
  simp only [List.mem_cons, List.not_mem_nil, or_false] at ht
  rcases ht with rfl | rfl <;> exact ⟨by kernel_rfl, of_decide_eq_true (by kernel_rfl)⟩

theorem proved : Rows.FnExactKnockRoundsSaid :=
  OpenClaim.holds_of_wide 13 Try.f13 rfl rfl rfl rfl rfl rfl rfl ⟨rfl, rfl, rfl, rfl, rfl⟩ rfl rfl rfl rfl rfl (by kernel_rfl) Try.func13 (by kernel_rfl)
    (of_decide_eq_true (by kernel_rfl)) (by unfold Func.isWrapper; first | (rw [if_pos (by decide +kernel)]; kernel_rfl) | (rw [if_neg (by decide +kernel)]; exact ⟨rfl, rfl⟩))
    (fun os started H enc _ => lifted os started H enc)
end Go.Proofs.Ytfipcpbibmhjoaa.fnExactKnockRounds
