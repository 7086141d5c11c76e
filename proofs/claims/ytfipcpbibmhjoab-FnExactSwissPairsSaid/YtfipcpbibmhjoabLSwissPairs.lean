/- FnExactSwissPairs: for every two lists of numbers, SwissPairs answers as its model; no condition. -/
import Derived.Test.YtfipcpbibmhjoabLo
import Derived.Test.YtfipcpbibmhjoabAo
set_option linter.unusedVariables false
namespace Go.Proofs.Ytfipcpbibmhjoab.fnExactSwissPairs
open Go.ChangeShapes Go.WideShapes Go.ChangeAt Go.RowKit
open Go.ChangeMaps (open_string)

set_option maxRecDepth 100000 in
set_option maxHeartbeats 4000000 in
theorem walk (fs0 : List Int) (v0 : Value) (fs1 : List Int) (v1 : Value) (w : World) (hs0 : Sl (Value.int .i64) 0 w v0 fs0) (hl0 : fs0.length ≤ maxLen) (hs1 : Sl (Value.int .i64) 0 w v1 fs1) (hl1 : fs1.length ≤ maxLen) : Calls Try.prog 3 #[v0, v1] w fun e w' => e = .returned (.bool true) ∧ Below w.heap.size w w' := by
  unfold maxLen at hl0
  unfold maxLen at hl1
  by_cases hbig0 : 1048576 < fs0.length
  · skip
    obtain ⟨p0, cap0, rfl, hf0⟩ := hs0
    clear hf0
    obtain ⟨p1, cap1, rfl, hf1⟩ := hs1
    clear hf1
    generalize fs0.length = m0 at *
    generalize fs1.length = m1 at *
    go_enter Try.func3, Try.ntmps3
    go_wp2
    all_goals (go_ret; exact ⟨ret_bool (by simp), Below.refl _ _⟩)
  by_cases hbig1 : 1048576 < fs1.length
  · skip
    have _hsmall0 : fs0.length ≤ 1048576 := by omega
    obtain ⟨p0, cap0, rfl, hf0⟩ := hs0
    clear hf0
    obtain ⟨p1, cap1, rfl, hf1⟩ := hs1
    clear hf1
    clear hbig0
    generalize fs0.length = m0 at *
    generalize fs1.length = m1 at *
    go_enter Try.func3, Try.ntmps3
    go_wp2
    all_goals (go_ret; exact ⟨ret_bool (by simp), Below.refl _ _⟩)
  have hn0 : fs0.length ≤ 1048576 := by omega
  clear hbig0 hl0
  have HA0 := Lib.hid hs0
  obtain ⟨p0, cap0, rfl, hf0⟩ := hs0
  clear hf0
  have hd0 : decide (1048576 < (fs0.length : Int)) = false := decide_eq_false (by omega)
  have hn1 : fs1.length ≤ 1048576 := by omega
  clear hbig1 hl1
  have HA1 := Lib.hid hs1
  obtain ⟨p1, cap1, rfl, hf1⟩ := hs1
  clear hf1
  have hd1 : decide (1048576 < (fs1.length : Int)) = false := decide_eq_false (by omega)
  obtain ⟨R0, R1, hr0, Hspec, Himpl⟩ : ∃ (R0 : List Int) (R1 : Bool), R0.length ≤ 1048576 ∧ Hid (∀ (v0 : Value) (v1 : Value) (w : World), Sl (Value.int .i64) 0 w v0 fs0 → Sl (Value.int .i64) 0 w v1 fs1 → Calls Try.prog 11 #[v0, v1] w fun e w' => ∃ r0, e = .returned (.tuple #[r0, .bool R1]) ∧ Sw (Value.int .i64) 0 w' r0 R0 w.heap.size w'.heap.size ∧ Below w.heap.size w w') ∧ Hid (∀ (v0 : Value) (v1 : Value) (w : World), Sl (Value.int .i64) 0 w v0 fs0 → Sl (Value.int .i64) 0 w v1 fs1 → Calls Try.prog 13 #[v0, v1] w fun e w' => ∃ r0, e = .returned (.tuple #[r0, .bool R1]) ∧ Sw (Value.int .i64) 0 w' r0 R0 w.heap.size w'.heap.size ∧ Below w.heap.size w w') := ⟨(res_SwissPairs fs0 fs1), (ok_SwissPairs fs0 fs1), (len_SwissPairs fs0 fs1), Lib.hid fun v0 v1 w h0 h1 => spec_SwissPairs fs0 v0 fs1 v1 w hn0 h0 hn1 h1, Lib.hid fun v0 v1 w h0 h1 => impl_SwissPairs fs0 v0 fs1 v1 w hn0 h0 hn1 h1⟩
  have Bel0 := Lib.hid (Below.refl w.heap.size w)
  go_enter Try.func3, Try.ntmps3
  go_wp2_with fail
  refine (toI_any fs0 _ _ hn0 (HA0.out.later Bel0.out)).mono ?_
  rintro e u1 ⟨ts0, rfl, ht, hb⟩
  have hzz1 := hb.size
  have Bel1 := Lib.hid (below_step Bel0.out hb (Nat.le_refl _))
  have Fs0_1 := Lib.hid ht
  clear hb Bel0 ht
  go_wp2_with fail
  refine (toI_any fs1 _ _ hn1 (HA1.out.later Bel1.out)).mono ?_
  rintro e u2 ⟨ts1, rfl, ht, hb⟩
  have hzz2 := hb.size
  have Bel2 := Lib.hid (below_step Bel1.out hb (Nat.le_refl _))
  have Fs0_2 := Lib.hid (Fs0_1.out.later hb)
  have Fs1_2 := Lib.hid ht
  clear hb Bel1 ht Fs0_1
  go_wp2_with fail
  refine (Hspec.out _ _ _ Fs0_2.out.sl Fs1_2.out.sl).mono ?_
  rintro e u3 ⟨w0, rfl, hw0, hb⟩
  have hzz3 := hb.size
  have Bel3 := Lib.hid (below_step Bel2.out hb (Nat.le_refl _))
  have Fs0_3 := Lib.hid (Fs0_2.out.later hb)
  have Fs1_3 := Lib.hid (Fs1_2.out.later hb)
  have Fw0_3 := Lib.hid hw0
  clear hb Bel2 hw0 Fs0_2 Fs1_2
  clear Fs0_3
  clear Fs1_3
  go_wp2_with fail
  refine (toI_any fs0 _ _ hn0 (HA0.out.later Bel3.out)).mono ?_
  rintro e u4 ⟨tx0, rfl, ht, hb⟩
  have hzz4 := hb.size
  have Bel4 := Lib.hid (below_step Bel3.out hb (Nat.le_refl _))
  have Fw0_4 := Lib.hid (Fw0_3.out.later hb)
  have Fx0_4 := Lib.hid ht
  clear hb Bel3 ht Fw0_3
  go_wp2_with fail
  refine (toI_any fs1 _ _ hn1 (HA1.out.later Bel4.out)).mono ?_
  rintro e u5 ⟨tx1, rfl, ht, hb⟩
  have hzz5 := hb.size
  have Bel5 := Lib.hid (below_step Bel4.out hb (Nat.le_refl _))
  have Fw0_5 := Lib.hid (Fw0_4.out.later hb)
  have Fx0_5 := Lib.hid (Fx0_4.out.later hb)
  have Fx1_5 := Lib.hid ht
  clear hb Bel4 ht Fw0_4 Fx0_4
  go_wp2_with fail
  refine (Himpl.out _ _ _ Fx0_5.out.sl Fx1_5.out.sl).mono ?_
  rintro e u6 ⟨g0, rfl, hg0, hb⟩
  have hzz6 := hb.size
  have Bel6 := Lib.hid (below_step Bel5.out hb (Nat.le_refl _))
  have Fw0_6 := Lib.hid (Fw0_5.out.later hb)
  have Fx0_6 := Lib.hid (Fx0_5.out.later hb)
  have Fx1_6 := Lib.hid (Fx1_5.out.later hb)
  have Fg0_6 := Lib.hid hg0
  clear hb Bel5 hg0 Fw0_5 Fx0_5 Fx1_5
  go_wp2_with fail
  refine (eqI_any R0 _ _ _ hr0 Fg0_6.out.sl Fw0_6.out.sl).mono ?_
  rintro e u7 ⟨rfl, ho⟩
  have hzz7 := Nat.le_of_eq ho.size.symm
  have Bel7 := Lib.hid (Below.still Bel6.out ho)
  have Fw0_7 := Lib.hid (Fw0_6.out.still ho)
  have Fx0_7 := Lib.hid (Fx0_6.out.still ho)
  have Fx1_7 := Lib.hid (Fx1_6.out.still ho)
  have Fg0_7 := Lib.hid (Fg0_6.out.still ho)
  clear ho Bel6  Fw0_6 Fx0_6 Fx1_6 Fg0_6
  go_wp2_with fail
  refine (toI_any fs0 _ _ hn0 (HA0.out.later Bel7.out)).mono ?_
  rintro e u8 ⟨tc0, rfl, ht, hb⟩
  have hzz8 := hb.size
  have Bel8 := Lib.hid (below_step Bel7.out hb (Nat.le_refl _))
  have Fw0_8 := Lib.hid (Fw0_7.out.later hb)
  have Fx0_8 := Lib.hid (Fx0_7.out.later hb)
  have Fx1_8 := Lib.hid (Fx1_7.out.later hb)
  have Fg0_8 := Lib.hid (Fg0_7.out.later hb)
  have Fc0_8 := Lib.hid ht
  clear hb Bel7 ht Fw0_7 Fx0_7 Fx1_7 Fg0_7
  go_wp2_with fail
  refine (eqI_any fs0 _ _ _ hn0 Fx0_8.out.sl Fc0_8.out.sl).mono ?_
  rintro e u9 ⟨rfl, ho⟩
  have hzz9 := Nat.le_of_eq ho.size.symm
  have Bel9 := Lib.hid (Below.still Bel8.out ho)
  have Fw0_9 := Lib.hid (Fw0_8.out.still ho)
  have Fx0_9 := Lib.hid (Fx0_8.out.still ho)
  have Fx1_9 := Lib.hid (Fx1_8.out.still ho)
  have Fg0_9 := Lib.hid (Fg0_8.out.still ho)
  have Fc0_9 := Lib.hid (Fc0_8.out.still ho)
  clear ho Bel8  Fw0_8 Fx0_8 Fx1_8 Fg0_8 Fc0_8
  clear Fc0_9
  go_wp2_with fail
  refine (toI_any fs1 _ _ hn1 (HA1.out.later Bel9.out)).mono ?_
  rintro e u10 ⟨tc1, rfl, ht, hb⟩
  have hzz10 := hb.size
  have Bel10 := Lib.hid (below_step Bel9.out hb (Nat.le_refl _))
  have Fw0_10 := Lib.hid (Fw0_9.out.later hb)
  have Fx0_10 := Lib.hid (Fx0_9.out.later hb)
  have Fx1_10 := Lib.hid (Fx1_9.out.later hb)
  have Fg0_10 := Lib.hid (Fg0_9.out.later hb)
  have Fc1_10 := Lib.hid ht
  clear hb Bel9 ht Fw0_9 Fx0_9 Fx1_9 Fg0_9
  go_wp2_with fail
  refine (eqI_any fs1 _ _ _ hn1 Fx1_10.out.sl Fc1_10.out.sl).mono ?_
  rintro e u11 ⟨rfl, ho⟩
  have hzz11 := Nat.le_of_eq ho.size.symm
  have Bel11 := Lib.hid (Below.still Bel10.out ho)
  have Fw0_11 := Lib.hid (Fw0_10.out.still ho)
  have Fx0_11 := Lib.hid (Fx0_10.out.still ho)
  have Fx1_11 := Lib.hid (Fx1_10.out.still ho)
  have Fg0_11 := Lib.hid (Fg0_10.out.still ho)
  have Fc1_11 := Lib.hid (Fc1_10.out.still ho)
  clear ho Bel10  Fw0_10 Fx0_10 Fx1_10 Fg0_10 Fc1_10
  clear Fc1_11
  go_wp2_with fail
  refine (markI_any _ _ _ _ _ (1) hn0 (by omega) Fx0_11.out).mono ?_
  rintro e u12 ⟨rfl, ht, ho⟩
  have hzz12 := Nat.le_of_eq ho.size.symm
  have Bel12 := Lib.hid (Below.only Bel11.out ho (by have := Below.size Bel11.out; omega))
  have Fw0_12 := Lib.hid (Fw0_11.out.apart ho (by omega))
  have Fx0_12 := Lib.hid ht
  have Fx1_12 := Lib.hid (Fx1_11.out.apart ho (by omega))
  have Fg0_12 := Lib.hid (Fg0_11.out.apart ho (by omega))
  clear ho Bel11 ht Fw0_11 Fx0_11 Fx1_11 Fg0_11
  go_wp2_with fail
  refine (markI_any _ _ _ _ _ (1 + fs0.length) hn1 (by omega) Fx1_12.out).mono ?_
  rintro e u13 ⟨rfl, ht, ho⟩
  have hzz13 := Nat.le_of_eq ho.size.symm
  have Bel13 := Lib.hid (Below.only Bel12.out ho (by have := Below.size Bel12.out; omega))
  have Fw0_13 := Lib.hid (Fw0_12.out.apart ho (by omega))
  have Fx0_13 := Lib.hid (Fx0_12.out.apart ho (by omega))
  have Fx1_13 := Lib.hid ht
  have Fg0_13 := Lib.hid (Fg0_12.out.apart ho (by omega))
  clear ho Bel12 ht Fw0_12 Fx0_12 Fx1_12 Fg0_12
  go_wp2_with fail
  refine (eqI_any R0 _ _ _ hr0 Fg0_13.out.sl Fw0_13.out.sl).mono ?_
  rintro e u14 ⟨rfl, ho⟩
  have hzz14 := Nat.le_of_eq ho.size.symm
  have Bel14 := Lib.hid (Below.still Bel13.out ho)
  have Fw0_14 := Lib.hid (Fw0_13.out.still ho)
  have Fx0_14 := Lib.hid (Fx0_13.out.still ho)
  have Fx1_14 := Lib.hid (Fx1_13.out.still ho)
  have Fg0_14 := Lib.hid (Fg0_13.out.still ho)
  clear ho Bel13  Fw0_13 Fx0_13 Fx1_13 Fg0_13
  clear Fx0_14
  clear Fx1_14
  go_wp2_with fail
  refine (markI_any _ _ _ _ _ (1) hr0 (by omega) Fg0_14.out).mono ?_
  rintro e u15 ⟨rfl, ht, ho⟩
  have hzz15 := Nat.le_of_eq ho.size.symm
  have Bel15 := Lib.hid (Below.only Bel14.out ho (by have := Below.size Bel14.out; omega))
  have Fw0_15 := Lib.hid (Fw0_14.out.apart ho (by omega))
  have Fg0_15 := Lib.hid ht
  clear ho Bel14 ht Fw0_14 Fg0_14
  go_wp2_with fail
  refine (heldI_any R0.length _ _ _ _ (1) hr0 (by omega) Fg0_15.out).mono ?_
  rintro e u16 ⟨rfl, ho⟩
  have hzz16 := Nat.le_of_eq ho.size.symm
  have Bel16 := Lib.hid (Below.still Bel15.out ho)
  have Fw0_16 := Lib.hid (Fw0_15.out.still ho)
  have Fg0_16 := Lib.hid (Fg0_15.out.still ho)
  clear ho Bel15  Fw0_15 Fg0_15
  go_wp2_with fail
  refine (toI_any fs0 _ _ hn0 (HA0.out.later Bel16.out)).mono ?_
  rintro e u17 ⟨ty0, rfl, ht, hb⟩
  have hzz17 := hb.size
  have Bel17 := Lib.hid (below_step Bel16.out hb (Nat.le_refl _))
  have Fw0_17 := Lib.hid (Fw0_16.out.later hb)
  have Fg0_17 := Lib.hid (Fg0_16.out.later hb)
  have Fy0_17 := Lib.hid ht
  clear hb Bel16 ht Fw0_16 Fg0_16
  go_wp2_with fail
  refine (toI_any fs1 _ _ hn1 (HA1.out.later Bel17.out)).mono ?_
  rintro e u18 ⟨ty1, rfl, ht, hb⟩
  have hzz18 := hb.size
  have Bel18 := Lib.hid (below_step Bel17.out hb (Nat.le_refl _))
  have Fw0_18 := Lib.hid (Fw0_17.out.later hb)
  have Fg0_18 := Lib.hid (Fg0_17.out.later hb)
  have Fy0_18 := Lib.hid (Fy0_17.out.later hb)
  have Fy1_18 := Lib.hid ht
  clear hb Bel17 ht Fw0_17 Fg0_17 Fy0_17
  go_wp2_with fail
  refine (Himpl.out _ _ _ Fy0_18.out.sl Fy1_18.out.sl).mono ?_
  rintro e u19 ⟨h0, rfl, hh0, hb⟩
  have hzz19 := hb.size
  have Bel19 := Lib.hid (below_step Bel18.out hb (Nat.le_refl _))
  have Fw0_19 := Lib.hid (Fw0_18.out.later hb)
  have Fg0_19 := Lib.hid (Fg0_18.out.later hb)
  have Fy0_19 := Lib.hid (Fy0_18.out.later hb)
  have Fy1_19 := Lib.hid (Fy1_18.out.later hb)
  have Fh0_19 := Lib.hid hh0
  clear hb Bel18 hh0 Fw0_18 Fg0_18 Fy0_18 Fy1_18
  clear Fy0_19
  clear Fy1_19
  go_wp2_with fail
  refine (eqI_any R0 _ _ _ hr0 Fh0_19.out.sl Fw0_19.out.sl).mono ?_
  rintro e u20 ⟨rfl, ho⟩
  have hzz20 := Nat.le_of_eq ho.size.symm
  have Bel20 := Lib.hid (Below.still Bel19.out ho)
  have Fw0_20 := Lib.hid (Fw0_19.out.still ho)
  have Fg0_20 := Lib.hid (Fg0_19.out.still ho)
  have Fh0_20 := Lib.hid (Fh0_19.out.still ho)
  clear ho Bel19  Fw0_19 Fg0_19 Fh0_19
  go_wp2_with fail
  refine (heldI_any R0.length _ _ _ _ (1) hr0 (by omega) Fg0_20.out).mono ?_
  rintro e u21 ⟨rfl, ho⟩
  have hzz21 := Nat.le_of_eq ho.size.symm
  have Bel21 := Lib.hid (Below.still Bel20.out ho)
  have Fw0_21 := Lib.hid (Fw0_20.out.still ho)
  have Fg0_21 := Lib.hid (Fg0_20.out.still ho)
  have Fh0_21 := Lib.hid (Fh0_20.out.still ho)
  clear ho Bel20  Fw0_20 Fg0_20 Fh0_20
  go_wp2
  go_ret
  exact ⟨ret_bool (by simp), Bel21.out⟩

set_option maxRecDepth 100000 in
theorem lifted (os : Os) (started : os.Started) (H : Type) (enc : TypeId × Value → H) :
    ReturnsInHanded {} Try.checked os 3 .any (Rows.fnExactSwissPairsSpec.pre6 enc Try.prog Try.f3 Rows.fnExactSwissPairsRow.domain false) (Rows.fnExactSwissPairsSpec.post enc Try.prog Try.f3 false true false false) := by
  refine returnsInHanded_of_change (C := Try.checked) Lift.own started (by kernel_rfl) Try.func3
    (ChangeSpec.witness6 (enc := enc) (C := Try.checked) false ⟨#[], #[.slice none 0 0, .slice none 0 0], []⟩ 8 (by kernel_rfl) (by kernel_rfl) (by kernel_rfl) (by kernel_rfl)) ?_
  intro W base args ds gs before hval0 hW hcnd _
  have hval : ∀ (j : Nat) t v, Try.f3.params[j]? = some t → args[j]? = some v → Value.okWide Try.prog W .any base t v := hval0
  have hW' := hW
  obtain ⟨p, q, hA0, hV, rfl, hfz, hnd⟩ := hW
  have hA : DataW.TrodAll enc Try.prog W 0 (fun _ => true) true Try.f3.params.toList args.toList ds p := hA0
  obtain ⟨rfl, rfl⟩ := trodVars_none hV
  have hA1 := hA
  rw [Try.params3] at hA1 hval
  obtain ⟨v0, vs0, d0, ds0, p0, q0, hargs, rfl, rfl, h0, r0⟩ := trodAll_cons hA1
  obtain ⟨v1, vs1, d1, ds1, p1, q1, rfl, rfl, rfl, h1, r1⟩ := trodAll_cons r0
  obtain ⟨rfl, rfl, rfl⟩ := trodAll_nil r1
  obtain rfl : args = #[v0, v1] := by cases args; simp_all
  simp only [List.append_nil] at hW' hA
  obtain ⟨a0, w0, _, l0⟩ := open_sl (Value.int .i64) 0 (fun b => (Lit.int .i64 b).wf = true) (int_el Try.underlying2) Try.underlying22 (by kernel_rfl) (hval 0 22 v0 rfl rfl) h0
  obtain ⟨a1, w1, _, l1⟩ := open_sl (Value.int .i64) 0 (fun b => (Lit.int .i64 b).wf = true) (int_el Try.underlying2) Try.underlying22 (by kernel_rfl) (hval 1 22 v1 rfl rfl) h1
  refine (walk a0 v0 a1 v1 W w0 l0 w1 l1).mono fun e W' ⟨he, hb⟩ => ?_
  subst he
  refine ⟨_, rfl, Lift.law_post Lift.laidOut hW' hA rfl rfl rfl rfl (by kernel_rfl) Try.underlying4 ?_ hb⟩
  rw [Try.params3]
  intro t ht
  simp only [List.mem_cons, List.not_mem_nil, or_false] at ht
  rcases ht with rfl | rfl <;> exact ⟨by kernel_rfl, of_decide_eq_true (by kernel_rfl)⟩

theorem proved : Rows.FnExactSwissPairsSaid :=
  OpenClaim.holds_of_wide 3 Try.f3 rfl rfl rfl rfl rfl rfl rfl ⟨rfl, rfl, rfl, rfl, rfl⟩ rfl rfl rfl rfl rfl (by kernel_rfl) Try.func3 (by kernel_rfl)
    (of_decide_eq_true (by kernel_rfl)) (by unfold Func.isWrapper; first | (rw [if_pos (by decide +kernel)]; kernel_rfl) | (rw [if_neg (by decide +kernel)]; exact ⟨rfl, rfl⟩))
    (fun os started H enc _ => lifted os started H enc)
end Go.Proofs.Ytfipcpbibmhjoab.fnExactSwissPairs
