/- FnExactCoinsLeft: for every number and two lists, CoinsLeft answers as its model; no condition. -/
import Derived.Test.YtolmhnekfokpdaaLo
import Derived.Test.YtolmhnekfokpdaaCwH
set_option linter.unusedVariables false
namespace Go.Proofs.Ytolmhnekfokpdaa.fnExactCoinsLeft
open Go.ChangeShapes Go.WideShapes Go.ChangeAt Go.RowKit
open Go.ChangeMaps (open_string)

set_option maxHeartbeats 4000000 in
theorem walk (a0 : Int) (al0 : -9223372036854775808 ≤ a0) (au0 : a0 ≤ 9223372036854775807) (fs1 : List Int) (v1 : Value) (fs2 : List Int) (v2 : Value) (w : World) (hs1 : Sl (Value.int .i64) 0 w v1 fs1) (hl1 : fs1.length ≤ maxLen) (hs2 : Sl (Value.int .i64) 0 w v2 fs2) (hl2 : fs2.length ≤ maxLen) : Calls Try.prog 5 #[.int .i64 a0, v1, v2] w fun e w' => e = .returned (.bool true) ∧ Below w.heap.size w w' := by
  unfold maxLen at hl1
  unfold maxLen at hl2
  by_cases hbig1 : 1048576 < fs1.length
  · obtain ⟨p, cap, rfl, hf⟩ := hs1
    clear hf
    obtain ⟨p2, cap2, rfl, hf2⟩ := hs2
    clear hf2
    generalize fs1.length = n1 at *
    generalize fs2.length = n2 at *
    go_enter Try.func5, Try.ntmps5
    go_wp2
    all_goals (go_ret; exact ⟨ret_bool (by simp), Below.refl _ _⟩)
  by_cases hbig2 : 1048576 < fs2.length
  · obtain ⟨p, cap, rfl, hf⟩ := hs2
    clear hf
    have _hsmall1 : fs1.length ≤ 1048576 := by omega
    obtain ⟨p1, cap1, rfl, hf1⟩ := hs1
    clear hf1
    clear hbig1
    generalize fs1.length = n1 at *
    generalize fs2.length = n2 at *
    go_enter Try.func5, Try.ntmps5
    go_wp2
    all_goals (go_ret; exact ⟨ret_bool (by simp), Below.refl _ _⟩)
  have hn1 : fs1.length ≤ 1048576 := by omega
  clear hbig1 hl1
  have hn2 : fs2.length ≤ 1048576 := by omega
  clear hbig2 hl2
  obtain ⟨R0, R1, hr0, Hspec, Himpl⟩ : ∃ (R0 : List Int) (R1 : Bool), R0.length ≤ 1048576 ∧ Hid (∀ (v1 : Value) (v2 : Value) (w : World), Sl (Value.int .i64) 0 w v1 fs1 → Sl (Value.int .i64) 0 w v2 fs2 → Calls Try.prog 23 #[.int .i64 a0, v1, v2] w fun e w' => ∃ r0, e = .returned (.tuple #[r0, .bool R1]) ∧ Sw (Value.int .i64) 0 w' r0 R0 w.heap.size w'.heap.size ∧ Below w.heap.size w w') ∧ Hid (∀ (v1 : Value) (v2 : Value) (w : World), Sl (Value.int .i64) 0 w v1 fs1 → Sl (Value.int .i64) 0 w v2 fs2 → Calls Try.prog 24 #[.int .i64 a0, v1, v2] w fun e w' => ∃ r0, e = .returned (.tuple #[r0, .bool R1]) ∧ Sw (Value.int .i64) 0 w' r0 R0 w.heap.size w'.heap.size ∧ Below w.heap.size w w') := ⟨(res_CoinsLeft a0 fs1 fs2), (ok_CoinsLeft a0 fs1 fs2), (len_CoinsLeft a0 fs1 fs2), Lib.hid fun v1 v2 w h1 h2 => spec_CoinsLeft a0 al0 au0 fs1 v1 fs2 v2 w hn1 h1 hn2 h2, Lib.hid fun v1 v2 w h1 h2 => impl_CoinsLeft a0 al0 au0 fs1 v1 fs2 v2 w hn1 h1 hn2 h2⟩
  have HA1 := Lib.hid hs1
  have HA2 := Lib.hid hs2
  obtain ⟨p1, cap1, rfl, hf1⟩ := hs1
  clear hf1
  obtain ⟨p2, cap2, rfl, hf2⟩ := hs2
  clear hf2
  have hd1 : decide (1048576 < (fs1.length : Int)) = false := decide_eq_false (by omega)
  have hd2 : decide (1048576 < (fs2.length : Int)) = false := decide_eq_false (by omega)
  have Bel0 := Lib.hid (Below.refl w.heap.size w)
  go_enter Try.func5, Try.ntmps5
  go_wp2_with fail
  refine (toI_any fs1 _ _ hn1 (HA1.out.later Bel0.out)).mono ?_
  rintro e u1 ⟨ts1, rfl, ht, hb⟩
  have hz1 := hb.size
  have Bel1 := Lib.hid (below_step Bel0.out hb (Nat.le_refl _))
  have Fs1_1 := Lib.hid ht
  clear hb ht Bel0
  go_wp2_with fail
  refine (toI_any fs2 _ _ hn2 (HA2.out.later Bel1.out)).mono ?_
  rintro e u2 ⟨ts2, rfl, ht, hb⟩
  have hz2 := hb.size
  have Bel2 := Lib.hid (below_step Bel1.out hb (Nat.le_refl _))
  have Fs1_2 := Lib.hid (Fs1_1.out.later hb)
  have Fs2_2 := Lib.hid ht
  clear hb ht Fs1_1 Bel1
  go_wp2_with fail
  refine (Hspec.out _ _ _ Fs1_2.out.sl Fs2_2.out.sl).mono ?_
  rintro e u3 ⟨w0, rfl, hw0, hb⟩
  have hz3 := hb.size
  have Bel3 := Lib.hid (below_step Bel2.out hb (Nat.le_refl _))
  have Fs1_3 := Lib.hid (Fs1_2.out.later hb)
  have Fs2_3 := Lib.hid (Fs2_2.out.later hb)
  have Fw0_3 := Lib.hid hw0
  clear hb hw0 Fs1_2 Fs2_2 Bel2
  clear Fs1_3
  clear Fs2_3
  go_wp2_with fail
  refine (toI_any fs1 _ _ hn1 (HA1.out.later Bel3.out)).mono ?_
  rintro e u4 ⟨tx1, rfl, ht, hb⟩
  have hz4 := hb.size
  have Bel4 := Lib.hid (below_step Bel3.out hb (Nat.le_refl _))
  have Fw0_4 := Lib.hid (Fw0_3.out.later hb)
  have Fx1_4 := Lib.hid ht
  clear hb ht Fw0_3 Bel3
  go_wp2_with fail
  refine (toI_any fs2 _ _ hn2 (HA2.out.later Bel4.out)).mono ?_
  rintro e u5 ⟨tx2, rfl, ht, hb⟩
  have hz5 := hb.size
  have Bel5 := Lib.hid (below_step Bel4.out hb (Nat.le_refl _))
  have Fw0_5 := Lib.hid (Fw0_4.out.later hb)
  have Fx1_5 := Lib.hid (Fx1_4.out.later hb)
  have Fx2_5 := Lib.hid ht
  clear hb ht Fw0_4 Fx1_4 Bel4
  go_wp2_with fail
  refine (Himpl.out _ _ _ Fx1_5.out.sl Fx2_5.out.sl).mono ?_
  rintro e u6 ⟨g0, rfl, hg0, hb⟩
  have hz6 := hb.size
  have Bel6 := Lib.hid (below_step Bel5.out hb (Nat.le_refl _))
  have Fw0_6 := Lib.hid (Fw0_5.out.later hb)
  have Fx1_6 := Lib.hid (Fx1_5.out.later hb)
  have Fx2_6 := Lib.hid (Fx2_5.out.later hb)
  have Fg0_6 := Lib.hid hg0
  clear hb hg0 Fw0_5 Fx1_5 Fx2_5 Bel5
  go_wp2_with fail
  refine (eqI_any R0 _ _ _ hr0 Fg0_6.out.sl Fw0_6.out.sl).mono ?_
  rintro e u7 ⟨rfl, ho⟩
  have hz7 := Nat.le_of_eq ho.size.symm
  have Bel7 := Lib.hid (Below.still Bel6.out ho)
  have Fw0_7 := Lib.hid (Fw0_6.out.still ho)
  have Fx1_7 := Lib.hid (Fx1_6.out.still ho)
  have Fx2_7 := Lib.hid (Fx2_6.out.still ho)
  have Fg0_7 := Lib.hid (Fg0_6.out.still ho)
  clear ho Fw0_6 Fx1_6 Fx2_6 Fg0_6 Bel6
  go_wp2_with fail
  refine (toI_any fs1 _ _ hn1 (HA1.out.later Bel7.out)).mono ?_
  rintro e u8 ⟨tc1, rfl, ht, hb⟩
  have hz8 := hb.size
  have Bel8 := Lib.hid (below_step Bel7.out hb (Nat.le_refl _))
  have Fw0_8 := Lib.hid (Fw0_7.out.later hb)
  have Fx1_8 := Lib.hid (Fx1_7.out.later hb)
  have Fx2_8 := Lib.hid (Fx2_7.out.later hb)
  have Fg0_8 := Lib.hid (Fg0_7.out.later hb)
  have Fc1_8 := Lib.hid ht
  clear hb ht Fw0_7 Fx1_7 Fx2_7 Fg0_7 Bel7
  go_wp2_with fail
  refine (eqI_any fs1 _ _ _ hn1 Fx1_8.out.sl Fc1_8.out.sl).mono ?_
  rintro e u9 ⟨rfl, ho⟩
  have hz9 := Nat.le_of_eq ho.size.symm
  have Bel9 := Lib.hid (Below.still Bel8.out ho)
  have Fw0_9 := Lib.hid (Fw0_8.out.still ho)
  have Fx1_9 := Lib.hid (Fx1_8.out.still ho)
  have Fx2_9 := Lib.hid (Fx2_8.out.still ho)
  have Fg0_9 := Lib.hid (Fg0_8.out.still ho)
  have Fc1_9 := Lib.hid (Fc1_8.out.still ho)
  clear ho Fw0_8 Fx1_8 Fx2_8 Fg0_8 Fc1_8 Bel8
  clear Fc1_9
  go_wp2_with fail
  refine (toI_any fs2 _ _ hn2 (HA2.out.later Bel9.out)).mono ?_
  rintro e u10 ⟨tc2, rfl, ht, hb⟩
  have hz10 := hb.size
  have Bel10 := Lib.hid (below_step Bel9.out hb (Nat.le_refl _))
  have Fw0_10 := Lib.hid (Fw0_9.out.later hb)
  have Fx1_10 := Lib.hid (Fx1_9.out.later hb)
  have Fx2_10 := Lib.hid (Fx2_9.out.later hb)
  have Fg0_10 := Lib.hid (Fg0_9.out.later hb)
  have Fc2_10 := Lib.hid ht
  clear hb ht Fw0_9 Fx1_9 Fx2_9 Fg0_9 Bel9
  go_wp2_with fail
  refine (eqI_any fs2 _ _ _ hn2 Fx2_10.out.sl Fc2_10.out.sl).mono ?_
  rintro e u11 ⟨rfl, ho⟩
  have hz11 := Nat.le_of_eq ho.size.symm
  have Bel11 := Lib.hid (Below.still Bel10.out ho)
  have Fw0_11 := Lib.hid (Fw0_10.out.still ho)
  have Fx1_11 := Lib.hid (Fx1_10.out.still ho)
  have Fx2_11 := Lib.hid (Fx2_10.out.still ho)
  have Fg0_11 := Lib.hid (Fg0_10.out.still ho)
  have Fc2_11 := Lib.hid (Fc2_10.out.still ho)
  clear ho Fw0_10 Fx1_10 Fx2_10 Fg0_10 Fc2_10 Bel10
  clear Fc2_11
  go_wp2_with fail
  refine (markI_any _ _ _ _ _ (1) hn1 (by omega) Fx1_11.out).mono ?_
  rintro e u12 ⟨rfl, ht, ho⟩
  have hz12 := Nat.le_of_eq ho.size.symm
  have Bel12 := Lib.hid (Below.only Bel11.out ho (by have := Below.size Bel11.out; omega))
  have Fw0_12 := Lib.hid (Fw0_11.out.apart ho (by omega))
  have Fx1_12 := Lib.hid ht
  have Fx2_12 := Lib.hid (Fx2_11.out.apart ho (by omega))
  have Fg0_12 := Lib.hid (Fg0_11.out.apart ho (by omega))
  clear ho ht Fw0_11 Fx1_11 Fx2_11 Fg0_11 Bel11
  go_wp2_with fail
  refine (markI_any _ _ _ _ _ (1 + fs1.length) hn2 (by omega) Fx2_12.out).mono ?_
  rintro e u13 ⟨rfl, ht, ho⟩
  have hz13 := Nat.le_of_eq ho.size.symm
  have Bel13 := Lib.hid (Below.only Bel12.out ho (by have := Below.size Bel12.out; omega))
  have Fw0_13 := Lib.hid (Fw0_12.out.apart ho (by omega))
  have Fx1_13 := Lib.hid (Fx1_12.out.apart ho (by omega))
  have Fx2_13 := Lib.hid ht
  have Fg0_13 := Lib.hid (Fg0_12.out.apart ho (by omega))
  clear ho ht Fw0_12 Fx1_12 Fx2_12 Fg0_12 Bel12
  go_wp2_with fail
  refine (eqI_any R0 _ _ _ hr0 Fg0_13.out.sl Fw0_13.out.sl).mono ?_
  rintro e u14 ⟨rfl, ho⟩
  have hz14 := Nat.le_of_eq ho.size.symm
  have Bel14 := Lib.hid (Below.still Bel13.out ho)
  have Fw0_14 := Lib.hid (Fw0_13.out.still ho)
  have Fx1_14 := Lib.hid (Fx1_13.out.still ho)
  have Fx2_14 := Lib.hid (Fx2_13.out.still ho)
  have Fg0_14 := Lib.hid (Fg0_13.out.still ho)
  clear ho Fw0_13 Fx1_13 Fx2_13 Fg0_13 Bel13
  clear Fx1_14
  clear Fx2_14
  go_wp2_with fail
  refine (markI_any _ _ _ _ _ (1) hr0 (by omega) Fg0_14.out).mono ?_
  rintro e u15 ⟨rfl, ht, ho⟩
  have hz15 := Nat.le_of_eq ho.size.symm
  have Bel15 := Lib.hid (Below.only Bel14.out ho (by have := Below.size Bel14.out; omega))
  have Fw0_15 := Lib.hid (Fw0_14.out.apart ho (by omega))
  have Fg0_15 := Lib.hid ht
  clear ho ht Fw0_14 Fg0_14 Bel14
  go_wp2_with fail
  refine (heldI_any R0.length _ _ _ _ (1) hr0 (by omega) Fg0_15.out).mono ?_
  rintro e u16 ⟨rfl, ho⟩
  have hz16 := Nat.le_of_eq ho.size.symm
  have Bel16 := Lib.hid (Below.still Bel15.out ho)
  have Fw0_16 := Lib.hid (Fw0_15.out.still ho)
  have Fg0_16 := Lib.hid (Fg0_15.out.still ho)
  clear ho Fw0_15 Fg0_15 Bel15
  go_wp2_with fail
  refine (toI_any fs1 _ _ hn1 (HA1.out.later Bel16.out)).mono ?_
  rintro e u17 ⟨ty1, rfl, ht, hb⟩
  have hz17 := hb.size
  have Bel17 := Lib.hid (below_step Bel16.out hb (Nat.le_refl _))
  have Fw0_17 := Lib.hid (Fw0_16.out.later hb)
  have Fg0_17 := Lib.hid (Fg0_16.out.later hb)
  have Fy1_17 := Lib.hid ht
  clear hb ht Fw0_16 Fg0_16 Bel16
  go_wp2_with fail
  refine (toI_any fs2 _ _ hn2 (HA2.out.later Bel17.out)).mono ?_
  rintro e u18 ⟨ty2, rfl, ht, hb⟩
  have hz18 := hb.size
  have Bel18 := Lib.hid (below_step Bel17.out hb (Nat.le_refl _))
  have Fw0_18 := Lib.hid (Fw0_17.out.later hb)
  have Fg0_18 := Lib.hid (Fg0_17.out.later hb)
  have Fy1_18 := Lib.hid (Fy1_17.out.later hb)
  have Fy2_18 := Lib.hid ht
  clear hb ht Fw0_17 Fg0_17 Fy1_17 Bel17
  go_wp2_with fail
  refine (Himpl.out _ _ _ Fy1_18.out.sl Fy2_18.out.sl).mono ?_
  rintro e u19 ⟨h0, rfl, hh0, hb⟩
  have hz19 := hb.size
  have Bel19 := Lib.hid (below_step Bel18.out hb (Nat.le_refl _))
  have Fw0_19 := Lib.hid (Fw0_18.out.later hb)
  have Fg0_19 := Lib.hid (Fg0_18.out.later hb)
  have Fy1_19 := Lib.hid (Fy1_18.out.later hb)
  have Fy2_19 := Lib.hid (Fy2_18.out.later hb)
  have Fh0_19 := Lib.hid hh0
  clear hb hh0 Fw0_18 Fg0_18 Fy1_18 Fy2_18 Bel18
  clear Fy1_19
  clear Fy2_19
  go_wp2_with fail
  refine (eqI_any R0 _ _ _ hr0 Fh0_19.out.sl Fw0_19.out.sl).mono ?_
  rintro e u20 ⟨rfl, ho⟩
  have hz20 := Nat.le_of_eq ho.size.symm
  have Bel20 := Lib.hid (Below.still Bel19.out ho)
  have Fw0_20 := Lib.hid (Fw0_19.out.still ho)
  have Fg0_20 := Lib.hid (Fg0_19.out.still ho)
  have Fh0_20 := Lib.hid (Fh0_19.out.still ho)
  clear ho Fw0_19 Fg0_19 Fh0_19 Bel19
  go_wp2_with fail
  refine (heldI_any R0.length _ _ _ _ (1) hr0 (by omega) Fg0_20.out).mono ?_
  rintro e u21 ⟨rfl, ho⟩
  have hz21 := Nat.le_of_eq ho.size.symm
  have Bel21 := Lib.hid (Below.still Bel20.out ho)
  have Fw0_21 := Lib.hid (Fw0_20.out.still ho)
  have Fg0_21 := Lib.hid (Fg0_20.out.still ho)
  have Fh0_21 := Lib.hid (Fh0_20.out.still ho)
  clear ho Fw0_20 Fg0_20 Fh0_20 Bel20
  go_wp2
  go_ret
  exact ⟨ret_bool (by simp), Bel21.out⟩

set_option maxRecDepth 100000 in
theorem lifted (os : Os) (started : os.Started) (H : Type) (enc : TypeId × Value → H) :
    ReturnsInHanded {} Try.checked os 5 .any (Rows.fnExactCoinsLeftSpec.pre6 enc Try.prog Try.f5 Rows.fnExactCoinsLeftRow.domain false) (Rows.fnExactCoinsLeftSpec.post enc Try.prog Try.f5 false true false false) := by
  refine returnsInHanded_of_change (C := Try.checked) Lift.own started (by kernel_rfl) Try.func5
    (ChangeSpec.witness6 (enc := enc) (C := Try.checked) false ⟨#[], #[.int .i64 0, .slice none 0 0, .slice none 0 0], []⟩ 8 (by kernel_rfl) (by kernel_rfl) (by kernel_rfl) (by kernel_rfl)) ?_
  intro W base args ds gs before hval0 hW hcnd _
  have hval : ∀ (j : Nat) t v, Try.f5.params[j]? = some t → args[j]? = some v → Value.okWide Try.prog W .any base t v := hval0
  have hW' := hW
  obtain ⟨p, q, hA0, hV, rfl, hfz, hnd⟩ := hW
  have hA : DataW.TrodAll enc Try.prog W 0 (fun _ => true) true Try.f5.params.toList args.toList ds p := hA0
  obtain ⟨rfl, rfl⟩ := trodVars_none hV
  have hA1 := hA
  rw [Try.params5] at hA1 hval
  obtain ⟨v0, vs0, d0, ds0, p0, q0, hargs, rfl, rfl, h0, r0⟩ := trodAll_cons hA1
  obtain ⟨v1, vs1, d1, ds1, p1, q1, rfl, rfl, rfl, h1, r1⟩ := trodAll_cons r0
  obtain ⟨v2, vs2, d2, ds2, p2, q2, rfl, rfl, rfl, h2, r2⟩ := trodAll_cons r1
  obtain ⟨rfl, rfl, rfl⟩ := trodAll_nil r2
  obtain rfl : args = #[v0, v1, v2] := by cases args; simp_all
  simp only [List.append_nil] at hW' hA
  obtain ⟨a0, rfl, rfl, rfl, w0⟩ := open_int Try.underlying2 (hval 0 2 v0 rfl rfl) h0
  obtain ⟨a1, w1, _, l1⟩ := open_sl (Value.int .i64) 0 (fun b => (Lit.int .i64 b).wf = true) (int_el Try.underlying2) Try.underlying22 (by kernel_rfl) (hval 1 22 v1 rfl rfl) h1
  obtain ⟨a2, w2, _, l2⟩ := open_sl (Value.int .i64) 0 (fun b => (Lit.int .i64 b).wf = true) (int_el Try.underlying2) Try.underlying22 (by kernel_rfl) (hval 2 22 v2 rfl rfl) h2
  refine (walk a0 (wfi64 w0).1 (wfi64 w0).2 a1 v1 a2 v2 W w1 l1 w2 l2).mono fun e W' ⟨he, hb⟩ => ?_
  subst he
  refine ⟨_, rfl, Lift.law_post Lift.laidOut hW' hA rfl rfl rfl rfl (by kernel_rfl) Try.underlying4 ?_ hb⟩
  rw [Try.params5]
  intro t ht
  simp only [List.mem_cons, List.not_mem_nil, or_false] at ht
  rcases ht with rfl | rfl | rfl <;> exact ⟨by kernel_rfl, of_decide_eq_true (by kernel_rfl)⟩

theorem proved : Rows.FnExactCoinsLeftSaid :=
  OpenClaim.holds_of_wide 5 Try.f5 rfl rfl rfl rfl rfl rfl rfl ⟨rfl, rfl, rfl, rfl, rfl⟩ rfl rfl rfl rfl rfl (by kernel_rfl) Try.func5 (by kernel_rfl)
    (of_decide_eq_true (by kernel_rfl)) (by unfold Func.isWrapper; first | (rw [if_pos (by decide +kernel)]; kernel_rfl) | (rw [if_neg (by decide +kernel)]; exact ⟨rfl, rfl⟩))
    (fun os started H enc _ => lifted os started H enc)
end Go.Proofs.Ytolmhnekfokpdaa.fnExactCoinsLeft
