/- FnExactSumCounts: for every list of dice, SumCounts answers as its model; no condition. -/
import Derived.Test.YtaimbadajgjhaaaLo
import Derived.Test.YtaimbadajgjhaaaMe
import Derived.Test.YtaimbadajgjhaaaMy
import Derived.Deep.RegionLawGrows
set_option linter.unusedVariables false
namespace Go.Proofs.Ytaimbadajgjhaaa.fnExactSumCounts
open Go.ChangeShapes Go.WideShapes Go.ChangeAt Go.RowKit
open Go.ChangeMaps (open_string)

set_option maxRecDepth 100000 in
set_option maxHeartbeats 4000000 in
theorem walk (fs0 : List (List Int)) (v0 : Value) (w : World) (hs0 : SlD w v0 fs0) (hl0 : fs0.length ≤ maxLen ∧ ∀ i, i < fs0.length → (fs0.getD i []).length ≤ maxLen) : Calls Try.prog 4 #[v0] w fun e w' => e = .returned (.bool true) ∧ Below w.heap.size w w' := by
  have HS0 := Lib.hid (fun z (hb : Below w.heap.size w z) left h1 h0 => szDs_any fs0 v0 left z hl0.1 hl0.2 (hs0.later hb) h1 h0)
  have HA0 := Lib.hid hs0
  obtain ⟨p0, cap0, rfl, _⟩ := hs0
  obtain ⟨l0, hz0⟩ : ∃ l, l = szV (fs0.length + totD fs0 fs0.length) 1048576 := ⟨_, rfl⟩
  have Hz0 := Lib.hid hz0
  clear hz0
  by_cases hneg0 : l0 < 0
  · skip
    go_enter Try.func4, Try.ntmps4
    have Bel0 := Lib.hid (Below.refl w.heap.size w)
    go_wp2_with fail
    refine (HS0.out _ Bel0.out _ (by omega) (by omega)).mono ?_
    rintro e u1 ⟨rfl, hb⟩
    rw [← Hz0.out]
    have Bel1 := Lib.hid (below_step Bel0.out hb (Nat.le_refl _))
    have hzz1 := hb.size
    clear hb Bel0 
    go_wp2
    go_ret
    exact ⟨ret_bool (by simp), Bel1.out⟩
  have hl1_0 : l0 ≤ 1048576 := by have hz := Hz0.out; unfold szV at hz; split at hz <;> omega
  have hn0 : fs0.length ≤ 1048576 ∧ totD fs0 fs0.length ≤ 1048576 := by have hz := Hz0.out; unfold szV at hz; split at hz <;> omega
  obtain ⟨R0, R1, R2, hr0, Hspec, Himpl⟩ : ∃ (R0 : List Int) (R1 : Int) (R2 : Bool), R0.length ≤ 1048576 ∧ Hid (∀ (v0 : Value) (w : World), SlD w v0 fs0 → Calls Try.prog 21 #[v0] w fun e w' => ∃ r0, e = .returned (.tuple #[r0, .int .i64 R1, .bool R2]) ∧ Sw (Value.int .i64) 0 w' r0 R0 w.heap.size w'.heap.size ∧ Below w.heap.size w w') ∧ Hid (∀ (v0 : Value) (w : World), SlD w v0 fs0 → Calls Try.prog 23 #[v0] w fun e w' => ∃ r0, e = .returned (.tuple #[r0, .int .i64 R1, .bool R2]) ∧ Sw (Value.int .i64) 0 w' r0 R0 w.heap.size w'.heap.size ∧ Below w.heap.size w w') := ⟨(res_SumCounts fs0), (res2_SumCounts fs0), (ok_SumCounts fs0), (len_SumCounts fs0), Lib.hid fun v0 w h0 => spec_SumCounts fs0 v0 w hn0.1 hn0.2 h0, Lib.hid fun v0 w h0 => impl_SumCounts fs0 v0 w hn0.1 hn0.2 h0⟩
  go_enter Try.func4, Try.ntmps4
  have Bel0 := Lib.hid (Below.refl w.heap.size w)
  go_wp2_with fail
  refine (HS0.out _ Bel0.out _ (by omega) (by omega)).mono ?_
  rintro e u1 ⟨rfl, hb⟩
  rw [← Hz0.out]
  have Bel1 := Lib.hid (below_step Bel0.out hb (Nat.le_refl _))
  have hzz1 := hb.size
  clear hb Bel0 
  go_wp2_with fail
  refine (toDs_any fs0 _ _ hn0.1 hn0.2 (HA0.out.later Bel1.out)).mono ?_
  rintro e u2 ⟨ts0, rfl, ht, hb⟩
  have Bel2 := Lib.hid (below_step Bel1.out hb (Nat.le_refl _))
  have hzz2 := hb.size
  have Fs0_2 := Lib.hid ht
  clear hb Bel1 
  clear ht
  go_wp2_with fail
  refine (Hspec.out _ _ Fs0_2.out.sl).mono ?_
  rintro e u3 ⟨w0, rfl, hw0, hb⟩
  have Bel3 := Lib.hid (below_step Bel2.out hb (Nat.le_refl _))
  have hzz3 := hb.size
  have Fs0_3 := Lib.hid (Fs0_2.out.later hb)
  have Fw0_3 := Lib.hid hw0
  clear hb Bel2 Fs0_2
  clear hw0
  clear Fs0_3
  go_wp2_with fail
  refine (toDs_any fs0 _ _ hn0.1 hn0.2 (HA0.out.later Bel3.out)).mono ?_
  rintro e u4 ⟨tx0, rfl, ht, hb⟩
  have Bel4 := Lib.hid (below_step Bel3.out hb (Nat.le_refl _))
  have hzz4 := hb.size
  have Fw0_4 := Lib.hid (Fw0_3.out.later hb)
  have Fx0_4 := Lib.hid ht
  clear hb Bel3 Fw0_3
  clear ht
  go_wp2_with fail
  refine (Himpl.out _ _ Fx0_4.out.sl).mono ?_
  rintro e u5 ⟨g0, rfl, hg0, hb⟩
  have Bel5 := Lib.hid (below_step Bel4.out hb (Nat.le_refl _))
  have hzz5 := hb.size
  have Fw0_5 := Lib.hid (Fw0_4.out.later hb)
  have Fx0_5 := Lib.hid (Fx0_4.out.later hb)
  have Fg0_5 := Lib.hid hg0
  clear hb Bel4 Fw0_4 Fx0_4
  clear hg0
  go_wp2_with fail
  refine (eqI_any R0 _ _ _ hr0 Fg0_5.out.sl Fw0_5.out.sl).mono ?_
  rintro e u6 ⟨rfl, ho⟩
  have hzz6 := Nat.le_of_eq ho.size.symm
  have Bel6 := Lib.hid (Below.still Bel5.out ho)
  have Fw0_6 := Lib.hid (Fw0_5.out.still ho)
  have Fx0_6 := Lib.hid (Fx0_5.out.still ho)
  have Fg0_6 := Lib.hid (Fg0_5.out.still ho)
  clear ho Bel5  Fw0_5 Fx0_5 Fg0_5
  go_wp2_with fail
  refine (toDs_any fs0 _ _ hn0.1 hn0.2 (HA0.out.later Bel6.out)).mono ?_
  rintro e u7 ⟨tc0, rfl, ht, hb⟩
  have Bel7 := Lib.hid (below_step Bel6.out hb (Nat.le_refl _))
  have hzz7 := hb.size
  have Fw0_7 := Lib.hid (Fw0_6.out.later hb)
  have Fx0_7 := Lib.hid (Fx0_6.out.later hb)
  have Fg0_7 := Lib.hid (Fg0_6.out.later hb)
  have Fc0_7 := Lib.hid ht
  clear hb Bel6 Fw0_6 Fx0_6 Fg0_6
  clear ht
  go_wp2_with fail
  refine (eqDs_any fs0 _ _ _ hn0.1 hn0.2 Fx0_7.out.sl Fc0_7.out.sl).mono ?_
  rintro e u8 ⟨rfl, hb⟩
  have Bel8 := Lib.hid (below_step Bel7.out hb (Nat.le_refl _))
  have hzz8 := hb.size
  have Fw0_8 := Lib.hid (Fw0_7.out.later hb)
  have Fx0_8 := Lib.hid (Fx0_7.out.later hb)
  have Fg0_8 := Lib.hid (Fg0_7.out.later hb)
  have Fc0_8 := Lib.hid (Fc0_7.out.later hb)
  clear hb Bel7 Fw0_7 Fx0_7 Fg0_7 Fc0_7
  clear Fc0_8
  go_wp2_with fail
  refine (markDs_any fs0 _ _ _ _ (1) hn0.1 hn0.2 (by omega) Fx0_8.out).mono ?_
  rintro e u9 ⟨rfl, ho⟩
  have hzz9 := Nat.le_of_eq ho.size.symm
  have Bel9 := Lib.hid (Below.only Bel8.out ho (by have := Below.size Bel8.out; omega))
  have Fw0_9 := Lib.hid (Fw0_8.out.apart ho (by omega))
  have Fg0_9 := Lib.hid (Fg0_8.out.apart ho (by omega))
  clear ho Bel8  Fw0_8 Fx0_8 Fg0_8
  go_wp2_with fail
  refine (eqI_any R0 _ _ _ hr0 Fg0_9.out.sl Fw0_9.out.sl).mono ?_
  rintro e u10 ⟨rfl, ho⟩
  have hzz10 := Nat.le_of_eq ho.size.symm
  have Bel10 := Lib.hid (Below.still Bel9.out ho)
  have Fw0_10 := Lib.hid (Fw0_9.out.still ho)
  have Fg0_10 := Lib.hid (Fg0_9.out.still ho)
  clear ho Bel9  Fw0_9 Fg0_9
  go_wp2_with fail
  refine (markI_any _ _ _ _ _ (1) hr0 (by omega) Fg0_10.out).mono ?_
  rintro e u11 ⟨rfl, ht, ho⟩
  have hzz11 := Nat.le_of_eq ho.size.symm
  have Bel11 := Lib.hid (Below.only Bel10.out ho (by have := Below.size Bel10.out; omega))
  have Fw0_11 := Lib.hid (Fw0_10.out.apart ho (by omega))
  have Fg0_11 := Lib.hid ht
  clear ho Bel10 ht Fw0_10 Fg0_10
  go_wp2_with fail
  refine (heldI_any R0.length _ _ _ _ (1) hr0 (by omega) Fg0_11.out).mono ?_
  rintro e u12 ⟨rfl, ho⟩
  have hzz12 := Nat.le_of_eq ho.size.symm
  have Bel12 := Lib.hid (Below.still Bel11.out ho)
  have Fw0_12 := Lib.hid (Fw0_11.out.still ho)
  have Fg0_12 := Lib.hid (Fg0_11.out.still ho)
  clear ho Bel11  Fw0_11 Fg0_11
  go_wp2_with fail
  refine (toDs_any fs0 _ _ hn0.1 hn0.2 (HA0.out.later Bel12.out)).mono ?_
  rintro e u13 ⟨ty0, rfl, ht, hb⟩
  have Bel13 := Lib.hid (below_step Bel12.out hb (Nat.le_refl _))
  have hzz13 := hb.size
  have Fw0_13 := Lib.hid (Fw0_12.out.later hb)
  have Fg0_13 := Lib.hid (Fg0_12.out.later hb)
  have Fy0_13 := Lib.hid ht
  clear hb Bel12 Fw0_12 Fg0_12
  clear ht
  go_wp2_with fail
  refine (Himpl.out _ _ Fy0_13.out.sl).mono ?_
  rintro e u14 ⟨h0, rfl, hh0, hb⟩
  have Bel14 := Lib.hid (below_step Bel13.out hb (Nat.le_refl _))
  have hzz14 := hb.size
  have Fw0_14 := Lib.hid (Fw0_13.out.later hb)
  have Fg0_14 := Lib.hid (Fg0_13.out.later hb)
  have Fy0_14 := Lib.hid (Fy0_13.out.later hb)
  have Fh0_14 := Lib.hid hh0
  clear hb Bel13 Fw0_13 Fg0_13 Fy0_13
  clear hh0
  go_wp2_with fail
  refine (eqI_any R0 _ _ _ hr0 Fh0_14.out.sl Fw0_14.out.sl).mono ?_
  rintro e u15 ⟨rfl, ho⟩
  have hzz15 := Nat.le_of_eq ho.size.symm
  have Bel15 := Lib.hid (Below.still Bel14.out ho)
  have Fw0_15 := Lib.hid (Fw0_14.out.still ho)
  have Fg0_15 := Lib.hid (Fg0_14.out.still ho)
  have Fy0_15 := Lib.hid (Fy0_14.out.still ho)
  have Fh0_15 := Lib.hid (Fh0_14.out.still ho)
  clear ho Bel14  Fw0_14 Fg0_14 Fy0_14 Fh0_14
  go_wp2_with fail
  refine (heldI_any R0.length _ _ _ _ (1) hr0 (by omega) Fg0_15.out).mono ?_
  rintro e u16 ⟨rfl, ho⟩
  have hzz16 := Nat.le_of_eq ho.size.symm
  have Bel16 := Lib.hid (Below.still Bel15.out ho)
  have Fw0_16 := Lib.hid (Fw0_15.out.still ho)
  have Fg0_16 := Lib.hid (Fg0_15.out.still ho)
  have Fy0_16 := Lib.hid (Fy0_15.out.still ho)
  have Fh0_16 := Lib.hid (Fh0_15.out.still ho)
  clear ho Bel15  Fw0_15 Fg0_15 Fy0_15 Fh0_15
  go_wp2
  go_ret
  exact ⟨ret_bool (by simp), Bel16.out⟩

set_option maxRecDepth 100000 in
theorem lifted (os : Os) (started : os.Started) (H : Type) (enc : TypeId × Value → H) :
    ReturnsInHanded {} Try.checked os 4 .any (Rows.fnExactSumCountsSpec.pre6 enc Try.prog Try.f4 Rows.fnExactSumCountsRow.domain false) (Rows.fnExactSumCountsSpec.post enc Try.prog Try.f4 false true false false) := by
  refine returnsInHanded_of_change (C := Try.checked) Lift.own started (by kernel_rfl) Try.func4
    (ChangeSpec.witness6 (enc := enc) (C := Try.checked) false ⟨#[], #[.slice none 0 0], []⟩ 8 (by kernel_rfl) (by kernel_rfl) (by kernel_rfl) (by kernel_rfl)) ?_
  intro W base args ds gs before hval0 hW hcnd _
  have hval : ∀ (j : Nat) t v, Try.f4.params[j]? = some t → args[j]? = some v → Value.okWide Try.prog W .any base t v := hval0
  have hW' := hW
  obtain ⟨p, q, hA0, hV, rfl, hfz, hnd⟩ := hW
  have hA : DataW.TrodAll enc Try.prog W 0 (fun _ => true) true Try.f4.params.toList args.toList ds p := hA0
  obtain ⟨rfl, rfl⟩ := trodVars_none hV
  have hA1 := hA
  rw [Try.params4] at hA1 hval
  obtain ⟨v0, vs0, d0, ds0, p0, q0, hargs, rfl, rfl, h0, r0⟩ := trodAll_cons hA1
  obtain ⟨rfl, rfl, rfl⟩ := trodAll_nil r0
  obtain rfl : args = #[v0] := by cases args; simp_all
  simp only [List.append_nil] at hW' hA
  obtain ⟨a0, w0, l0⟩ := open_dice Try.underlying2 Try.underlying22 (by kernel_rfl) Try.underlying24 (by kernel_rfl) rfl (by kernel_rfl) Try.underlying31 (hval 0 31 v0 rfl rfl) h0
  refine (walk a0 v0 W w0 l0).mono fun e W' ⟨he, hb⟩ => ?_
  subst he
  refine ⟨_, rfl, Lift.law_post Lift.laidOut hW' hA rfl rfl rfl rfl (by kernel_rfl) Try.underlying4 ?_ hb⟩
  rw [Try.params4]
  intro t ht
  simp only [List.mem_cons, List.not_mem_nil, or_false] at ht
  subst ht; exact ⟨by kernel_rfl, of_decide_eq_true (by kernel_rfl)⟩

theorem proved : Rows.FnExactSumCountsSaid :=
  OpenClaim.holds_of_wide 4 Try.f4 rfl rfl rfl rfl rfl rfl rfl ⟨rfl, rfl, rfl, rfl, rfl⟩ rfl rfl rfl rfl rfl (by kernel_rfl) Try.func4 (by kernel_rfl)
    (of_decide_eq_true (by kernel_rfl)) (by unfold Func.isWrapper; first | (rw [if_pos (by decide +kernel)]; kernel_rfl) | (rw [if_neg (by decide +kernel)]; exact ⟨rfl, rfl⟩))
    (fun os started H enc _ => lifted os started H enc)
end Go.Proofs.Ytaimbadajgjhaaa.fnExactSumCounts
