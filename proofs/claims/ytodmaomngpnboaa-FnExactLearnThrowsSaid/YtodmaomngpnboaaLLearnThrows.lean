/- FnExactLearnThrows: for every list and number, LearnThrows answers as its model; no condition. -/
import Derived.Test.YtodmaomngpnboaaLo
import Derived.Test.YtodmaomngpnboaaTrG
import Derived.Test.YtodmaomngpnboaaTrH
set_option linter.unusedVariables false
namespace Go.Proofs.Ytodmaomngpnboaa.fnExactLearnThrows
open Go.ChangeShapes Go.WideShapes Go.ChangeAt Go.RowKit
open Go.ChangeMaps (open_string)

set_option maxRecDepth 100000 in
set_option maxHeartbeats 4000000 in
theorem walk (fs0 : List Int) (v0 : Value) (a1 : Int) (al1 : -9223372036854775808 ≤ a1) (au1 : a1 ≤ 9223372036854775807) (w : World) (hs0 : Sl (Value.int .i64) 0 w v0 fs0) (hl0 : fs0.length ≤ maxLen) : Calls Try.prog 3 #[v0, .int .i64 a1] w fun e w' => e = .returned (.bool true) ∧ Below w.heap.size w w' := by
  unfold maxLen at hl0
  by_cases hbig0 : 1048576 < fs0.length
  · skip
    obtain ⟨p0, cap0, rfl, hf0⟩ := hs0
    clear hf0
    generalize fs0.length = m0 at *
    go_enter Try.func3, Try.ntmps3
    go_wp2
    all_goals (go_ret; exact ⟨ret_bool (by simp), Below.refl _ _⟩)
  have hn0 : fs0.length ≤ 1048576 := by omega
  clear hbig0 hl0
  have HA0 := Lib.hid hs0
  obtain ⟨p0, cap0, rfl, hf0⟩ := hs0
  clear hf0
  have hd0 : decide (1048576 < (fs0.length : Int)) = false := decide_eq_false (by omega)
  obtain ⟨R0, R1, R2, hr0, hr1, Hspec, Himpl⟩ : ∃ (R0 : List Int) (R1 : List Int) (R2 : Bool), R0.length ≤ 1048576 ∧ R1.length ≤ 1048576 ∧ Hid (∀ (v0 : Value) (w : World), Sl (Value.int .i64) 0 w v0 fs0 → Calls Try.prog 15 #[v0, .int .i64 a1] w fun e w' => ∃ r0, ∃ r1, e = .returned (.tuple #[r0, r1, .bool R2]) ∧ TwoB w w' r0 r1 R0 R1 ∧ Below w.heap.size w w') ∧ Hid (∀ (v0 : Value) (w : World), Sl (Value.int .i64) 0 w v0 fs0 → Calls Try.prog 17 #[v0, .int .i64 a1] w fun e w' => ∃ r0, ∃ r1, e = .returned (.tuple #[r0, r1, .bool R2]) ∧ TwoB w w' r0 r1 R0 R1 ∧ Below w.heap.size w w') := ⟨(res_LearnThrows fs0 a1), (res2_LearnThrows fs0 a1), (ok_LearnThrows fs0 a1), (len_LearnThrows fs0 a1), (len2_LearnThrows fs0 a1), Lib.hid fun v0 w h0 => two_bounded (spec_LearnThrows fs0 v0 a1 al1 au1 w hn0 h0), Lib.hid fun v0 w h0 => two_bounded (impl_LearnThrows fs0 v0 a1 al1 au1 w hn0 h0)⟩
  have Bel0 := Lib.hid (Below.refl w.heap.size w)
  go_enter Try.func3, Try.ntmps3
  go_wp2_with fail
  refine (toI_any fs0 _ _ hn0 (HA0.out.later Bel0.out)).mono ?_
  rintro e u1 ⟨ts0, rfl, ht, hb⟩
  have hzz1 := hb.size
  have Bel1 := Lib.hid (below_step Bel0.out hb (Nat.le_refl _))
  have Fs0_1 := Lib.hid ht
  clear hb Bel0 ht
  go_wp2_with fail
  refine (Hspec.out _ _ Fs0_1.out.sl).mono ?_
  rintro e u2 ⟨w0, w1, rfl, ⟨wa0, wb0, wa1, wb1, hw0, hw1, wg0, wg1, wg2, wg3, wgd⟩, hb⟩
  have hzz2 := hb.size
  have Bel2 := Lib.hid (below_step Bel1.out hb (Nat.le_refl _))
  have Fs0_2 := Lib.hid (Fs0_1.out.later hb)
  have Fw0_2 := Lib.hid hw0
  have Fw1_2 := Lib.hid hw1
  clear hb Bel1 hw0 hw1 Fs0_1
  clear Fs0_2
  go_wp2_with fail
  refine (toI_any fs0 _ _ hn0 (HA0.out.later Bel2.out)).mono ?_
  rintro e u3 ⟨tx0, rfl, ht, hb⟩
  have hzz3 := hb.size
  have Bel3 := Lib.hid (below_step Bel2.out hb (Nat.le_refl _))
  have Fw0_3 := Lib.hid (Fw0_2.out.later hb)
  have Fw1_3 := Lib.hid (Fw1_2.out.later hb)
  have Fx0_3 := Lib.hid ht
  clear hb Bel2 ht Fw0_2 Fw1_2
  go_wp2_with fail
  refine (Himpl.out _ _ Fx0_3.out.sl).mono ?_
  rintro e u4 ⟨g0, g1, rfl, ⟨ga0, gb0, ga1, gb1, hg0, hg1, gg0, gg1, gg2, gg3, ggd⟩, hb⟩
  have hzz4 := hb.size
  have Bel4 := Lib.hid (below_step Bel3.out hb (Nat.le_refl _))
  have Fw0_4 := Lib.hid (Fw0_3.out.later hb)
  have Fw1_4 := Lib.hid (Fw1_3.out.later hb)
  have Fx0_4 := Lib.hid (Fx0_3.out.later hb)
  have Fg0_4 := Lib.hid hg0
  have Fg1_4 := Lib.hid hg1
  clear hb Bel3 hg0 hg1 Fw0_3 Fw1_3 Fx0_3
  go_wp2_with fail
  refine (eqI_any R0 _ _ _ hr0 Fg0_4.out.sl Fw0_4.out.sl).mono ?_
  rintro e u5 ⟨rfl, ho⟩
  have hzz5 := Nat.le_of_eq ho.size.symm
  have Bel5 := Lib.hid (Below.still Bel4.out ho)
  have Fw0_5 := Lib.hid (Fw0_4.out.still ho)
  have Fw1_5 := Lib.hid (Fw1_4.out.still ho)
  have Fx0_5 := Lib.hid (Fx0_4.out.still ho)
  have Fg0_5 := Lib.hid (Fg0_4.out.still ho)
  have Fg1_5 := Lib.hid (Fg1_4.out.still ho)
  clear ho Bel4  Fw0_4 Fw1_4 Fx0_4 Fg0_4 Fg1_4
  go_wp2_with fail
  refine (eqI_any R1 _ _ _ hr1 Fg1_5.out.sl Fw1_5.out.sl).mono ?_
  rintro e u6 ⟨rfl, ho⟩
  have hzz6 := Nat.le_of_eq ho.size.symm
  have Bel6 := Lib.hid (Below.still Bel5.out ho)
  have Fw0_6 := Lib.hid (Fw0_5.out.still ho)
  have Fw1_6 := Lib.hid (Fw1_5.out.still ho)
  have Fx0_6 := Lib.hid (Fx0_5.out.still ho)
  have Fg0_6 := Lib.hid (Fg0_5.out.still ho)
  have Fg1_6 := Lib.hid (Fg1_5.out.still ho)
  clear ho Bel5  Fw0_5 Fw1_5 Fx0_5 Fg0_5 Fg1_5
  go_wp2_with fail
  refine (toI_any fs0 _ _ hn0 (HA0.out.later Bel6.out)).mono ?_
  rintro e u7 ⟨tc0, rfl, ht, hb⟩
  have hzz7 := hb.size
  have Bel7 := Lib.hid (below_step Bel6.out hb (Nat.le_refl _))
  have Fw0_7 := Lib.hid (Fw0_6.out.later hb)
  have Fw1_7 := Lib.hid (Fw1_6.out.later hb)
  have Fx0_7 := Lib.hid (Fx0_6.out.later hb)
  have Fg0_7 := Lib.hid (Fg0_6.out.later hb)
  have Fg1_7 := Lib.hid (Fg1_6.out.later hb)
  have Fc0_7 := Lib.hid ht
  clear hb Bel6 ht Fw0_6 Fw1_6 Fx0_6 Fg0_6 Fg1_6
  go_wp2_with fail
  refine (eqI_any fs0 _ _ _ hn0 Fx0_7.out.sl Fc0_7.out.sl).mono ?_
  rintro e u8 ⟨rfl, ho⟩
  have hzz8 := Nat.le_of_eq ho.size.symm
  have Bel8 := Lib.hid (Below.still Bel7.out ho)
  have Fw0_8 := Lib.hid (Fw0_7.out.still ho)
  have Fw1_8 := Lib.hid (Fw1_7.out.still ho)
  have Fx0_8 := Lib.hid (Fx0_7.out.still ho)
  have Fg0_8 := Lib.hid (Fg0_7.out.still ho)
  have Fg1_8 := Lib.hid (Fg1_7.out.still ho)
  have Fc0_8 := Lib.hid (Fc0_7.out.still ho)
  clear ho Bel7  Fw0_7 Fw1_7 Fx0_7 Fg0_7 Fg1_7 Fc0_7
  clear Fc0_8
  go_wp2_with fail
  refine (markI_any _ _ _ _ _ (1) hn0 (by omega) Fx0_8.out).mono ?_
  rintro e u9 ⟨rfl, ht, ho⟩
  have hzz9 := Nat.le_of_eq ho.size.symm
  have Bel9 := Lib.hid (Below.only Bel8.out ho (by have := Below.size Bel8.out; omega))
  have Fw0_9 := Lib.hid (Fw0_8.out.apart ho (by omega))
  have Fw1_9 := Lib.hid (Fw1_8.out.apart ho (by omega))
  have Fx0_9 := Lib.hid ht
  have Fg0_9 := Lib.hid (Fg0_8.out.apart ho (by omega))
  have Fg1_9 := Lib.hid (Fg1_8.out.apart ho (by omega))
  clear ho Bel8 ht Fw0_8 Fw1_8 Fx0_8 Fg0_8 Fg1_8
  go_wp2_with fail
  refine (eqI_any R0 _ _ _ hr0 Fg0_9.out.sl Fw0_9.out.sl).mono ?_
  rintro e u10 ⟨rfl, ho⟩
  have hzz10 := Nat.le_of_eq ho.size.symm
  have Bel10 := Lib.hid (Below.still Bel9.out ho)
  have Fw0_10 := Lib.hid (Fw0_9.out.still ho)
  have Fw1_10 := Lib.hid (Fw1_9.out.still ho)
  have Fx0_10 := Lib.hid (Fx0_9.out.still ho)
  have Fg0_10 := Lib.hid (Fg0_9.out.still ho)
  have Fg1_10 := Lib.hid (Fg1_9.out.still ho)
  clear ho Bel9  Fw0_9 Fw1_9 Fx0_9 Fg0_9 Fg1_9
  go_wp2_with fail
  refine (eqI_any R1 _ _ _ hr1 Fg1_10.out.sl Fw1_10.out.sl).mono ?_
  rintro e u11 ⟨rfl, ho⟩
  have hzz11 := Nat.le_of_eq ho.size.symm
  have Bel11 := Lib.hid (Below.still Bel10.out ho)
  have Fw0_11 := Lib.hid (Fw0_10.out.still ho)
  have Fw1_11 := Lib.hid (Fw1_10.out.still ho)
  have Fx0_11 := Lib.hid (Fx0_10.out.still ho)
  have Fg0_11 := Lib.hid (Fg0_10.out.still ho)
  have Fg1_11 := Lib.hid (Fg1_10.out.still ho)
  clear ho Bel10  Fw0_10 Fw1_10 Fx0_10 Fg0_10 Fg1_10
  clear Fx0_11
  go_wp2_with fail
  refine (markI_any _ _ _ _ _ (1) hr0 (by omega) Fg0_11.out).mono ?_
  rintro e u12 ⟨rfl, ht, ho⟩
  have hzz12 := Nat.le_of_eq ho.size.symm
  have Bel12 := Lib.hid (Below.only Bel11.out ho (by have := Below.size Bel11.out; omega))
  have Fw0_12 := Lib.hid (Fw0_11.out.apart ho (by omega))
  have Fw1_12 := Lib.hid (Fw1_11.out.apart ho (by omega))
  have Fg0_12 := Lib.hid ht
  have Fg1_12 := Lib.hid (Fg1_11.out.apart ho (by omega))
  clear ho Bel11 ht Fw0_11 Fw1_11 Fg0_11 Fg1_11
  go_wp2_with fail
  refine (markI_any _ _ _ _ _ (1 + R0.length) hr1 (by omega) Fg1_12.out).mono ?_
  rintro e u13 ⟨rfl, ht, ho⟩
  have hzz13 := Nat.le_of_eq ho.size.symm
  have Bel13 := Lib.hid (Below.only Bel12.out ho (by have := Below.size Bel12.out; omega))
  have Fw0_13 := Lib.hid (Fw0_12.out.apart ho (by omega))
  have Fw1_13 := Lib.hid (Fw1_12.out.apart ho (by omega))
  have Fg0_13 := Lib.hid (Fg0_12.out.apart ho (by omega))
  have Fg1_13 := Lib.hid ht
  clear ho Bel12 ht Fw0_12 Fw1_12 Fg0_12 Fg1_12
  go_wp2_with fail
  refine (heldI_any R0.length _ _ _ _ (1) hr0 (by omega) Fg0_13.out).mono ?_
  rintro e u14 ⟨rfl, ho⟩
  have hzz14 := Nat.le_of_eq ho.size.symm
  have Bel14 := Lib.hid (Below.still Bel13.out ho)
  have Fw0_14 := Lib.hid (Fw0_13.out.still ho)
  have Fw1_14 := Lib.hid (Fw1_13.out.still ho)
  have Fg0_14 := Lib.hid (Fg0_13.out.still ho)
  have Fg1_14 := Lib.hid (Fg1_13.out.still ho)
  clear ho Bel13  Fw0_13 Fw1_13 Fg0_13 Fg1_13
  go_wp2_with fail
  refine (heldI_any R1.length _ _ _ _ (1 + R0.length) hr1 (by omega) Fg1_14.out).mono ?_
  rintro e u15 ⟨rfl, ho⟩
  have hzz15 := Nat.le_of_eq ho.size.symm
  have Bel15 := Lib.hid (Below.still Bel14.out ho)
  have Fw0_15 := Lib.hid (Fw0_14.out.still ho)
  have Fw1_15 := Lib.hid (Fw1_14.out.still ho)
  have Fg0_15 := Lib.hid (Fg0_14.out.still ho)
  have Fg1_15 := Lib.hid (Fg1_14.out.still ho)
  clear ho Bel14  Fw0_14 Fw1_14 Fg0_14 Fg1_14
  go_wp2_with fail
  refine (toI_any fs0 _ _ hn0 (HA0.out.later Bel15.out)).mono ?_
  rintro e u16 ⟨ty0, rfl, ht, hb⟩
  have hzz16 := hb.size
  have Bel16 := Lib.hid (below_step Bel15.out hb (Nat.le_refl _))
  have Fw0_16 := Lib.hid (Fw0_15.out.later hb)
  have Fw1_16 := Lib.hid (Fw1_15.out.later hb)
  have Fg0_16 := Lib.hid (Fg0_15.out.later hb)
  have Fg1_16 := Lib.hid (Fg1_15.out.later hb)
  have Fy0_16 := Lib.hid ht
  clear hb Bel15 ht Fw0_15 Fw1_15 Fg0_15 Fg1_15
  go_wp2_with fail
  refine (Himpl.out _ _ Fy0_16.out.sl).mono ?_
  rintro e u17 ⟨h0, h1, rfl, ⟨ha0, hb0, ha1, hb1, hh0, hh1, hg0, hg1, hg2, hg3, hgd⟩, hb⟩
  have hzz17 := hb.size
  have Bel17 := Lib.hid (below_step Bel16.out hb (Nat.le_refl _))
  have Fw0_17 := Lib.hid (Fw0_16.out.later hb)
  have Fw1_17 := Lib.hid (Fw1_16.out.later hb)
  have Fg0_17 := Lib.hid (Fg0_16.out.later hb)
  have Fg1_17 := Lib.hid (Fg1_16.out.later hb)
  have Fy0_17 := Lib.hid (Fy0_16.out.later hb)
  have Fh0_17 := Lib.hid hh0
  have Fh1_17 := Lib.hid hh1
  clear hb Bel16 hh0 hh1 Fw0_16 Fw1_16 Fg0_16 Fg1_16 Fy0_16
  clear Fy0_17
  go_wp2_with fail
  refine (eqI_any R0 _ _ _ hr0 Fh0_17.out.sl Fw0_17.out.sl).mono ?_
  rintro e u18 ⟨rfl, ho⟩
  have hzz18 := Nat.le_of_eq ho.size.symm
  have Bel18 := Lib.hid (Below.still Bel17.out ho)
  have Fw0_18 := Lib.hid (Fw0_17.out.still ho)
  have Fw1_18 := Lib.hid (Fw1_17.out.still ho)
  have Fg0_18 := Lib.hid (Fg0_17.out.still ho)
  have Fg1_18 := Lib.hid (Fg1_17.out.still ho)
  have Fh0_18 := Lib.hid (Fh0_17.out.still ho)
  have Fh1_18 := Lib.hid (Fh1_17.out.still ho)
  clear ho Bel17  Fw0_17 Fw1_17 Fg0_17 Fg1_17 Fh0_17 Fh1_17
  go_wp2_with fail
  refine (eqI_any R1 _ _ _ hr1 Fh1_18.out.sl Fw1_18.out.sl).mono ?_
  rintro e u19 ⟨rfl, ho⟩
  have hzz19 := Nat.le_of_eq ho.size.symm
  have Bel19 := Lib.hid (Below.still Bel18.out ho)
  have Fw0_19 := Lib.hid (Fw0_18.out.still ho)
  have Fw1_19 := Lib.hid (Fw1_18.out.still ho)
  have Fg0_19 := Lib.hid (Fg0_18.out.still ho)
  have Fg1_19 := Lib.hid (Fg1_18.out.still ho)
  have Fh0_19 := Lib.hid (Fh0_18.out.still ho)
  have Fh1_19 := Lib.hid (Fh1_18.out.still ho)
  clear ho Bel18  Fw0_18 Fw1_18 Fg0_18 Fg1_18 Fh0_18 Fh1_18
  go_wp2_with fail
  refine (heldI_any R0.length _ _ _ _ (1) hr0 (by omega) Fg0_19.out).mono ?_
  rintro e u20 ⟨rfl, ho⟩
  have hzz20 := Nat.le_of_eq ho.size.symm
  have Bel20 := Lib.hid (Below.still Bel19.out ho)
  have Fw0_20 := Lib.hid (Fw0_19.out.still ho)
  have Fw1_20 := Lib.hid (Fw1_19.out.still ho)
  have Fg0_20 := Lib.hid (Fg0_19.out.still ho)
  have Fg1_20 := Lib.hid (Fg1_19.out.still ho)
  have Fh0_20 := Lib.hid (Fh0_19.out.still ho)
  have Fh1_20 := Lib.hid (Fh1_19.out.still ho)
  clear ho Bel19  Fw0_19 Fw1_19 Fg0_19 Fg1_19 Fh0_19 Fh1_19
  go_wp2_with fail
  refine (heldI_any R1.length _ _ _ _ (1 + R0.length) hr1 (by omega) Fg1_20.out).mono ?_
  rintro e u21 ⟨rfl, ho⟩
  have hzz21 := Nat.le_of_eq ho.size.symm
  have Bel21 := Lib.hid (Below.still Bel20.out ho)
  have Fw0_21 := Lib.hid (Fw0_20.out.still ho)
  have Fw1_21 := Lib.hid (Fw1_20.out.still ho)
  have Fg0_21 := Lib.hid (Fg0_20.out.still ho)
  have Fg1_21 := Lib.hid (Fg1_20.out.still ho)
  have Fh0_21 := Lib.hid (Fh0_20.out.still ho)
  have Fh1_21 := Lib.hid (Fh1_20.out.still ho)
  clear ho Bel20  Fw0_20 Fw1_20 Fg0_20 Fg1_20 Fh0_20 Fh1_20
  go_wp2
  go_ret
  exact ⟨ret_bool (by simp), Bel21.out⟩

set_option maxRecDepth 100000 in
theorem lifted (os : Os) (started : os.Started) (H : Type) (enc : TypeId × Value → H) :
    ReturnsInHanded {} Try.checked os 3 .any (Rows.fnExactLearnThrowsSpec.pre6 enc Try.prog Try.f3 Rows.fnExactLearnThrowsRow.domain false) (Rows.fnExactLearnThrowsSpec.post enc Try.prog Try.f3 false true false false) := by
  refine returnsInHanded_of_change (C := Try.checked) Lift.own started (by kernel_rfl) Try.func3
    (ChangeSpec.witness6 (enc := enc) (C := Try.checked) false ⟨#[], #[.slice none 0 0, .int .i64 0], []⟩ 8 (by kernel_rfl) (by kernel_rfl) (by kernel_rfl) (by kernel_rfl)) ?_
  intro W base args ds gs before hval0 hW hcnd _
  have hval : ∀ (j : Nat) t v, Try.f3.params[j]? = some t → args[j]? = some v → Value.okWide Try.prog W .any base t v := hval0
  have hW' := hW
  obtain ⟨p, q, hA0, hV, rfl, hfz, hnd⟩ := hW
  have hA : DataW.TrodAll enc Try.prog W 0 (fun _ => true) true Try.f3.params.toList args.toList ds p := hA0
  obtain ⟨rfl, rfl⟩ := trodVars_none hV
  have hA1 := hA
  rw [Try.params3] at hA1 hval
  obtain ⟨v0, vs0, d0, ds0, p0, q0, hargs, rfl, rfl, h0, r0⟩ := trodAll_cons hA1
  obtain ⟨v1, vs1, d1, ds1, p1, q1, rfl, rfl, rfl, h1, r1⟩ := trodAll_cons r0
  obtain ⟨rfl, rfl, rfl⟩ := trodAll_nil r1
  obtain rfl : args = #[v0, v1] := by cases args; simp_all
  simp only [List.append_nil] at hW' hA
  obtain ⟨a0, w0, _, l0⟩ := open_sl (Value.int .i64) 0 (fun b => (Lit.int .i64 b).wf = true) (int_el Try.underlying2) Try.underlying22 (by kernel_rfl) (hval 0 22 v0 rfl rfl) h0
  obtain ⟨a1, rfl, rfl, rfl, w1⟩ := open_int Try.underlying2 (hval 1 2 v1 rfl rfl) h1
  refine (walk a0 v0 a1 (wfi64 w1).1 (wfi64 w1).2 W w0 l0).mono fun e W' ⟨he, hb⟩ => ?_
  subst he
  refine ⟨_, rfl, Lift.law_post Lift.laidOut hW' hA rfl rfl rfl rfl (by kernel_rfl) Try.underlying4 ?_ hb⟩
  rw [Try.params3]
  intro t ht
  simp only [List.mem_cons, List.not_mem_nil, or_false] at ht
  rcases ht with rfl | rfl <;> exact ⟨by kernel_rfl, of_decide_eq_true (by kernel_rfl)⟩

theorem proved : Rows.FnExactLearnThrowsSaid :=
  OpenClaim.holds_of_wide 3 Try.f3 rfl rfl rfl rfl rfl rfl rfl ⟨rfl, rfl, rfl, rfl, rfl⟩ rfl rfl rfl rfl rfl (by kernel_rfl) Try.func3 (by kernel_rfl)
    (of_decide_eq_true (by kernel_rfl)) (by unfold Func.isWrapper; first | (rw [if_pos (by decide +kernel)]; kernel_rfl) | (rw [if_neg (by decide +kernel)]; exact ⟨rfl, rfl⟩))
    (fun os started H enc _ => lifted os started H enc)
end Go.Proofs.Ytodmaomngpnboaa.fnExactLearnThrows
