/- FnExactCountPassing: for every list of tests and list of numbers, CountPassing answers as its model; no condition. -/
import Derived.Test.YtfipcpbibmhjoaaLo
import Derived.Test.YtfipcpbibmhjoaaSc
import Derived.Test.YtfipcpbibmhjoaaSe
import Derived.Test.YtfipcpbibmhjoaaSr
set_option linter.unusedVariables false
namespace Go.Proofs.Ytfipcpbibmhjoaa.fnExactCountPassing
open Go.ChangeShapes Go.WideShapes Go.ChangeAt Go.RowKit
open Go.ChangeMaps (open_string)

set_option maxRecDepth 100000 in
set_option maxHeartbeats 4000000 in
theorem walk (n0 : Nat) (fs0 : List Int) (v0 : Value) (fs1 : List Int) (v1 : Value) (w : World) (hs0 : SlK 3 w v0 n0 fs0) (hl0 : n0 ≤ maxLen) (hs1 : Sl (Value.int .i64) 0 w v1 fs1) (hl1 : fs1.length ≤ maxLen) : Calls Try.prog 12 #[v0, v1] w fun e w' => e = .returned (.bool true) ∧ Below w.heap.size w w' := by
  unfold maxLen at hl0
  unfold maxLen at hl1
  by_cases hbig1 : 1048576 < fs1.length
  · skip
    obtain ⟨p1, cap1, rfl, hf1⟩ := hs1
    clear hf1
    generalize fs1.length = m1 at *
    go_enter Try.func12, Try.ntmps12
    go_wp2
    all_goals (go_ret; exact ⟨ret_bool (by simp), Below.refl _ _⟩)
  have hn1 : fs1.length ≤ 1048576 := by omega
  clear hbig1 hl1
  have HA1 := Lib.hid hs1
  obtain ⟨p1, cap1, rfl, hf1⟩ := hs1
  clear hf1
  have hd1 : decide (1048576 < (fs1.length : Int)) = false := decide_eq_false (by omega)
  have HA0 := Lib.hid hs0
  obtain ⟨_, p0, cap0, rfl, hf0⟩ := hs0
  clear hf0
  have HS0 := Lib.hid (fun left h1 h0 z => szTests_any p0 n0 cap0 left z hl0 h1 h0)
  obtain ⟨l0, hz0⟩ : ∃ l, l = szK n0 1048576 := ⟨_, rfl⟩
  have Hz0 := Lib.hid hz0
  clear hz0
  by_cases hneg0 : l0 < 0
  · skip
    generalize fs1.length = m1 at *
    go_enter Try.func12, Try.ntmps12
    go_wp2_with fail
    refine (HS0.out _ (by omega) (by omega) _).mono ?_
    rintro e u ⟨rfl, rfl⟩
    rw [← Hz0.out]
    go_wp2
    go_ret
    exact ⟨ret_bool (by simp), Below.refl _ _⟩
  have hb0_1 : l0 ≤ 1048576 := by have := Hz0.out; unfold szK at this; split at this <;> omega
  have hn0 : n0 ≤ 1048576 := by have := Hz0.out; unfold szK at this; split at this <;> omega
  obtain ⟨R0, R1, Hspec, Himpl⟩ : ∃ (R0 : Int) (R1 : Bool), Hid (∀ (v0 : Value) (v1 : Value) (w : World), SlK 3 w v0 n0 fs0 → Sl (Value.int .i64) 0 w v1 fs1 → Calls Try.prog 47 #[v0, v1] w fun e w' => e = .returned (.tuple #[.int .i64 R0, .bool R1]) ∧ Below w.heap.size w w') ∧ Hid (∀ (v0 : Value) (v1 : Value) (w : World), SlK 3 w v0 n0 fs0 → Sl (Value.int .i64) 0 w v1 fs1 → Calls Try.prog 49 #[v0, v1] w fun e w' => e = .returned (.tuple #[.int .i64 R0, .bool R1]) ∧ Below w.heap.size w w') := ⟨(res_CountPassing n0 fs0 fs1), (ok_CountPassing n0 fs0 fs1), Lib.hid fun v0 v1 w h0 h1 => spec_CountPassing n0 fs0 v0 fs1 v1 w hn0 h0 hn1 h1, Lib.hid fun v0 v1 w h0 h1 => impl_CountPassing n0 fs0 v0 fs1 v1 w hn0 h0 hn1 h1⟩
  have Bel0 := Lib.hid (Below.refl w.heap.size w)
  go_enter Try.func12, Try.ntmps12
  go_wp2_with fail
  refine (HS0.out _ (by omega) (by omega) _).mono ?_
  rintro e u ⟨rfl, rfl⟩
  rw [← Hz0.out]
  go_wp2_with fail
  refine (toTests_any n0 fs0 _ _ hn0 (HA0.out.later Bel0.out)).mono ?_
  rintro e u1 ⟨ts0, rfl, ht, hb⟩
  have hzz1 := hb.size
  have Bel1 := Lib.hid (below_step Bel0.out hb (Nat.le_refl _))
  have Fs0_1 := Lib.hid ht
  clear hb Bel0 ht
  go_wp2_with fail
  refine (toI_any fs1 _ _ hn1 (HA1.out.later Bel1.out)).mono ?_
  rintro e u2 ⟨ts1, rfl, ht, hb⟩
  have hzz2 := hb.size
  have Bel2 := Lib.hid (below_step Bel1.out hb (Nat.le_refl _))
  have Fs0_2 := Lib.hid (Fs0_1.out.later hb)
  have Fs1_2 := Lib.hid ht
  clear hb Bel1 ht Fs0_1
  go_wp2_with fail
  refine (Hspec.out _ _ _ Fs0_2.out.sl Fs1_2.out.sl).mono ?_
  rintro e u3 ⟨rfl, hb⟩
  have hzz3 := hb.size
  have Bel3 := Lib.hid (below_step Bel2.out hb (Nat.le_refl _))
  have Fs0_3 := Lib.hid (Fs0_2.out.later hb)
  have Fs1_3 := Lib.hid (Fs1_2.out.later hb)
  clear hb Bel2 Fs0_2 Fs1_2
  clear Fs0_3
  clear Fs1_3
  go_wp2_with fail
  refine (toTests_any n0 fs0 _ _ hn0 (HA0.out.later Bel3.out)).mono ?_
  rintro e u4 ⟨tx0, rfl, ht, hb⟩
  have hzz4 := hb.size
  have Bel4 := Lib.hid (below_step Bel3.out hb (Nat.le_refl _))
  have Fx0_4 := Lib.hid ht
  clear hb Bel3 ht
  go_wp2_with fail
  refine (toI_any fs1 _ _ hn1 (HA1.out.later Bel4.out)).mono ?_
  rintro e u5 ⟨tx1, rfl, ht, hb⟩
  have hzz5 := hb.size
  have Bel5 := Lib.hid (below_step Bel4.out hb (Nat.le_refl _))
  have Fx0_5 := Lib.hid (Fx0_4.out.later hb)
  have Fx1_5 := Lib.hid ht
  clear hb Bel4 ht Fx0_4
  go_wp2_with fail
  refine (Himpl.out _ _ _ Fx0_5.out.sl Fx1_5.out.sl).mono ?_
  rintro e u6 ⟨rfl, hb⟩
  have hzz6 := hb.size
  have Bel6 := Lib.hid (below_step Bel5.out hb (Nat.le_refl _))
  have Fx0_6 := Lib.hid (Fx0_5.out.later hb)
  have Fx1_6 := Lib.hid (Fx1_5.out.later hb)
  clear hb Bel5 Fx0_5 Fx1_5
  go_wp2_with fail
  refine (toTests_any n0 fs0 _ _ hn0 (HA0.out.later Bel6.out)).mono ?_
  rintro e u7 ⟨tc0, rfl, ht, hb⟩
  have hzz7 := hb.size
  have Bel7 := Lib.hid (below_step Bel6.out hb (Nat.le_refl _))
  have Fx0_7 := Lib.hid (Fx0_6.out.later hb)
  have Fx1_7 := Lib.hid (Fx1_6.out.later hb)
  have Fc0_7 := Lib.hid ht
  clear hb Bel6 ht Fx0_6 Fx1_6
  go_wp2_with fail
  refine (eqTests_any n0 fs0 _ _ _ hn0 Fx0_7.out.sl Fc0_7.out.sl).mono ?_
  rintro e u8 ⟨rfl, hb⟩
  have hzz8 := hb.size
  have Bel8 := Lib.hid (below_step Bel7.out hb (Nat.le_refl _))
  have Fx0_8 := Lib.hid (Fx0_7.out.later hb)
  have Fx1_8 := Lib.hid (Fx1_7.out.later hb)
  have Fc0_8 := Lib.hid (Fc0_7.out.later hb)
  clear hb Bel7 Fx0_7 Fx1_7 Fc0_7
  clear Fc0_8
  go_wp2_with fail
  refine (toI_any fs1 _ _ hn1 (HA1.out.later Bel8.out)).mono ?_
  rintro e u9 ⟨tc1, rfl, ht, hb⟩
  have hzz9 := hb.size
  have Bel9 := Lib.hid (below_step Bel8.out hb (Nat.le_refl _))
  have Fx0_9 := Lib.hid (Fx0_8.out.later hb)
  have Fx1_9 := Lib.hid (Fx1_8.out.later hb)
  have Fc1_9 := Lib.hid ht
  clear hb Bel8 ht Fx0_8 Fx1_8
  go_wp2_with fail
  refine (eqI_any fs1 _ _ _ hn1 Fx1_9.out.sl Fc1_9.out.sl).mono ?_
  rintro e u10 ⟨rfl, ho⟩
  have hzz10 := Nat.le_of_eq ho.size.symm
  have Bel10 := Lib.hid (Below.still Bel9.out ho)
  have Fx0_10 := Lib.hid (Fx0_9.out.still ho)
  have Fx1_10 := Lib.hid (Fx1_9.out.still ho)
  have Fc1_10 := Lib.hid (Fc1_9.out.still ho)
  clear ho Bel9  Fx0_9 Fx1_9 Fc1_9
  clear Fc1_10
  go_wp2
  go_ret
  exact ⟨ret_bool (by simp), Bel10.out⟩

set_option maxRecDepth 100000 in
theorem lifted (os : Os) (started : os.Started) (H : Type) (enc : TypeId × Value → H) :
    ReturnsInHanded {} Try.checked os 12 .any (Rows.fnExactCountPassingSpec.pre6 enc Try.prog Try.f12 Rows.fnExactCountPassingRow.domain false) (Rows.fnExactCountPassingSpec.post enc Try.prog Try.f12 false true false false) := by
  refine returnsInHanded_of_change (C := Try.checked) Lift.own started (by kernel_rfl) Try.func12
    (ChangeSpec.witness6 (enc := enc) (C := Try.checked) false ⟨#[], #[.slice none 0 0, .slice none 0 0], []⟩ 8 (by kernel_rfl) (by kernel_rfl) (by kernel_rfl) (by kernel_rfl)) ?_
  intro W base args ds gs before hval0 hW hcnd _
  have hval : ∀ (j : Nat) t v, Try.f12.params[j]? = some t → args[j]? = some v → Value.okWide Try.prog W .any base t v := hval0
  have hW' := hW
  obtain ⟨p, q, hA0, hV, rfl, hfz, hnd⟩ := hW
  have hA : DataW.TrodAll enc Try.prog W 0 (fun _ => true) true Try.f12.params.toList args.toList ds p := hA0
  obtain ⟨rfl, rfl⟩ := trodVars_none hV
  have hA1 := hA
  rw [Try.params12] at hA1 hval
  obtain ⟨v0, vs0, d0, ds0, p0, q0, hargs, rfl, rfl, h0, r0⟩ := trodAll_cons hA1
  obtain ⟨v1, vs1, d1, ds1, p1, q1, rfl, rfl, rfl, h1, r1⟩ := trodAll_cons r0
  obtain ⟨rfl, rfl, rfl⟩ := trodAll_nil r1
  obtain rfl : args = #[v0, v1] := by cases args; simp_all
  simp only [List.append_nil] at hW' hA
  obtain ⟨n0, a0, w0, l0⟩ := open_slK 3 (by decide) Try.underlying2 Try.underlying50 Try.underlying45 (by kernel_rfl) (by kernel_rfl) rfl (by kernel_rfl) (hval 0 50 v0 rfl rfl) h0
  obtain ⟨a1, w1, _, l1⟩ := open_sl (Value.int .i64) 0 (fun b => (Lit.int .i64 b).wf = true) (int_el Try.underlying2) Try.underlying30 (by kernel_rfl) (hval 1 30 v1 rfl rfl) h1
  refine (walk n0 a0 v0 a1 v1 W w0 l0 w1 l1).mono fun e W' ⟨he, hb⟩ => ?_
  subst he
  refine ⟨_, rfl, Lift.law_post Lift.laidOut hW' hA rfl rfl rfl rfl (by kernel_rfl) Try.underlying4 ?_ hb⟩
  rw [Try.params12]
  intro t ht
  simp only [List.mem_cons, List.not_mem_nil, or_false] at ht
  rcases ht with rfl | rfl <;> exact ⟨by kernel_rfl, of_decide_eq_true (by kernel_rfl)⟩

theorem proved : Rows.FnExactCountPassingSaid :=
  OpenClaim.holds_of_wide 12 Try.f12 rfl rfl rfl rfl rfl rfl rfl ⟨rfl, rfl, rfl, rfl, rfl⟩ rfl rfl rfl rfl rfl (by kernel_rfl) Try.func12 (by kernel_rfl)
    (of_decide_eq_true (by kernel_rfl)) (by unfold Func.isWrapper; first | (rw [if_pos (by decide +kernel)]; kernel_rfl) | (rw [if_neg (by decide +kernel)]; exact ⟨rfl, rfl⟩))
    (fun os started H enc _ => lifted os started H enc)
end Go.Proofs.Ytfipcpbibmhjoaa.fnExactCountPassing
