/- FnExactSameSums: for every two lists of dice, SameSums answers as its model; no condition. -/
import Derived.Test.YtaimbadajgjhaaaLo
import Derived.Test.YtaimbadajgjhaaaMe
import Derived.Test.YtaimbadajgjhaaaMy
import Derived.Deep.RegionLawGrows
set_option linter.unusedVariables false
namespace Go.Proofs.Ytaimbadajgjhaaa.fnExactSameSums
open Go.ChangeShapes Go.WideShapes Go.ChangeAt Go.RowKit
open Go.ChangeMaps (open_string)

set_option maxRecDepth 100000 in
set_option maxHeartbeats 4000000 in
theorem walk (fs0 : List (List Int)) (v0 : Value) (fs1 : List (List Int)) (v1 : Value) (w : World) (hs0 : SlD w v0 fs0) (hl0 : fs0.length ≤ maxLen ∧ ∀ i, i < fs0.length → (fs0.getD i []).length ≤ maxLen) (hs1 : SlD w v1 fs1) (hl1 : fs1.length ≤ maxLen ∧ ∀ i, i < fs1.length → (fs1.getD i []).length ≤ maxLen) : Calls Try.prog 5 #[v0, v1] w fun e w' => e = .returned (.bool true) ∧ Below w.heap.size w w' := by
  have HS0 := Lib.hid (fun z (hb : Below w.heap.size w z) left h1 h0 => szDs_any fs0 v0 left z hl0.1 hl0.2 (hs0.later hb) h1 h0)
  have HA0 := Lib.hid hs0
  have HS1 := Lib.hid (fun z (hb : Below w.heap.size w z) left h1 h0 => szDs_any fs1 v1 left z hl1.1 hl1.2 (hs1.later hb) h1 h0)
  have HA1 := Lib.hid hs1
  obtain ⟨p0, cap0, rfl, _⟩ := hs0
  obtain ⟨p1, cap1, rfl, _⟩ := hs1
  obtain ⟨l0, hz0⟩ : ∃ l, l = szV (fs0.length + totD fs0 fs0.length) 1048576 := ⟨_, rfl⟩
  have Hz0 := Lib.hid hz0
  clear hz0
  obtain ⟨l1, hz1⟩ : ∃ l, l = szV (fs1.length + totD fs1 fs1.length) l0 := ⟨_, rfl⟩
  have Hz1 := Lib.hid hz1
  clear hz1
  by_cases hneg0 : l0 < 0
  · skip
    go_enter Try.func5, Try.ntmps5
    have Bel0 := Lib.hid (Below.refl w.heap.size w)
    go_wp2_with fail
    refine (HS0.out _ Bel0.out _ (by omega) (by omega)).mono ?_
    rintro e u1 ⟨rfl, hb⟩
    rw [← Hz0.out]
    have Bel1 := Lib.hid (below_step Bel0.out hb (Nat.le_refl _))
    have hzz1 := hb.size
    clear hb Bel0 
    go_wp2
    go_ret
    exact ⟨ret_bool (by simp), Bel1.out⟩
  have hl1_0 : l0 ≤ 1048576 := by have hz := Hz0.out; unfold szV at hz; split at hz <;> omega
  have hn0 : fs0.length ≤ 1048576 ∧ totD fs0 fs0.length ≤ 1048576 := by have hz := Hz0.out; unfold szV at hz; split at hz <;> omega
  by_cases hneg1 : l1 < 0
  · skip
    go_enter Try.func5, Try.ntmps5
    have Bel0 := Lib.hid (Below.refl w.heap.size w)
    go_wp2_with fail
    refine (HS0.out _ Bel0.out _ (by omega) (by omega)).mono ?_
    rintro e u1 ⟨rfl, hb⟩
    rw [← Hz0.out]
    have Bel1 := Lib.hid (below_step Bel0.out hb (Nat.le_refl _))
    have hzz1 := hb.size
    clear hb Bel0 
    go_wp2_with fail
    refine (HS1.out _ Bel1.out _ (by omega) (by omega)).mono ?_
    rintro e u2 ⟨rfl, hb⟩
    rw [← Hz1.out]
    have Bel2 := Lib.hid (below_step Bel1.out hb (Nat.le_refl _))
    have hzz2 := hb.size
    clear hb Bel1 
    go_wp2
    go_ret
    exact ⟨ret_bool (by simp), Bel2.out⟩
  have hl1_1 : l1 ≤ 1048576 := by have hz := Hz1.out; unfold szV at hz; split at hz <;> omega
  have hn1 : fs1.length ≤ 1048576 ∧ totD fs1 fs1.length ≤ 1048576 := by have hz := Hz1.out; unfold szV at hz; split at hz <;> omega
  obtain ⟨R0, R1, Hspec, Himpl⟩ : ∃ (R0 : Bool) (R1 : Bool), Hid (∀ (v0 : Value) (v1 : Value) (w : World), SlD w v0 fs0 → SlD w v1 fs1 → Calls Try.prog 29 #[v0, v1] w fun e w' => e = .returned (.tuple #[.bool R0, .bool R1]) ∧ Below w.heap.size w w') ∧ Hid (∀ (v0 : Value) (v1 : Value) (w : World), SlD w v0 fs0 → SlD w v1 fs1 → Calls Try.prog 30 #[v0, v1] w fun e w' => e = .returned (.tuple #[.bool R0, .bool R1]) ∧ Below w.heap.size w w') := ⟨(res_SameSums fs0 fs1), (ok_SameSums fs0 fs1), Lib.hid fun v0 v1 w h0 h1 => spec_SameSums fs0 v0 fs1 v1 w hn0.1 hn0.2 h0 hn1.1 hn1.2 h1, Lib.hid fun v0 v1 w h0 h1 => impl_SameSums fs0 v0 fs1 v1 w hn0.1 hn0.2 h0 hn1.1 hn1.2 h1⟩
  go_enter Try.func5, Try.ntmps5
  have Bel0 := Lib.hid (Below.refl w.heap.size w)
  go_wp2_with fail
  refine (HS0.out _ Bel0.out _ (by omega) (by omega)).mono ?_
  rintro e u1 ⟨rfl, hb⟩
  rw [← Hz0.out]
  have Bel1 := Lib.hid (below_step Bel0.out hb (Nat.le_refl _))
  have hzz1 := hb.size
  clear hb Bel0 
  go_wp2_with fail
  refine (HS1.out _ Bel1.out _ (by omega) (by omega)).mono ?_
  rintro e u2 ⟨rfl, hb⟩
  rw [← Hz1.out]
  have Bel2 := Lib.hid (below_step Bel1.out hb (Nat.le_refl _))
  have hzz2 := hb.size
  clear hb Bel1 
  go_wp2_with fail
  refine (toDs_any fs0 _ _ hn0.1 hn0.2 (HA0.out.later Bel2.out)).mono ?_
  rintro e u3 ⟨ts0, rfl, ht, hb⟩
  have Bel3 := Lib.hid (below_step Bel2.out hb (Nat.le_refl _))
  have hzz3 := hb.size
  have Fs0_3 := Lib.hid ht
  clear hb Bel2 
  clear ht
  go_wp2_with fail
  refine (toDs_any fs1 _ _ hn1.1 hn1.2 (HA1.out.later Bel3.out)).mono ?_
  rintro e u4 ⟨ts1, rfl, ht, hb⟩
  have Bel4 := Lib.hid (below_step Bel3.out hb (Nat.le_refl _))
  have hzz4 := hb.size
  have Fs0_4 := Lib.hid (Fs0_3.out.later hb)
  have Fs1_4 := Lib.hid ht
  clear hb Bel3 Fs0_3
  clear ht
  go_wp2_with fail
  refine (Hspec.out _ _ _ Fs0_4.out.sl Fs1_4.out.sl).mono ?_
  rintro e u5 ⟨rfl, hb⟩
  have Bel5 := Lib.hid (below_step Bel4.out hb (Nat.le_refl _))
  have hzz5 := hb.size
  have Fs0_5 := Lib.hid (Fs0_4.out.later hb)
  have Fs1_5 := Lib.hid (Fs1_4.out.later hb)
  clear hb Bel4 Fs0_4 Fs1_4
  clear Fs0_5
  clear Fs1_5
  go_wp2_with fail
  refine (toDs_any fs0 _ _ hn0.1 hn0.2 (HA0.out.later Bel5.out)).mono ?_
  rintro e u6 ⟨tx0, rfl, ht, hb⟩
  have Bel6 := Lib.hid (below_step Bel5.out hb (Nat.le_refl _))
  have hzz6 := hb.size
  have Fx0_6 := Lib.hid ht
  clear hb Bel5 
  clear ht
  go_wp2_with fail
  refine (toDs_any fs1 _ _ hn1.1 hn1.2 (HA1.out.later Bel6.out)).mono ?_
  rintro e u7 ⟨tx1, rfl, ht, hb⟩
  have Bel7 := Lib.hid (below_step Bel6.out hb (Nat.le_refl _))
  have hzz7 := hb.size
  have Fx0_7 := Lib.hid (Fx0_6.out.later hb)
  have Fx1_7 := Lib.hid ht
  clear hb Bel6 Fx0_6
  clear ht
  go_wp2_with fail
  refine (Himpl.out _ _ _ Fx0_7.out.sl Fx1_7.out.sl).mono ?_
  rintro e u8 ⟨rfl, hb⟩
  have Bel8 := Lib.hid (below_step Bel7.out hb (Nat.le_refl _))
  have hzz8 := hb.size
  have Fx0_8 := Lib.hid (Fx0_7.out.later hb)
  have Fx1_8 := Lib.hid (Fx1_7.out.later hb)
  clear hb Bel7 Fx0_7 Fx1_7
  go_wp2_with fail
  refine (toDs_any fs0 _ _ hn0.1 hn0.2 (HA0.out.later Bel8.out)).mono ?_
  rintro e u9 ⟨tc0, rfl, ht, hb⟩
  have Bel9 := Lib.hid (below_step Bel8.out hb (Nat.le_refl _))
  have hzz9 := hb.size
  have Fx0_9 := Lib.hid (Fx0_8.out.later hb)
  have Fx1_9 := Lib.hid (Fx1_8.out.later hb)
  have Fc0_9 := Lib.hid ht
  clear hb Bel8 Fx0_8 Fx1_8
  clear ht
  go_wp2_with fail
  refine (eqDs_any fs0 _ _ _ hn0.1 hn0.2 Fx0_9.out.sl Fc0_9.out.sl).mono ?_
  rintro e u10 ⟨rfl, hb⟩
  have Bel10 := Lib.hid (below_step Bel9.out hb (Nat.le_refl _))
  have hzz10 := hb.size
  have Fx0_10 := Lib.hid (Fx0_9.out.later hb)
  have Fx1_10 := Lib.hid (Fx1_9.out.later hb)
  have Fc0_10 := Lib.hid (Fc0_9.out.later hb)
  clear hb Bel9 Fx0_9 Fx1_9 Fc0_9
  clear Fc0_10
  go_wp2_with fail
  refine (toDs_any fs1 _ _ hn1.1 hn1.2 (HA1.out.later Bel10.out)).mono ?_
  rintro e u11 ⟨tc1, rfl, ht, hb⟩
  have Bel11 := Lib.hid (below_step Bel10.out hb (Nat.le_refl _))
  have hzz11 := hb.size
  have Fx0_11 := Lib.hid (Fx0_10.out.later hb)
  have Fx1_11 := Lib.hid (Fx1_10.out.later hb)
  have Fc1_11 := Lib.hid ht
  clear hb Bel10 Fx0_10 Fx1_10
  clear ht
  go_wp2_with fail
  refine (eqDs_any fs1 _ _ _ hn1.1 hn1.2 Fx1_11.out.sl Fc1_11.out.sl).mono ?_
  rintro e u12 ⟨rfl, hb⟩
  have Bel12 := Lib.hid (below_step Bel11.out hb (Nat.le_refl _))
  have hzz12 := hb.size
  have Fx0_12 := Lib.hid (Fx0_11.out.later hb)
  have Fx1_12 := Lib.hid (Fx1_11.out.later hb)
  have Fc1_12 := Lib.hid (Fc1_11.out.later hb)
  clear hb Bel11 Fx0_11 Fx1_11 Fc1_11
  clear Fc1_12
  go_wp2
  go_ret
  exact ⟨ret_bool (by simp), Bel12.out⟩

set_option maxRecDepth 100000 in
theorem lifted (os : Os) (started : os.Started) (H : Type) (enc : TypeId × Value → H) :
    ReturnsInHanded {} Try.checked os 5 .any (Rows.fnExactSameSumsSpec.pre6 enc Try.prog Try.f5 Rows.fnExactSameSumsRow.domain false) (Rows.fnExactSameSumsSpec.post enc Try.prog Try.f5 false true false false) := by
  refine returnsInHanded_of_change (C := Try.checked) Lift.own started (by kernel_rfl) Try.func5
    (ChangeSpec.witness6 (enc := enc) (C := Try.checked) false ⟨#[], #[.slice none 0 0, .slice none 0 0], []⟩ 8 (by kernel_rfl) (by kernel_rfl) (by kernel_rfl) (by kernel_rfl)) ?_
  intro W base args ds gs before hval0 hW hcnd _
  have hval : ∀ (j : Nat) t v, Try.f5.params[j]? = some t → args[j]? = some v → Value.okWide Try.prog W .any base t v := hval0
  have hW' := hW
  obtain ⟨p, q, hA0, hV, rfl, hfz, hnd⟩ := hW
  have hA : DataW.TrodAll enc Try.prog W 0 (fun _ => true) true Try.f5.params.toList args.toList ds p := hA0
  obtain ⟨rfl, rfl⟩ := trodVars_none hV
  have hA1 := hA
  rw [Try.params5] at hA1 hval
  obtain ⟨v0, vs0, d0, ds0, p0, q0, hargs, rfl, rfl, h0, r0⟩ := trodAll_cons hA1
  obtain ⟨v1, vs1, d1, ds1, p1, q1, rfl, rfl, rfl, h1, r1⟩ := trodAll_cons r0
  obtain ⟨rfl, rfl, rfl⟩ := trodAll_nil r1
  obtain rfl : args = #[v0, v1] := by cases args; simp_all
  simp only [List.append_nil] at hW' hA
  obtain ⟨a0, w0, l0⟩ := open_dice Try.underlying2 Try.underlying22 (by kernel_rfl) Try.underlying24 (by kernel_rfl) rfl (by kernel_rfl) Try.underlying31 (hval 0 31 v0 rfl rfl) h0
  obtain ⟨a1, w1, l1⟩ := open_dice Try.underlying2 Try.underlying22 (by kernel_rfl) Try.underlying24 (by kernel_rfl) rfl (by kernel_rfl) Try.underlying31 (hval 1 31 v1 rfl rfl) h1
  refine (walk a0 v0 a1 v1 W w0 l0 w1 l1).mono fun e W' ⟨he, hb⟩ => ?_
  subst he
  refine ⟨_, rfl, Lift.law_post Lift.laidOut hW' hA rfl rfl rfl rfl (by kernel_rfl) Try.underlying4 ?_ hb⟩
  rw [Try.params5]
  intro t ht
  simp only [List.mem_cons, List.not_mem_nil, or_false] at ht
  rcases ht with rfl | rfl <;> exact ⟨by kernel_rfl, of_decide_eq_true (by kernel_rfl)⟩

theorem proved : Rows.FnExactSameSumsSaid :=
  OpenClaim.holds_of_wide 5 Try.f5 rfl rfl rfl rfl rfl rfl rfl ⟨rfl, rfl, rfl, rfl, rfl⟩ rfl rfl rfl rfl rfl (by kernel_rfl) Try.func5 (by kernel_rfl)
    (of_decide_eq_true (by kernel_rfl)) (by unfold Func.isWrapper; first | (rw [if_pos (by decide +kernel)]; kernel_rfl) | (rw [if_neg (by decide +kernel)]; exact ⟨rfl, rfl⟩))
    (fun os started H enc _ => lifted os started H enc)
end Go.Proofs.Ytaimbadajgjhaaa.fnExactSameSums
