/- FnExactSpreadOf: for every list of dice, SpreadOf answers as its model; no condition. -/
import Derived.Test.YtaimbadajgjhaaaLo
import Derived.Test.YtaimbadajgjhaaaMe
import Derived.Test.YtaimbadajgjhaaaNb
import Derived.Deep.RegionLawGrows
set_option linter.unusedVariables false
namespace Go.Proofs.Ytaimbadajgjhaaa.fnExactSpreadOf
open Go.ChangeShapes Go.WideShapes Go.ChangeAt Go.RowKit
open Go.ChangeMaps (open_string)

set_option maxRecDepth 100000 in
set_option maxHeartbeats 4000000 in
theorem walk (fs0 : List (List Int)) (v0 : Value) (w : World) (hs0 : SlD w v0 fs0) (hl0 : fs0.length ≤ maxLen ∧ ∀ i, i < fs0.length → (fs0.getD i []).length ≤ maxLen) : Calls Try.prog 7 #[v0] w fun e w' => e = .returned (.bool true) ∧ Below w.heap.size w w' := by
  have HS0 := Lib.hid (fun z (hb : Below w.heap.size w z) left h1 h0 => szDs_any fs0 v0 left z hl0.1 hl0.2 (hs0.later hb) h1 h0)
  have HA0 := Lib.hid hs0
  obtain ⟨p0, cap0, rfl, _⟩ := hs0
  obtain ⟨l0, hz0⟩ : ∃ l, l = szV (fs0.length + totD fs0 fs0.length) 1048576 := ⟨_, rfl⟩
  have Hz0 := Lib.hid hz0
  clear hz0
  by_cases hneg0 : l0 < 0
  · skip
    go_enter Try.func7, Try.ntmps7
    have Bel0 := Lib.hid (Below.refl w.heap.size w)
    go_wp2_with fail
    refine (HS0.out _ Bel0.out _ (by omega) (by omega)).mono ?_
    rintro e u1 ⟨rfl, hb⟩
    rw [← Hz0.out]
    have Bel1 := Lib.hid (below_step Bel0.out hb (Nat.le_refl _))
    have hzz1 := hb.size
    clear hb Bel0 
    go_wp2
    go_ret
    exact ⟨ret_bool (by simp), Bel1.out⟩
  have hl1_0 : l0 ≤ 1048576 := by have hz := Hz0.out; unfold szV at hz; split at hz <;> omega
  have hn0 : fs0.length ≤ 1048576 ∧ totD fs0 fs0.length ≤ 1048576 := by have hz := Hz0.out; unfold szV at hz; split at hz <;> omega
  obtain ⟨R0, R1, R2, Hspec, Himpl⟩ : ∃ (R0 : Int) (R1 : Int) (R2 : Bool), Hid (∀ (v0 : Value) (w : World), SlD w v0 fs0 → Calls Try.prog 33 #[v0] w fun e w' => e = .returned (.tuple #[.int .i64 R0, .int .i64 R1, .bool R2]) ∧ Below w.heap.size w w') ∧ Hid (∀ (v0 : Value) (w : World), SlD w v0 fs0 → Calls Try.prog 34 #[v0] w fun e w' => e = .returned (.tuple #[.int .i64 R0, .int .i64 R1, .bool R2]) ∧ Below w.heap.size w w') := ⟨(res_SpreadOf fs0), (res2_SpreadOf fs0), (ok_SpreadOf fs0), Lib.hid fun v0 w h0 => spec_SpreadOf fs0 v0 w hn0.1 hn0.2 h0, Lib.hid fun v0 w h0 => impl_SpreadOf fs0 v0 w hn0.1 hn0.2 h0⟩
  go_enter Try.func7, Try.ntmps7
  have Bel0 := Lib.hid (Below.refl w.heap.size w)
  go_wp2_with fail
  refine (HS0.out _ Bel0.out _ (by omega) (by omega)).mono ?_
  rintro e u1 ⟨rfl, hb⟩
  rw [← Hz0.out]
  have Bel1 := Lib.hid (below_step Bel0.out hb (Nat.le_refl _))
  have hzz1 := hb.size
  clear hb Bel0 
  go_wp2_with fail
  refine (toDs_any fs0 _ _ hn0.1 hn0.2 (HA0.out.later Bel1.out)).mono ?_
  rintro e u2 ⟨ts0, rfl, ht, hb⟩
  have Bel2 := Lib.hid (below_step Bel1.out hb (Nat.le_refl _))
  have hzz2 := hb.size
  have Fs0_2 := Lib.hid ht
  clear hb Bel1 
  clear ht
  go_wp2_with fail
  refine (Hspec.out _ _ Fs0_2.out.sl).mono ?_
  rintro e u3 ⟨rfl, hb⟩
  have Bel3 := Lib.hid (below_step Bel2.out hb (Nat.le_refl _))
  have hzz3 := hb.size
  have Fs0_3 := Lib.hid (Fs0_2.out.later hb)
  clear hb Bel2 Fs0_2
  clear Fs0_3
  go_wp2_with fail
  refine (toDs_any fs0 _ _ hn0.1 hn0.2 (HA0.out.later Bel3.out)).mono ?_
  rintro e u4 ⟨tx0, rfl, ht, hb⟩
  have Bel4 := Lib.hid (below_step Bel3.out hb (Nat.le_refl _))
  have hzz4 := hb.size
  have Fx0_4 := Lib.hid ht
  clear hb Bel3 
  clear ht
  go_wp2_with fail
  refine (Himpl.out _ _ Fx0_4.out.sl).mono ?_
  rintro e u5 ⟨rfl, hb⟩
  have Bel5 := Lib.hid (below_step Bel4.out hb (Nat.le_refl _))
  have hzz5 := hb.size
  have Fx0_5 := Lib.hid (Fx0_4.out.later hb)
  clear hb Bel4 Fx0_4
  go_wp2_with fail
  refine (toDs_any fs0 _ _ hn0.1 hn0.2 (HA0.out.later Bel5.out)).mono ?_
  rintro e u6 ⟨tc0, rfl, ht, hb⟩
  have Bel6 := Lib.hid (below_step Bel5.out hb (Nat.le_refl _))
  have hzz6 := hb.size
  have Fx0_6 := Lib.hid (Fx0_5.out.later hb)
  have Fc0_6 := Lib.hid ht
  clear hb Bel5 Fx0_5
  clear ht
  go_wp2_with fail
  refine (eqDs_any fs0 _ _ _ hn0.1 hn0.2 Fx0_6.out.sl Fc0_6.out.sl).mono ?_
  rintro e u7 ⟨rfl, hb⟩
  have Bel7 := Lib.hid (below_step Bel6.out hb (Nat.le_refl _))
  have hzz7 := hb.size
  have Fx0_7 := Lib.hid (Fx0_6.out.later hb)
  have Fc0_7 := Lib.hid (Fc0_6.out.later hb)
  clear hb Bel6 Fx0_6 Fc0_6
  clear Fc0_7
  go_wp2
  go_ret
  exact ⟨ret_bool (by simp), Bel7.out⟩

set_option maxRecDepth 100000 in
theorem lifted (os : Os) (started : os.Started) (H : Type) (enc : TypeId × Value → H) :
    ReturnsInHanded {} Try.checked os 7 .any (Rows.fnExactSpreadOfSpec.pre6 enc Try.prog Try.f7 Rows.fnExactSpreadOfRow.domain false) (Rows.fnExactSpreadOfSpec.post enc Try.prog Try.f7 false true false false) := by
  refine returnsInHanded_of_change (C := Try.checked) Lift.own started (by kernel_rfl) Try.func7
    (ChangeSpec.witness6 (enc := enc) (C := Try.checked) false ⟨#[], #[.slice none 0 0], []⟩ 8 (by kernel_rfl) (by kernel_rfl) (by kernel_rfl) (by kernel_rfl)) ?_
  intro W base args ds gs before hval0 hW hcnd _
  have hval : ∀ (j : Nat) t v, Try.f7.params[j]? = some t → args[j]? = some v → Value.okWide Try.prog W .any base t v := hval0
  have hW' := hW
  obtain ⟨p, q, hA0, hV, rfl, hfz, hnd⟩ := hW
  have hA : DataW.TrodAll enc Try.prog W 0 (fun _ => true) true Try.f7.params.toList args.toList ds p := hA0
  obtain ⟨rfl, rfl⟩ := trodVars_none hV
  have hA1 := hA
  rw [Try.params7] at hA1 hval
  obtain ⟨v0, vs0, d0, ds0, p0, q0, hargs, rfl, rfl, h0, r0⟩ := trodAll_cons hA1
  obtain ⟨rfl, rfl, rfl⟩ := trodAll_nil r0
  obtain rfl : args = #[v0] := by cases args; simp_all
  simp only [List.append_nil] at hW' hA
  obtain ⟨a0, w0, l0⟩ := open_dice Try.underlying2 Try.underlying22 (by kernel_rfl) Try.underlying24 (by kernel_rfl) rfl (by kernel_rfl) Try.underlying31 (hval 0 31 v0 rfl rfl) h0
  refine (walk a0 v0 W w0 l0).mono fun e W' ⟨he, hb⟩ => ?_
  subst he
  refine ⟨_, rfl, Lift.law_post Lift.laidOut hW' hA rfl rfl rfl rfl (by kernel_rfl) Try.underlying4 ?_ hb⟩
  rw [Try.params7]
  intro t ht
  simp only [List.mem_cons, List.not_mem_nil, or_false] at ht
  subst ht; exact ⟨by kernel_rfl, of_decide_eq_true (by kernel_rfl)⟩

theorem proved : Rows.FnExactSpreadOfSaid :=
  OpenClaim.holds_of_wide 7 Try.f7 rfl rfl rfl rfl rfl rfl rfl ⟨rfl, rfl, rfl, rfl, rfl⟩ rfl rfl rfl rfl rfl (by kernel_rfl) Try.func7 (by kernel_rfl)
    (of_decide_eq_true (by kernel_rfl)) (by unfold Func.isWrapper; first | (rw [if_pos (by decide +kernel)]; kernel_rfl) | (rw [if_neg (by decide +kernel)]; exact ⟨rfl, rfl⟩))
    (fun os started H enc _ => lifted os started H enc)
end Go.Proofs.Ytaimbadajgjhaaa.fnExactSpreadOf
