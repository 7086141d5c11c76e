/- FnExactValidSaved: for what is saved, ValidSaved answers as its model; no condition. -/
import Derived.Test.YtcoehcoohppbjaaLo
import Derived.Test.YtcoehcoohppbjaaBg
import Derived.Test.YtcoehcoohppbjaaBf
import Derived.Deep.RegionLawGrows
set_option linter.unusedVariables false
namespace Go.Proofs.Ytcoehcoohppbjaa.fnExactValidSaved
open Go.ChangeShapes Go.WideShapes Go.ChangeAt Go.RowKit
open Go.ChangeMaps (open_string)

set_option maxRecDepth 100000 in
set_option maxHeartbeats 4000000 in
theorem walk (s0 : ByteArray) (fs0 : List Int) (ds0 : List (List Int)) (v0 : Value) (w : World) (HV0 : Vv w v0 s0 fs0 ds0) (hl0 : s0.size ≤ maxLen ∧ fs0.length ≤ maxLen ∧ ds0.length ≤ maxLen ∧ ∀ i, i < ds0.length → (ds0.getD i []).length ≤ maxLen) : Calls Try.prog 6 #[v0] w fun e w' => e = .returned (.bool true) ∧ Below w.heap.size w w' := by
  have HS0 := Lib.hid (fun z (hb : Below w.heap.size w z) left h1 h0 => szSaved_any s0 fs0 ds0 v0 left z hl0.1 hl0.2.1 hl0.2.2.1 hl0.2.2.2 (HV0.later hb) h1 h0)
  have HA0 := Lib.hid HV0
  have hl00 := hl0.1
  obtain ⟨b0, c0, rfl, _⟩ := HV0
  obtain ⟨l0, hz0⟩ : ∃ l, l = szV3 s0.size fs0.length (ds0.length + totD ds0 ds0.length) 1048576 := ⟨_, rfl⟩
  have Hz0 := Lib.hid hz0
  clear hz0
  by_cases hneg0 : l0 < 0
  · skip
    go_enter Try.func6, Try.ntmps6
    have Bel0 := Lib.hid ((Below.refl _ w).alloc (Nat.le_refl _) (.cells #[.string s0, b0, c0] 37))
    have Bx0_0 := Lib.hid (BxK.new w 37 #[.string s0, b0, c0])
    have kBx0_a := Bx0_0.out.cell 0 rfl
    have kBx0_b := Bx0_0.out.cell 1 rfl
    have kBx0_c := Bx0_0.out.cell 2 rfl
    go_wp2_with fail
    refine (HS0.out _ Bel0.out _ (by omega) (by omega)).mono ?_
    rintro e u1 ⟨rfl, hb⟩
    rw [← Hz0.out]
    have Bel1 := Lib.hid (below_step Bel0.out hb (Nat.le_refl _))
    have hzz1 := hb.size
    have Bx0_1 := Lib.hid (BxK.below Bx0_0.out hb Bx0_0.out.lt)
    clear hb Bel0 Bx0_0
    clear kBx0_a kBx0_b kBx0_c
    go_wp2
    go_ret
    exact ⟨ret_bool (by simp), Bel1.out⟩
  obtain ⟨hl1_0, hnq, hn1, hn2⟩ : l0 ≤ 1048576 ∧ s0.size ≤ 1048576 ∧ fs0.length ≤ 1048576 ∧ ds0.length + totD ds0 ds0.length ≤ 1048576 := by rw [Hz0.out] at hneg0 ⊢; exact szV3_small _ _ _ _ (by omega) hneg0
  have hn3 : ds0.length ≤ 1048576 := by omega
  have hn4 : totD ds0 ds0.length ≤ 1048576 := by omega
  obtain ⟨R0, Hspec, Himpl⟩ : ∃ (R0 : Bool), Hid (∀ (v0 : Value) (w : World), Vv w v0 s0 fs0 ds0 → Calls Try.prog 27 #[v0] w fun e w' => e = .returned (.bool R0) ∧ Below w.heap.size w w') ∧ Hid (∀ (v0 : Value) (w : World), Vv w v0 s0 fs0 ds0 → Calls Try.prog 29 #[v0] w fun e w' => e = .returned (.bool R0) ∧ Below w.heap.size w w') := ⟨savedB s0 fs0 ds0, Lib.hid fun v0 w h0 => spec_saved s0 fs0 ds0 v0 w hl00 hn1 hn3 hn4 h0, Lib.hid fun v0 w h0 => impl_saved s0 fs0 ds0 v0 w hl00 hn1 hn3 hn4 h0⟩
  go_enter Try.func6, Try.ntmps6
  have Bel0 := Lib.hid ((Below.refl _ w).alloc (Nat.le_refl _) (.cells #[.string s0, b0, c0] 37))
  have Bx0_0 := Lib.hid (BxK.new w 37 #[.string s0, b0, c0])
  have kBx0_a := Bx0_0.out.cell 0 rfl
  have kBx0_b := Bx0_0.out.cell 1 rfl
  have kBx0_c := Bx0_0.out.cell 2 rfl
  go_wp2_with fail
  refine (HS0.out _ Bel0.out _ (by omega) (by omega)).mono ?_
  rintro e u1 ⟨rfl, hb⟩
  rw [← Hz0.out]
  have Bel1 := Lib.hid (below_step Bel0.out hb (Nat.le_refl _))
  have hzz1 := hb.size
  have Bx0_1 := Lib.hid (BxK.below Bx0_0.out hb Bx0_0.out.lt)
  clear hb Bel0 Bx0_0
  clear kBx0_a kBx0_b kBx0_c
  have kBx0_a := Bx0_1.out.cell 0 rfl
  have kBx0_b := Bx0_1.out.cell 1 rfl
  have kBx0_c := Bx0_1.out.cell 2 rfl
  go_wp2_with fail
  refine (toSaved_any s0 fs0 ds0 _ _ hn1 hn3 hn4 (HA0.out.later Bel1.out)).mono ?_
  rintro e u2 ⟨ts0, rfl, ht, hb⟩
  have Bel2 := Lib.hid (below_step Bel1.out hb (Nat.le_refl _))
  have hzz2 := hb.size
  have Bx0_2 := Lib.hid (BxK.below Bx0_1.out hb Bx0_1.out.lt)
  have Fs0_2 := Lib.hid ht
  clear hb Bel1 Bx0_1
  clear kBx0_a kBx0_b kBx0_c
  clear ht
  go_wp2_with fail
  refine (Hspec.out _ _ Fs0_2.out.vv).mono ?_
  rintro e u3 ⟨rfl, hb⟩
  have Bel3 := Lib.hid (below_step Bel2.out hb (Nat.le_refl _))
  have hzz3 := hb.size
  have Bx0_3 := Lib.hid (BxK.below Bx0_2.out hb Bx0_2.out.lt)
  have Fs0_3 := Lib.hid (Fs0_2.out.later hb)
  clear hb Bel2 Bx0_2 Fs0_2
  clear Fs0_3
  have kBx0_a := Bx0_3.out.cell 0 rfl
  have kBx0_b := Bx0_3.out.cell 1 rfl
  have kBx0_c := Bx0_3.out.cell 2 rfl
  go_wp2_with fail
  refine (toSaved_any s0 fs0 ds0 _ _ hn1 hn3 hn4 (HA0.out.later Bel3.out)).mono ?_
  rintro e u4 ⟨tx0, rfl, ht, hb⟩
  have Bel4 := Lib.hid (below_step Bel3.out hb (Nat.le_refl _))
  have hzz4 := hb.size
  have Bx0_4 := Lib.hid (BxK.below Bx0_3.out hb Bx0_3.out.lt)
  have Fx0_4 := Lib.hid ht.vv
  clear hb Bel3 Bx0_3
  clear kBx0_a kBx0_b kBx0_c
  obtain ⟨y0, z0, _, rfl, _, _, _, ⟨py0, cy0, rfl, -⟩, ⟨pz0, cz0, rfl, -⟩⟩ := ht
  have qBx0_0 := (Bx0_4.out.alloc (.cells #[.string s0, .slice py0 fs0.length cy0, .slice pz0 ds0.length cz0] 42)).cell 0 rfl
  have qBx0_1 := (Bx0_4.out.alloc (.cells #[.string s0, .slice py0 fs0.length cy0, .slice pz0 ds0.length cz0] 42)).cell 1 rfl
  have qBx0_2 := (Bx0_4.out.alloc (.cells #[.string s0, .slice py0 fs0.length cy0, .slice pz0 ds0.length cz0] 42)).cell 2 rfl
  go_wp2_with fail
  clear qBx0_0 qBx0_1 qBx0_2
  have hb := (Below.refl u4.heap.size u4).alloc (Nat.le_refl _) (.cells #[.string s0, .slice py0 fs0.length cy0, .slice pz0 ds0.length cz0] 42)
  have bz0 := BxK.new u4 42 #[.string s0, .slice py0 fs0.length cy0, .slice pz0 ds0.length cz0]
  generalize hu : (u4.alloc (.cells #[.string s0, .slice py0 fs0.length cy0, .slice pz0 ds0.length cz0] 42)) = u5 at *
  clear hu
  have Bel5 := Lib.hid (below_step Bel4.out hb (Nat.le_refl _))
  have hzz5 := hb.size
  have Bx0_5 := Lib.hid (BxK.below Bx0_4.out hb Bx0_4.out.lt)
  have Fx0_5 := Lib.hid (Fx0_4.out.later hb)
  have Bz0_5 := Lib.hid bz0
  clear hb Bel4 Bx0_4 Fx0_4
  clear bz0
  have kBz0_a := Bz0_5.out.cell 0 rfl
  have kBz0_b := Bz0_5.out.cell 1 rfl
  have kBz0_c := Bz0_5.out.cell 2 rfl
  go_wp2_with fail
  refine (Himpl.out _ _ Fx0_5.out).mono ?_
  rintro e u6 ⟨rfl, hb⟩
  have Bel6 := Lib.hid (below_step Bel5.out hb (Nat.le_refl _))
  have hzz6 := hb.size
  have Bx0_6 := Lib.hid (BxK.below Bx0_5.out hb Bx0_5.out.lt)
  have Fx0_6 := Lib.hid (Fx0_5.out.later hb)
  have Bz0_6 := Lib.hid (BxK.below Bz0_5.out hb Bz0_5.out.lt)
  clear hb Bel5 Bx0_5 Fx0_5 Bz0_5
  clear kBz0_a kBz0_b kBz0_c
  have kBx0_a := Bx0_6.out.cell 0 rfl
  have kBx0_b := Bx0_6.out.cell 1 rfl
  have kBx0_c := Bx0_6.out.cell 2 rfl
  have kBz0_a := Bz0_6.out.cell 0 rfl
  have kBz0_b := Bz0_6.out.cell 1 rfl
  have kBz0_c := Bz0_6.out.cell 2 rfl
  have Hrun := Lib.hid (fun z (hz : Below u6.heap.size u6 z) => (Bel6.out.trans (hz.mono Bel6.out.size)))
  go_wp2
  go_region_law (first | (go_simp; go_at_call 28; refine (toSaved_any s0 fs0 ds0 _ _ hn1 hn3 hn4 (HA0.out.later (Hrun.out _ (below_drewN (Below.refl _ _) _)))).mono ?_; rintro e y1 ⟨tc, rfl, ht, hb⟩; have kz7_a := cell_keep hb kBz0_a; have kz7_b := cell_keep hb kBz0_b; have kz7_c := cell_keep hb kBz0_c; have Fc7 := Lib.hid ht; have Y1 := Lib.hid ((below_drewN (Below.refl _ _) _).trans hb); have Fx7 := Lib.hid (Fx0_6.out.later Y1.out); clear ht hb) | (go_simp; go_at_call 30; refine (eqSaved_any s0 fs0 ds0 _ _ _ hn1 hn3 hn4 Fx7.out Fc7.out.vv).mono ?_; rintro e u7 ⟨rfl, hb3⟩; have hb := below_step Y1.out hb3 (Nat.le_refl _); clear hb3))
  all_goals
    have Bel7 := Lib.hid (below_step Bel6.out hb (Nat.le_refl _))
    have hzz7 := hb.size
    have Bx0_7 := Lib.hid (BxK.below Bx0_6.out hb Bx0_6.out.lt)
    have Fx0_7 := Lib.hid (Fx0_6.out.later hb)
    have Bz0_7 := Lib.hid (BxK.below Bz0_6.out hb Bz0_6.out.lt)
    clear hb Bel6 Bx0_6 Fx0_6 Bz0_6
    clear Y1 Fx7 Fc7 kz7_a kz7_b kz7_c Hrun
    clear kBx0_a kBx0_b kBx0_c kBz0_a kBz0_b kBz0_c
    go_wp2
    go_ret
    exact ⟨ret_bool (by simp), Bel7.out⟩

set_option maxRecDepth 100000 in
theorem lifted (os : Os) (started : os.Started) (H : Type) (enc : TypeId × Value → H) :
    ReturnsInHanded {} Try.checked os 6 .any (Rows.fnExactValidSavedSpec.pre6 enc Try.prog Try.f6 Rows.fnExactValidSavedRow.domain false) (Rows.fnExactValidSavedSpec.post enc Try.prog Try.f6 false true false false) := by
  refine returnsInHanded_of_change (C := Try.checked) Lift.own started (by kernel_rfl) Try.func6
    (ChangeSpec.witness6 (enc := enc) (C := Try.checked) false ⟨#[], #[.agg #[.string ⟨#[]⟩, .slice none 0 0, .slice none 0 0]], []⟩ 8 (by kernel_rfl) (by kernel_rfl) (by kernel_rfl) (by kernel_rfl)) ?_
  intro W base args ds gs before hval0 hW hcnd _
  have hval : ∀ (j : Nat) t v, Try.f6.params[j]? = some t → args[j]? = some v → Value.okWide Try.prog W .any base t v := hval0
  have hW' := hW
  obtain ⟨p, q, hA0, hV, rfl, hfz, hnd⟩ := hW
  have hA : DataW.TrodAll enc Try.prog W 0 (fun _ => true) true Try.f6.params.toList args.toList ds p := hA0
  obtain ⟨rfl, rfl⟩ := trodVars_none hV
  have hA1 := hA
  rw [Try.params6] at hA1 hval
  obtain ⟨v0, vs0, d0, ds0, p0, q0, hargs, rfl, rfl, h0, r0⟩ := trodAll_cons hA1
  obtain ⟨rfl, rfl, rfl⟩ := trodAll_nil r0
  obtain rfl : args = #[v0] := by cases args; simp_all
  simp only [List.append_nil] at hW' hA
  obtain ⟨s0, fs0, ds0, w0, l0⟩ := open_saved Try.underlying2 Try.underlying22 (by kernel_rfl) Try.underlying9 Try.underlying134 (by kernel_rfl) rfl (by kernel_rfl) Try.underlying35 Try.underlying37 (by kernel_rfl) rfl (by kernel_rfl) (hval 0 37 v0 rfl rfl) h0
  refine (walk s0 fs0 ds0 v0 W w0 l0).mono fun e W' ⟨he, hb⟩ => ?_
  subst he
  refine ⟨_, rfl, Lift.law_post Lift.laidOut hW' hA rfl rfl rfl rfl (by kernel_rfl) Try.underlying4 ?_ hb⟩
  rw [Try.params6]
  intro t ht
  simp only [List.mem_cons, List.not_mem_nil, or_false] at ht
  subst ht; exact ⟨by kernel_rfl, of_decide_eq_true (by kernel_rfl)⟩

theorem proved : Rows.FnExactValidSavedSaid :=
  OpenClaim.holds_of_wide 6 Try.f6 rfl rfl rfl rfl rfl rfl rfl ⟨rfl, rfl, rfl, rfl, rfl⟩ rfl rfl rfl rfl rfl (by kernel_rfl) Try.func6 (by kernel_rfl)
    (of_decide_eq_true (by kernel_rfl)) (by unfold Func.isWrapper; first | (rw [if_pos (by decide +kernel)]; kernel_rfl) | (rw [if_neg (by decide +kernel)]; exact ⟨rfl, rfl⟩))
    (fun os started H enc _ => lifted os started H enc)
end Go.Proofs.Ytcoehcoohppbjaa.fnExactValidSaved
