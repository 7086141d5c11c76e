/- FnExactSumNumbers: for every list of 32-bit numbers, SumNumbers answers as its model; no condition. -/
import Derived.Test.YthdbjdpkckmbeacSlo
namespace Go.Proofs.Ythdbjdpkckmbeac.fnExactSumNumbers
open Go.ChangeShapes Go.WideShapes Go.ChangeAt Go.RowKit Fl
open Go.ChangeMaps (open_string)

theorem walk (fs : List Nat) (v : Value) (w : World) (hs : Sl (Value.float .f32) 0 w v fs) (hl : fs.length ≤ maxLen) : Calls Try.prog 4 #[v] w fun e w' => e = .returned (.bool true) ∧ Below w.heap.size w w' := by
  unfold maxLen at hl
  by_cases hbig : 1048576 < fs.length
  · obtain ⟨p, cap, rfl, hf⟩ := hs
    clear hf
    generalize fs.length = n at *
    go_enter Try.func4, Try.ntmps4
    go_wp2
    all_goals (go_ret; exact ⟨ret_bool (by simp), Below.refl _ _⟩)
  · have hl2 : fs.length ≤ 1048576 := by omega
    have hs0 := hs
    obtain ⟨p, cap, rfl, hf⟩ := hs
    have Hs0 := Lib.hid hs0
    clear hf hs0
    by_cases hfew : fs.length ≤ 256
    · skip
      go_enter Try.func4, Try.ntmps4
      go_wp2_with fail
      refine (toF_any fs _ _ hl2 Hs0.out).mono ?_
      rintro e w1 ⟨v1, rfl, hv1, hb1⟩
      have Hv1 := Lib.hid hv1
      have Hb1 := Lib.hid hb1
      clear hv1 hb1
      go_wp2_with fail
      refine (sumspec_yes fs _ _ hfew Hv1.out).mono ?_; rintro e w' ⟨r1, n1, rfl, rfl, hr1⟩; have Hr1 := Lib.hid hr1; clear hr1; have Hc1 := Lib.hid (below_drewN Hb1.out n1)
      go_wp2_with fail
      refine (toF_any fs _ _ hl2 (Hs0.out.later Hc1.out)).mono ?_
      rintro e w2 ⟨v2, rfl, hv2, hb2⟩
      have Hv2 := Lib.hid hv2
      have Hb2 := Lib.hid (below_step Hc1.out hb2 (Nat.le_refl _))
      clear hv2 hb2
      go_wp2_with fail
      refine (sum_yes fs _ _ hfew Hv2.out).mono ?_; rintro e w' ⟨r2, n2, rfl, rfl, hr2⟩; have Hr2 := Lib.hid hr2; clear hr2
      go_wp2_with (first | (refine wpList_fconv rfl _ _ _ rfl .f32 .f64 (by kernel_rfl) (by kernel_rfl) _ rfl ?_; intro r n hr) | (go_at_call 14; refine (sameFloat_any _ _ (SameF.wide (SumR.same Hr2.out Hr1.out) (by assumption) (by assumption)) _).mono ?_; rintro e w' ⟨rfl, n3, rfl⟩))
      refine (toF_any fs _ _ hl2 (Hs0.out.later (below_drewN Hb2.out _))).mono ?_
      rintro e w3 ⟨v3, rfl, hv3, hb3⟩
      have Hv3 := Lib.hid hv3
      have Hb3 := Lib.hid (below_step (below_drewN Hb2.out _) hb3 (Nat.le_refl _))
      have Hv2' := Lib.hid ((show Sl (Value.float .f32) 0 (w2.drewN _) v2 fs from Hv2.out).later hb3)
      clear hv3 hb3
      go_wp2_with fail
      refine (eqF_any fs _ _ _ hl2 Hv2'.out Hv3.out).mono ?_
      rintro e w' ⟨n4, rfl, rfl⟩
      go_wp2_with fail
      go_ret
      exact ⟨ret_bool (by simp), below_drewN Hb3.out _⟩

    · have hmany : 256 < fs.length := by omega
      go_enter Try.func4, Try.ntmps4
      go_wp2_with fail
      refine (toF_any fs _ _ hl2 Hs0.out).mono ?_
      rintro e w1 ⟨v1, rfl, hv1, hb1⟩
      have Hv1 := Lib.hid hv1
      have Hb1 := Lib.hid hb1
      clear hv1 hb1
      go_wp2_with fail
      refine (sumspec_no fs _ _ hmany hl2 Hv1.out).mono ?_; rintro e w' ⟨rfl, rfl⟩; have Hc1 := Lib.hid Hb1.out
      go_wp2_with fail
      refine (toF_any fs _ _ hl2 (Hs0.out.later Hc1.out)).mono ?_
      rintro e w2 ⟨v2, rfl, hv2, hb2⟩
      have Hv2 := Lib.hid hv2
      have Hb2 := Lib.hid (below_step Hc1.out hb2 (Nat.le_refl _))
      clear hv2 hb2
      go_wp2_with fail
      refine (sum_no fs _ _ hmany hl2 Hv2.out).mono ?_; rintro e w' ⟨rfl, rfl⟩
      go_wp2_with (first | (refine wpList_fconv rfl _ _ _ rfl .f32 .f64 (by kernel_rfl) (by kernel_rfl) _ rfl ?_; intro r n hr) | (go_at_call 14; refine (sameFloat_any _ _ (SameF.wide (rfl : SameF .f32 0 0) (by assumption) (by assumption)) _).mono ?_; rintro e w' ⟨rfl, n3, rfl⟩))
      refine (toF_any fs _ _ hl2 (Hs0.out.later (below_drewN Hb2.out _))).mono ?_
      rintro e w3 ⟨v3, rfl, hv3, hb3⟩
      have Hv3 := Lib.hid hv3
      have Hb3 := Lib.hid (below_step (below_drewN Hb2.out _) hb3 (Nat.le_refl _))
      have Hv2' := Lib.hid ((show Sl (Value.float .f32) 0 (w2.drewN _) v2 fs from Hv2.out).later hb3)
      clear hv3 hb3
      go_wp2_with fail
      refine (eqF_any fs _ _ _ hl2 Hv2'.out Hv3.out).mono ?_
      rintro e w' ⟨n4, rfl, rfl⟩
      go_wp2_with fail
      go_ret
      exact ⟨ret_bool (by simp), below_drewN Hb3.out _⟩


set_option maxRecDepth 100000 in
theorem lifted (os : Os) (started : os.Started) (H : Type) (enc : TypeId × Value → H) :
    ReturnsInHanded {} Try.checked os 4 .any (Rows.fnExactSumNumbersSpec.pre6 enc Try.prog Try.f4 Rows.fnExactSumNumbersRow.domain false) (Rows.fnExactSumNumbersSpec.post enc Try.prog Try.f4 false true false false) := by
  refine returnsInHanded_of_change (C := Try.checked) Lift.own started (by kernel_rfl) Try.func4
    (ChangeSpec.witness6 (enc := enc) (C := Try.checked) false ⟨#[], #[.slice none 0 0], []⟩ 8 (by kernel_rfl) (by kernel_rfl) (by kernel_rfl) (by kernel_rfl)) ?_
  intro W base args ds gs before hval0 hW hcnd _
  have hval : ∀ (j : Nat) t v, Try.f4.params[j]? = some t → args[j]? = some v → Value.okWide Try.prog W .any base t v := hval0
  have hW' := hW
  obtain ⟨p, q, hA0, hV, rfl, hfz, hnd⟩ := hW
  have hA : DataW.TrodAll enc Try.prog W 0 (fun _ => true) true Try.f4.params.toList args.toList ds p := hA0
  obtain ⟨rfl, rfl⟩ := trodVars_none hV
  have hA1 := hA
  rw [Try.params4] at hA1 hval
  obtain ⟨v0, vs0, d0, ds0, p0, q0, hargs, rfl, rfl, h0, r0⟩ := trodAll_cons hA1
  obtain ⟨rfl, rfl, rfl⟩ := trodAll_nil r0
  obtain rfl : args = #[v0] := by cases args; simp_all
  simp only [List.append_nil] at hW' hA
  obtain ⟨a0, w0, _, l0⟩ := open_sl (Value.float .f32) 0 (fun b => (Lit.float .f32 b).wf = true) (float_el Try.underlying22) Try.underlying26 (by kernel_rfl) (hval 0 26 v0 rfl rfl) h0
  refine (walk a0 v0 W w0 l0).mono fun e W' ⟨he, hb⟩ => ?_
  subst he
  refine ⟨_, rfl, Lift.law_post Lift.laidOut hW' hA rfl rfl rfl rfl (by kernel_rfl) Try.underlying4 ?_ hb⟩
  rw [Try.params4]
  intro t ht
  simp only [List.mem_cons, List.not_mem_nil, or_false] at ht
  subst ht; exact ⟨by kernel_rfl, of_decide_eq_true (by kernel_rfl)⟩

theorem proved : Rows.FnExactSumNumbersSaid :=
  OpenClaim.holds_of_wide 4 Try.f4 rfl rfl rfl rfl rfl rfl rfl ⟨rfl, rfl, rfl, rfl, rfl⟩ rfl rfl rfl rfl rfl (by kernel_rfl) Try.func4 (by kernel_rfl)
    (of_decide_eq_true (by kernel_rfl)) (by unfold Func.isWrapper; first | (rw [if_pos (by decide +kernel)]; kernel_rfl) | (rw [if_neg (by decide +kernel)]; exact ⟨rfl, rfl⟩))
    (fun os started H enc _ => lifted os started H enc)
end Go.Proofs.Ythdbjdpkckmbeac.fnExactSumNumbers
