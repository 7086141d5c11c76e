/- FnExactDotNumbers: for every two lists of 32-bit numbers, DotNumbers answers as its model; no condition. -/
import Derived.Test.YthdbjdpkckmbeacSlo
namespace Go.Proofs.Ythdbjdpkckmbeac.fnExactDotNumbers
open Go.ChangeShapes Go.WideShapes Go.ChangeAt Go.RowKit Fl
open Go.ChangeMaps (open_string)

set_option maxHeartbeats 1000000 in
theorem walk (fs : List Nat) (v : Value) (gs : List Nat) (u : Value) (w : World) (hs : Sl (Value.float .f32) 0 w v fs) (hl : fs.length ≤ maxLen) (ht : Sl (Value.float .f32) 0 w u gs) (hm : gs.length ≤ maxLen) : Calls Try.prog 5 #[v, u] w fun e w' => e = .returned (.bool true) ∧ Below w.heap.size w w' := by
  unfold maxLen at hl hm
  have hs0 := hs
  have ht0 := ht
  obtain ⟨p, cap, rfl, hf⟩ := hs
  obtain ⟨p', cap', rfl, hg⟩ := ht
  have Hs0 := Lib.hid hs0
  have Ht0 := Lib.hid ht0
  clear hf hs0 hg ht0
  by_cases hbig : 1048576 < fs.length
  · clear Hs0 Ht0
    go_enter Try.func5, Try.ntmps5
    go_wp2
    all_goals (go_ret; exact ⟨ret_bool (by simp), Below.refl _ _⟩)
  · have hl2 : fs.length ≤ 1048576 := by omega
    by_cases hbig2 : 1048576 < gs.length
    · clear Hs0 Ht0
      go_enter Try.func5, Try.ntmps5
      go_wp2
      all_goals (go_ret; exact ⟨ret_bool (by simp), Below.refl _ _⟩)
    · have hm2 : gs.length ≤ 1048576 := by omega
      by_cases hyes : fs.length ≤ 256 ∧ gs.length = fs.length
      · obtain ⟨hfew, he⟩ := hyes
        have Hhe := Lib.hid he
        clear he
        go_enter Try.func5, Try.ntmps5
        go_wp2_with fail
        refine (toF_any fs _ _ hl2 Hs0.out).mono ?_
        rintro e w1 ⟨v1, rfl, hv1, hb1⟩
        have Hv1a := Lib.hid hv1
        have Hb1 := Lib.hid hb1
        clear hv1 hb1
        go_wp2_with fail
        refine (toF_any gs _ _ hm2 (Ht0.out.later Hb1.out)).mono ?_
        rintro e w1b ⟨u1, rfl, hu1, hb1b⟩
        have Hu1 := Lib.hid hu1
        have Hv1 := Lib.hid (Hv1a.out.later hb1b)
        have Hb1b := Lib.hid (below_step Hb1.out hb1b (Nat.le_refl _))
        clear hu1 hb1b
        go_wp2_with fail
        refine (dotspec_yes fs gs _ _ _ hfew Hhe.out Hv1.out Hu1.out).mono ?_; rintro e w' ⟨r1, n1, rfl, rfl, hr1⟩; have Hr1 := Lib.hid hr1; clear hr1; have Hc1 := Lib.hid (below_drewN Hb1b.out n1)
        go_wp2_with fail
        refine (toF_any fs _ _ hl2 (Hs0.out.later Hc1.out)).mono ?_
        rintro e w2 ⟨v2, rfl, hv2, hb2⟩
        have Hv2a := Lib.hid hv2
        have Hb2 := Lib.hid (below_step Hc1.out hb2 (Nat.le_refl _))
        clear hv2 hb2
        go_wp2_with fail
        refine (toF_any gs _ _ hm2 (Ht0.out.later Hb2.out)).mono ?_
        rintro e w2b ⟨u2, rfl, hu2, hb2b⟩
        have Hu2 := Lib.hid hu2
        have Hv2 := Lib.hid (Hv2a.out.later hb2b)
        have Hb2b := Lib.hid (below_step Hb2.out hb2b (Nat.le_refl _))
        clear hu2 hb2b
        go_wp2_with fail
        refine (dot_yes fs gs _ _ _ hfew Hhe.out Hv2.out Hu2.out).mono ?_; rintro e w' ⟨r2, n2, rfl, rfl, hr2⟩; have Hr2 := Lib.hid hr2; clear hr2
        go_wp2_with (first | (refine wpList_fconv rfl _ _ _ rfl .f32 .f64 (by kernel_rfl) (by kernel_rfl) _ rfl ?_; intro r n hr) | (go_at_call 14; refine (sameFloat_any _ _ (SameF.wide (DotR.same Hr2.out Hr1.out) (by assumption) (by assumption)) _).mono ?_; rintro e w' ⟨rfl, n3, rfl⟩))
        refine (toF_any fs _ _ hl2 (Hs0.out.later (below_drewN Hb2b.out _))).mono ?_
        rintro e w3 ⟨v3, rfl, hv3, hb3⟩
        have Hv3 := Lib.hid hv3
        have Hb3 := Lib.hid (below_step (below_drewN Hb2b.out _) hb3 (Nat.le_refl _))
        have Hv2' := Lib.hid ((show Sl (Value.float .f32) 0 (w2b.drewN _) v2 fs from Hv2.out).later hb3)
        have Hu2' := Lib.hid ((show Sl (Value.float .f32) 0 (w2b.drewN _) u2 gs from Hu2.out).later hb3)
        clear hv3 hb3
        go_wp2_with fail
        refine (eqF_any fs _ _ _ hl2 Hv2'.out Hv3.out).mono ?_
        rintro e w' ⟨n4, rfl, rfl⟩
        go_wp2_with fail
        refine (toF_any gs _ _ hm2 (Ht0.out.later (below_drewN Hb3.out _))).mono ?_
        rintro e w4 ⟨u4, rfl, hu4, hb4⟩
        have Hu4 := Lib.hid hu4
        have Hb4 := Lib.hid (below_step (below_drewN Hb3.out _) hb4 (Nat.le_refl _))
        have Hu2'' := Lib.hid ((show Sl (Value.float .f32) 0 (w3.drewN _) u2 gs from Hu2'.out).later hb4)
        clear hu4 hb4
        go_wp2_with fail
        refine (eqF_any gs _ _ _ hm2 Hu2''.out Hu4.out).mono ?_
        rintro e w' ⟨n5, rfl, rfl⟩
        go_wp2_with fail
        go_ret
        exact ⟨ret_bool (by simp), below_drewN Hb4.out _⟩

      · have hmany : 256 < fs.length ∨ gs.length ≠ fs.length := by omega
        have Hmany := Lib.hid hmany
        clear hmany hyes
        go_enter Try.func5, Try.ntmps5
        go_wp2_with fail
        refine (toF_any fs _ _ hl2 Hs0.out).mono ?_
        rintro e w1 ⟨v1, rfl, hv1, hb1⟩
        have Hv1a := Lib.hid hv1
        have Hb1 := Lib.hid hb1
        clear hv1 hb1
        go_wp2_with fail
        refine (toF_any gs _ _ hm2 (Ht0.out.later Hb1.out)).mono ?_
        rintro e w1b ⟨u1, rfl, hu1, hb1b⟩
        have Hu1 := Lib.hid hu1
        have Hv1 := Lib.hid (Hv1a.out.later hb1b)
        have Hb1b := Lib.hid (below_step Hb1.out hb1b (Nat.le_refl _))
        clear hu1 hb1b
        go_wp2_with fail
        refine (dotspec_no fs gs _ _ _ Hmany.out hl2 Hv1.out Hu1.out).mono ?_; rintro e w' ⟨rfl, rfl⟩; have Hc1 := Lib.hid Hb1b.out
        go_wp2_with fail
        refine (toF_any fs _ _ hl2 (Hs0.out.later Hc1.out)).mono ?_
        rintro e w2 ⟨v2, rfl, hv2, hb2⟩
        have Hv2a := Lib.hid hv2
        have Hb2 := Lib.hid (below_step Hc1.out hb2 (Nat.le_refl _))
        clear hv2 hb2
        go_wp2_with fail
        refine (toF_any gs _ _ hm2 (Ht0.out.later Hb2.out)).mono ?_
        rintro e w2b ⟨u2, rfl, hu2, hb2b⟩
        have Hu2 := Lib.hid hu2
        have Hv2 := Lib.hid (Hv2a.out.later hb2b)
        have Hb2b := Lib.hid (below_step Hb2.out hb2b (Nat.le_refl _))
        clear hu2 hb2b
        go_wp2_with fail
        refine (dot_no fs gs _ _ _ Hmany.out hl2 Hv2.out Hu2.out).mono ?_; rintro e w' ⟨rfl, rfl⟩
        go_wp2_with (first | (refine wpList_fconv rfl _ _ _ rfl .f32 .f64 (by kernel_rfl) (by kernel_rfl) _ rfl ?_; intro r n hr) | (go_at_call 14; refine (sameFloat_any _ _ (SameF.wide (rfl : SameF .f32 0 0) (by assumption) (by assumption)) _).mono ?_; rintro e w' ⟨rfl, n3, rfl⟩))
        refine (toF_any fs _ _ hl2 (Hs0.out.later (below_drewN Hb2b.out _))).mono ?_
        rintro e w3 ⟨v3, rfl, hv3, hb3⟩
        have Hv3 := Lib.hid hv3
        have Hb3 := Lib.hid (below_step (below_drewN Hb2b.out _) hb3 (Nat.le_refl _))
        have Hv2' := Lib.hid ((show Sl (Value.float .f32) 0 (w2b.drewN _) v2 fs from Hv2.out).later hb3)
        have Hu2' := Lib.hid ((show Sl (Value.float .f32) 0 (w2b.drewN _) u2 gs from Hu2.out).later hb3)
        clear hv3 hb3
        go_wp2_with fail
        refine (eqF_any fs _ _ _ hl2 Hv2'.out Hv3.out).mono ?_
        rintro e w' ⟨n4, rfl, rfl⟩
        go_wp2_with fail
        refine (toF_any gs _ _ hm2 (Ht0.out.later (below_drewN Hb3.out _))).mono ?_
        rintro e w4 ⟨u4, rfl, hu4, hb4⟩
        have Hu4 := Lib.hid hu4
        have Hb4 := Lib.hid (below_step (below_drewN Hb3.out _) hb4 (Nat.le_refl _))
        have Hu2'' := Lib.hid ((show Sl (Value.float .f32) 0 (w3.drewN _) u2 gs from Hu2'.out).later hb4)
        clear hu4 hb4
        go_wp2_with fail
        refine (eqF_any gs _ _ _ hm2 Hu2''.out Hu4.out).mono ?_
        rintro e w' ⟨n5, rfl, rfl⟩
        go_wp2_with fail
        go_ret
        exact ⟨ret_bool (by simp), below_drewN Hb4.out _⟩


set_option maxRecDepth 100000 in
theorem lifted (os : Os) (started : os.Started) (H : Type) (enc : TypeId × Value → H) :
    ReturnsInHanded {} Try.checked os 5 .any (Rows.fnExactDotNumbersSpec.pre6 enc Try.prog Try.f5 Rows.fnExactDotNumbersRow.domain false) (Rows.fnExactDotNumbersSpec.post enc Try.prog Try.f5 false true false false) := by
  refine returnsInHanded_of_change (C := Try.checked) Lift.own started (by kernel_rfl) Try.func5
    (ChangeSpec.witness6 (enc := enc) (C := Try.checked) false ⟨#[], #[.slice none 0 0, .slice none 0 0], []⟩ 8 (by kernel_rfl) (by kernel_rfl) (by kernel_rfl) (by kernel_rfl)) ?_
  intro W base args ds gs before hval0 hW hcnd _
  have hval : ∀ (j : Nat) t v, Try.f5.params[j]? = some t → args[j]? = some v → Value.okWide Try.prog W .any base t v := hval0
  have hW' := hW
  obtain ⟨p, q, hA0, hV, rfl, hfz, hnd⟩ := hW
  have hA : DataW.TrodAll enc Try.prog W 0 (fun _ => true) true Try.f5.params.toList args.toList ds p := hA0
  obtain ⟨rfl, rfl⟩ := trodVars_none hV
  have hA1 := hA
  rw [Try.params5] at hA1 hval
  obtain ⟨v0, vs0, d0, ds0, p0, q0, hargs, rfl, rfl, h0, r0⟩ := trodAll_cons hA1
  obtain ⟨v1, vs1, d1, ds1, p1, q1, rfl, rfl, rfl, h1, r1⟩ := trodAll_cons r0
  obtain ⟨rfl, rfl, rfl⟩ := trodAll_nil r1
  obtain rfl : args = #[v0, v1] := by cases args; simp_all
  simp only [List.append_nil] at hW' hA
  obtain ⟨a0, w0, _, l0⟩ := open_sl (Value.float .f32) 0 (fun b => (Lit.float .f32 b).wf = true) (float_el Try.underlying22) Try.underlying26 (by kernel_rfl) (hval 0 26 v0 rfl rfl) h0
  obtain ⟨a1, w1, _, l1⟩ := open_sl (Value.float .f32) 0 (fun b => (Lit.float .f32 b).wf = true) (float_el Try.underlying22) Try.underlying26 (by kernel_rfl) (hval 1 26 v1 rfl rfl) h1
  refine (walk a0 v0 a1 v1 W w0 l0 w1 l1).mono fun e W' ⟨he, hb⟩ => ?_
  subst he
  refine ⟨_, rfl, Lift.law_post Lift.laidOut hW' hA rfl rfl rfl rfl (by kernel_rfl) Try.underlying4 ?_ hb⟩
  rw [Try.params5]
  intro t ht
  simp only [List.mem_cons, List.not_mem_nil, or_false] at ht
  rcases ht with rfl | rfl <;> exact ⟨by kernel_rfl, of_decide_eq_true (by kernel_rfl)⟩

theorem proved : Rows.FnExactDotNumbersSaid :=
  OpenClaim.holds_of_wide 5 Try.f5 rfl rfl rfl rfl rfl rfl rfl ⟨rfl, rfl, rfl, rfl, rfl⟩ rfl rfl rfl rfl rfl (by kernel_rfl) Try.func5 (by kernel_rfl)
    (of_decide_eq_true (by kernel_rfl)) (by unfold Func.isWrapper; first | (rw [if_pos (by decide +kernel)]; kernel_rfl) | (rw [if_neg (by decide +kernel)]; exact ⟨rfl, rfl⟩))
    (fun os started H enc _ => lifted os started H enc)
end Go.Proofs.Ythdbjdpkckmbeac.fnExactDotNumbers
