/- FnExactPhasorOf: for every 64-bit number of turns, PhasorOf answers as its model; no condition. -/
import Derived.Test.YthdbjdpkckmbeabLift
import Derived.Test.YthdbjdpkckmbeabPhb
namespace Go.Proofs.Ythdbjdpkckmbeab.fnExactPhasorOf
open Go.ChangeShapes Go.WideShapes Go.ChangeAt Go.RowKit Fl
open Go.ChangeMaps (open_string)

theorem walk (a : Nat) (ha : a < 18446744073709551616) (w : World) : Calls Try.prog 4 #[.float .f64 a] w fun e w' => e = .returned (.bool true) ∧ Below w.heap.size w w' := by
  go_enter Try.func4, Try.ntmps4
  go_wp2_with (first | (refine wpList_cconv rfl _ _ _ rfl .f32 .f64 (by kernel_rfl) (by kernel_rfl) _ _ rfl ?_; intro c1 c2 n hc1 hc2) | (go_at_call 26; refine (phasor_spec a ha _).mono ?_; rintro e w' ⟨q1, q2, n1, rfl, rfl, h1⟩; have H1 := Lib.hid h1; clear h1) | (go_at_call 13; refine (phasor_any a ha _).mono ?_; rintro e w' ⟨r1, r2, n2, rfl, rfl, h2⟩; have H2 := Lib.hid h2; clear h2) | (go_at_call 14; refine (sameComplex_any _ _ _ _ (SameF.wide (a := r1) (b := q1) (PhaR.same H2.out H1.out).1 (by assumption) (by assumption)) (SameF.wide (a := r2) (b := q2) (PhaR.same H2.out H1.out).2 (by assumption) (by assumption)) _).mono ?_; rintro e w' ⟨rfl, n, rfl⟩) | go_in)
  all_goals (go_ret; exact ⟨ret_bool (by simp), below_drewN (Below.refl _ _) _⟩)

set_option maxRecDepth 100000 in
theorem lifted (os : Os) (started : os.Started) (H : Type) (enc : TypeId × Value → H) :
    ReturnsInHanded {} Try.checked os 4 .any (Rows.fnExactPhasorOfSpec.pre6 enc Try.prog Try.f4 Rows.fnExactPhasorOfRow.domain false) (Rows.fnExactPhasorOfSpec.post enc Try.prog Try.f4 false true false false) := by
  refine returnsInHanded_of_change (C := Try.checked) Lift.own started (by kernel_rfl) Try.func4
    (ChangeSpec.witness6 (enc := enc) (C := Try.checked) false ⟨#[], #[.float .f64 0], []⟩ 8 (by kernel_rfl) (by kernel_rfl) (by kernel_rfl) (by kernel_rfl)) ?_
  intro W base args ds gs before hval0 hW hcnd _
  have hval : ∀ (j : Nat) t v, Try.f4.params[j]? = some t → args[j]? = some v → Value.okWide Try.prog W .any base t v := hval0
  have hW' := hW
  obtain ⟨p, q, hA0, hV, rfl, hfz, hnd⟩ := hW
  have hA : DataW.TrodAll enc Try.prog W 0 (fun _ => true) true Try.f4.params.toList args.toList ds p := hA0
  obtain ⟨rfl, rfl⟩ := trodVars_none hV
  have hA1 := hA
  rw [Try.params4] at hA1 hval
  obtain ⟨v0, vs0, d0, ds0, p0, q0, hargs, rfl, rfl, h0, r0⟩ := trodAll_cons hA1
  obtain ⟨rfl, rfl, rfl⟩ := trodAll_nil r0
  obtain rfl : args = #[v0] := by cases args; simp_all
  simp only [List.append_nil] at hW' hA
  obtain ⟨a0, rfl, rfl, rfl, w0⟩ := open_float Try.underlying25 (hval 0 25 v0 rfl rfl) h0
  refine (walk a0 (wf64 w0) W ).mono fun e W' ⟨he, hb⟩ => ?_
  subst he
  refine ⟨_, rfl, Lift.law_post Lift.laidOut hW' hA rfl rfl rfl rfl (by kernel_rfl) Try.underlying4 ?_ hb⟩
  rw [Try.params4]
  intro t ht
  simp only [List.mem_cons, List.not_mem_nil, or_false] at ht
  subst ht; exact ⟨by kernel_rfl, of_decide_eq_true (by kernel_rfl)⟩

theorem proved : Rows.FnExactPhasorOfSaid :=
  OpenClaim.holds_of_wide 4 Try.f4 rfl rfl rfl rfl rfl rfl rfl ⟨rfl, rfl, rfl, rfl, rfl⟩ rfl rfl rfl rfl rfl (by kernel_rfl) Try.func4 (by kernel_rfl)
    (of_decide_eq_true (by kernel_rfl)) (by unfold Func.isWrapper; first | (rw [if_pos (by decide +kernel)]; kernel_rfl) | (rw [if_neg (by decide +kernel)]; exact ⟨rfl, rfl⟩))
    (fun os started H enc _ => lifted os started H enc)
end Go.Proofs.Ythdbjdpkckmbeab.fnExactPhasorOf
