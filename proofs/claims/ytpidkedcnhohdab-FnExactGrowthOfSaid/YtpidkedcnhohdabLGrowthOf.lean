/- FnExactGrowthOf: for every three 32-bit numbers, GrowthOf answers as its model; no condition. -/
import Derived.Test.YtpidkedcnhohdabLo
import Derived.Test.YtpidkedcnhohdabJd
set_option linter.unusedVariables false
namespace Go.Proofs.Ytpidkedcnhohdab.fnExactGrowthOf
open Go.ChangeShapes Go.WideShapes Go.ChangeAt Go.RowKit Fl
open Go.ChangeMaps (open_string)

set_option maxHeartbeats 1000000 in
theorem walk (a0 : Nat) (g0 : a0 < 4294967296) (a1 : Nat) (g1 : a1 < 4294967296) (a2 : Nat) (g2 : a2 < 4294967296) (w : World) : Calls Try.prog 12 #[.float .f32 a0, .float .f32 a1, .float .f32 a2] w fun e w' => e = .returned (.bool true) ∧ Below w.heap.size w w' := by
  have Hs := Lib.hid (fun z => growof_spec a0 a1 a2 g0 g1 g2 z)
  have Hi := Lib.hid (fun z => growof_impl a0 a1 a2 g0 g1 g2 z)
  go_enter Try.func12, Try.ntmps12
  go_wp2_with fail
  refine (Hs.out _).mono ?_
  rintro e w1 ⟨q1, b1, rfl, h1, d1⟩
  have H1 := Lib.hid h1
  have D1 := Lib.hid d1
  clear h1 d1
  go_wp2_with fail
  refine (Hi.out _).mono ?_
  rintro e w2 ⟨q2, b2, rfl, h2, d2⟩
  obtain ⟨hs, rfl⟩ := AtS.samef g0 g1 g2 h2 H1.out
  have S := Lib.hid hs
  have D2 := Lib.hid d2
  clear hs h2 d2 H1
  go_wp2_with (first | (refine wpList_fconv rfl _ _ _ rfl .f32 .f64 (by kernel_rfl) (by kernel_rfl) _ rfl ?_; intro r n hr) | (go_at_call 39; refine (sameFloat_any _ _ (SameF.wide (a := q2) (b := q1) S.out (by assumption) (by assumption)) _).mono ?_; rintro e w' ⟨rfl, n, rfl⟩))
  all_goals (go_ret; exact ⟨ret_bool (by simp), below_drewN (((D1.out.trans D2.out).below _)) _⟩)

set_option maxRecDepth 100000 in
theorem lifted (os : Os) (started : os.Started) (H : Type) (enc : TypeId × Value → H) :
    ReturnsInHanded {} Try.checked os 12 .any (Rows.fnExactGrowthOfSpec.pre6 enc Try.prog Try.f12 Rows.fnExactGrowthOfRow.domain false) (Rows.fnExactGrowthOfSpec.post enc Try.prog Try.f12 false true false false) := by
  refine returnsInHanded_of_change (C := Try.checked) Lift.own started (by kernel_rfl) Try.func12
    (ChangeSpec.witness6 (enc := enc) (C := Try.checked) false ⟨#[], #[.float .f32 0, .float .f32 0, .float .f32 0], []⟩ 8 (by kernel_rfl) (by kernel_rfl) (by kernel_rfl) (by kernel_rfl)) ?_
  intro W base args ds gs before hval0 hW hcnd _
  have hval : ∀ (j : Nat) t v, Try.f12.params[j]? = some t → args[j]? = some v → Value.okWide Try.prog W .any base t v := hval0
  have hW' := hW
  obtain ⟨p, q, hA0, hV, rfl, hfz, hnd⟩ := hW
  have hA : DataW.TrodAll enc Try.prog W 0 (fun _ => true) true Try.f12.params.toList args.toList ds p := hA0
  obtain ⟨rfl, rfl⟩ := trodVars_none hV
  have hA1 := hA
  rw [Try.params12] at hA1 hval
  obtain ⟨v0, vs0, d0, ds0, p0, q0, hargs, rfl, rfl, h0, r0⟩ := trodAll_cons hA1
  obtain ⟨v1, vs1, d1, ds1, p1, q1, rfl, rfl, rfl, h1, r1⟩ := trodAll_cons r0
  obtain ⟨v2, vs2, d2, ds2, p2, q2, rfl, rfl, rfl, h2, r2⟩ := trodAll_cons r1
  obtain ⟨rfl, rfl, rfl⟩ := trodAll_nil r2
  obtain rfl : args = #[v0, v1, v2] := by cases args; simp_all
  simp only [List.append_nil] at hW' hA
  obtain ⟨a0, rfl, rfl, rfl, w0⟩ := open_float Try.underlying45 (hval 0 45 v0 rfl rfl) h0
  obtain ⟨a1, rfl, rfl, rfl, w1⟩ := open_float Try.underlying45 (hval 1 45 v1 rfl rfl) h1
  obtain ⟨a2, rfl, rfl, rfl, w2⟩ := open_float Try.underlying45 (hval 2 45 v2 rfl rfl) h2
  refine (walk a0 (wf32 w0) a1 (wf32 w1) a2 (wf32 w2) W).mono fun e W' ⟨he, hb⟩ => ?_
  subst he
  refine ⟨_, rfl, Lift.law_post Lift.laidOut hW' hA rfl rfl rfl rfl (by kernel_rfl) Try.underlying4 ?_ hb⟩
  rw [Try.params12]
  intro t ht
  simp only [List.mem_cons, List.not_mem_nil, or_false] at ht
  rcases ht with rfl | rfl | rfl <;> exact ⟨by kernel_rfl, of_decide_eq_true (by kernel_rfl)⟩

theorem proved : Rows.FnExactGrowthOfSaid :=
  OpenClaim.holds_of_wide 12 Try.f12 rfl rfl rfl rfl rfl rfl rfl ⟨rfl, rfl, rfl, rfl, rfl⟩ rfl rfl rfl rfl rfl (by kernel_rfl) Try.func12 (by kernel_rfl)
    (of_decide_eq_true (by kernel_rfl)) (by unfold Func.isWrapper; first | (rw [if_pos (by decide +kernel)]; kernel_rfl) | (rw [if_neg (by decide +kernel)]; exact ⟨rfl, rfl⟩))
    (fun os started H enc _ => lifted os started H enc)
end Go.Proofs.Ytpidkedcnhohdab.fnExactGrowthOf
