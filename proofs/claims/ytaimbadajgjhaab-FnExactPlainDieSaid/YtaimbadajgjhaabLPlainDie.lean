/- FnExactPlainDie: for every number, PlainDie answers as its model; no condition. -/
import Derived.Test.YtaimbadajgjhaabLo
import Derived.Test.YtaimbadajgjhaabMe
import Derived.Test.YtaimbadajgjhaabNd
set_option linter.unusedVariables false
namespace Go.Proofs.Ytaimbadajgjhaab.fnExactPlainDie
open Go.ChangeShapes Go.WideShapes Go.ChangeAt Go.RowKit
open Go.ChangeMaps (open_string)

set_option maxRecDepth 100000 in
set_option maxHeartbeats 4000000 in
theorem walk (a0 : Int) (al0 : -9223372036854775808 ≤ a0) (au0 : a0 ≤ 9223372036854775807) (w : World) : Calls Try.prog 4 #[.int .i64 a0] w fun e w' => e = .returned (.bool true) ∧ Below w.heap.size w w' := by
  have Hs := Lib.hid (fun z => spec_PlainDie a0 al0 au0 z)
  have Hi := Lib.hid (fun z => impl_PlainDie a0 al0 au0 z)
  have hr := len_PlainDie a0
  generalize ok_PlainDie a0 = O at *
  generalize res_PlainDie a0 = R at *
  go_enter Try.func4, Try.ntmps4
  go_wp2_with fail
  refine (Hs.out _).mono ?_
  rintro e u1 ⟨s1, rfl, hs, hb⟩
  have Bel1 := Lib.hid hb
  have G1 := Lib.hid hs
  obtain ⟨p1, c1, rfl, -⟩ := hs
  have hz1 := hb.size
  clear hb
  go_wp2_with fail
  have hz1b : u1.heap.size < (u1.alloc (.cells #[.slice p1 R.length c1] 27)).heap.size := by simp
  have hb := (Below.refl u1.heap.size u1).alloc (Nat.le_refl _) (.cells #[.slice p1 R.length c1] 27)
  have b := Boxed.new u1 27 (.slice p1 R.length c1)
  generalize hu : u1.alloc (.cells #[.slice p1 R.length c1] 27) = u2 at *
  clear hu
  have Bel2 := Lib.hid (below_step Bel1.out hb (Nat.le_refl _))
  have G2 := Lib.hid (G1.out.later hb)
  have X2 := Lib.hid b
  clear hb b G1 Bel1
  refine (Hi.out _).mono ?_
  rintro e u3 ⟨s2, rfl, hs, hb⟩
  have Bel3 := Lib.hid (below_step Bel2.out hb (Nat.le_refl _))
  have G3 := Lib.hid (G2.out.later hb)
  have X3 := Lib.hid (box_below X2.out hb X2.out.lt)
  have Y3 := Lib.hid hs
  have hz3 := hb.size
  have hx3 := X2.out.lt
  obtain ⟨p2, c2, rfl, -⟩ := hs
  clear hb G2 Bel2 X2
  have qx := (X3.out.alloc (.cells #[.slice p2 R.length c2] 27)).cell
  go_wp2_with fail
  clear qx
  have hb := (Below.refl u3.heap.size u3).alloc (Nat.le_refl _) (.cells #[.slice p2 R.length c2] 27)
  have b := Boxed.new u3 27 (.slice p2 R.length c2)
  generalize hu : u3.alloc (.cells #[.slice p2 R.length c2] 27) = u4 at *
  clear hu
  have Bel4 := Lib.hid (below_step Bel3.out hb (Nat.le_refl _))
  have G4 := Lib.hid (G3.out.later hb)
  have X4 := Lib.hid (box_below X3.out hb X3.out.lt)
  have Y4 := Lib.hid (Y3.out.later hb)
  have Z4 := Lib.hid b
  have hz4 := hb.size
  have hz4b := Z4.out.lt
  clear hb b G3 Bel3 X3 Y3
  refine (eqDie_any R _ _ _ hr ⟨_, rfl, Y4.out.sl⟩ ⟨_, rfl, G4.out.sl⟩).mono ?_
  rintro e u5 ⟨rfl, hb⟩
  have Bel5 := Lib.hid (below_step Bel4.out hb (Nat.le_refl _))
  have G5 := Lib.hid (G4.out.later hb)
  have X5 := Lib.hid (box_below X4.out hb X4.out.lt)
  have Y5 := Lib.hid (Y4.out.later hb)
  have Z5 := Lib.hid (box_below Z4.out hb Z4.out.lt)
  have hz5 := hb.size
  clear hb G4 Bel4 X4 Y4 Z4
  have kz := Z5.out.cell
  go_wp2_with fail
  refine (markDie_any R _ _ _ _ (1) hr (by omega) ⟨_, rfl, Y5.out⟩).mono ?_
  rintro e u6 ⟨rfl, ⟨s6, e6, hs6⟩, m6, hbm, hom⟩
  cases e6
  have Bel6 := Lib.hid (Below.only (below_step Bel5.out hbm (Nat.le_refl _)) hom (by have := Bel5.out.size; omega))
  have G6 := Lib.hid ((G5.out.later hbm).apart hom (.inl (by omega)))
  have X6 : Hid (Boxed u6 _ _ _) := Lib.hid ((hom.block _ (by omega)).trans (box_below X5.out hbm X5.out.lt))
  have Z6 : Hid (Boxed u6 _ _ _) := Lib.hid ((hom.block _ (by omega)).trans (box_below Z5.out hbm Z5.out.lt))
  have Y6 := Lib.hid hs6
  have hz6 := hbm.size
  have hz6b := hom.size
  clear hom hbm hs6 kz G5 X5 Y5 Z5 Bel5
  have kz := Z6.out.cell
  go_wp2_with fail
  refine (heldDie_any R.length _ _ _ _ (1) hr (by omega) ⟨_, rfl, Y6.out⟩).mono ?_
  rintro e u7 ⟨rfl, hb⟩
  have Bel7 := Lib.hid (below_step Bel6.out hb (Nat.le_refl _))
  have G7 := Lib.hid (G6.out.later hb)
  have X7 := Lib.hid (box_below X6.out hb X6.out.lt)
  have Y7 := Lib.hid (Y6.out.later hb)
  have Z7 := Lib.hid (box_below Z6.out hb Z6.out.lt)
  clear hb kz G6 X6 Y6 Z6 Bel6
  go_wp2_with fail
  refine (Hi.out _).mono ?_
  rintro e u8 ⟨s3, rfl, hs, hb⟩
  have Bel8 := Lib.hid (below_step Bel7.out hb (Nat.le_refl _))
  have G8 := Lib.hid (G7.out.later hb)
  have X8 := Lib.hid (box_below X7.out hb X7.out.lt)
  have Y8 := Lib.hid (Y7.out.later hb)
  have Z8 := Lib.hid (box_below Z7.out hb Z7.out.lt)
  have H8 := Lib.hid hs.sl
  obtain ⟨p3, c3, rfl, -⟩ := hs
  clear hb G7 X7 Y7 Z7 Bel7
  have qx := (X8.out.alloc (.cells #[.slice p3 R.length c3] 27)).cell
  go_wp2_with fail
  clear qx
  have hb := (Below.refl u8.heap.size u8).alloc (Nat.le_refl _) (.cells #[.slice p3 R.length c3] 27)
  generalize hu : u8.alloc (.cells #[.slice p3 R.length c3] 27) = u9 at *
  clear hu
  have Bel9 := Lib.hid (below_step Bel8.out hb (Nat.le_refl _))
  have G9 := Lib.hid (G8.out.later hb)
  have Y9 := Lib.hid (Y8.out.later hb)
  have Z9 := Lib.hid (box_below Z8.out hb Z8.out.lt)
  have H9 := Lib.hid (H8.out.later hb)
  clear hb G8 X8 Y8 Z8 H8 Bel8
  refine (eqDie_any R _ _ _ hr ⟨_, rfl, H9.out⟩ ⟨_, rfl, G9.out.sl⟩).mono ?_
  rintro e u10 ⟨rfl, hb⟩
  have Bel10 := Lib.hid (below_step Bel9.out hb (Nat.le_refl _))
  have Y10 := Lib.hid (Y9.out.later hb)
  have Z10 := Lib.hid (box_below Z9.out hb Z9.out.lt)
  clear hb G9 Y9 Z9 H9 Bel9
  have kz := Z10.out.cell
  go_wp2_with fail
  refine (heldDie_any R.length _ _ _ _ (1) hr (by omega) ⟨_, rfl, Y10.out⟩).mono ?_
  rintro e u11 ⟨rfl, hb⟩
  have Bel11 := Lib.hid (below_step Bel10.out hb (Nat.le_refl _))
  clear hb kz Y10 Z10 Bel10
  go_wp2
  go_ret
  exact ⟨ret_bool (by simp), Bel11.out⟩


set_option maxRecDepth 100000 in
theorem lifted (os : Os) (started : os.Started) (H : Type) (enc : TypeId × Value → H) :
    ReturnsInHanded {} Try.checked os 4 .any (Rows.fnExactPlainDieSpec.pre6 enc Try.prog Try.f4 Rows.fnExactPlainDieRow.domain false) (Rows.fnExactPlainDieSpec.post enc Try.prog Try.f4 false true false false) := by
  refine returnsInHanded_of_change (C := Try.checked) Lift.own started (by kernel_rfl) Try.func4
    (ChangeSpec.witness6 (enc := enc) (C := Try.checked) false ⟨#[], #[.int .i64 0], []⟩ 8 (by kernel_rfl) (by kernel_rfl) (by kernel_rfl) (by kernel_rfl)) ?_
  intro W base args ds gs before hval0 hW hcnd _
  have hval : ∀ (j : Nat) t v, Try.f4.params[j]? = some t → args[j]? = some v → Value.okWide Try.prog W .any base t v := hval0
  have hW' := hW
  obtain ⟨p, q, hA0, hV, rfl, hfz, hnd⟩ := hW
  have hA : DataW.TrodAll enc Try.prog W 0 (fun _ => true) true Try.f4.params.toList args.toList ds p := hA0
  obtain ⟨rfl, rfl⟩ := trodVars_none hV
  have hA1 := hA
  rw [Try.params4] at hA1 hval
  obtain ⟨v0, vs0, d0, ds0, p0, q0, hargs, rfl, rfl, h0, r0⟩ := trodAll_cons hA1
  obtain ⟨rfl, rfl, rfl⟩ := trodAll_nil r0
  obtain rfl : args = #[v0] := by cases args; simp_all
  simp only [List.append_nil] at hW' hA
  obtain ⟨a0, rfl, rfl, rfl, w0⟩ := open_int Try.underlying2 (hval 0 2 v0 rfl rfl) h0
  refine (walk a0 (wfi64 w0).1 (wfi64 w0).2 W ).mono fun e W' ⟨he, hb⟩ => ?_
  subst he
  refine ⟨_, rfl, Lift.law_post Lift.laidOut hW' hA rfl rfl rfl rfl (by kernel_rfl) Try.underlying4 ?_ hb⟩
  rw [Try.params4]
  intro t ht
  simp only [List.mem_cons, List.not_mem_nil, or_false] at ht
  subst ht; exact ⟨by kernel_rfl, of_decide_eq_true (by kernel_rfl)⟩

theorem proved : Rows.FnExactPlainDieSaid :=
  OpenClaim.holds_of_wide 4 Try.f4 rfl rfl rfl rfl rfl rfl rfl ⟨rfl, rfl, rfl, rfl, rfl⟩ rfl rfl rfl rfl rfl (by kernel_rfl) Try.func4 (by kernel_rfl)
    (of_decide_eq_true (by kernel_rfl)) (by unfold Func.isWrapper; first | (rw [if_pos (by decide +kernel)]; kernel_rfl) | (rw [if_neg (by decide +kernel)]; exact ⟨rfl, rfl⟩))
    (fun os started H enc _ => lifted os started H enc)
end Go.Proofs.Ytaimbadajgjhaab.fnExactPlainDie
