/- FnExactPoolChance: for every die and three numbers, PoolChance answers as its model; no condition. -/
import Derived.Test.YtaimbadajgjhaaaLo
import Derived.Test.YtaimbadajgjhaaaMe
import Derived.Test.YtaimbadajgjhaaaMm
import Derived.Deep.RegionLawGrows
set_option linter.unusedVariables false
namespace Go.Proofs.Ytaimbadajgjhaaa.fnExactPoolChance
open Go.ChangeShapes Go.WideShapes Go.ChangeAt Go.RowKit
open Go.ChangeMaps (open_string)

set_option maxRecDepth 100000 in
set_option maxHeartbeats 4000000 in
theorem walk (a0 : Int) (al0 : -9223372036854775808 ≤ a0) (au0 : a0 ≤ 9223372036854775807) (fs1 : List Int) (v1 : Value) (a2 : Int) (al2 : -9223372036854775808 ≤ a2) (au2 : a2 ≤ 9223372036854775807) (a3 : Int) (al3 : -9223372036854775808 ≤ a3) (au3 : a3 ≤ 9223372036854775807) (w : World) (hs1 : Dv w v1 fs1) (hl1 : fs1.length ≤ maxLen) : Calls Try.prog 13 #[.int .i64 a0, v1, .int .i64 a2, .int .i64 a3] w fun e w' => e = .returned (.bool true) ∧ Below w.heap.size w w' := by
  have HS1 := Lib.hid (fun z (hb : Below w.heap.size w z) left h1 h0 => szDie_any fs1 v1 left z hl1 (hs1.later hb) h1 h0)
  have HA1 := Lib.hid hs1
  obtain ⟨s1, rfl, _⟩ := hs1
  obtain ⟨l1, hz1⟩ : ∃ l, l = szV fs1.length 1048576 := ⟨_, rfl⟩
  have Hz1 := Lib.hid hz1
  clear hz1
  by_cases hneg1 : l1 < 0
  · skip
    go_enter Try.func13, Try.ntmps13
    have hb0 := (Below.refl _ w).alloc (Nat.le_refl _) (.cells #[s1] 24)
    have Bel0 := Lib.hid hb0
    have Bx1_0 := Lib.hid (Boxed.new w 24 s1)
    clear hb0
    have kBx1 := Bx1_0.out.cell
    go_wp2_with fail
    refine (HS1.out _ Bel0.out _ (by omega) (by omega)).mono ?_
    rintro e u1 ⟨rfl, hb⟩
    rw [← Hz1.out]
    have Bel1 := Lib.hid (below_step Bel0.out hb (Nat.le_refl _))
    have hzz1 := hb.size
    have Bx1_1 := Lib.hid (box_below Bx1_0.out hb Bx1_0.out.lt)
    clear hb Bel0 Bx1_0
    clear kBx1
    go_wp2
    go_ret
    exact ⟨ret_bool (by simp), Bel1.out⟩
  have hl1_1 : l1 ≤ 1048576 := by have hz := Hz1.out; unfold szV at hz; split at hz <;> omega
  have hn1 : fs1.length ≤ 1048576 := by have hz := Hz1.out; unfold szV at hz; split at hz <;> omega
  obtain ⟨R0, R1, R2, Hspec, Himpl⟩ : ∃ (R0 : Int) (R1 : Int) (R2 : Bool), Hid (∀ (v1 : Value) (w : World), Dv w v1 fs1 → Calls Try.prog 46 #[.int .i64 a0, v1, .int .i64 a2, .int .i64 a3] w fun e w' => e = .returned (.tuple #[.int .i64 R0, .int .i64 R1, .bool R2]) ∧ Below w.heap.size w w') ∧ Hid (∀ (v1 : Value) (w : World), Dv w v1 fs1 → Calls Try.prog 47 #[.int .i64 a0, v1, .int .i64 a2, .int .i64 a3] w fun e w' => e = .returned (.tuple #[.int .i64 R0, .int .i64 R1, .bool R2]) ∧ Below w.heap.size w w') := ⟨(res_PoolChance a0 fs1 a2 a3), (res2_PoolChance a0 fs1 a2 a3), (ok_PoolChance a0 fs1 a2 a3), Lib.hid fun v1 w h1 => spec_PoolChance a0 al0 au0 fs1 v1 a2 al2 au2 a3 al3 au3 w hn1 h1, Lib.hid fun v1 w h1 => impl_PoolChance a0 al0 au0 fs1 v1 a2 al2 au2 a3 al3 au3 w hn1 h1⟩
  go_enter Try.func13, Try.ntmps13
  have hb0 := (Below.refl _ w).alloc (Nat.le_refl _) (.cells #[s1] 24)
  have Bel0 := Lib.hid hb0
  have Bx1_0 := Lib.hid (Boxed.new w 24 s1)
  clear hb0
  have kBx1 := Bx1_0.out.cell
  go_wp2_with fail
  refine (HS1.out _ Bel0.out _ (by omega) (by omega)).mono ?_
  rintro e u1 ⟨rfl, hb⟩
  rw [← Hz1.out]
  have Bel1 := Lib.hid (below_step Bel0.out hb (Nat.le_refl _))
  have hzz1 := hb.size
  have Bx1_1 := Lib.hid (box_below Bx1_0.out hb Bx1_0.out.lt)
  clear hb Bel0 Bx1_0
  clear kBx1
  have kBx1 := Bx1_1.out.cell
  go_wp2_with fail
  refine (toDie_any fs1 _ _ hn1 (HA1.out.later Bel1.out)).mono ?_
  rintro e u2 ⟨ts1, rfl, ht, hb⟩
  have Bel2 := Lib.hid (below_step Bel1.out hb (Nat.le_refl _))
  have hzz2 := hb.size
  have Bx1_2 := Lib.hid (box_below Bx1_1.out hb Bx1_1.out.lt)
  have Fs1_2 := Lib.hid ht
  clear hb Bel1 Bx1_1
  clear kBx1
  clear ht
  go_wp2_with fail
  refine (Hspec.out _ _ Fs1_2.out.dv).mono ?_
  rintro e u3 ⟨rfl, hb⟩
  have Bel3 := Lib.hid (below_step Bel2.out hb (Nat.le_refl _))
  have hzz3 := hb.size
  have Bx1_3 := Lib.hid (box_below Bx1_2.out hb Bx1_2.out.lt)
  have Fs1_3 := Lib.hid (Fs1_2.out.later hb)
  clear hb Bel2 Bx1_2 Fs1_2
  clear Fs1_3
  have kBx1 := Bx1_3.out.cell
  go_wp2_with fail
  refine (toDie_any fs1 _ _ hn1 (HA1.out.later Bel3.out)).mono ?_
  rintro e u4 ⟨tx1, rfl, ⟨sx1, rfl, ht⟩, hb⟩
  have Bel4 := Lib.hid (below_step Bel3.out hb (Nat.le_refl _))
  have hzz4 := hb.size
  have Bx1_4 := Lib.hid (box_below Bx1_3.out hb Bx1_3.out.lt)
  have Fx1_4 := Lib.hid ht.sl
  clear hb Bel3 Bx1_3
  clear kBx1
  obtain ⟨px1, cx1, rfl, -⟩ := ht
  have qBx1 := (Bx1_4.out.alloc (.cells #[.slice px1 fs1.length cx1] 27)).cell
  go_wp2_with fail
  clear qBx1
  have hb := (Below.refl u4.heap.size u4).alloc (Nat.le_refl _) (.cells #[.slice px1 fs1.length cx1] 27)
  have b1 := Boxed.new u4 27 (.slice px1 fs1.length cx1)
  generalize hu : u4.alloc (.cells #[.slice px1 fs1.length cx1] 27) = u5 at *
  clear hu
  have Bel5 := Lib.hid (below_step Bel4.out hb (Nat.le_refl _))
  have hzz5 := hb.size
  have Bx1_5 := Lib.hid (box_below Bx1_4.out hb Bx1_4.out.lt)
  have Fx1_5 := Lib.hid (Fx1_4.out.later hb)
  have Bz1_5 := Lib.hid b1
  clear hb Bel4 Bx1_4 Fx1_4
  clear b1
  have kBz1 := Bz1_5.out.cell
  go_wp2_with fail
  refine (Himpl.out _ _ ⟨_, rfl, Fx1_5.out⟩).mono ?_
  rintro e u6 ⟨rfl, hb⟩
  have Bel6 := Lib.hid (below_step Bel5.out hb (Nat.le_refl _))
  have hzz6 := hb.size
  have Bx1_6 := Lib.hid (box_below Bx1_5.out hb Bx1_5.out.lt)
  have Fx1_6 := Lib.hid (Fx1_5.out.later hb)
  have Bz1_6 := Lib.hid (box_below Bz1_5.out hb Bz1_5.out.lt)
  clear hb Bel5 Bx1_5 Fx1_5 Bz1_5
  clear kBz1
  have kBx1 := Bx1_6.out.cell
  have kBz1 := Bz1_6.out.cell
  have Hrun := Lib.hid (fun z (hz : Below u6.heap.size u6 z) => (Bel6.out.trans (hz.mono Bel6.out.size)))
  go_wp2
  go_region_law (first | (go_simp; go_at_call 17; refine (toDie_any fs1 _ _ hn1 (HA1.out.later (Hrun.out _ (below_drewN (Below.refl _ _) _)))).mono ?_; rintro e y1 ⟨tc, rfl, ht, hb⟩; have kz7 := cell_keep hb kBz1; have Fc7 := Lib.hid ht; have Y1 := Lib.hid ((below_drewN (Below.refl _ _) _).trans hb); have Fx7 := Lib.hid (Fx1_6.out.later Y1.out); clear ht hb) | (go_simp; go_at_call 19; refine (eqDie_any fs1 _ _ _ hn1 ⟨_, rfl, Fx7.out⟩ Fc7.out.dv).mono ?_; rintro e u7 ⟨rfl, hb3⟩; have hb := below_step Y1.out hb3 (Nat.le_refl _); clear hb3))
  all_goals
    have Bel7 := Lib.hid (below_step Bel6.out hb (Nat.le_refl _))
    have hzz7 := hb.size
    have Bx1_7 := Lib.hid (box_below Bx1_6.out hb Bx1_6.out.lt)
    have Fx1_7 := Lib.hid (Fx1_6.out.later hb)
    have Bz1_7 := Lib.hid (box_below Bz1_6.out hb Bz1_6.out.lt)
    clear hb Bel6 Bx1_6 Fx1_6 Bz1_6
    clear Y1 Fx7 Fc7 kz7 Hrun
    clear kBx1 kBz1
    go_wp2
    go_ret
    exact ⟨ret_bool (by simp), Bel7.out⟩

set_option maxRecDepth 100000 in
theorem lifted (os : Os) (started : os.Started) (H : Type) (enc : TypeId × Value → H) :
    ReturnsInHanded {} Try.checked os 13 .any (Rows.fnExactPoolChanceSpec.pre6 enc Try.prog Try.f13 Rows.fnExactPoolChanceRow.domain false) (Rows.fnExactPoolChanceSpec.post enc Try.prog Try.f13 false true false false) := by
  refine returnsInHanded_of_change (C := Try.checked) Lift.own started (by kernel_rfl) Try.func13
    (ChangeSpec.witness6 (enc := enc) (C := Try.checked) false ⟨#[], #[.int .i64 0, .agg #[.slice none 0 0], .int .i64 0, .int .i64 0], []⟩ 8 (by kernel_rfl) (by kernel_rfl) (by kernel_rfl) (by kernel_rfl)) ?_
  intro W base args ds gs before hval0 hW hcnd _
  have hval : ∀ (j : Nat) t v, Try.f13.params[j]? = some t → args[j]? = some v → Value.okWide Try.prog W .any base t v := hval0
  have hW' := hW
  obtain ⟨p, q, hA0, hV, rfl, hfz, hnd⟩ := hW
  have hA : DataW.TrodAll enc Try.prog W 0 (fun _ => true) true Try.f13.params.toList args.toList ds p := hA0
  obtain ⟨rfl, rfl⟩ := trodVars_none hV
  have hA1 := hA
  rw [Try.params13] at hA1 hval
  obtain ⟨v0, vs0, d0, ds0, p0, q0, hargs, rfl, rfl, h0, r0⟩ := trodAll_cons hA1
  obtain ⟨v1, vs1, d1, ds1, p1, q1, rfl, rfl, rfl, h1, r1⟩ := trodAll_cons r0
  obtain ⟨v2, vs2, d2, ds2, p2, q2, rfl, rfl, rfl, h2, r2⟩ := trodAll_cons r1
  obtain ⟨v3, vs3, d3, ds3, p3, q3, rfl, rfl, rfl, h3, r3⟩ := trodAll_cons r2
  obtain ⟨rfl, rfl, rfl⟩ := trodAll_nil r3
  obtain rfl : args = #[v0, v1, v2, v3] := by cases args; simp_all
  simp only [List.append_nil] at hW' hA
  obtain ⟨a0, rfl, rfl, rfl, w0⟩ := open_int Try.underlying2 (hval 0 2 v0 rfl rfl) h0
  obtain ⟨a1, w1, l1⟩ := open_die Try.underlying2 Try.underlying22 (by kernel_rfl) Try.underlying24 (by kernel_rfl) rfl (by kernel_rfl) (hval 1 24 v1 rfl rfl) h1
  obtain ⟨a2, rfl, rfl, rfl, w2⟩ := open_int Try.underlying2 (hval 2 2 v2 rfl rfl) h2
  obtain ⟨a3, rfl, rfl, rfl, w3⟩ := open_int Try.underlying2 (hval 3 2 v3 rfl rfl) h3
  refine (walk a0 (wfi64 w0).1 (wfi64 w0).2 a1 v1 a2 (wfi64 w2).1 (wfi64 w2).2 a3 (wfi64 w3).1 (wfi64 w3).2 W w1 l1).mono fun e W' ⟨he, hb⟩ => ?_
  subst he
  refine ⟨_, rfl, Lift.law_post Lift.laidOut hW' hA rfl rfl rfl rfl (by kernel_rfl) Try.underlying4 ?_ hb⟩
  rw [Try.params13]
  intro t ht
  simp only [List.mem_cons, List.not_mem_nil, or_false] at ht
  rcases ht with rfl | rfl | rfl | rfl <;> exact ⟨by kernel_rfl, of_decide_eq_true (by kernel_rfl)⟩

theorem proved : Rows.FnExactPoolChanceSaid :=
  OpenClaim.holds_of_wide 13 Try.f13 rfl rfl rfl rfl rfl rfl rfl ⟨rfl, rfl, rfl, rfl, rfl⟩ rfl rfl rfl rfl rfl (by kernel_rfl) Try.func13 (by kernel_rfl)
    (of_decide_eq_true (by kernel_rfl)) (by unfold Func.isWrapper; first | (rw [if_pos (by decide +kernel)]; kernel_rfl) | (rw [if_neg (by decide +kernel)]; exact ⟨rfl, rfl⟩))
    (fun os started H enc _ => lifted os started H enc)
end Go.Proofs.Ytaimbadajgjhaaa.fnExactPoolChance
