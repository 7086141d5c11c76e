/- FnExactAreGames: for every number and list of games, AreGames answers as its model; no condition. -/
import Derived.Test.YtfipcpbibmhjoaaLo
import Derived.Test.YtfipcpbibmhjoaaSb
import Derived.Test.YtfipcpbibmhjoaaSe
import Derived.Test.YtfipcpbibmhjoaaSf
set_option linter.unusedVariables false
namespace Go.Proofs.Ytfipcpbibmhjoaa.fnExactAreGames
open Go.ChangeShapes Go.WideShapes Go.ChangeAt Go.RowKit
open Go.ChangeMaps (open_string)

set_option maxRecDepth 100000 in
set_option maxHeartbeats 4000000 in
theorem walk (a0 : Int) (al0 : -9223372036854775808 ≤ a0) (au0 : a0 ≤ 9223372036854775807) (n1 : Nat) (fs1 : List Int) (v1 : Value) (w : World) (hs1 : SlK 3 w v1 n1 fs1) (hl1 : n1 ≤ maxLen) : Calls Try.prog 3 #[.int .i64 a0, v1] w fun e w' => e = .returned (.bool true) ∧ Below w.heap.size w w' := by
  unfold maxLen at hl1
  have HA1 := Lib.hid hs1
  obtain ⟨_, p1, cap1, rfl, hf1⟩ := hs1
  clear hf1
  have HS1 := Lib.hid (fun left h1 h0 z => szGames_any p1 n1 cap1 left z hl1 h1 h0)
  obtain ⟨l1, hz1⟩ : ∃ l, l = szK n1 1048576 := ⟨_, rfl⟩
  have Hz1 := Lib.hid hz1
  clear hz1
  by_cases hneg1 : l1 < 0
  · skip
    go_enter Try.func3, Try.ntmps3
    go_wp2_with fail
    refine (HS1.out _ (by omega) (by omega) _).mono ?_
    rintro e u ⟨rfl, rfl⟩
    rw [← Hz1.out]
    go_wp2
    go_ret
    exact ⟨ret_bool (by simp), Below.refl _ _⟩
  have hb1_1 : l1 ≤ 1048576 := by have := Hz1.out; unfold szK at this; split at this <;> omega
  have hn1 : n1 ≤ 1048576 := by have := Hz1.out; unfold szK at this; split at this <;> omega
  obtain ⟨R0, Hspec, Himpl⟩ : ∃ (R0 : Bool), Hid (∀ (v1 : Value) (w : World), SlK 3 w v1 n1 fs1 → Calls Try.prog 16 #[.int .i64 a0, v1] w fun e w' => e = .returned (.bool R0) ∧ Below w.heap.size w w') ∧ Hid (∀ (v1 : Value) (w : World), SlK 3 w v1 n1 fs1 → Calls Try.prog 18 #[.int .i64 a0, v1] w fun e w' => e = .returned (.bool R0) ∧ Below w.heap.size w w') := ⟨(ok_AreGames a0 n1 fs1), Lib.hid fun v1 w h1 => spec_AreGames a0 al0 au0 n1 fs1 v1 w hn1 h1, Lib.hid fun v1 w h1 => impl_AreGames a0 al0 au0 n1 fs1 v1 w hn1 h1⟩
  have Bel0 := Lib.hid (Below.refl w.heap.size w)
  go_enter Try.func3, Try.ntmps3
  go_wp2_with fail
  refine (HS1.out _ (by omega) (by omega) _).mono ?_
  rintro e u ⟨rfl, rfl⟩
  rw [← Hz1.out]
  go_wp2_with fail
  refine (toGames_any n1 fs1 _ _ hn1 (HA1.out.later Bel0.out)).mono ?_
  rintro e u1 ⟨ts1, rfl, ht, hb⟩
  have hzz1 := hb.size
  have Bel1 := Lib.hid (below_step Bel0.out hb (Nat.le_refl _))
  have Fs1_1 := Lib.hid ht
  clear hb Bel0 ht
  go_wp2_with fail
  refine (Hspec.out _ _ Fs1_1.out.sl).mono ?_
  rintro e u2 ⟨rfl, hb⟩
  have hzz2 := hb.size
  have Bel2 := Lib.hid (below_step Bel1.out hb (Nat.le_refl _))
  have Fs1_2 := Lib.hid (Fs1_1.out.later hb)
  clear hb Bel1 Fs1_1
  clear Fs1_2
  go_wp2_with fail
  refine (toGames_any n1 fs1 _ _ hn1 (HA1.out.later Bel2.out)).mono ?_
  rintro e u3 ⟨tx1, rfl, ht, hb⟩
  have hzz3 := hb.size
  have Bel3 := Lib.hid (below_step Bel2.out hb (Nat.le_refl _))
  have Fx1_3 := Lib.hid ht
  clear hb Bel2 ht
  go_wp2_with fail
  refine (Himpl.out _ _ Fx1_3.out.sl).mono ?_
  rintro e u4 ⟨rfl, hb⟩
  have hzz4 := hb.size
  have Bel4 := Lib.hid (below_step Bel3.out hb (Nat.le_refl _))
  have Fx1_4 := Lib.hid (Fx1_3.out.later hb)
  clear hb Bel3 Fx1_3
  go_wp2_with fail
  refine (toGames_any n1 fs1 _ _ hn1 (HA1.out.later Bel4.out)).mono ?_
  rintro e u5 ⟨tc1, rfl, ht, hb⟩
  have hzz5 := hb.size
  have Bel5 := Lib.hid (below_step Bel4.out hb (Nat.le_refl _))
  have Fx1_5 := Lib.hid (Fx1_4.out.later hb)
  have Fc1_5 := Lib.hid ht
  clear hb Bel4 ht Fx1_4
  go_wp2_with fail
  refine (eqGames_any n1 fs1 _ _ _ hn1 Fx1_5.out.sl Fc1_5.out.sl).mono ?_
  rintro e u6 ⟨rfl, hb⟩
  have hzz6 := hb.size
  have Bel6 := Lib.hid (below_step Bel5.out hb (Nat.le_refl _))
  have Fx1_6 := Lib.hid (Fx1_5.out.later hb)
  have Fc1_6 := Lib.hid (Fc1_5.out.later hb)
  clear hb Bel5 Fx1_5 Fc1_5
  clear Fc1_6
  go_wp2
  go_ret
  exact ⟨ret_bool (by simp), Bel6.out⟩

set_option maxRecDepth 100000 in
theorem lifted (os : Os) (started : os.Started) (H : Type) (enc : TypeId × Value → H) :
    ReturnsInHanded {} Try.checked os 3 .any (Rows.fnExactAreGamesSpec.pre6 enc Try.prog Try.f3 Rows.fnExactAreGamesRow.domain false) (Rows.fnExactAreGamesSpec.post enc Try.prog Try.f3 false true false false) := by
  refine returnsInHanded_of_change (C := Try.checked) Lift.own started (by kernel_rfl) Try.func3
    (ChangeSpec.witness6 (enc := enc) (C := Try.checked) false ⟨#[], #[.int .i64 0, .slice none 0 0], []⟩ 8 (by kernel_rfl) (by kernel_rfl) (by kernel_rfl) (by kernel_rfl)) ?_
  intro W base args ds gs before hval0 hW hcnd _
  have hval : ∀ (j : Nat) t v, Try.f3.params[j]? = some t → args[j]? = some v → Value.okWide Try.prog W .any base t v := hval0
  have hW' := hW
  obtain ⟨p, q, hA0, hV, rfl, hfz, hnd⟩ := hW
  have hA : DataW.TrodAll enc Try.prog W 0 (fun _ => true) true Try.f3.params.toList args.toList ds p := hA0
  obtain ⟨rfl, rfl⟩ := trodVars_none hV
  have hA1 := hA
  rw [Try.params3] at hA1 hval
  obtain ⟨v0, vs0, d0, ds0, p0, q0, hargs, rfl, rfl, h0, r0⟩ := trodAll_cons hA1
  obtain ⟨v1, vs1, d1, ds1, p1, q1, rfl, rfl, rfl, h1, r1⟩ := trodAll_cons r0
  obtain ⟨rfl, rfl, rfl⟩ := trodAll_nil r1
  obtain rfl : args = #[v0, v1] := by cases args; simp_all
  simp only [List.append_nil] at hW' hA
  obtain ⟨a0, rfl, rfl, rfl, w0⟩ := open_int Try.underlying2 (hval 0 2 v0 rfl rfl) h0
  obtain ⟨n1, a1, w1, l1⟩ := open_slK 3 (by decide) Try.underlying2 Try.underlying22 Try.underlying72 (by kernel_rfl) (by kernel_rfl) rfl (by kernel_rfl) (hval 1 22 v1 rfl rfl) h1
  refine (walk a0 (wfi64 w0).1 (wfi64 w0).2 n1 a1 v1 W w1 l1).mono fun e W' ⟨he, hb⟩ => ?_
  subst he
  refine ⟨_, rfl, Lift.law_post Lift.laidOut hW' hA rfl rfl rfl rfl (by kernel_rfl) Try.underlying4 ?_ hb⟩
  rw [Try.params3]
  intro t ht
  simp only [List.mem_cons, List.not_mem_nil, or_false] at ht
  rcases ht with rfl | rfl <;> exact ⟨by kernel_rfl, of_decide_eq_true (by kernel_rfl)⟩

theorem proved : Rows.FnExactAreGamesSaid :=
  OpenClaim.holds_of_wide 3 Try.f3 rfl rfl rfl rfl rfl rfl rfl ⟨rfl, rfl, rfl, rfl, rfl⟩ rfl rfl rfl rfl rfl (by kernel_rfl) Try.func3 (by kernel_rfl)
    (of_decide_eq_true (by kernel_rfl)) (by unfold Func.isWrapper; first | (rw [if_pos (by decide +kernel)]; kernel_rfl) | (rw [if_neg (by decide +kernel)]; exact ⟨rfl, rfl⟩))
    (fun os started H enc _ => lifted os started H enc)
end Go.Proofs.Ytfipcpbibmhjoaa.fnExactAreGames
