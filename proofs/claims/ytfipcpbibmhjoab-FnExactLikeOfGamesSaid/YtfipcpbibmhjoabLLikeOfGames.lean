/- FnExactLikeOfGames: for every list of numbers and list of games, LikeOfGames answers as its model; no condition. -/
import Derived.Test.YtfipcpbibmhjoabLo
import Derived.Test.YtfipcpbibmhjoabSb
import Derived.Test.YtfipcpbibmhjoabSe
import Derived.Test.YtfipcpbibmhjoabSu
set_option linter.unusedVariables false
namespace Go.Proofs.Ytfipcpbibmhjoab.fnExactLikeOfGames
open Go.ChangeShapes Go.WideShapes Go.ChangeAt Go.RowKit
open Go.ChangeMaps (open_string)
open Go.Proofs.Ytfipcpbibmhjoab.Fl

set_option maxRecDepth 100000 in
set_option maxHeartbeats 4000000 in
theorem walk (fs0 : List Nat) (v0 : Value) (n1 : Nat) (fs1 : List Int) (v1 : Value) (w : World) (hs0 : Sl (Value.float .f32) 0 w v0 fs0) (hl0 : fs0.length ≤ maxLen) (hw0 : ∀ x ∈ fs0, x < 4294967296) (hs1 : SlK 3 w v1 n1 fs1) (hl1 : n1 ≤ maxLen) : Calls Try.prog 5 #[v0, v1] w fun e w' => e = .returned (.bool true) ∧ Below w.heap.size w w' := by
  unfold maxLen at hl0
  unfold maxLen at hl1
  by_cases hbig0 : 1048576 < fs0.length
  · skip
    obtain ⟨p0, cap0, rfl, hf0⟩ := hs0
    clear hf0
    generalize fs0.length = m0 at *
    go_enter Try.func5, Try.ntmps5
    go_wp2
    all_goals (go_ret; exact ⟨ret_bool (by simp), Below.refl _ _⟩)
  have hn0 : fs0.length ≤ 1048576 := by omega
  clear hbig0 hl0
  have HA0 := Lib.hid hs0
  obtain ⟨p0, cap0, rfl, hf0⟩ := hs0
  clear hf0
  have hd0 : decide (1048576 < (fs0.length : Int)) = false := decide_eq_false (by omega)
  have HA1 := Lib.hid hs1
  obtain ⟨_, p1, cap1, rfl, hf1⟩ := hs1
  clear hf1
  have HS1 := Lib.hid (fun left h1 h0 z => szGames_any p1 n1 cap1 left z hl1 h1 h0)
  obtain ⟨l1, hz1⟩ : ∃ l, l = szK n1 1048576 := ⟨_, rfl⟩
  have Hz1 := Lib.hid hz1
  clear hz1
  by_cases hneg1 : l1 < 0
  · skip
    generalize fs0.length = m0 at *
    go_enter Try.func5, Try.ntmps5
    go_wp2_with fail
    refine (HS1.out _ (by omega) (by omega) _).mono ?_
    rintro e u ⟨rfl, rfl⟩
    rw [← Hz1.out]
    go_wp2
    go_ret
    exact ⟨ret_bool (by simp), Below.refl _ _⟩
  have hb1_1 : l1 ≤ 1048576 := by have := Hz1.out; unfold szK at this; split at this <;> omega
  have hn1 : n1 ≤ 1048576 := by have := Hz1.out; unfold szK at this; split at this <;> omega
  obtain ⟨R0, R1, Hspec, Himpl⟩ : ∃ (R0 : Nat) (R1 : Bool), Hid (∀ (v0 : Value) (v1 : Value) (w : World), Sl (Value.float .f32) 0 w v0 fs0 → SlK 3 w v1 n1 fs1 → Calls Try.prog 26 #[v0, v1] w fun e w' => e = .returned (.tuple #[.float .f32 R0, .bool R1]) ∧ Below w.heap.size w w') ∧ Hid (∀ (v0 : Value) (v1 : Value) (w : World), Sl (Value.float .f32) 0 w v0 fs0 → SlK 3 w v1 n1 fs1 → Calls Try.prog 28 #[v0, v1] w fun e w' => e = .returned (.tuple #[.float .f32 R0, .bool R1]) ∧ Below w.heap.size w w') := ⟨(res_LikeOfGames fs0 n1 fs1), (ok_LikeOfGames fs0 n1 fs1), Lib.hid fun v0 v1 w h0 h1 => spec_LikeOfGames fs0 v0 n1 fs1 v1 w hn0 hw0 h0 hn1 h1, Lib.hid fun v0 v1 w h0 h1 => impl_LikeOfGames fs0 v0 n1 fs1 v1 w hn0 hw0 h0 hn1 h1⟩
  have Bel0 := Lib.hid (Below.refl w.heap.size w)
  go_enter Try.func5, Try.ntmps5
  go_wp2_with fail
  refine (HS1.out _ (by omega) (by omega) _).mono ?_
  rintro e u ⟨rfl, rfl⟩
  rw [← Hz1.out]
  go_wp2_with fail
  refine (toF_any fs0 _ _ hn0 (HA0.out.later Bel0.out)).mono ?_
  rintro e u1 ⟨ts0, rfl, ht, hb⟩
  have hzz1 := hb.size
  have Bel1 := Lib.hid (below_step Bel0.out hb (Nat.le_refl _))
  have Fs0_1 := Lib.hid ht
  clear hb Bel0 ht
  go_wp2_with fail
  refine (toGames_any n1 fs1 _ _ hn1 (HA1.out.later Bel1.out)).mono ?_
  rintro e u2 ⟨ts1, rfl, ht, hb⟩
  have hzz2 := hb.size
  have Bel2 := Lib.hid (below_step Bel1.out hb (Nat.le_refl _))
  have Fs0_2 := Lib.hid (Fs0_1.out.later hb)
  have Fs1_2 := Lib.hid ht
  clear hb Bel1 ht Fs0_1
  go_wp2_with fail
  refine (Hspec.out _ _ _ Fs0_2.out.sl Fs1_2.out.sl).mono ?_
  rintro e u3 ⟨rfl, hb⟩
  have hzz3 := hb.size
  have Bel3 := Lib.hid (below_step Bel2.out hb (Nat.le_refl _))
  have Fs0_3 := Lib.hid (Fs0_2.out.later hb)
  have Fs1_3 := Lib.hid (Fs1_2.out.later hb)
  clear hb Bel2 Fs0_2 Fs1_2
  clear Fs0_3
  clear Fs1_3
  go_wp2_with fail
  refine (toF_any fs0 _ _ hn0 (HA0.out.later Bel3.out)).mono ?_
  rintro e u4 ⟨tx0, rfl, ht, hb⟩
  have hzz4 := hb.size
  have Bel4 := Lib.hid (below_step Bel3.out hb (Nat.le_refl _))
  have Fx0_4 := Lib.hid ht
  clear hb Bel3 ht
  go_wp2_with fail
  refine (toGames_any n1 fs1 _ _ hn1 (HA1.out.later Bel4.out)).mono ?_
  rintro e u5 ⟨tx1, rfl, ht, hb⟩
  have hzz5 := hb.size
  have Bel5 := Lib.hid (below_step Bel4.out hb (Nat.le_refl _))
  have Fx0_5 := Lib.hid (Fx0_4.out.later hb)
  have Fx1_5 := Lib.hid ht
  clear hb Bel4 ht Fx0_4
  go_wp2_with fail
  refine (Himpl.out _ _ _ Fx0_5.out.sl Fx1_5.out.sl).mono ?_
  rintro e u6 ⟨rfl, hb⟩
  have hzz6 := hb.size
  have Bel6 := Lib.hid (below_step Bel5.out hb (Nat.le_refl _))
  have Fx0_6 := Lib.hid (Fx0_5.out.later hb)
  have Fx1_6 := Lib.hid (Fx1_5.out.later hb)
  clear hb Bel5 Fx0_5 Fx1_5
  go_wp2_with (first | (refine wpList_fconv rfl _ _ _ rfl .f32 .f64 (by kernel_rfl) (by kernel_rfl) _ rfl ?_; intro r n hr) | (go_at_call 29; refine (sameFloat_any _ _ (SameF.wide (a := R0) (b := R0) rfl (by assumption) (by assumption)) _).mono ?_; rintro e u7 ⟨rfl, m7, hdr⟩; have HbF : Hid (Below u6.heap.size u6 u7) := Lib.hid (by rw [hdr]; first | exact below_drewN (below_drewN (Below.refl _ _) _) _ | exact below_drewN (Below.refl _ _) _); clear hdr))
  have hb := HbF.out
  clear HbF
  have hzz7 := hb.size
  have Bel7 := Lib.hid (below_step Bel6.out hb (Nat.le_refl _))
  have Fx0_7 := Lib.hid (Fx0_6.out.later hb)
  have Fx1_7 := Lib.hid (Fx1_6.out.later hb)
  clear hb Bel6 Fx0_6 Fx1_6
  go_wp2_with fail
  refine (toF_any fs0 _ _ hn0 (HA0.out.later Bel7.out)).mono ?_
  rintro e u8 ⟨tc0, rfl, ht, hb⟩
  have hzz8 := hb.size
  have Bel8 := Lib.hid (below_step Bel7.out hb (Nat.le_refl _))
  have Fx0_8 := Lib.hid (Fx0_7.out.later hb)
  have Fx1_8 := Lib.hid (Fx1_7.out.later hb)
  have Fc0_8 := Lib.hid ht
  clear hb Bel7 ht Fx0_7 Fx1_7
  go_wp2_with fail
  refine (eqF_any (fs0.map (Fl.cn .f32)) _ _ _ (by simpa using hn0) ⟨_, rfl, Fx0_8.out.sl⟩ ⟨_, rfl, Fc0_8.out.sl⟩).mono ?_
  rintro e u9 ⟨rfl, ho⟩
  have hzz9 := Nat.le_of_eq ho.size.symm
  have Bel9 := Lib.hid (Below.still Bel8.out ho)
  have Fx0_9 := Lib.hid (Fx0_8.out.still ho)
  have Fx1_9 := Lib.hid (Fx1_8.out.still ho)
  have Fc0_9 := Lib.hid (Fc0_8.out.still ho)
  clear ho Bel8  Fx0_8 Fx1_8 Fc0_8
  clear Fc0_9
  go_wp2_with fail
  refine (toGames_any n1 fs1 _ _ hn1 (HA1.out.later Bel9.out)).mono ?_
  rintro e u10 ⟨tc1, rfl, ht, hb⟩
  have hzz10 := hb.size
  have Bel10 := Lib.hid (below_step Bel9.out hb (Nat.le_refl _))
  have Fx0_10 := Lib.hid (Fx0_9.out.later hb)
  have Fx1_10 := Lib.hid (Fx1_9.out.later hb)
  have Fc1_10 := Lib.hid ht
  clear hb Bel9 ht Fx0_9 Fx1_9
  go_wp2_with fail
  refine (eqGames_any n1 fs1 _ _ _ hn1 Fx1_10.out.sl Fc1_10.out.sl).mono ?_
  rintro e u11 ⟨rfl, hb⟩
  have hzz11 := hb.size
  have Bel11 := Lib.hid (below_step Bel10.out hb (Nat.le_refl _))
  have Fx0_11 := Lib.hid (Fx0_10.out.later hb)
  have Fx1_11 := Lib.hid (Fx1_10.out.later hb)
  have Fc1_11 := Lib.hid (Fc1_10.out.later hb)
  clear hb Bel10 Fx0_10 Fx1_10 Fc1_10
  clear Fc1_11
  go_wp2
  go_ret
  exact ⟨ret_bool (by simp), Bel11.out⟩

set_option maxRecDepth 100000 in
theorem lifted (os : Os) (started : os.Started) (H : Type) (enc : TypeId × Value → H) :
    ReturnsInHanded {} Try.checked os 5 .any (Rows.fnExactLikeOfGamesSpec.pre6 enc Try.prog Try.f5 Rows.fnExactLikeOfGamesRow.domain false) (Rows.fnExactLikeOfGamesSpec.post enc Try.prog Try.f5 false true false false) := by
  refine returnsInHanded_of_change (C := Try.checked) Lift.own started (by kernel_rfl) Try.func5
    (ChangeSpec.witness6 (enc := enc) (C := Try.checked) false ⟨#[], #[.slice none 0 0, .slice none 0 0], []⟩ 8 (by kernel_rfl) (by kernel_rfl) (by kernel_rfl) (by kernel_rfl)) ?_
  intro W base args ds gs before hval0 hW hcnd _
  have hval : ∀ (j : Nat) t v, Try.f5.params[j]? = some t → args[j]? = some v → Value.okWide Try.prog W .any base t v := hval0
  have hW' := hW
  obtain ⟨p, q, hA0, hV, rfl, hfz, hnd⟩ := hW
  have hA : DataW.TrodAll enc Try.prog W 0 (fun _ => true) true Try.f5.params.toList args.toList ds p := hA0
  obtain ⟨rfl, rfl⟩ := trodVars_none hV
  have hA1 := hA
  rw [Try.params5] at hA1 hval
  obtain ⟨v0, vs0, d0, ds0, p0, q0, hargs, rfl, rfl, h0, r0⟩ := trodAll_cons hA1
  obtain ⟨v1, vs1, d1, ds1, p1, q1, rfl, rfl, rfl, h1, r1⟩ := trodAll_cons r0
  obtain ⟨rfl, rfl, rfl⟩ := trodAll_nil r1
  obtain rfl : args = #[v0, v1] := by cases args; simp_all
  simp only [List.append_nil] at hW' hA
  obtain ⟨a0, w0, q9_0, l0⟩ := open_sl (Value.float .f32) 0 (fun b => (Lit.float .f32 b).wf = true) (float_el Try.underlying40) Try.underlying30 (by kernel_rfl) (hval 0 30 v0 rfl rfl) h0
  obtain ⟨n1, a1, w1, l1⟩ := open_slK 3 (by decide) Try.underlying2 Try.underlying28 Try.underlying81 (by kernel_rfl) (by kernel_rfl) rfl (by kernel_rfl) (hval 1 28 v1 rfl rfl) h1
  refine (walk a0 v0 n1 a1 v1 W w0 l0 (fun x hx => wf32 (q9_0 x hx)) w1 l1).mono fun e W' ⟨he, hb⟩ => ?_
  subst he
  refine ⟨_, rfl, Lift.law_post Lift.laidOut hW' hA rfl rfl rfl rfl (by kernel_rfl) Try.underlying4 ?_ hb⟩
  rw [Try.params5]
  intro t ht
  simp only [List.mem_cons, List.not_mem_nil, or_false] at ht
  rcases ht with rfl | rfl <;> exact ⟨by kernel_rfl, of_decide_eq_true (by kernel_rfl)⟩

theorem proved : Rows.FnExactLikeOfGamesSaid :=
  OpenClaim.holds_of_wide 5 Try.f5 rfl rfl rfl rfl rfl rfl rfl ⟨rfl, rfl, rfl, rfl, rfl⟩ rfl rfl rfl rfl rfl (by kernel_rfl) Try.func5 (by kernel_rfl)
    (of_decide_eq_true (by kernel_rfl)) (by unfold Func.isWrapper; first | (rw [if_pos (by decide +kernel)]; kernel_rfl) | (rw [if_neg (by decide +kernel)]; exact ⟨rfl, rfl⟩))
    (fun os started H enc _ => lifted os started H enc)
end Go.Proofs.Ytfipcpbibmhjoab.fnExactLikeOfGames
