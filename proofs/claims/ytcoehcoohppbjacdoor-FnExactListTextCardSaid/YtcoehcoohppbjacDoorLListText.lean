/- FnExactListText: for every list of integers, ListText answers as its model; where the listed tables read as the program's text lays them. -/
import Derived.Test.YtcoehcoohppbjacDoorLo
import Derived.Test.YtcoehcoohppbjacDoorCe
import Derived.Test.YtcoehcoohppbjacDoorCards
import Derived.Test.YtcoehcoohppbjacDoorTie
import Derived.SevenTiedAt
import Derived.LaidLaws
set_option linter.unusedVariables false
namespace Go.Proofs.YtcoehcoohppbjacDoor.fnExactListText
open Go.ChangeShapes Go.WideShapes Go.ChangeAt Go.RowKit
open Go.ChangeMaps (open_string)

set_option maxRecDepth 100000 in
set_option maxHeartbeats 4000000 in
theorem walk (fs0 : List Int) (v0 : Value) (w : World) (hs0 : Sl (Value.int .i64) 0 w v0 fs0) (hl0 : fs0.length ≤ maxLen) (ht : TabP w) : Calls Tryd.prog 5 #[v0] w fun e w' => e = .returned (.bool true) ∧ Below w.heap.size w w' := by
  have Ht := Lib.hid (fun z (hz : Below w.heap.size w z) => ht.stays hz)
  clear ht
  unfold maxLen at hl0
  by_cases hbig0 : 1048576 < fs0.length
  · skip
    obtain ⟨p0, cap0, rfl, hf0⟩ := hs0
    clear hf0
    generalize fs0.length = m0 at *
    go_enter Tryd.func5, Tryd.ntmps5
    go_wp2
    all_goals (go_ret; exact ⟨ret_bool (by simp), Below.refl _ _⟩)
  have hn0 : fs0.length ≤ 1048576 := by omega
  clear hbig0 hl0
  have HA0 := Lib.hid hs0
  obtain ⟨p0, cap0, rfl, hf0⟩ := hs0
  clear hf0
  have hd0 : decide (1048576 < (fs0.length : Int)) = false := decide_eq_false (by omega)
  obtain ⟨R0, R1, Hspec, Himpl⟩ : ∃ (R0 : ByteArray) (R1 : Bool), Hid (∀ (v0 : Value) (w : World), Sl (Value.int .i64) 0 w v0 fs0 → Calls Tryd.prog 16 #[v0] w fun e w' => e = .returned (.tuple #[.string R0, .bool R1]) ∧ Below w.heap.size w w') ∧ Hid (∀ (v0 : Value) (z : World), Below w.heap.size w z → Sl (Value.int .i64) 0 z v0 fs0 → Calls Tryd.prog 18 #[v0] z fun e w' => e = .returned (.tuple #[.string R0, .bool R1]) ∧ Below z.heap.size z w') := ⟨(res_ListText fs0), (ok_ListText fs0), Lib.hid fun v0 w h0 => spec_ListText fs0 v0 w hn0 h0, Lib.hid fun v0 z hz h0 => impl_ListText fs0 v0 z hn0 h0 (Ht.out z hz)⟩
  have Bel0 := Lib.hid (Below.refl w.heap.size w)
  go_enter Tryd.func5, Tryd.ntmps5
  go_wp2_with fail
  refine (toI_any fs0 _ _ hn0 (HA0.out.later Bel0.out)).mono ?_
  rintro e u1 ⟨ts0, rfl, ht, hb⟩
  have hzz1 := hb.size
  have Bel1 := Lib.hid (below_step Bel0.out hb (Nat.le_refl _))
  have Fs0_1 := Lib.hid ht
  clear hb Bel0 ht
  go_wp2_with fail
  refine (Hspec.out _ _ Fs0_1.out.sl).mono ?_
  rintro e u2 ⟨rfl, hb⟩
  have hzz2 := hb.size
  have Bel2 := Lib.hid (below_step Bel1.out hb (Nat.le_refl _))
  have Fs0_2 := Lib.hid (Fs0_1.out.later hb)
  clear hb Bel1 Fs0_1
  clear Fs0_2
  go_wp2_with fail
  refine (toI_any fs0 _ _ hn0 (HA0.out.later Bel2.out)).mono ?_
  rintro e u3 ⟨tx0, rfl, ht, hb⟩
  have hzz3 := hb.size
  have Bel3 := Lib.hid (below_step Bel2.out hb (Nat.le_refl _))
  have Fx0_3 := Lib.hid ht
  clear hb Bel2 ht
  go_wp2_with fail
  refine (Himpl.out _ _ Bel3.out Fx0_3.out.sl).mono ?_
  rintro e u4 ⟨rfl, hb⟩
  have hzz4 := hb.size
  have Bel4 := Lib.hid (below_step Bel3.out hb (Nat.le_refl _))
  have Fx0_4 := Lib.hid (Fx0_3.out.later hb)
  clear hb Bel3 Fx0_3
  go_wp2_with fail
  refine (toI_any fs0 _ _ hn0 (HA0.out.later Bel4.out)).mono ?_
  rintro e u5 ⟨tc0, rfl, ht, hb⟩
  have hzz5 := hb.size
  have Bel5 := Lib.hid (below_step Bel4.out hb (Nat.le_refl _))
  have Fx0_5 := Lib.hid (Fx0_4.out.later hb)
  have Fc0_5 := Lib.hid ht
  clear hb Bel4 ht Fx0_4
  go_wp2_with fail
  refine (eqI_any fs0 _ _ _ hn0 Fx0_5.out.sl Fc0_5.out.sl).mono ?_
  rintro e u6 ⟨rfl, ho⟩
  have hzz6 := Nat.le_of_eq ho.size.symm
  have Bel6 := Lib.hid (Below.still Bel5.out ho)
  have Fx0_6 := Lib.hid (Fx0_5.out.still ho)
  have Fc0_6 := Lib.hid (Fc0_5.out.still ho)
  clear ho Bel5  Fx0_5 Fc0_5
  clear Fc0_6
  go_wp2
  go_ret
  exact ⟨ret_bool (by simp), Bel6.out⟩

theorem door_met (os : Os) (args : Array Value) : laidMetH Tryd.prog Rows.fnExactListTextRow.laid ((World.doorLaid Tryd.prog 400 os).forCall (fun _ _ => 0) ⟨#[], args, []⟩).memory :=
  laidMetH_of_parts3 (fuel := 8) (laidMet_of_run' 8 (by kernel_rfl) (by kernel_rfl)) (by kernel_rfl) (by kernel_rfl)
theorem tab_of_laid {W : World} (h : laidMetH Tryd.prog Rows.fnExactListTextRow.laid W) : TabP W := by
  rw [MakeChecks.laidMetH_plain _ _ _ (by kernel_rfl)] at h
  exact Lib.tabIs_of_head (n := 20) (rest := []) (show Tryd.prog.globalNamed pow10N = some 0 by kernel_rfl) (by kernel_rfl) Tryd.underlying146 Tryd.underlying123 (by kernel_rfl) (by kernel_rfl) (laidMet.tail (laidMet.tail h))
set_option maxRecDepth 100000 in
theorem lifted (os : Os) (started : os.Started) (H : Type) (enc : TypeId × Value → H) :
    ReturnsInHanded {} Tryd.checked os 5 .any (fun w args => (Rows.fnExactListTextSpec.pre enc Tryd.prog Tryd.f5 [] false w args ∧ laidMetH Tryd.prog Rows.fnExactListTextRow.laid w) ∧ sizedMet enc Tryd.prog Tryd.f5 (OpenSpec.ofChange Rows.fnExactListTextSpec) false w args) (Rows.fnExactListTextSpec.post enc Tryd.prog Tryd.f5 false true false false) := by
  refine returnsInHanded_of_change_and (C := Tryd.checked) (X := fun w _ => laidMetH Tryd.prog Rows.fnExactListTextRow.laid w) (fun _ _ _ hh h => h.of_heap hh) Lift.own started (by kernel_rfl) Tryd.func5
    (ChangeSpec.witness_shaped (enc := enc) (C := Tryd.checked) (os := os) (X := fun w _ => laidMetH Tryd.prog Rows.fnExactListTextRow.laid w) false (World.doorLaid Tryd.prog 400 os) #[.slice none 0 0] 8 rfl (World.shaped_of_RefB (by kernel_rfl) (by kernel_rfl)) (by kernel_rfl) (by kernel_rfl) (by kernel_rfl) (door_met os _)) ?_
  intro W base args ds gs before hval0 hW _ _ hL _
  have hval : ∀ (j : Nat) t v, Tryd.f5.params[j]? = some t → args[j]? = some v → Value.okWide Tryd.prog W .any base t v := hval0
  have hW' := hW
  obtain ⟨p, q, hA0, hV, rfl, hfz, hnd⟩ := hW
  have hA : DataW.TrodAll enc Tryd.prog W 0 (fun _ => true) true Tryd.f5.params.toList args.toList ds p := hA0
  obtain ⟨rfl, rfl⟩ := trodVars_none hV
  have hA1 := hA
  rw [Tryd.params5] at hA1 hval
  obtain ⟨v0, vs0, d0, ds0, p0, q0, hargs, rfl, rfl, h0, r0⟩ := trodAll_cons hA1
  obtain ⟨rfl, rfl, rfl⟩ := trodAll_nil r0
  obtain rfl : args = #[v0] := by cases args; simp_all
  simp only [List.append_nil] at hW' hA
  obtain ⟨a0, w0, _, l0⟩ := open_sl (Value.int .i64) 0 (fun b => (Lit.int .i64 b).wf = true) (int_el Tryd.underlying2) Tryd.underlying27 (by kernel_rfl) (hval 0 27 v0 rfl rfl) h0
  refine (walk a0 v0 W w0 l0 (tab_of_laid hL)).mono fun e W' ⟨he, hb⟩ => ?_
  subst he
  refine ⟨_, rfl, Lift.law_post Lift.laidOut hW' hA rfl rfl rfl rfl (by kernel_rfl) Tryd.underlying4 ?_ hb⟩
  rw [Tryd.params5]
  intro t ht
  simp only [List.mem_cons, List.not_mem_nil, or_false] at ht
  subst ht; exact ⟨by kernel_rfl, of_decide_eq_true (by kernel_rfl)⟩

theorem said : Rows.FnExactListTextSaid :=
  OpenClaim.holds_of_wide 5 Tryd.f5 rfl rfl rfl rfl rfl rfl rfl ⟨rfl, rfl, rfl, rfl, rfl⟩ rfl rfl rfl rfl rfl (by kernel_rfl) Tryd.func5 (by kernel_rfl)
    (of_decide_eq_true (by kernel_rfl)) (by unfold Func.isWrapper; first | (rw [if_pos (by decide +kernel)]; kernel_rfl) | (rw [if_neg (by decide +kernel)]; exact ⟨rfl, rfl⟩))
    (fun os started H enc _ => lifted os started H enc)
theorem proved : Rows.FnExactListTextCardSaid :=
  Claim7.holds_tied_plain_at .later [] [.data, .data, .data] true Rows.fnExactListTextCard.stood.harness true
    said (fun _ h => by cases h) (by kernel_rfl) (fun _ h => by cases h) fnExactListText_row_tie rfl ⟨rfl, rfl⟩ (by kernel_rfl) rfl
    (fun f fn hf hfn => by
      obtain rfl : f = 5 := Option.some.inj ((show Tryd.prog.funcNamed Rows.fnExactListTextRow.func = some 5 by kernel_rfl).symm.trans hf) |>.symm
      obtain rfl : fn = Tryd.f5 := (Option.some.inj (Tryd.func5.symm.trans hfn)).symm
      exact ⟨by kernel_rfl, fun j t ht => by
        rw [Tryd.params5] at ht
        have h3 : t = 27 := by
          have hm := List.mem_of_getElem? (show ([27] : List TypeId)[j]? = some t by simpa using ht)
          simpa using hm
        subst h3
        exact (show Tryd.prog.wantsStandIn 27 = false by kernel_rfl)⟩)
    (by kernel_rfl)
end Go.Proofs.YtcoehcoohppbjacDoor.fnExactListText
