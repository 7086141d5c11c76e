/- FnExactReadList: for every string, ReadList answers as its model; where the listed tables read as the program's text lays them. -/
import Derived.Test.YtcoehcoohppbjacDoorLo
import Derived.Test.YtcoehcoohppbjacDoorCt
import Derived.Test.YtcoehcoohppbjacDoorCu
import Derived.Test.YtcoehcoohppbjacDoorCards
import Derived.Test.YtcoehcoohppbjacDoorTie
import Derived.SevenTiedAt
import Derived.LaidLaws
import Derived.Stop.LaidErr
set_option linter.unusedVariables false
namespace Go.Proofs.YtcoehcoohppbjacDoor.fnExactReadList
open Go.ChangeShapes Go.WideShapes Go.ChangeAt Go.RowKit
open Go.ChangeMaps (open_string)

set_option maxRecDepth 100000 in
set_option maxHeartbeats 4000000 in
theorem walk (a0 : ByteArray) (hsz : a0.size ≤ maxLen) (w : World) (ht : TabL w) : Calls Tryd.prog 6 #[.string a0] w fun e w' => e = .returned (.bool true) ∧ Below w.heap.size w w' := by
  have Ht := Lib.hid (fun z (hz : Below w.heap.size w z) => ht.stays hz)
  clear ht
  unfold maxLen at hsz
  by_cases hl : 1048576 < a0.size
  · clear Ht
    go_enter Tryd.func6, Tryd.ntmps6
    go_wp2
    all_goals (go_ret; exact ⟨ret_bool (by simp), Below.refl _ _⟩)
  have hn : a0.size ≤ 1048576 := by omega
  clear hl hsz
  have hd0 : decide (1048576 < (a0.size : Int)) = false := decide_eq_false (by omega)
  obtain ⟨R0, R1, hr0, Hspec, Himpl⟩ : ∃ (R0 : List Int) (R1 : Bool), R0.length ≤ 1048576 ∧ Hid (∀ (w : World), Calls Tryd.prog 20 #[.string a0] w fun e w' => ∃ r0, e = .returned (.tuple #[r0, .bool R1]) ∧ Sw (Value.int .i64) 0 w' r0 R0 w.heap.size w'.heap.size ∧ Below w.heap.size w w') ∧ Hid (∀ (z : World), Below w.heap.size w z → Calls Tryd.prog 21 #[.string a0] z fun e w' => ∃ r0, e = .returned (.tuple #[r0, .bool R1]) ∧ Sw (Value.int .i64) 0 w' r0 R0 z.heap.size w'.heap.size ∧ Below z.heap.size z w') := ⟨(res_ReadList a0), (ok_ReadList a0), (len_ReadList a0), Lib.hid fun w => spec_ReadList a0 w hn, Lib.hid fun z hz => impl_ReadList a0 z hn (Ht.out z hz)⟩
  clear Ht
  have Bel0 := Lib.hid (Below.refl w.heap.size w)
  go_enter Tryd.func6, Tryd.ntmps6
  go_wp2_with fail
  refine (Hspec.out  _ ).mono ?_
  rintro e u1 ⟨w0, rfl, hw0, hb⟩
  have hzz1 := hb.size
  have Bel1 := Lib.hid (below_step Bel0.out hb (Nat.le_refl _))
  have Fw0_1 := Lib.hid hw0
  clear hb Bel0 hw0
  go_wp2_with fail
  refine (Himpl.out _ Bel1.out).mono ?_
  rintro e u2 ⟨g0, rfl, hg0, hb⟩
  have hzz2 := hb.size
  have Bel2 := Lib.hid (below_step Bel1.out hb (Nat.le_refl _))
  have Fw0_2 := Lib.hid (Fw0_1.out.later hb)
  have Fg0_2 := Lib.hid hg0
  clear hb Bel1 hg0 Fw0_1
  go_wp2_with fail
  refine (eqI_any R0 _ _ _ hr0 Fg0_2.out.sl Fw0_2.out.sl).mono ?_
  rintro e u3 ⟨rfl, ho⟩
  have hzz3 := Nat.le_of_eq ho.size.symm
  have Bel3 := Lib.hid (Below.still Bel2.out ho)
  have Fw0_3 := Lib.hid (Fw0_2.out.still ho)
  have Fg0_3 := Lib.hid (Fg0_2.out.still ho)
  clear ho Bel2  Fw0_2 Fg0_2
  go_wp2_with fail
  refine (markI_any _ _ _ _ _ (1) hr0 (by omega) Fg0_3.out).mono ?_
  rintro e u4 ⟨rfl, ht, ho⟩
  have hzz4 := Nat.le_of_eq ho.size.symm
  have Bel4 := Lib.hid (Below.only Bel3.out ho (by have := Below.size Bel3.out; omega))
  have Fw0_4 := Lib.hid (Fw0_3.out.apart ho (by omega))
  have Fg0_4 := Lib.hid ht
  clear ho Bel3 ht Fw0_3 Fg0_3
  go_wp2_with fail
  refine (heldI_any R0.length _ _ _ _ (1) hr0 (by omega) Fg0_4.out).mono ?_
  rintro e u5 ⟨rfl, ho⟩
  have hzz5 := Nat.le_of_eq ho.size.symm
  have Bel5 := Lib.hid (Below.still Bel4.out ho)
  have Fw0_5 := Lib.hid (Fw0_4.out.still ho)
  have Fg0_5 := Lib.hid (Fg0_4.out.still ho)
  clear ho Bel4  Fw0_4 Fg0_4
  go_wp2_with fail
  refine (Himpl.out _ Bel5.out).mono ?_
  rintro e u6 ⟨h0, rfl, hh0, hb⟩
  have hzz6 := hb.size
  have Bel6 := Lib.hid (below_step Bel5.out hb (Nat.le_refl _))
  have Fw0_6 := Lib.hid (Fw0_5.out.later hb)
  have Fg0_6 := Lib.hid (Fg0_5.out.later hb)
  have Fh0_6 := Lib.hid hh0
  clear hb Bel5 hh0 Fw0_5 Fg0_5
  go_wp2_with fail
  refine (eqI_any R0 _ _ _ hr0 Fh0_6.out.sl Fw0_6.out.sl).mono ?_
  rintro e u7 ⟨rfl, ho⟩
  have hzz7 := Nat.le_of_eq ho.size.symm
  have Bel7 := Lib.hid (Below.still Bel6.out ho)
  have Fw0_7 := Lib.hid (Fw0_6.out.still ho)
  have Fg0_7 := Lib.hid (Fg0_6.out.still ho)
  have Fh0_7 := Lib.hid (Fh0_6.out.still ho)
  clear ho Bel6  Fw0_6 Fg0_6 Fh0_6
  go_wp2_with fail
  refine (heldI_any R0.length _ _ _ _ (1) hr0 (by omega) Fg0_7.out).mono ?_
  rintro e u8 ⟨rfl, ho⟩
  have hzz8 := Nat.le_of_eq ho.size.symm
  have Bel8 := Lib.hid (Below.still Bel7.out ho)
  have Fw0_8 := Lib.hid (Fw0_7.out.still ho)
  have Fg0_8 := Lib.hid (Fg0_7.out.still ho)
  have Fh0_8 := Lib.hid (Fh0_7.out.still ho)
  clear ho Bel7  Fw0_7 Fg0_7 Fh0_7
  go_wp2
  go_ret
  exact ⟨ret_bool (by simp), Bel8.out⟩

theorem star : "*" ++ "errors.errorString" = "*errors.errorString" := by decide
theorem rowT (u : TypeId) (h : Tryd.prog.typeName? 3 u = some "*errors.errorString") : u = 158 :=
  typeName_ptr_named (nm := "errors.errorString") (by rw [star]; kernel_rfl) (by kernel_rfl) (by decide) u (by rw [star]; exact h)
theorem tab_of_laid {W : World} (h : laidMetH Tryd.prog Rows.fnExactReadListRow.laid W) : TabE W := by
  rw [MakeChecks.laidMetH_plain _ _ _ (by kernel_rfl)] at h
  have h2 := laidMet.tail (laidMet.tail h)
  have h3 := laidMet.tail (laidMet.tail h2)
  obtain ⟨a0, s0, hv0, _, _, _⟩ := laid_sentinel h3 (show Tryd.prog.globalNamed _ = some 2 by kernel_rfl) (ti := 60) (by kernel_rfl) Tryd.underlying60 rowT Tryd.underlying158 Tryd.underlying160 rfl rfl Tryd.underlying9 (by kernel_rfl) (by kernel_rfl)
  obtain ⟨a1, s1, hv1, _, _, _⟩ := laid_sentinel (laidMet.tail h3) (show Tryd.prog.globalNamed _ = some 1 by kernel_rfl) (ti := 60) (by kernel_rfl) Tryd.underlying60 rowT Tryd.underlying158 Tryd.underlying160 rfl rfl Tryd.underlying9 (by kernel_rfl) (by kernel_rfl)
  refine ⟨Lib.tabIs_of_head (n := 20) (rest := _) (show Tryd.prog.globalNamed pow10N = some 0 by kernel_rfl) (by kernel_rfl) Tryd.underlying146 Tryd.underlying123 (by kernel_rfl) (by kernel_rfl) h2, ⟨_, _, by simpa using World.var?_cell (show Tryd.prog.globalNamed _ = some 1 by kernel_rfl) hv1 0⟩, ⟨_, _, by simpa using World.var?_cell (show Tryd.prog.globalNamed _ = some 2 by kernel_rfl) hv0 0⟩⟩
set_option maxRecDepth 100000 in
theorem lifted (os : Os) (started : os.Started) (H : Type) (enc : TypeId × Value → H) :
    ReturnsInHanded {} Tryd.checked os 6 .any (fun w args => (Rows.fnExactReadListSpec.pre enc Tryd.prog Tryd.f6 [] false w args ∧ laidMetH Tryd.prog Rows.fnExactReadListRow.laid w) ∧ sizedMet enc Tryd.prog Tryd.f6 (OpenSpec.ofChange Rows.fnExactReadListSpec) false w args) (Rows.fnExactReadListSpec.post enc Tryd.prog Tryd.f6 false true false false) := by
  refine returns_and_shaped (C := Tryd.checked) (X := fun w _ => laidMetH Tryd.prog Rows.fnExactReadListRow.laid w) (fun _ _ _ hh h => h.of_heap hh) Lift.own started (by kernel_rfl) Tryd.func6
    (ChangeSpec.witness_shaped (enc := enc) (C := Tryd.checked) (os := os) (X := fun w _ => laidMetH Tryd.prog Rows.fnExactReadListRow.laid w) false (World.laidAll Tryd.prog os Rows.fnExactReadListRow.laid) #[.string ByteArray.empty] 8 (World.laidAll_os _ _ _) (door_shape os _) (by kernel_rfl) (by kernel_rfl) (by kernel_rfl) (door_met os _)) ?_
  intro W base args ds gs before hval0 hW hL hShp
  have hval : ∀ (j : Nat) t v, Tryd.f6.params[j]? = some t → args[j]? = some v → Value.okWide Tryd.prog W .any base t v := hval0
  have hW' := hW
  obtain ⟨p, q, hA0, hV, rfl, hfz, hnd⟩ := hW
  have hA : DataW.TrodAll enc Tryd.prog W 0 (fun _ => true) true Tryd.f6.params.toList args.toList ds p := hA0
  obtain ⟨rfl, rfl⟩ := trodVars_none hV
  have hA1 := hA
  rw [Tryd.params6] at hA1 hval
  obtain ⟨v0, vs0, d0, ds0, p0, q0, hargs, rfl, rfl, h0, r0⟩ := trodAll_cons hA1
  obtain ⟨rfl, rfl, rfl⟩ := trodAll_nil r0
  obtain rfl : args = #[v0] := by cases args; simp_all
  simp only [List.append_nil] at hW' hA
  obtain ⟨a0, rfl, rfl, rfl, w0⟩ := open_string Tryd.underlying9 (hval 0 9 v0 rfl rfl) h0
  refine (walk a0 w0 W ⟨tab_of_laid hL, max_of_shaped hShp⟩).mono fun e W' ⟨he, hb⟩ => ?_
  subst he
  refine ⟨_, rfl, Lift.law_post Lift.laidOut hW' hA rfl rfl rfl rfl (by kernel_rfl) Tryd.underlying4 ?_ hb⟩
  rw [Tryd.params6]
  intro t ht
  simp only [List.mem_cons, List.not_mem_nil, or_false] at ht
  subst ht; exact ⟨by kernel_rfl, of_decide_eq_true (by kernel_rfl)⟩

theorem said : Rows.FnExactReadListSaid :=
  OpenClaim.holds_of_wide 6 Tryd.f6 rfl rfl rfl rfl rfl rfl rfl ⟨rfl, rfl, rfl, rfl, rfl⟩ rfl rfl rfl rfl rfl (by kernel_rfl) Tryd.func6 (by kernel_rfl)
    (of_decide_eq_true (by kernel_rfl)) (by unfold Func.isWrapper; first | (rw [if_pos (by decide +kernel)]; kernel_rfl) | (rw [if_neg (by decide +kernel)]; exact ⟨rfl, rfl⟩))
    (fun os started H enc _ => lifted os started H enc)
theorem proved : Rows.FnExactReadListCardSaid :=
  Claim7.holds_tied_plain_at .later [] [.data, .data, .data, .data, .sentinel, .sentinel, .pinned] true Rows.fnExactReadListCard.stood.harness true
    said (fun _ h => by cases h) (by kernel_rfl) (fun _ h => by cases h) fnExactReadList_row_tie rfl ⟨rfl, rfl⟩ (by kernel_rfl) rfl
    (fun f fn hf hfn => by
      obtain rfl : f = 6 := Option.some.inj ((show Tryd.prog.funcNamed Rows.fnExactReadListRow.func = some 6 by kernel_rfl).symm.trans hf) |>.symm
      obtain rfl : fn = Tryd.f6 := (Option.some.inj (Tryd.func6.symm.trans hfn)).symm
      exact ⟨by kernel_rfl, fun j t ht => by
        rw [Tryd.params6] at ht
        have h3 : t = 9 := by
          have hm := List.mem_of_getElem? (show ([9] : List TypeId)[j]? = some t by simpa using ht)
          simpa using hm
        subst h3
        exact (show Tryd.prog.wantsStandIn 9 = false by kernel_rfl)⟩)
    (by kernel_rfl)
end Go.Proofs.YtcoehcoohppbjacDoor.fnExactReadList
