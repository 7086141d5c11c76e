/- FnExactNewDesk: NewDesk answers as its model; no condition. -/
import Derived.Test.YtcoehcoohppbjaaLo
import Derived.Test.YtcoehcoohppbjaaBd
import Derived.Deep.RegionLawGrows
set_option linter.unusedVariables false
namespace Go.Proofs.Ytcoehcoohppbjaa.fnExactNewDesk
open Go.ChangeShapes Go.WideShapes Go.ChangeAt Go.RowKit

set_option maxRecDepth 100000 in
set_option maxHeartbeats 4000000 in
theorem walk (w : World) : Calls Try.prog 5 #[] w fun e w' => e = .returned (.bool true) ∧ Below w.heap.size w w' := by
  have Hspec := Lib.hid (fun z => spec_new z)
  have Himpl := Lib.hid (fun z => impl_new z)
  have Hl0 := Lib.hid (show deck8.length = 8 from tab_len _ _)
  have Hl1 := Lib.hid (show counts9.length = 9 from rfl)
  have Hl2 := Lib.hid (show word2.length = 2 from rfl)
  have hn0 : deck8.length ≤ 1048576 := by rw [Hl0.out]; omega
  have hn1 : counts9.length ≤ 1048576 := by rw [Hl1.out]; omega
  have hn2 : word2.length ≤ 1048576 := by rw [Hl2.out]; omega
  generalize deck8 = R0 at *
  generalize counts9 = R1 at *
  generalize word2 = R2 at *
  have Bel0 := Lib.hid (Below.refl w.heap.size w)
  go_enter Try.func5, Try.ntmps5
  go_wp2_with fail
  refine (Hspec.out _).mono ?_
  rintro e u1 ⟨vw, rfl, ht, hb⟩
  have Bel1 := Lib.hid (below_step Bel0.out hb (Nat.le_refl _))
  have hzz1 := hb.size
  have Fw_1 := Lib.hid ht
  clear hb Bel0 
  obtain ⟨xw, yw, zw, pw, qw, rfl, _, _, _, _, ⟨pxw, cxw, rfl, -⟩, ⟨pyw, cyw, rfl, -⟩, ⟨pzw, czw, rfl, -⟩⟩ := ht
  go_wp2_with fail
  have hb := (Below.refl u1.heap.size u1).alloc (Nat.le_refl _) (.cells #[.slice pxw R0.length cxw, .slice pyw R1.length cyw, .slice pzw R2.length czw] 27)
  have bz := BxK.new u1 27 #[.slice pxw R0.length cxw, .slice pyw R1.length cyw, .slice pzw R2.length czw]
  have hzs1 : (u1.alloc (.cells #[.slice pxw R0.length cxw, .slice pyw R1.length cyw, .slice pzw R2.length czw] 27)).heap.size = u1.heap.size + 1 := by simp
  generalize hu : u1.alloc (.cells #[.slice pxw R0.length cxw, .slice pyw R1.length cyw, .slice pzw R2.length czw] 27) = u2 at *
  clear hu
  have Bel2 := Lib.hid (below_step Bel1.out hb (Nat.le_refl _))
  have hzz2 := hb.size
  have Fw_2 := Lib.hid (Fw_1.out.later hb)
  have Bw_2 := Lib.hid bz
  clear hb Bel1 Fw_1
  clear bz
  go_wp2_with fail
  refine (Himpl.out _).mono ?_
  rintro e u3 ⟨vg, rfl, ht, hb⟩
  have Bel3 := Lib.hid (below_step Bel2.out hb (Nat.le_refl _))
  have hzz3 := hb.size
  have Fw_3 := Lib.hid (Fw_2.out.later hb)
  have Bw_3 := Lib.hid (BxK.below Bw_2.out hb Bw_2.out.lt)
  have Fg_3 := Lib.hid ht
  clear hb Bel2 Fw_2 Bw_2
  obtain ⟨xg, yg, zg, pg, qg, rfl, _, _, _, _, ⟨pxg, cxg, rfl, -⟩, ⟨pyg, cyg, rfl, -⟩, ⟨pzg, czg, rfl, -⟩⟩ := ht
  have qBw_0 := (Bw_3.out.alloc (.cells #[.slice pxg R0.length cxg, .slice pyg R1.length cyg, .slice pzg R2.length czg] 27)).cell 0 rfl
  have qBw_1 := (Bw_3.out.alloc (.cells #[.slice pxg R0.length cxg, .slice pyg R1.length cyg, .slice pzg R2.length czg] 27)).cell 1 rfl
  have qBw_2 := (Bw_3.out.alloc (.cells #[.slice pxg R0.length cxg, .slice pyg R1.length cyg, .slice pzg R2.length czg] 27)).cell 2 rfl
  go_wp2_with fail
  clear qBw_0 qBw_1 qBw_2
  have hb := (Below.refl u3.heap.size u3).alloc (Nat.le_refl _) (.cells #[.slice pxg R0.length cxg, .slice pyg R1.length cyg, .slice pzg R2.length czg] 27)
  have bz := BxK.new u3 27 #[.slice pxg R0.length cxg, .slice pyg R1.length cyg, .slice pzg R2.length czg]
  have hzs3 : (u3.alloc (.cells #[.slice pxg R0.length cxg, .slice pyg R1.length cyg, .slice pzg R2.length czg] 27)).heap.size = u3.heap.size + 1 := by simp
  generalize hu : u3.alloc (.cells #[.slice pxg R0.length cxg, .slice pyg R1.length cyg, .slice pzg R2.length czg] 27) = u4 at *
  clear hu
  have Bel4 := Lib.hid (below_step Bel3.out hb (Nat.le_refl _))
  have hzz4 := hb.size
  have Fw_4 := Lib.hid (Fw_3.out.later hb)
  have Bw_4 := Lib.hid (BxK.below Bw_3.out hb Bw_3.out.lt)
  have Fg_4 := Lib.hid (Fg_3.out.later hb)
  have Bg_4 := Lib.hid bz
  clear hb Bel3 Fw_3 Bw_3 Fg_3
  clear bz
  have kBg_a := Bg_4.out.cell 0 rfl
  have kBg_b := Bg_4.out.cell 1 rfl
  have kBg_c := Bg_4.out.cell 2 rfl
  have kBw_a := Bw_4.out.cell 0 rfl
  have kBw_b := Bw_4.out.cell 1 rfl
  have kBw_c := Bw_4.out.cell 2 rfl
  go_wp2_with fail
  refine (eqDesk_any R0 R1 R2 _ _ _ hn0 hn1 hn2 Fg_4.out.kv Fw_4.out.kv).mono ?_
  rintro e u5 ⟨rfl, hb⟩
  have Bel5 := Lib.hid (below_step Bel4.out hb (Nat.le_refl _))
  have hzz5 := hb.size
  have Fw_5 := Lib.hid (Fw_4.out.later hb)
  have Bw_5 := Lib.hid (BxK.below Bw_4.out hb Bw_4.out.lt)
  have Fg_5 := Lib.hid (Fg_4.out.later hb)
  have Bg_5 := Lib.hid (BxK.below Bg_4.out hb Bg_4.out.lt)
  clear hb Bel4 Fw_4 Bw_4 Fg_4 Bg_4
  clear kBg_a kBg_b kBg_c kBw_a kBw_b kBw_c
  have kBg_a := Bg_5.out.cell 0 rfl
  have kBg_b := Bg_5.out.cell 1 rfl
  have kBg_c := Bg_5.out.cell 2 rfl
  go_wp2_with fail
  refine (markDesk_any R0 R1 R2 _ _ _ _ 1 hn0 hn1 hn2 (by omega) Fg_5.out).mono ?_
  rintro e u7 ⟨rfl, ht, u6, hb, ho⟩
  have Bel6 := Lib.hid (below_step Bel5.out hb (Nat.le_refl _))
  have hzz6 := hb.size
  have Fw_6 := Lib.hid (Fw_5.out.later hb)
  have Bw_6 := Lib.hid (BxK.below Bw_5.out hb Bw_5.out.lt)
  have Fg_6 := Lib.hid (Fg_5.out.later hb)
  have Bg_6 := Lib.hid (BxK.below Bg_5.out hb Bg_5.out.lt)
  clear hb Bel5 Fw_5 Bw_5 Fg_5 Bg_5
  have hzz7 := Nat.le_of_eq ho.size.symm
  have Bel7 := Lib.hid (Below.only Bel6.out ho (by have := Below.size Bel6.out; omega))
  have Fw_7 := Lib.hid (Fw_6.out.apart ho (by omega))
  have Bw_7 : Hid (BxK _ _ _ _) := Lib.hid ((ho.block u1.heap.size (by omega)).trans Bw_6.out)
  have Fg_7 := Lib.hid ht
  have Bg_7 : Hid (BxK _ _ _ _) := Lib.hid ((ho.block u3.heap.size (by omega)).trans Bg_6.out)
  clear ho ht Bel6 Fw_6 Bw_6 Fg_6 Bg_6
  clear kBg_a kBg_b kBg_c
  have kBg_a := Bg_7.out.cell 0 rfl
  have kBg_b := Bg_7.out.cell 1 rfl
  have kBg_c := Bg_7.out.cell 2 rfl
  go_wp2_with fail
  refine (heldDesk_any R0.length R1.length R2.length _ _ _ _ 1 hn0 hn1 hn2 (by omega) Fg_7.out).mono ?_
  rintro e u8 ⟨rfl, hb⟩
  have Bel8 := Lib.hid (below_step Bel7.out hb (Nat.le_refl _))
  have hzz8 := hb.size
  have Fw_8 := Lib.hid (Fw_7.out.later hb)
  have Bw_8 := Lib.hid (BxK.below Bw_7.out hb Bw_7.out.lt)
  have Fg_8 := Lib.hid (Fg_7.out.later hb)
  have Bg_8 := Lib.hid (BxK.below Bg_7.out hb Bg_7.out.lt)
  clear hb Bel7 Fw_7 Bw_7 Fg_7 Bg_7
  clear kBg_a kBg_b kBg_c
  go_wp2_with fail
  refine (Himpl.out _).mono ?_
  rintro e u9 ⟨vh, rfl, ht, hb⟩
  have Bel9 := Lib.hid (below_step Bel8.out hb (Nat.le_refl _))
  have hzz9 := hb.size
  have Fw_9 := Lib.hid (Fw_8.out.later hb)
  have Bw_9 := Lib.hid (BxK.below Bw_8.out hb Bw_8.out.lt)
  have Fg_9 := Lib.hid (Fg_8.out.later hb)
  have Bg_9 := Lib.hid (BxK.below Bg_8.out hb Bg_8.out.lt)
  have Fh_9 := Lib.hid ht
  clear hb Bel8 Fw_8 Bw_8 Fg_8 Bg_8
  obtain ⟨xh, yh, zh, ph, qh, rfl, _, _, _, _, ⟨pxh, cxh, rfl, -⟩, ⟨pyh, cyh, rfl, -⟩, ⟨pzh, czh, rfl, -⟩⟩ := ht
  have qBw_0 := (Bw_9.out.alloc (.cells #[.slice pxh R0.length cxh, .slice pyh R1.length cyh, .slice pzh R2.length czh] 27)).cell 0 rfl
  have qBw_1 := (Bw_9.out.alloc (.cells #[.slice pxh R0.length cxh, .slice pyh R1.length cyh, .slice pzh R2.length czh] 27)).cell 1 rfl
  have qBw_2 := (Bw_9.out.alloc (.cells #[.slice pxh R0.length cxh, .slice pyh R1.length cyh, .slice pzh R2.length czh] 27)).cell 2 rfl
  have qBg_0 := (Bg_9.out.alloc (.cells #[.slice pxh R0.length cxh, .slice pyh R1.length cyh, .slice pzh R2.length czh] 27)).cell 0 rfl
  have qBg_1 := (Bg_9.out.alloc (.cells #[.slice pxh R0.length cxh, .slice pyh R1.length cyh, .slice pzh R2.length czh] 27)).cell 1 rfl
  have qBg_2 := (Bg_9.out.alloc (.cells #[.slice pxh R0.length cxh, .slice pyh R1.length cyh, .slice pzh R2.length czh] 27)).cell 2 rfl
  go_wp2_with fail
  clear qBw_0 qBw_1 qBw_2 qBg_0 qBg_1 qBg_2
  have hb := (Below.refl u9.heap.size u9).alloc (Nat.le_refl _) (.cells #[.slice pxh R0.length cxh, .slice pyh R1.length cyh, .slice pzh R2.length czh] 27)
  have bz := BxK.new u9 27 #[.slice pxh R0.length cxh, .slice pyh R1.length cyh, .slice pzh R2.length czh]
  have hzs9 : (u9.alloc (.cells #[.slice pxh R0.length cxh, .slice pyh R1.length cyh, .slice pzh R2.length czh] 27)).heap.size = u9.heap.size + 1 := by simp
  generalize hu : u9.alloc (.cells #[.slice pxh R0.length cxh, .slice pyh R1.length cyh, .slice pzh R2.length czh] 27) = u10 at *
  clear hu
  have Bel10 := Lib.hid (below_step Bel9.out hb (Nat.le_refl _))
  have hzz10 := hb.size
  have Fw_10 := Lib.hid (Fw_9.out.later hb)
  have Bw_10 := Lib.hid (BxK.below Bw_9.out hb Bw_9.out.lt)
  have Fg_10 := Lib.hid (Fg_9.out.later hb)
  have Bg_10 := Lib.hid (BxK.below Bg_9.out hb Bg_9.out.lt)
  have Fh_10 := Lib.hid (Fh_9.out.later hb)
  have Bh_10 := Lib.hid bz
  clear hb Bel9 Fw_9 Bw_9 Fg_9 Bg_9 Fh_9
  clear bz
  have kBh_a := Bh_10.out.cell 0 rfl
  have kBh_b := Bh_10.out.cell 1 rfl
  have kBh_c := Bh_10.out.cell 2 rfl
  have kBw_a := Bw_10.out.cell 0 rfl
  have kBw_b := Bw_10.out.cell 1 rfl
  have kBw_c := Bw_10.out.cell 2 rfl
  go_wp2_with fail
  refine (eqDesk_any R0 R1 R2 _ _ _ hn0 hn1 hn2 Fh_10.out.kv Fw_10.out.kv).mono ?_
  rintro e u11 ⟨rfl, hb⟩
  have Bel11 := Lib.hid (below_step Bel10.out hb (Nat.le_refl _))
  have hzz11 := hb.size
  have Fw_11 := Lib.hid (Fw_10.out.later hb)
  have Bw_11 := Lib.hid (BxK.below Bw_10.out hb Bw_10.out.lt)
  have Fg_11 := Lib.hid (Fg_10.out.later hb)
  have Bg_11 := Lib.hid (BxK.below Bg_10.out hb Bg_10.out.lt)
  have Fh_11 := Lib.hid (Fh_10.out.later hb)
  have Bh_11 := Lib.hid (BxK.below Bh_10.out hb Bh_10.out.lt)
  clear hb Bel10 Fw_10 Bw_10 Fg_10 Bg_10 Fh_10 Bh_10
  clear kBh_a kBh_b kBh_c kBw_a kBw_b kBw_c
  have kBg_a := Bg_11.out.cell 0 rfl
  have kBg_b := Bg_11.out.cell 1 rfl
  have kBg_c := Bg_11.out.cell 2 rfl
  go_wp2_with fail
  refine (heldDesk_any R0.length R1.length R2.length _ _ _ _ 1 hn0 hn1 hn2 (by omega) Fg_11.out).mono ?_
  rintro e u12 ⟨rfl, hb⟩
  have Bel12 := Lib.hid (below_step Bel11.out hb (Nat.le_refl _))
  have hzz12 := hb.size
  have Fw_12 := Lib.hid (Fw_11.out.later hb)
  have Bw_12 := Lib.hid (BxK.below Bw_11.out hb Bw_11.out.lt)
  have Fg_12 := Lib.hid (Fg_11.out.later hb)
  have Bg_12 := Lib.hid (BxK.below Bg_11.out hb Bg_11.out.lt)
  have Fh_12 := Lib.hid (Fh_11.out.later hb)
  have Bh_12 := Lib.hid (BxK.below Bh_11.out hb Bh_11.out.lt)
  clear hb Bel11 Fw_11 Bw_11 Fg_11 Bg_11 Fh_11 Bh_11
  clear kBg_a kBg_b kBg_c
  go_wp2
  go_ret
  exact ⟨ret_bool (by simp), Bel12.out⟩

set_option maxRecDepth 100000 in
theorem lifted (os : Os) (started : os.Started) (H : Type) (enc : TypeId × Value → H) :
    ReturnsInHanded {} Try.checked os 5 .any (Rows.fnExactNewDeskSpec.pre6 enc Try.prog Try.f5 Rows.fnExactNewDeskRow.domain false) (Rows.fnExactNewDeskSpec.post enc Try.prog Try.f5 false true false false) := by
  refine returnsInHanded_of_change (C := Try.checked) Lift.own started (by kernel_rfl) Try.func5
    (ChangeSpec.witness6 (enc := enc) (C := Try.checked) false ⟨#[], #[], []⟩ 8 (by kernel_rfl) (by kernel_rfl) (by kernel_rfl) (by kernel_rfl)) ?_
  intro W base args ds gs before hval0 hW hcnd _
  have hW' := hW
  obtain ⟨p, q, hA0, hV, rfl, hfz, hnd⟩ := hW
  have hA : DataW.TrodAll enc Try.prog W 0 (fun _ => true) true Try.f5.params.toList args.toList ds p := hA0
  obtain ⟨rfl, rfl⟩ := trodVars_none hV
  have hA1 := hA
  rw [Try.params5] at hA1
  obtain ⟨hargs, rfl, rfl⟩ := trodAll_nil hA1
  obtain rfl : args = #[] := by cases args; simp_all
  simp only [List.append_nil] at hW' hA
  refine (walk W).mono fun e W' ⟨he, hb⟩ => ?_
  subst he
  refine ⟨_, rfl, Lift.law_post Lift.laidOut hW' hA rfl rfl rfl rfl (by kernel_rfl) Try.underlying4 ?_ hb⟩
  rw [Try.params5]
  intro t ht
  simp at ht

theorem proved : Rows.FnExactNewDeskSaid :=
  OpenClaim.holds_of_wide 5 Try.f5 rfl rfl rfl rfl rfl rfl rfl ⟨rfl, rfl, rfl, rfl, rfl⟩ rfl rfl rfl rfl rfl (by kernel_rfl) Try.func5 (by kernel_rfl)
    (of_decide_eq_true (by kernel_rfl)) (by unfold Func.isWrapper; first | (rw [if_pos (by decide +kernel)]; kernel_rfl) | (rw [if_neg (by decide +kernel)]; exact ⟨rfl, rfl⟩))
    (fun os started H enc _ => lifted os started H enc)
end Go.Proofs.Ytcoehcoohppbjaa.fnExactNewDesk
