/- FnExactSameDesk: for every desk and every other one, SameDesk answers as its model; no condition. -/
import Derived.Test.YtcoehcoohppbjaaLo
import Derived.Test.YtcoehcoohppbjaaBc
import Derived.Test.YtcoehcoohppbjaaBb
import Derived.Deep.RegionLawGrows
set_option linter.unusedVariables false
namespace Go.Proofs.Ytcoehcoohppbjaa.fnExactSameDesk
open Go.ChangeShapes Go.WideShapes Go.ChangeAt Go.RowKit
open Go.ChangeMaps (open_string)

set_option maxRecDepth 100000 in
set_option maxHeartbeats 4000000 in
theorem walk (fs0 gs0 js0 : List Int) (v0 : Value) (fs1 gs1 js1 : List Int) (v1 : Value) (w : World) (HV0 : Kv w v0 fs0 gs0 js0) (hl0 : fs0.length ≤ maxLen ∧ gs0.length ≤ maxLen ∧ js0.length ≤ maxLen) (HV1 : Kv w v1 fs1 gs1 js1) (hl1 : fs1.length ≤ maxLen ∧ gs1.length ≤ maxLen ∧ js1.length ≤ maxLen) : Calls Try.prog 4 #[v0, v1] w fun e w' => e = .returned (.bool true) ∧ Below w.heap.size w w' := by
  have HS0 := Lib.hid (fun z (hb : Below w.heap.size w z) left h1 h0 => szDesk_any fs0 gs0 js0 v0 left z hl0.1 hl0.2.1 hl0.2.2 (HV0.later hb) h1 h0)
  have HA0 := Lib.hid HV0
  obtain ⟨a0, b0, c0, rfl, _⟩ := HV0
  have HS1 := Lib.hid (fun z (hb : Below w.heap.size w z) left h1 h0 => szDesk_any fs1 gs1 js1 v1 left z hl1.1 hl1.2.1 hl1.2.2 (HV1.later hb) h1 h0)
  have HA1 := Lib.hid HV1
  obtain ⟨a1, b1, c1, rfl, _⟩ := HV1
  obtain ⟨l0, hz0⟩ : ∃ l, l = szV3 fs0.length gs0.length js0.length 1048576 := ⟨_, rfl⟩
  have Hz0 := Lib.hid hz0
  clear hz0
  obtain ⟨l1, hz1⟩ : ∃ l, l = szV3 fs1.length gs1.length js1.length l0 := ⟨_, rfl⟩
  have Hz1 := Lib.hid hz1
  clear hz1
  by_cases hneg0 : l0 < 0
  · skip
    go_enter Try.func4, Try.ntmps4
    have Bel0 := Lib.hid (((Below.refl _ w).alloc (Nat.le_refl _) (.cells #[a0, b0, c0] 24)).alloc (by simp) (.cells #[a1, b1, c1] 24))
    have Bx0_0 := Lib.hid ((BxK.new w 24 #[a0, b0, c0]).alloc (.cells #[a1, b1, c1] 24))
    have Bx1_0 := Lib.hid (BxK.new (w.alloc (.cells #[a0, b0, c0] 24)) 24 #[a1, b1, c1])
    simp only [World.size_alloc] at Bx1_0
    have kBx0_a := Bx0_0.out.cell 0 rfl
    have kBx0_b := Bx0_0.out.cell 1 rfl
    have kBx0_c := Bx0_0.out.cell 2 rfl
    go_wp2_with fail
    refine (HS0.out _ Bel0.out _ (by omega) (by omega)).mono ?_
    rintro e u1 ⟨rfl, hb⟩
    rw [← Hz0.out]
    have Bel1 := Lib.hid (below_step Bel0.out hb (Nat.le_refl _))
    have hzz1 := hb.size
    have Bx0_1 := Lib.hid (BxK.below Bx0_0.out hb Bx0_0.out.lt)
    have Bx1_1 := Lib.hid (BxK.below Bx1_0.out hb Bx1_0.out.lt)
    clear hb Bel0 Bx0_0 Bx1_0
    clear kBx0_a kBx0_b kBx0_c
    go_wp2
    go_ret
    exact ⟨ret_bool (by simp), Bel1.out⟩
  obtain ⟨hl1_0, hn0⟩ : l0 ≤ 1048576 ∧ fs0.length ≤ 1048576 ∧ gs0.length ≤ 1048576 ∧ js0.length ≤ 1048576 := by rw [Hz0.out] at hneg0 ⊢; exact szV3_small _ _ _ _ (by omega) hneg0
  by_cases hneg1 : l1 < 0
  · skip
    go_enter Try.func4, Try.ntmps4
    have Bel0 := Lib.hid (((Below.refl _ w).alloc (Nat.le_refl _) (.cells #[a0, b0, c0] 24)).alloc (by simp) (.cells #[a1, b1, c1] 24))
    have Bx0_0 := Lib.hid ((BxK.new w 24 #[a0, b0, c0]).alloc (.cells #[a1, b1, c1] 24))
    have Bx1_0 := Lib.hid (BxK.new (w.alloc (.cells #[a0, b0, c0] 24)) 24 #[a1, b1, c1])
    simp only [World.size_alloc] at Bx1_0
    have kBx0_a := Bx0_0.out.cell 0 rfl
    have kBx0_b := Bx0_0.out.cell 1 rfl
    have kBx0_c := Bx0_0.out.cell 2 rfl
    go_wp2_with fail
    refine (HS0.out _ Bel0.out _ (by omega) (by omega)).mono ?_
    rintro e u1 ⟨rfl, hb⟩
    rw [← Hz0.out]
    have Bel1 := Lib.hid (below_step Bel0.out hb (Nat.le_refl _))
    have hzz1 := hb.size
    have Bx0_1 := Lib.hid (BxK.below Bx0_0.out hb Bx0_0.out.lt)
    have Bx1_1 := Lib.hid (BxK.below Bx1_0.out hb Bx1_0.out.lt)
    clear hb Bel0 Bx0_0 Bx1_0
    clear kBx0_a kBx0_b kBx0_c
    have kBx1_a := Bx1_1.out.cell 0 rfl
    have kBx1_b := Bx1_1.out.cell 1 rfl
    have kBx1_c := Bx1_1.out.cell 2 rfl
    go_wp2_with fail
    refine (HS1.out _ Bel1.out _ (by omega) (by omega)).mono ?_
    rintro e u2 ⟨rfl, hb⟩
    rw [← Hz1.out]
    have Bel2 := Lib.hid (below_step Bel1.out hb (Nat.le_refl _))
    have hzz2 := hb.size
    have Bx0_2 := Lib.hid (BxK.below Bx0_1.out hb Bx0_1.out.lt)
    have Bx1_2 := Lib.hid (BxK.below Bx1_1.out hb Bx1_1.out.lt)
    clear hb Bel1 Bx0_1 Bx1_1
    clear kBx1_a kBx1_b kBx1_c
    go_wp2
    go_ret
    exact ⟨ret_bool (by simp), Bel2.out⟩
  obtain ⟨hl1_1, hn1⟩ : l1 ≤ 1048576 ∧ fs1.length ≤ 1048576 ∧ gs1.length ≤ 1048576 ∧ js1.length ≤ 1048576 := by rw [Hz1.out] at hneg1 ⊢; exact szV3_small _ _ _ _ (by omega) hneg1
  obtain ⟨R0, Hspec, Himpl⟩ : ∃ (R0 : Bool), Hid (∀ (v0 : Value) (v1 : Value) (w : World), Kv w v0 fs0 gs0 js0 → Kv w v1 fs1 gs1 js1 → Calls Try.prog 20 #[v0, v1] w fun e w' => e = .returned (.bool R0) ∧ Below w.heap.size w w') ∧ Hid (∀ (v0 : Value) (v1 : Value) (w : World), Kv w v0 fs0 gs0 js0 → Kv w v1 fs1 gs1 js1 → Calls Try.prog 21 #[v0, v1] w fun e w' => e = .returned (.bool R0) ∧ Below w.heap.size w w') := ⟨sameDeskB fs0 gs0 js0 fs1 gs1 js1, Lib.hid fun v0 v1 w h0 h1 => spec_same fs0 gs0 js0 fs1 gs1 js1 v0 v1 w hn0.1 hn0.2.1 hn0.2.2 hn1.1 hn1.2.1 hn1.2.2 h0 h1, Lib.hid fun v0 v1 w h0 h1 => impl_same fs0 gs0 js0 fs1 gs1 js1 v0 v1 w hn0.1 hn0.2.1 hn0.2.2 hn1.1 hn1.2.1 hn1.2.2 h0 h1⟩
  go_enter Try.func4, Try.ntmps4
  have Bel0 := Lib.hid (((Below.refl _ w).alloc (Nat.le_refl _) (.cells #[a0, b0, c0] 24)).alloc (by simp) (.cells #[a1, b1, c1] 24))
  have Bx0_0 := Lib.hid ((BxK.new w 24 #[a0, b0, c0]).alloc (.cells #[a1, b1, c1] 24))
  have Bx1_0 := Lib.hid (BxK.new (w.alloc (.cells #[a0, b0, c0] 24)) 24 #[a1, b1, c1])
  simp only [World.size_alloc] at Bx1_0
  have kBx0_a := Bx0_0.out.cell 0 rfl
  have kBx0_b := Bx0_0.out.cell 1 rfl
  have kBx0_c := Bx0_0.out.cell 2 rfl
  go_wp2_with fail
  refine (HS0.out _ Bel0.out _ (by omega) (by omega)).mono ?_
  rintro e u1 ⟨rfl, hb⟩
  rw [← Hz0.out]
  have Bel1 := Lib.hid (below_step Bel0.out hb (Nat.le_refl _))
  have hzz1 := hb.size
  have Bx0_1 := Lib.hid (BxK.below Bx0_0.out hb Bx0_0.out.lt)
  have Bx1_1 := Lib.hid (BxK.below Bx1_0.out hb Bx1_0.out.lt)
  clear hb Bel0 Bx0_0 Bx1_0
  clear kBx0_a kBx0_b kBx0_c
  have kBx1_a := Bx1_1.out.cell 0 rfl
  have kBx1_b := Bx1_1.out.cell 1 rfl
  have kBx1_c := Bx1_1.out.cell 2 rfl
  go_wp2_with fail
  refine (HS1.out _ Bel1.out _ (by omega) (by omega)).mono ?_
  rintro e u2 ⟨rfl, hb⟩
  rw [← Hz1.out]
  have Bel2 := Lib.hid (below_step Bel1.out hb (Nat.le_refl _))
  have hzz2 := hb.size
  have Bx0_2 := Lib.hid (BxK.below Bx0_1.out hb Bx0_1.out.lt)
  have Bx1_2 := Lib.hid (BxK.below Bx1_1.out hb Bx1_1.out.lt)
  clear hb Bel1 Bx0_1 Bx1_1
  clear kBx1_a kBx1_b kBx1_c
  have kBx0_a := Bx0_2.out.cell 0 rfl
  have kBx0_b := Bx0_2.out.cell 1 rfl
  have kBx0_c := Bx0_2.out.cell 2 rfl
  have kBx1_a := Bx1_2.out.cell 0 rfl
  have kBx1_b := Bx1_2.out.cell 1 rfl
  have kBx1_c := Bx1_2.out.cell 2 rfl
  have Hto0 := Lib.hid (fun z (hz : Below u2.heap.size u2 z) => toDesk_any fs0 gs0 js0 (.agg #[a0, b0, c0]) z hn0.1 hn0.2.1 hn0.2.2 (HA0.out.later (Bel2.out.trans (hz.mono Bel2.out.size))))
  have Hto1 := Lib.hid (fun z (hz : Below u2.heap.size u2 z) => toDesk_any fs1 gs1 js1 (.agg #[a1, b1, c1]) z hn1.1 hn1.2.1 hn1.2.2 (HA1.out.later (Bel2.out.trans (hz.mono Bel2.out.size))))
  go_wp2
  go_region_law (first | (go_simp; go_at_call 17; (with_reducible refine (Hto0.out _ ?_).mono ?_); (exact below_drewN (Below.refl _ _) _); rintro e y1 ⟨ts0, rfl, ht, hb⟩; have kb_a := cell_keep hb kBx1_a; have kb_b := cell_keep hb kBx1_b; have kb_c := cell_keep hb kBx1_c; have Y1 := Lib.hid ((below_drewN (Below.refl _ _) _).trans hb); have Fs0 := Lib.hid ht; clear ht hb) | (go_simp; go_at_call 17; (with_reducible refine (Hto1.out _ ?_).mono ?_); (exact Y1.out); rintro e y2 ⟨ts1, rfl, ht, hb⟩; have Y2 := Lib.hid (below_step Y1.out hb (Nat.le_refl _)); have Fs1 := Lib.hid ht; have Fs0b := Lib.hid (Fs0.out.later hb); clear ht hb) | (go_simp; go_at_call 20; refine (Hspec.out _ _ _ Fs0b.out.kv Fs1.out.kv).mono ?_; rintro e u3 ⟨rfl, hb3⟩; have hb := below_step Y2.out hb3 (Nat.le_refl _); clear hb3))
  all_goals
    have Bel3 := Lib.hid (below_step Bel2.out hb (Nat.le_refl _))
    have hzz3 := hb.size
    have Bx0_3 := Lib.hid (BxK.below Bx0_2.out hb Bx0_2.out.lt)
    have Bx1_3 := Lib.hid (BxK.below Bx1_2.out hb Bx1_2.out.lt)
    clear hb Bel2 Bx0_2 Bx1_2
    clear kBx0_a kBx0_b kBx0_c kBx1_a kBx1_b kBx1_c
    clear Fs0 Fs0b Fs1 Y1 Y2 Hto0 Hto1 kb_a kb_b kb_c
    have kBx0_a := Bx0_3.out.cell 0 rfl
    have kBx0_b := Bx0_3.out.cell 1 rfl
    have kBx0_c := Bx0_3.out.cell 2 rfl
    go_wp2_with fail
    refine (toDesk_any fs0 gs0 js0 _ _ hn0.1 hn0.2.1 hn0.2.2 (HA0.out.later Bel3.out)).mono ?_
    rintro e u4 ⟨tx0, rfl, ht, hb⟩
    have Bel4 := Lib.hid (below_step Bel3.out hb (Nat.le_refl _))
    have hzz4 := hb.size
    have Bx0_4 := Lib.hid (BxK.below Bx0_3.out hb Bx0_3.out.lt)
    have Bx1_4 := Lib.hid (BxK.below Bx1_3.out hb Bx1_3.out.lt)
    have Fx0_4 := Lib.hid ht.kv
    clear hb Bel3 Bx0_3 Bx1_3
    clear kBx0_a kBx0_b kBx0_c
    obtain ⟨x0, y0, z0, _, _, rfl, _, _, _, _, ⟨px0, cx0, rfl, -⟩, ⟨py0, cy0, rfl, -⟩, ⟨pz0, cz0, rfl, -⟩⟩ := ht
    have qBx0_0 := (Bx0_4.out.alloc (.cells #[.slice px0 fs0.length cx0, .slice py0 gs0.length cy0, .slice pz0 js0.length cz0] 27)).cell 0 rfl
    have qBx0_1 := (Bx0_4.out.alloc (.cells #[.slice px0 fs0.length cx0, .slice py0 gs0.length cy0, .slice pz0 js0.length cz0] 27)).cell 1 rfl
    have qBx0_2 := (Bx0_4.out.alloc (.cells #[.slice px0 fs0.length cx0, .slice py0 gs0.length cy0, .slice pz0 js0.length cz0] 27)).cell 2 rfl
    have qBx1_0 := (Bx1_4.out.alloc (.cells #[.slice px0 fs0.length cx0, .slice py0 gs0.length cy0, .slice pz0 js0.length cz0] 27)).cell 0 rfl
    have qBx1_1 := (Bx1_4.out.alloc (.cells #[.slice px0 fs0.length cx0, .slice py0 gs0.length cy0, .slice pz0 js0.length cz0] 27)).cell 1 rfl
    have qBx1_2 := (Bx1_4.out.alloc (.cells #[.slice px0 fs0.length cx0, .slice py0 gs0.length cy0, .slice pz0 js0.length cz0] 27)).cell 2 rfl
    go_wp2_with fail
    clear qBx0_0 qBx0_1 qBx0_2 qBx1_0 qBx1_1 qBx1_2
    have hb := (Below.refl u4.heap.size u4).alloc (Nat.le_refl _) (.cells #[.slice px0 fs0.length cx0, .slice py0 gs0.length cy0, .slice pz0 js0.length cz0] 27)
    have bz0 := BxK.new u4 27 #[.slice px0 fs0.length cx0, .slice py0 gs0.length cy0, .slice pz0 js0.length cz0]
    generalize hu : (u4.alloc (.cells #[.slice px0 fs0.length cx0, .slice py0 gs0.length cy0, .slice pz0 js0.length cz0] 27)) = u5 at *
    clear hu
    have Bel5 := Lib.hid (below_step Bel4.out hb (Nat.le_refl _))
    have hzz5 := hb.size
    have Bx0_5 := Lib.hid (BxK.below Bx0_4.out hb Bx0_4.out.lt)
    have Bx1_5 := Lib.hid (BxK.below Bx1_4.out hb Bx1_4.out.lt)
    have Fx0_5 := Lib.hid (Fx0_4.out.later hb)
    have Bz0_5 := Lib.hid bz0
    clear hb Bel4 Bx0_4 Bx1_4 Fx0_4
    clear bz0
    have kBx1_a := Bx1_5.out.cell 0 rfl
    have kBx1_b := Bx1_5.out.cell 1 rfl
    have kBx1_c := Bx1_5.out.cell 2 rfl
    go_wp2_with fail
    refine (toDesk_any fs1 gs1 js1 _ _ hn1.1 hn1.2.1 hn1.2.2 (HA1.out.later Bel5.out)).mono ?_
    rintro e u6 ⟨tx1, rfl, ht, hb⟩
    have Bel6 := Lib.hid (below_step Bel5.out hb (Nat.le_refl _))
    have hzz6 := hb.size
    have Bx0_6 := Lib.hid (BxK.below Bx0_5.out hb Bx0_5.out.lt)
    have Bx1_6 := Lib.hid (BxK.below Bx1_5.out hb Bx1_5.out.lt)
    have Fx0_6 := Lib.hid (Fx0_5.out.later hb)
    have Bz0_6 := Lib.hid (BxK.below Bz0_5.out hb Bz0_5.out.lt)
    have Fx1_6 := Lib.hid ht.kv
    clear hb Bel5 Bx0_5 Bx1_5 Fx0_5 Bz0_5
    clear kBx1_a kBx1_b kBx1_c
    obtain ⟨x1, y1, z1, _, _, rfl, _, _, _, _, ⟨px1, cx1, rfl, -⟩, ⟨py1, cy1, rfl, -⟩, ⟨pz1, cz1, rfl, -⟩⟩ := ht
    have qBx0_0 := (Bx0_6.out.alloc (.cells #[.slice px1 fs1.length cx1, .slice py1 gs1.length cy1, .slice pz1 js1.length cz1] 27)).cell 0 rfl
    have qBx0_1 := (Bx0_6.out.alloc (.cells #[.slice px1 fs1.length cx1, .slice py1 gs1.length cy1, .slice pz1 js1.length cz1] 27)).cell 1 rfl
    have qBx0_2 := (Bx0_6.out.alloc (.cells #[.slice px1 fs1.length cx1, .slice py1 gs1.length cy1, .slice pz1 js1.length cz1] 27)).cell 2 rfl
    have qBx1_0 := (Bx1_6.out.alloc (.cells #[.slice px1 fs1.length cx1, .slice py1 gs1.length cy1, .slice pz1 js1.length cz1] 27)).cell 0 rfl
    have qBx1_1 := (Bx1_6.out.alloc (.cells #[.slice px1 fs1.length cx1, .slice py1 gs1.length cy1, .slice pz1 js1.length cz1] 27)).cell 1 rfl
    have qBx1_2 := (Bx1_6.out.alloc (.cells #[.slice px1 fs1.length cx1, .slice py1 gs1.length cy1, .slice pz1 js1.length cz1] 27)).cell 2 rfl
    have qBz0_0 := (Bz0_6.out.alloc (.cells #[.slice px1 fs1.length cx1, .slice py1 gs1.length cy1, .slice pz1 js1.length cz1] 27)).cell 0 rfl
    have qBz0_1 := (Bz0_6.out.alloc (.cells #[.slice px1 fs1.length cx1, .slice py1 gs1.length cy1, .slice pz1 js1.length cz1] 27)).cell 1 rfl
    have qBz0_2 := (Bz0_6.out.alloc (.cells #[.slice px1 fs1.length cx1, .slice py1 gs1.length cy1, .slice pz1 js1.length cz1] 27)).cell 2 rfl
    go_wp2_with fail
    clear qBx0_0 qBx0_1 qBx0_2 qBx1_0 qBx1_1 qBx1_2 qBz0_0 qBz0_1 qBz0_2
    have hb := (Below.refl u6.heap.size u6).alloc (Nat.le_refl _) (.cells #[.slice px1 fs1.length cx1, .slice py1 gs1.length cy1, .slice pz1 js1.length cz1] 27)
    have bz1 := BxK.new u6 27 #[.slice px1 fs1.length cx1, .slice py1 gs1.length cy1, .slice pz1 js1.length cz1]
    generalize hu : (u6.alloc (.cells #[.slice px1 fs1.length cx1, .slice py1 gs1.length cy1, .slice pz1 js1.length cz1] 27)) = u7 at *
    clear hu
    have Bel7 := Lib.hid (below_step Bel6.out hb (Nat.le_refl _))
    have hzz7 := hb.size
    have Bx0_7 := Lib.hid (BxK.below Bx0_6.out hb Bx0_6.out.lt)
    have Bx1_7 := Lib.hid (BxK.below Bx1_6.out hb Bx1_6.out.lt)
    have Fx0_7 := Lib.hid (Fx0_6.out.later hb)
    have Bz0_7 := Lib.hid (BxK.below Bz0_6.out hb Bz0_6.out.lt)
    have Fx1_7 := Lib.hid (Fx1_6.out.later hb)
    have Bz1_7 := Lib.hid bz1
    clear hb Bel6 Bx0_6 Bx1_6 Fx0_6 Bz0_6 Fx1_6
    clear bz1
    have kBz0_a := Bz0_7.out.cell 0 rfl
    have kBz0_b := Bz0_7.out.cell 1 rfl
    have kBz0_c := Bz0_7.out.cell 2 rfl
    have kBz1_a := Bz1_7.out.cell 0 rfl
    have kBz1_b := Bz1_7.out.cell 1 rfl
    have kBz1_c := Bz1_7.out.cell 2 rfl
    go_wp2_with fail
    refine (Himpl.out _ _ _ Fx0_7.out Fx1_7.out).mono ?_
    rintro e u8 ⟨rfl, hb⟩
    have Bel8 := Lib.hid (below_step Bel7.out hb (Nat.le_refl _))
    have hzz8 := hb.size
    have Bx0_8 := Lib.hid (BxK.below Bx0_7.out hb Bx0_7.out.lt)
    have Bx1_8 := Lib.hid (BxK.below Bx1_7.out hb Bx1_7.out.lt)
    have Fx0_8 := Lib.hid (Fx0_7.out.later hb)
    have Bz0_8 := Lib.hid (BxK.below Bz0_7.out hb Bz0_7.out.lt)
    have Fx1_8 := Lib.hid (Fx1_7.out.later hb)
    have Bz1_8 := Lib.hid (BxK.below Bz1_7.out hb Bz1_7.out.lt)
    clear hb Bel7 Bx0_7 Bx1_7 Fx0_7 Bz0_7 Fx1_7 Bz1_7
    clear kBz0_a kBz0_b kBz0_c kBz1_a kBz1_b kBz1_c
    have kBx0_a := Bx0_8.out.cell 0 rfl
    have kBx0_b := Bx0_8.out.cell 1 rfl
    have kBx0_c := Bx0_8.out.cell 2 rfl
    have kBx1_a := Bx1_8.out.cell 0 rfl
    have kBx1_b := Bx1_8.out.cell 1 rfl
    have kBx1_c := Bx1_8.out.cell 2 rfl
    have kBz0_a := Bz0_8.out.cell 0 rfl
    have kBz0_b := Bz0_8.out.cell 1 rfl
    have kBz0_c := Bz0_8.out.cell 2 rfl
    have kBz1_a := Bz1_8.out.cell 0 rfl
    have kBz1_b := Bz1_8.out.cell 1 rfl
    have kBz1_c := Bz1_8.out.cell 2 rfl
    have Hrun := Lib.hid (fun z (hz : Below u8.heap.size u8 z) => (Bel8.out.trans (hz.mono Bel8.out.size)))
    go_wp2
    go_region_law (first | (go_simp; go_at_call 17; refine (toDesk_any fs0 gs0 js0 _ _ hn0.1 hn0.2.1 hn0.2.2 (HA0.out.later (Hrun.out _ (below_drewN (Below.refl _ _) _)))).mono ?_; rintro e y1 ⟨tc, rfl, ht, hb⟩; have kz7_a := cell_keep hb kBz0_a; have kz7_b := cell_keep hb kBz0_b; have kz7_c := cell_keep hb kBz0_c; have Fc7 := Lib.hid ht; have Y1 := Lib.hid ((below_drewN (Below.refl _ _) _).trans hb); have Fx7 := Lib.hid (Fx0_8.out.later Y1.out); clear ht hb) | (go_simp; go_at_call 19; refine (eqDesk_any fs0 gs0 js0 _ _ _ hn0.1 hn0.2.1 hn0.2.2 Fx7.out Fc7.out.kv).mono ?_; rintro e u9 ⟨rfl, hb3⟩; have hb := below_step Y1.out hb3 (Nat.le_refl _); clear hb3))
    all_goals
      have Bel9 := Lib.hid (below_step Bel8.out hb (Nat.le_refl _))
      have hzz9 := hb.size
      have Bx0_9 := Lib.hid (BxK.below Bx0_8.out hb Bx0_8.out.lt)
      have Bx1_9 := Lib.hid (BxK.below Bx1_8.out hb Bx1_8.out.lt)
      have Fx0_9 := Lib.hid (Fx0_8.out.later hb)
      have Bz0_9 := Lib.hid (BxK.below Bz0_8.out hb Bz0_8.out.lt)
      have Fx1_9 := Lib.hid (Fx1_8.out.later hb)
      have Bz1_9 := Lib.hid (BxK.below Bz1_8.out hb Bz1_8.out.lt)
      clear hb Bel8 Bx0_8 Bx1_8 Fx0_8 Bz0_8 Fx1_8 Bz1_8
      clear Y1 Fx7 Fc7 kz7_a kz7_b kz7_c Hrun
      clear kBx0_a kBx0_b kBx0_c kBx1_a kBx1_b kBx1_c kBz0_a kBz0_b kBz0_c kBz1_a kBz1_b kBz1_c
      have kBx0_a := Bx0_9.out.cell 0 rfl
      have kBx0_b := Bx0_9.out.cell 1 rfl
      have kBx0_c := Bx0_9.out.cell 2 rfl
      have kBx1_a := Bx1_9.out.cell 0 rfl
      have kBx1_b := Bx1_9.out.cell 1 rfl
      have kBx1_c := Bx1_9.out.cell 2 rfl
      have kBz0_a := Bz0_9.out.cell 0 rfl
      have kBz0_b := Bz0_9.out.cell 1 rfl
      have kBz0_c := Bz0_9.out.cell 2 rfl
      have kBz1_a := Bz1_9.out.cell 0 rfl
      have kBz1_b := Bz1_9.out.cell 1 rfl
      have kBz1_c := Bz1_9.out.cell 2 rfl
      have Hrun := Lib.hid (fun z (hz : Below u9.heap.size u9 z) => (Bel9.out.trans (hz.mono Bel9.out.size)))
      go_wp2
      go_region_law (first | (go_simp; go_at_call 17; refine (toDesk_any fs1 gs1 js1 _ _ hn1.1 hn1.2.1 hn1.2.2 (HA1.out.later (Hrun.out _ (below_drewN (Below.refl _ _) _)))).mono ?_; rintro e y1 ⟨tc, rfl, ht, hb⟩; have kz7_a := cell_keep hb kBz1_a; have kz7_b := cell_keep hb kBz1_b; have kz7_c := cell_keep hb kBz1_c; have Fc7 := Lib.hid ht; have Y1 := Lib.hid ((below_drewN (Below.refl _ _) _).trans hb); have Fx7 := Lib.hid (Fx1_9.out.later Y1.out); clear ht hb) | (go_simp; go_at_call 19; refine (eqDesk_any fs1 gs1 js1 _ _ _ hn1.1 hn1.2.1 hn1.2.2 Fx7.out Fc7.out.kv).mono ?_; rintro e u10 ⟨rfl, hb3⟩; have hb := below_step Y1.out hb3 (Nat.le_refl _); clear hb3))
      all_goals
        have Bel10 := Lib.hid (below_step Bel9.out hb (Nat.le_refl _))
        have hzz10 := hb.size
        have Bx0_10 := Lib.hid (BxK.below Bx0_9.out hb Bx0_9.out.lt)
        have Bx1_10 := Lib.hid (BxK.below Bx1_9.out hb Bx1_9.out.lt)
        have Fx0_10 := Lib.hid (Fx0_9.out.later hb)
        have Bz0_10 := Lib.hid (BxK.below Bz0_9.out hb Bz0_9.out.lt)
        have Fx1_10 := Lib.hid (Fx1_9.out.later hb)
        have Bz1_10 := Lib.hid (BxK.below Bz1_9.out hb Bz1_9.out.lt)
        clear hb Bel9 Bx0_9 Bx1_9 Fx0_9 Bz0_9 Fx1_9 Bz1_9
        clear Y1 Fx7 Fc7 kz7_a kz7_b kz7_c Hrun
        clear kBx0_a kBx0_b kBx0_c kBx1_a kBx1_b kBx1_c kBz0_a kBz0_b kBz0_c kBz1_a kBz1_b kBz1_c
        go_wp2
        go_ret
        exact ⟨ret_bool (by simp), Bel10.out⟩

set_option maxRecDepth 100000 in
theorem lifted (os : Os) (started : os.Started) (H : Type) (enc : TypeId × Value → H) :
    ReturnsInHanded {} Try.checked os 4 .any (Rows.fnExactSameDeskSpec.pre6 enc Try.prog Try.f4 Rows.fnExactSameDeskRow.domain false) (Rows.fnExactSameDeskSpec.post enc Try.prog Try.f4 false true false false) := by
  refine returnsInHanded_of_change (C := Try.checked) Lift.own started (by kernel_rfl) Try.func4
    (ChangeSpec.witness6 (enc := enc) (C := Try.checked) false ⟨#[], #[.agg #[.slice none 0 0, .slice none 0 0, .slice none 0 0], .agg #[.slice none 0 0, .slice none 0 0, .slice none 0 0]], []⟩ 8 (by kernel_rfl) (by kernel_rfl) (by kernel_rfl) (by kernel_rfl)) ?_
  intro W base args ds gs before hval0 hW hcnd _
  have hval : ∀ (j : Nat) t v, Try.f4.params[j]? = some t → args[j]? = some v → Value.okWide Try.prog W .any base t v := hval0
  have hW' := hW
  obtain ⟨p, q, hA0, hV, rfl, hfz, hnd⟩ := hW
  have hA : DataW.TrodAll enc Try.prog W 0 (fun _ => true) true Try.f4.params.toList args.toList ds p := hA0
  obtain ⟨rfl, rfl⟩ := trodVars_none hV
  have hA1 := hA
  rw [Try.params4] at hA1 hval
  obtain ⟨v0, vs0, d0, ds0, p0, q0, hargs, rfl, rfl, h0, r0⟩ := trodAll_cons hA1
  obtain ⟨v1, vs1, d1, ds1, p1, q1, rfl, rfl, rfl, h1, r1⟩ := trodAll_cons r0
  obtain ⟨rfl, rfl, rfl⟩ := trodAll_nil r1
  obtain rfl : args = #[v0, v1] := by cases args; simp_all
  simp only [List.append_nil] at hW' hA
  obtain ⟨fs0, gs0, js0, w0, l0⟩ := open_desk Try.underlying2 Try.underlying22 (by kernel_rfl) Try.underlying24 (by kernel_rfl) rfl rfl (by kernel_rfl) (hval 0 24 v0 rfl rfl) h0
  obtain ⟨fs1, gs1, js1, w1, l1⟩ := open_desk Try.underlying2 Try.underlying22 (by kernel_rfl) Try.underlying24 (by kernel_rfl) rfl rfl (by kernel_rfl) (hval 1 24 v1 rfl rfl) h1
  refine (walk fs0 gs0 js0 v0 fs1 gs1 js1 v1 W w0 l0 w1 l1).mono fun e W' ⟨he, hb⟩ => ?_
  subst he
  refine ⟨_, rfl, Lift.law_post Lift.laidOut hW' hA rfl rfl rfl rfl (by kernel_rfl) Try.underlying4 ?_ hb⟩
  rw [Try.params4]
  intro t ht
  simp only [List.mem_cons, List.not_mem_nil, or_false] at ht
  rcases ht with rfl | rfl <;> exact ⟨by kernel_rfl, of_decide_eq_true (by kernel_rfl)⟩

theorem proved : Rows.FnExactSameDeskSaid :=
  OpenClaim.holds_of_wide 4 Try.f4 rfl rfl rfl rfl rfl rfl rfl ⟨rfl, rfl, rfl, rfl, rfl⟩ rfl rfl rfl rfl rfl (by kernel_rfl) Try.func4 (by kernel_rfl)
    (of_decide_eq_true (by kernel_rfl)) (by unfold Func.isWrapper; first | (rw [if_pos (by decide +kernel)]; kernel_rfl) | (rw [if_neg (by decide +kernel)]; exact ⟨rfl, rfl⟩))
    (fun os started H enc _ => lifted os started H enc)
end Go.Proofs.Ytcoehcoohppbjaa.fnExactSameDesk
