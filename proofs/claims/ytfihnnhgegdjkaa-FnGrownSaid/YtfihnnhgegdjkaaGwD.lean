/- The law of growth: its walk, whole. -/
import Derived.Test.YtfihnnhgegdjkaaGwC
set_option linter.unusedVariables false
namespace Go.Proofs.Ytfihnnhgegdjkaa
open Go.RowKit Fl


set_option maxRecDepth 1000000 in
set_option maxHeartbeats 8000000 in
theorem walk_FnGrown (fs gs : List Int) (v v2 : Value) (w : World) (hl : fs.length ≤ maxLen) (hl2 : gs.length ≤ maxLen) (hbs : BsB gs) (h : Sl (Value.int .u8) 0 w v fs) (h2 : Sl (Value.int .u8) 0 w v2 gs) :
    Calls Try.prog 3 #[v, v2] w fun e w' => e = .returned (.bool true) ∧ Below w.heap.size w w' := by
  have HL := Lib.hid (long8_any fs gs v v2 w hl hl2 h h2)
  by_cases hlong : (decide (48 < fs.length) || decide (48 < gs.length)) = true
  · rw [hlong] at HL
    clear hlong h h2
    go_enter Try.func3, Try.ntmps3
    go_wp2_with (first | (go_at_call 5; refine HL.out.mono ?_; rintro e w' ⟨rfl, rfl⟩))
    go_ret
    exact ⟨rfl, Below.refl _ _⟩
  · rw [Bool.not_eq_true] at hlong
    rw [hlong] at HL
    clear hlong
    have HA := Lib.hid (fun (z : World) (hz : Below w.heap.size w z) (k n : Nat) (hn : 1 ≤ n) (hn2 : n ≤ 1000000) (hk : k ≤ 1000) => at8_any gs v2 k n z hn hn2 hk hl2 hbs (h2.later hz))
    have H40 := Lib.hid (fun z hz => HA.out z hz 40 17 (by omega) (by omega) (by omega))
    have H41 := Lib.hid (fun z hz => HA.out z hz 41 16 (by omega) (by omega) (by omega))
    have H42 := Lib.hid (fun z hz => HA.out z hz 42 16 (by omega) (by omega) (by omega))
    have hk := r8V_lt gs 40 17 (by omega)
    have hi := r8V_lt gs 41 16 (by omega)
    have hj := r8V_lt gs 42 16 (by omega)
    generalize r8V gs 40 17 = k at *
    generalize r8V gs 41 16 = i at *
    generalize r8V gs 42 16 = j at *
    have q1 := run_ok (P := Try.prog) (gx_tab k hk)
    have q2 := run_ok (P := Try.prog) (show floatBits .quo .f32 (floatOfInt .f32 (1 + (i : Int))) 1082130432 = some (gY.getD i 0) by have := gy_tab i hi; rw [show ((i + 1 : Nat) : Int) = 1 + (i : Int) by omega] at this; exact this)
    have q3 := run_ok (P := Try.prog) (gx_tab j (by omega))
    obtain ⟨-, p1, p2, p3, p4, p5, p6⟩ := best_parts (gb_tab k hk i hi)
    have q4 := run_ok (P := Try.prog) p1
    have q5 := run_ok (P := Try.prog) (show floatBits .sub .f32 1065353216 (gX.getD k 0) = some (fop .sub .f32 g1 (gX.getD k 0)) from p2)
    have HB := Lib.hid (fun z => bestC k i hk hi z)
    obtain ⟨x1, x2⟩ := xs_tab k hk
    obtain ⟨y1, y2⟩ := ys_tab i hi
    have hsome := gs_tab k i j hk hi hj
    unfold someB at hsome
    obtain ⟨u1, u2⟩ := Bool.and_eq_true_iff.1 hsome
    have HJ := Lib.hid (fun z => growC (gX.getD k 0) (gY.getD i 0) (gX.getD j 0) _ x2 y2 (xs_tab j (by omega)).2 ⟨x1, y1, zs_tab j hj⟩ (at_of u1 (gl_tab i hi j hj) (gk_tab j hj)) z)
    have hzero := gs_tab k i 0 hk hi (by omega)
    unfold someB at hzero
    have H0 := Lib.hid (fun z => growC (gX.getD k 0) (gY.getD i 0) (gX.getD 0 0) _ x2 y2 (xs_tab 0 (by omega)).2 ⟨x1, y1, zs_tab 0 (by omega)⟩ (at_of (Bool.and_eq_true_iff.1 hzero).1 (gl_tab i hi 0 (by omega)) (gk_tab 0 (by omega))) z)
    rw [s0_tab k hk i hi, x0_is.1] at H0
    have hmost := gm_tab k i hk hi
    unfold mostB at hmost
    have hpart := bs_tab k hk i hi
    have hfull := gf_tab k hk i hi
    have HM : Hid (lt32 (gB k i) g1 = true → (∀ z, Calls Try.prog 8 #[.float .f32 (gX.getD k 0), .float .f32 (gY.getD i 0), .float .f32 (gB k i)] z fun e w' => e = .returned (.tuple #[.float .f32 (gM k i), .bool true]) ∧ Drawn z w') ∧ floatToFloatBits .f32 (gM k i) .f64 = some (wideG (gM k i))) := Lib.hid fun hlt => by
      rw [hlt] at hmost hpart
      simp only [Bool.not_true, Bool.false_or, Bool.or_false, Bool.and_eq_true, beq_iff_eq] at hmost hpart
      obtain ⟨⟨⟨a1, a2⟩, a3⟩, a4⟩ := hmost
      exact ⟨fun z => growC _ _ _ _ x2 y2 p6 ⟨x1, y1, hpart⟩ (at_of a3 a1 a2) z, a4⟩
    clear hmost hpart hsome hzero u1
    have t1 : (FloatKind.f32.format.order (gB k i) 0 == some .lt) = false := p3
    have t2 : (FloatKind.f32.format.order (gB k i) 1065353216 == some .gt) = false := p4
    have t3 : (FloatKind.f32.format.order 0 0 == some .eq) = true := by decide +kernel
    have HP5 := Lib.hid p5
    have HU2 := Lib.hid u2
    have HF := Lib.hid hfull
    have hX16 : Hid (eq32 (gX.getD 16 0) g1 = true) := Lib.hid x0_is.2
    clear p1 p2 p3 p4 p5 p6 x1 x2 y1 y2 u2 hfull hbs h h2 hl hl2 HA
    generalize hS : fop .add .f32 (fop .mul .f32 (gX.getD k 0) (gL i j)) (fop .mul .f32 (fop .sub .f32 g1 (gX.getD k 0)) (gK.getD j 0)) = S at *
    clear hS
    generalize gM k i = M at *
    generalize gB k i = B at *
    generalize gX.getD j 0 = z at *
    generalize fop .mul .f32 (gX.getD k 0) (gY.getD i 0) = XY at *
    generalize fop .sub .f32 g1 (gX.getD k 0) = X1 at *
    generalize gY.getD i 0 = y at *
    generalize hxk : gX.getD k 0 = x at *
    have HXK := Lib.hid hxk
    clear hxk
    cases hA : lt32 XY X1 with
    | true =>
      have t4 : (FloatKind.f32.format.order XY X1 == some .lt) = true := hA
      have t6 : (FloatKind.f32.format.order B 0 == some .eq) = true := by
        rcases HP5.out with hh | hh
        · rw [hA] at hh; cases hh
        · exact hh
      have t7 : (FloatKind.f32.format.order B 0 != some .eq) = false := by rw [bne, t6]; rfl
      clear hA
      go_enter Try.func3, Try.ntmps3
      go_wp2_with fail
      refine HL.out.mono ?_
      rintro e w' ⟨rfl, rfl⟩
      go_wp2_with fail
      refine (H40.out _ (Below.refl _ _)).mono ?_
      rintro e w' ⟨rfl, rfl⟩
      go_wp2_with fail
      refine (H41.out _ (Below.refl _ _)).mono ?_
      rintro e w' ⟨rfl, rfl⟩
      go_wp2_with fail
      refine (HB.out _).mono ?_
      rintro e w1 ⟨rfl, hd1⟩
      have D1 := Lib.hid hd1
      clear hd1
      go_wp2_with fail
      refine (H0.out _).mono ?_
      rintro e w2 ⟨rfl, hd2⟩
      have D2 := Lib.hid (D1.out.trans hd2)
      clear hd2 D1
      go_wp2_with fail
      refine (H42.out _ (D2.out.below _)).mono ?_
      rintro e w' ⟨rfl, rfl⟩
      go_wp2_with fail
      refine (HJ.out _).mono ?_
      rintro e w3 ⟨rfl, hd3⟩
      have D3 := Lib.hid (D2.out.trans hd3)
      clear hd3 D2
      cases hb : lt32 B g1 with
      | true =>
        obtain ⟨HM1, c1⟩ := HM.out hb
        have HM2 := Lib.hid (fun z => HM1 z)
        have s1 : (FloatKind.f32.format.order B 1065353216 == some .lt) = true := hb
        have hu := HU2.out
        rw [hb] at hu
        simp only [Bool.not_true, Bool.false_or] at hu
        cases e1 : floatToFloatBits .f32 S .f64 with
        | none => rw [e1] at hu; cases hu
        | some vS =>
          rw [e1] at hu
          dsimp only at hu
          cases e2 : floatBits .sub .f64 vS 4547007122018943789 with
          | none => rw [e2] at hu; cases hu
          | some tS =>
            rw [e2] at hu
            dsimp only at hu
            have s2 : (FloatKind.f64.format.order (wideG M) tS == some .gt) = true := hu
            have r1 := run_conv _ _ c1
            have r2 := run_conv _ _ e1
            have r3 := run_ok (P := Try.prog) e2
            clear hb c1 HM1 hu e1 e2
            generalize wideG M = wM at *
            go_wp2_with fail
            refine (HM2.out _).mono ?_
            rintro e w4 ⟨rfl, hd4⟩
            have D4 := Lib.hid (D3.out.trans hd4)
            clear hd4 D3
            go_wp2
            go_ret
            exact ⟨rfl, D4.out.below _⟩
      | false =>
        have s1 : (FloatKind.f32.format.order B 1065353216 == some .lt) = false := hb
        have h16 := HF.out hb
        subst h16
        have s2 : (FloatKind.f32.format.order x 1065353216 == some .eq) = true := by have := hX16.out; rw [HXK.out] at this; exact this
        clear hb
        go_wp2
        go_ret
        exact ⟨rfl, D3.out.below _⟩
    | false =>
      have t4 : (FloatKind.f32.format.order XY X1 == some .lt) = false := hA
      cases hE : eq32 XY X1 with
      | true =>
        have t5 : (FloatKind.f32.format.order XY X1 == some .eq) = true := hE
        have t6 : (FloatKind.f32.format.order B 0 == some .eq) = true := by
          rcases HP5.out with hh | hh
          · rw [hA, hE] at hh; cases hh
          · exact hh
        have t7 : (FloatKind.f32.format.order B 0 != some .eq) = false := by rw [bne, t6]; rfl
        clear hA hE
        go_enter Try.func3, Try.ntmps3
        go_wp2_with fail
        refine HL.out.mono ?_
        rintro e w' ⟨rfl, rfl⟩
        go_wp2_with fail
        refine (H40.out _ (Below.refl _ _)).mono ?_
        rintro e w' ⟨rfl, rfl⟩
        go_wp2_with fail
        refine (H41.out _ (Below.refl _ _)).mono ?_
        rintro e w' ⟨rfl, rfl⟩
        go_wp2_with fail
        refine (HB.out _).mono ?_
        rintro e w1 ⟨rfl, hd1⟩
        have D1 := Lib.hid hd1
        clear hd1
        go_wp2_with fail
        refine (H0.out _).mono ?_
        rintro e w2 ⟨rfl, hd2⟩
        have D2 := Lib.hid (D1.out.trans hd2)
        clear hd2 D1
        go_wp2_with fail
        refine (H42.out _ (D2.out.below _)).mono ?_
        rintro e w' ⟨rfl, rfl⟩
        go_wp2_with fail
        refine (HJ.out _).mono ?_
        rintro e w3 ⟨rfl, hd3⟩
        have D3 := Lib.hid (D2.out.trans hd3)
        clear hd3 D2
        cases hb : lt32 B g1 with
        | true =>
          obtain ⟨HM1, c1⟩ := HM.out hb
          have HM2 := Lib.hid (fun z => HM1 z)
          have s1 : (FloatKind.f32.format.order B 1065353216 == some .lt) = true := hb
          have hu := HU2.out
          rw [hb] at hu
          simp only [Bool.not_true, Bool.false_or] at hu
          cases e1 : floatToFloatBits .f32 S .f64 with
          | none => rw [e1] at hu; cases hu
          | some vS =>
            rw [e1] at hu
            dsimp only at hu
            cases e2 : floatBits .sub .f64 vS 4547007122018943789 with
            | none => rw [e2] at hu; cases hu
            | some tS =>
              rw [e2] at hu
              dsimp only at hu
              have s2 : (FloatKind.f64.format.order (wideG M) tS == some .gt) = true := hu
              have r1 := run_conv _ _ c1
              have r2 := run_conv _ _ e1
              have r3 := run_ok (P := Try.prog) e2
              clear hb c1 HM1 hu e1 e2
              generalize wideG M = wM at *
              go_wp2_with fail
              refine (HM2.out _).mono ?_
              rintro e w4 ⟨rfl, hd4⟩
              have D4 := Lib.hid (D3.out.trans hd4)
              clear hd4 D3
              go_wp2
              go_ret
              exact ⟨rfl, D4.out.below _⟩
        | false =>
          have s1 : (FloatKind.f32.format.order B 1065353216 == some .lt) = false := hb
          have h16 := HF.out hb
          subst h16
          have s2 : (FloatKind.f32.format.order x 1065353216 == some .eq) = true := by have := hX16.out; rw [HXK.out] at this; exact this
          clear hb
          go_wp2
          go_ret
          exact ⟨rfl, D3.out.below _⟩
      | false =>
        have t5 : (FloatKind.f32.format.order XY X1 == some .eq) = false := hE
        clear hA hE
        go_enter Try.func3, Try.ntmps3
        go_wp2_with fail
        refine HL.out.mono ?_
        rintro e w' ⟨rfl, rfl⟩
        go_wp2_with fail
        refine (H40.out _ (Below.refl _ _)).mono ?_
        rintro e w' ⟨rfl, rfl⟩
        go_wp2_with fail
        refine (H41.out _ (Below.refl _ _)).mono ?_
        rintro e w' ⟨rfl, rfl⟩
        go_wp2_with fail
        refine (HB.out _).mono ?_
        rintro e w1 ⟨rfl, hd1⟩
        have D1 := Lib.hid hd1
        clear hd1
        go_wp2_with fail
        refine (H0.out _).mono ?_
        rintro e w2 ⟨rfl, hd2⟩
        have D2 := Lib.hid (D1.out.trans hd2)
        clear hd2 D1
        go_wp2_with fail
        refine (H42.out _ (D2.out.below _)).mono ?_
        rintro e w' ⟨rfl, rfl⟩
        go_wp2_with fail
        refine (HJ.out _).mono ?_
        rintro e w3 ⟨rfl, hd3⟩
        have D3 := Lib.hid (D2.out.trans hd3)
        clear hd3 D2
        cases hb : lt32 B g1 with
        | true =>
          obtain ⟨HM1, c1⟩ := HM.out hb
          have HM2 := Lib.hid (fun z => HM1 z)
          have s1 : (FloatKind.f32.format.order B 1065353216 == some .lt) = true := hb
          have hu := HU2.out
          rw [hb] at hu
          simp only [Bool.not_true, Bool.false_or] at hu
          cases e1 : floatToFloatBits .f32 S .f64 with
          | none => rw [e1] at hu; cases hu
          | some vS =>
            rw [e1] at hu
            dsimp only at hu
            cases e2 : floatBits .sub .f64 vS 4547007122018943789 with
            | none => rw [e2] at hu; cases hu
            | some tS =>
              rw [e2] at hu
              dsimp only at hu
              have s2 : (FloatKind.f64.format.order (wideG M) tS == some .gt) = true := hu
              have r1 := run_conv _ _ c1
              have r2 := run_conv _ _ e1
              have r3 := run_ok (P := Try.prog) e2
              clear hb c1 HM1 hu e1 e2
              generalize wideG M = wM at *
              go_wp2_with fail
              refine (HM2.out _).mono ?_
              rintro e w4 ⟨rfl, hd4⟩
              have D4 := Lib.hid (D3.out.trans hd4)
              clear hd4 D3
              go_wp2
              go_ret
              exact ⟨rfl, D4.out.below _⟩
        | false =>
          have s1 : (FloatKind.f32.format.order B 1065353216 == some .lt) = false := hb
          have h16 := HF.out hb
          subst h16
          have s2 : (FloatKind.f32.format.order x 1065353216 == some .eq) = true := by have := hX16.out; rw [HXK.out] at this; exact this
          clear hb
          go_wp2
          go_ret
          exact ⟨rfl, D3.out.below _⟩
end Go.Proofs.Ytfihnnhgegdjkaa
