/- The law of growth: its walk. -/
import Derived.Test.YtfihnnhgegdjkaaJd
import Derived.Test.YtfihnnhgegdjkaaGwB
import Derived.Test.YtfihnnhgegdjkaaHpD
set_option linter.unusedVariables false
namespace Go.Proofs.Ytfihnnhgegdjkaa
open Go.RowKit Fl

theorem logR_of {b l : Nat} (h : logB b l = true) : LogR b l := by
  unfold logB at h
  by_cases e1 : b = 1065353216
  · rw [if_pos e1] at h
    have hl := eq_of_beq h
    subst hl
    subst e1
    refine ⟨fun hh => ?_, fun hh => absurd hh (by decide), fun hh => absurd hh (by decide), fun _ _ => ⟨_, log_one.1, log_one.2⟩⟩
    rcases hh with hh | hh
    · exact absurd hh (by decide +kernel)
    · exact absurd hh (by decide)
  · rw [if_neg e1] at h
    simp only [Bool.and_eq_true, decide_eq_true_eq] at h
    obtain ⟨⟨h1, h2⟩, h3⟩ := h
    refine ⟨fun hh => ?_, fun hh => by omega, fun hh => by omega, fun _ _ => ?_⟩
    · rcases hh with hh | hh
      · rw [isNan32] at hh
        have := of_decide_eq_true hh
        omega
      · omega
    · cases e : floatToFloatBits .f32 b .f64 with
      | none => rw [e] at h3; cases h3
      | some u => rw [e] at h3; exact ⟨u, rfl, eq_of_beq h3⟩
theorem at_of {x y z l k s : Nat} (h : atB x y z l k s = true) (h1 : logB (fop .add .f32 g1 (fop .mul .f32 z y)) l = true) (h2 : logB (fop .sub .f32 g1 z) k = true) : AtC x y z s ∧ finB3 s = true := by
  unfold atB at h
  simp only [Bool.and_eq_true, beq_iff_eq] at h
  obtain ⟨⟨⟨⟨⟨⟨⟨e1, e2⟩, e3⟩, e4⟩, e5⟩, e6⟩, e7⟩, e8⟩ := h
  exact ⟨⟨_, _, l, _, _, _, k, _, .inl e1, .inl e2, logR_of h1, .inl e3, .inl e4, .inl e5, logR_of h2, .inl e6, .inl e7⟩, e8⟩
theorem growC (x y z s : Nat) (hx : x < 4294967296) (hy : y < 4294967296) (hz : z < 4294967296) (hk : okB x y z) (hs : AtC x y z s ∧ finB3 s = true) (w : World) :
    Calls Try.prog 8 #[.float .f32 x, .float .f32 y, .float .f32 z] w fun e w' => e = .returned (.tuple #[.float .f32 s, .bool true]) ∧ Drawn w w' := by
  refine (growof_impl x y z hx hy hz w).mono ?_
  rintro e w' ⟨r, t, rfl, hr, hd⟩
  obtain ⟨s', h1, h2⟩ := hr.1 hk
  rw [out_same (f := finOut) (fun s h => finOut_nan (fin_notNan h)) (h1.same hs.1)] at h2
  unfold finOut at h2
  rw [if_pos hs.2] at h2
  cases h2
  exact ⟨rfl, hd⟩
theorem xs_tab : ∀ k : Nat, k < 17 → shareB (gX.getD k 0) = true ∧ gX.getD k 0 < 4294967296 := by decide +kernel
theorem ys_tab : ∀ i : Nat, i < 16 → aboveB (gY.getD i 0) = true ∧ gY.getD i 0 < 4294967296 := by decide +kernel
theorem zs_tab : ∀ j : Nat, j < 16 → partB (gX.getD j 0) = true := by decide +kernel
theorem bs_tab : ∀ k : Nat, k < 17 → ∀ i : Nat, i < 16 → (partB (gB k i) || !lt32 (gB k i) g1) = true := by decide +kernel
theorem s0_tab : ∀ k : Nat, k < 17 → ∀ i : Nat, i < 16 → fop .add .f32 (fop .mul .f32 (gX.getD k 0) (gL i 0)) (fop .mul .f32 (fop .sub .f32 g1 (gX.getD k 0)) (gK.getD 0 0)) = 0 := by decide +kernel
theorem x0_is : gX.getD 0 0 = 0 ∧ eq32 (gX.getD 16 0) g1 = true := by decide +kernel
theorem best_parts {x y r : Nat} (h : bestB x y r = true) : (∃ s, BestC x y s ∧ growOut s = (r, true)) ∧ floatBits .mul .f32 x y = some (fop .mul .f32 x y) ∧ floatBits .sub .f32 g1 x = some (fop .sub .f32 g1 x) ∧ lt32 r 0 = false ∧ gt32 r g1 = false ∧
    ((lt32 (fop .mul .f32 x y) (fop .sub .f32 g1 x) || eq32 (fop .mul .f32 x y) (fop .sub .f32 g1 x)) = false ∨ eq32 r 0 = true) ∧ r < 4294967296 := by
  unfold bestB at h
  simp only [Bool.and_eq_true, beq_iff_eq, Bool.not_eq_true', Bool.or_eq_true, decide_eq_true_eq] at h
  obtain ⟨⟨⟨⟨⟨⟨⟨e1, e2⟩, e3⟩, e4⟩, e5⟩, e6⟩, e7⟩, e8⟩ := h
  refine ⟨?_, e1, e2, e5, e6, e7, e8⟩
  cases e : floatBits .quo .f32 (fop .sub .f32 (fop .mul .f32 x y) (fop .sub .f32 g1 x)) y with
  | none => rw [e] at e4; cases e4
  | some s =>
    rw [e] at e4
    dsimp only at e4
    refine ⟨s, ⟨_, _, _, .inl e1, .inl e2, .inl e3, .inl e⟩, ?_⟩
    unfold growOut
    have hl : ltB s 0 = lt32 s 0 := rfl
    rw [hl]
    cases e9 : lt32 s 0 with
    | true =>
      rw [e9] at e4
      simp only [if_true, beq_iff_eq] at e4
      rw [if_pos rfl, e4]
    | false =>
      rw [e9] at e4
      simp only [Bool.false_eq_true, if_false, Bool.and_eq_true, beq_iff_eq, decide_eq_true_eq] at e4
      rw [if_neg (by decide), if_pos (show finB3 s = true from decide_eq_true e4.2), e4.1]
theorem bestC (k i : Nat) (hk : k < 17) (hi : i < 16) (w : World) : Calls Try.prog 7 #[.float .f32 (gX.getD k 0), .float .f32 (gY.getD i 0)] w fun e w' => e = .returned (.tuple #[.float .f32 (gB k i), .bool true]) ∧ Drawn w w' := by
  obtain ⟨⟨s, h1, h2⟩, -⟩ := best_parts (gb_tab k hk i hi)
  refine (best_impl _ _ (xs_tab k hk).2 (ys_tab i hi).2 w).mono ?_
  rintro e w' ⟨r, t, rfl, hr, hd⟩
  obtain ⟨s', h3, h4⟩ := hr.1 ⟨(xs_tab k hk).1, (ys_tab i hi).1⟩
  rw [out_same (f := growOut) (fun _ => growOut_nan) (h3.same h1), h2] at h4
  cases h4
  exact ⟨rfl, hd⟩
end Go.Proofs.Ytfihnnhgegdjkaa
