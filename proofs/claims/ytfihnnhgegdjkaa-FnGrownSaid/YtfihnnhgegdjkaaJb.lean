/- Contracts: gains and growth, in both texts. -/
import Derived.Test.YtfihnnhgegdjkaaJa
import Derived.Test.YtfihnnhgegdjkaaNumb
import Derived.Test.YtfihnnhgegdjkaaIa
import Derived.Deep.Cut
set_option linter.unusedVariables false
namespace Go.Proofs.Ytfihnnhgegdjkaa
open Go.RowKit Fl

theorem chance_impl (x : Nat) (w : World) : Calls Try.prog 28 #[.float .f32 x] w fun e w' => e = .returned (.bool (shareB x)) ∧ w = w' := by
  cases h1 : (FloatKind.f32.format.order x 0 == some .gt || FloatKind.f32.format.order x 0 == some .eq)
  · have H := Lib.hid (show shareB x = false by unfold shareB geB; rw [h1]; rfl)
    go_enter Try.func28, Try.ntmps28
    go_wp2
    go_ret
    exact ⟨ret_bool H.out.symm, rfl⟩
  · cases h2 : (FloatKind.f32.format.order x 1065353216 == some .lt || FloatKind.f32.format.order x 1065353216 == some .eq)
    · have H := Lib.hid (show shareB x = false by unfold shareB geB leB; rw [h1, h2]; rfl)
      go_enter Try.func28, Try.ntmps28
      go_wp2
      go_ret
      exact ⟨ret_bool H.out.symm, rfl⟩
    · have H := Lib.hid (show shareB x = true by unfold shareB geB leB; rw [h1, h2]; rfl)
      go_enter Try.func28, Try.ntmps28
      go_wp2
      go_ret
      exact ⟨ret_bool H.out.symm, rfl⟩
theorem number_impl (x : Nat) (hx : x < 4294967296) (w : World) : Calls Try.prog 18 #[.float .f32 x] w fun e w' => e = .returned (.tuple #[.float .f32 (finOut x).1, .bool (finOut x).2]) ∧ Drawn w w' := by
  have Hf := Lib.hid (fun z => isFinite_any x hx z)
  have hb : finB x = finB3 x := rfl
  rw [hb] at Hf
  clear hb
  unfold finOut
  cases hB : finB3 x
  all_goals
    rw [hB] at Hf
    have HB := Lib.hid hB
    clear hB
    go_enter Try.func18, Try.ntmps18
    go_wp2_with (go_at_call 29; refine (Hf.out _).mono ?_; rintro e w' ⟨rfl, n, rfl⟩)
    go_ret2
    exact ⟨by simp, n, rfl⟩
def aboveB (y : Nat) : Bool := finB3 y && gtB y 0

abbrev okG (x : Nat) (a b : Int) : Prop := shareB x = true ∧ (0 ≤ a ∧ a ≤ 1000000) ∧ 0 ≤ b ∧ b ≤ 1000000
/-- what a gain may be told as -/
def GainR (x : Nat) (a b : Int) (r : Nat) (t : Bool) : Prop := if okG x a b then GainC x (floatOfInt .f32 a) (floatOfInt .f32 b) r ∧ t = true else r = 0 ∧ t = false
theorem GainR.same {x : Nat} {a b : Int} {r q : Nat} {t u : Bool} (h : GainR x a b r t) (g : GainR x a b q u) : SameF .f32 r q ∧ t = u := by
  unfold GainR at h g
  by_cases hk : okG x a b
  · rw [if_pos hk] at h g
    exact ⟨h.1.same g.1, by rw [h.2, g.2]⟩
  · rw [if_neg hk] at h g
    rw [h.1, g.1, h.2, g.2]; exact ⟨rfl, rfl⟩

/-- what a share may be told as -/
def GrowR (x y r : Nat) (t : Bool) : Prop := (shareB x = true ∧ gtB y 0 = true → ∃ s, GrowC x y s ∧ (r, t) = growOut s) ∧ (¬ (shareB x = true ∧ gtB y 0 = true) → r = 0 ∧ t = false)
def GrowS (x y r : Nat) (t : Bool) : Prop := (shareB x = true ∧ aboveB y = true → ∃ s, GrowC x y s ∧ (r, t) = growOut s) ∧ (¬ (shareB x = true ∧ aboveB y = true) → r = 0 ∧ t = false)
theorem GrowR.same {x y r q : Nat} {t u : Bool} (hy : y < 4294967296) (h : GrowR x y r t) (g : GrowS x y q u) : r = q ∧ t = u := by
  by_cases h1 : shareB x = true ∧ gtB y 0 = true
  · obtain ⟨s, hs, e⟩ := h.1 h1
    by_cases h2 : finB3 y = true
    · obtain ⟨s', hs', e'⟩ := g.1 ⟨h1.1, by unfold aboveB; rw [h2, h1.2]; rfl⟩
      rw [out_same (f := growOut) (fun _ => growOut_nan) (hs.same hs'), ← e'] at e
      exact Prod.mk.inj e
    · have hi := above_inf hy h1.2 (Bool.eq_false_iff.2 h2)
      subst hi
      rw [growOut_nan hs.inf] at e
      obtain ⟨e1, e2⟩ := Prod.mk.inj e
      obtain ⟨g1, g2⟩ := g.2 (fun k => h2 (by have := k.2; unfold aboveB at this; rw [Bool.and_eq_true] at this; exact this.1))
      exact ⟨by rw [e1, g1], by rw [e2, g2]⟩
  · obtain ⟨e1, e2⟩ := h.2 h1
    obtain ⟨g1, g2⟩ := g.2 (fun k => h1 ⟨k.1, by have := k.2; unfold aboveB at this; rw [Bool.and_eq_true] at this; exact this.2⟩)
    exact ⟨by rw [e1, g1], by rw [e2, g2]⟩

theorem GrowR.samef {x y r q : Nat} {t u : Bool} (hy : y < 4294967296) (h : GrowR x y r t) (g : GrowS x y q u) : SameF .f32 r q ∧ t = u := by
  obtain ⟨rfl, e⟩ := h.same hy g
  exact ⟨rfl, e⟩


