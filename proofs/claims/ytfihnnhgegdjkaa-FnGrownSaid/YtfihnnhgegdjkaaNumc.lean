/- Contracts: square roots, and narrowing. -/
import Derived.Test.YtfihnnhgegdjkaaFn
import Derived.Test.YtfihnnhgegdjkaaNumb
import Derived.Lib.Hide
set_option linter.unusedVariables false
namespace Go.Proofs.Ytfihnnhgegdjkaa
open Go.RowKit Fl

/-- what the root may be -/
def SqrtR (x r : Nat) : Prop := Ieee.double.sqrt x = some r ∨ (Ieee.double.sqrt x = none ∧ isNan .f64 r = true ∧ (Lit.float .f64 r).wf = true)


theorem sqrt_sem (x : Nat) : Extern.MathSqrt.sqrt #[.float .f64 x] = (match FloatKind.f64.format.sqrt x with | some r => (pure (.float .f64 r) : Sem Value) | none => (do pure (.float .f64 (← choose (.nanBits .f64 x x))))) := rfl

theorem SqrtR.same {x r q : Nat} (h : SqrtR x r) (g : SqrtR x q) : SameF .f64 r q := by
  rcases h with h | ⟨h, h2, _⟩ <;> rcases g with g | ⟨g, g2, _⟩
  · rw [h] at g; cases g; rfl
  · rw [h] at g; cases g
  · rw [h] at g; cases g
  · show cn _ r = cn _ q; rw [cn_nan h2, cn_nan g2]

theorem narrow_any (x : Nat) (w : World) : Calls Try.prog 41 #[.float .f64 x] w fun e w' => ∃ r n, e = .returned (.float .f32 r) ∧ w' = w.drewN n ∧ FconvR .f64 x .f32 r := by
  go_enter Try.func41, Try.ntmps41
  go_wp2_with (refine wpList_fconv rfl _ _ _ rfl .f64 .f32 (by kernel_rfl) (by kernel_rfl) _ rfl ?_; intro r n hr)
  go_ret
  exact ⟨_, _, rfl, rfl, hr⟩

/-- the root of a 32-bit number: what both texts do -/
def RootR (x q : Nat) : Prop := ∃ u r, FconvR .f32 x .f64 u ∧ SqrtR u r ∧ FconvR .f64 r .f32 q
theorem RootR.same {x q q' : Nat} (hx : x < 4294967296) (h : RootR x q) (g : RootR x q') : SameF .f32 q q' := by
  obtain ⟨u, r, hu, hr, hq⟩ := h
  obtain ⟨u', r', hu', hr', hq'⟩ := g
  have hsu : SameF .f64 u u' := SameF.wide (a := x) (b := x) rfl hu hu'
  have hnan : ∀ {u r : Nat}, isNan .f64 u = true → SqrtR u r → isNan .f64 r = true := by
    intro u r hu hr
    rcases hr with hr | ⟨_, hr, _⟩
    · obtain ⟨s, t, e⟩ := isNaN_iff hu
      unfold Ieee.Format.sqrt at hr
      rw [show Ieee.double.read u = _ from e] at hr
      cases hr
    · exact hr
  rcases hsu.cases with ⟨n1, n2⟩ | ⟨n1, n2, rfl⟩
  · refine fconv_same ?_ (.inl (hnan n1 hr)) hq hq'
    show cn _ r = cn _ r'
    rw [cn_nan (hnan n1 hr), cn_nan (hnan n2 hr')]
  · refine fconv_same (hr.same hr') ?_ hq hq'
    rcases hr with hr | ⟨_, hr, _⟩
    · have hnx : isNan .f32 x = false := by rw [← wide_nan hu]; exact n1
      by_cases hinf : x % 2147483648 = 2139095040
      · obtain ⟨h1, _, h3⟩ := wide_parts hnx (wide_some hu hnx)
        rw [hinf, show floatToFloatBits .f32 2139095040 .f64 = some 9218868437227405312 from by decide +kernel] at h1
        have hm := Option.some.inj h1
        have hcase : u = 9218868437227405312 ∨ u = 18442240474082181120 := by omega
        rcases hcase with e | e <;> subst e
        · rw [show Ieee.double.sqrt 9218868437227405312 = some 9218868437227405312 from by decide +kernel] at hr
          cases hr
          exact .inr ⟨2139095040, by decide +kernel⟩
        · rw [show Ieee.double.sqrt 18442240474082181120 = none from by decide +kernel] at hr
          cases hr
      · rw [isNan32] at hnx
        have := of_decide_eq_false hnx
        have hb := wide_bd (R := 2139095039) hx hu (by omega) (by decide) (show floatToFloatBits .f32 2139095039 .f64 = some 5183643170566569984 by decide +kernel) (by decide)
        obtain ⟨v, hv, _⟩ := narrow_ok (sqrt_bd hb (by decide) hr) (by decide)
        exact .inr ⟨v, hv⟩
    · exact .inl hr
end Go.Proofs.Ytfihnnhgegdjkaa
