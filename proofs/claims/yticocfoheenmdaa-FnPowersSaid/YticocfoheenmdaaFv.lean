/- The exponential of a number of at most 8, as the program's text computes it. Imports nothing of the translation. -/
import Derived.Test.YticocfoheenmdaaFs
set_option linter.unusedVariables false
namespace Go.Proofs.Yticocfoheenmdaa
namespace Fl
open Ieee
def kE (j : Nat) : Nat := floatOfInt .f64 (12 - (j : Int))
def Ef (t : Nat) : Nat → Nat
  | 0 => 4607182418800017408
  | j + 1 => fop .add .f64 4607182418800017408 (fop .quo .f64 (fop .mul .f64 t (Ef t j)) (kE j))
def Sf (p : Nat) : Nat → Nat
  | 0 => p
  | j + 1 => fop .mul .f64 (Sf p j) (Sf p j)
def tE (u : Nat) : Nat := fop .quo .f64 u 4643211215818981376
def expF (u : Nat) : Nat := Sf (Ef (tE u) 12) 8
theorem kE_ok : ∀ j, j < 12 → (kE j < 18446744073709551616 ∧ kE j % 9223372036854775808 ≤ pb 5 ∧ pb 5 < 9218868437227405312) ∧ 4607182418800017408 ≤ kE j % 9223372036854775808 := by decide +kernel
theorem e_steps {t : Nat} (ht : Bd .f64 t (pb (-5))) {j : Nat} (hj : j < 12) (hp : Bd .f64 (Ef t j) (pb 1)) :
    floatBits .mul .f64 t (Ef t j) = some (fop .mul .f64 t (Ef t j)) ∧ floatBits .quo .f64 (fop .mul .f64 t (Ef t j)) (kE j) = some (fop .quo .f64 (fop .mul .f64 t (Ef t j)) (kE j)) ∧
    floatBits .add .f64 4607182418800017408 (fop .quo .f64 (fop .mul .f64 t (Ef t j)) (kE j)) = some (Ef t (j + 1)) ∧ Bd .f64 (Ef t (j + 1)) (pb 1) := by
  obtain ⟨d1, d2⟩ := kE_ok j hj
  have a1 := mulf ht hp (show mulB .f64 (pb (-5)) (pb 1) ≤ pb (-4) by decide +kernel) (pb_lt (by decide))
  have a2 := divf a1.2 (bd_lit d1) d2 (show dblB .f64 (pb (-4)) ≤ pb (-3) by decide +kernel) (pb_lt (by decide))
  have a3 := addf one_bd a2.2 (show addB .f64 (pb 0) (pb (-3)) ≤ pb 1 by decide +kernel) (pb_lt (by decide))
  exact ⟨a1.1, a2.1, a3.1, a3.2⟩
theorem e_bd {t : Nat} (ht : Bd .f64 t (pb (-5))) : ∀ j : Nat, j ≤ 12 → Bd .f64 (Ef t j) (pb 1)
  | 0, _ => one_bd.mono (by decide +kernel) (pb_lt (by decide))
  | j + 1, h => (e_steps ht (by omega) (e_bd ht j (by omega))).2.2.2
theorem sq_ok : ∀ j : Nat, j < 8 → mulB .f64 (pb ((2 ^ j : Nat) : Int)) (pb ((2 ^ j : Nat) : Int)) ≤ pb ((2 ^ (j + 1) : Nat) : Int) ∧ ((2 ^ (j + 1) : Nat) : Int) < 1024 := by decide +kernel
theorem s_steps {p : Nat} {j : Nat} (hj : j < 8) (hp : Bd .f64 (Sf p j) (pb ((2 ^ j : Nat) : Int))) : floatBits .mul .f64 (Sf p j) (Sf p j) = some (Sf p (j + 1)) ∧ Bd .f64 (Sf p (j + 1)) (pb ((2 ^ (j + 1) : Nat) : Int)) := by
  obtain ⟨k1, k2⟩ := sq_ok j hj
  exact mulf hp hp k1 (pb_lt k2)
theorem s_bd {p : Nat} (hp : Bd .f64 p (pb 1)) : ∀ j : Nat, j ≤ 8 → Bd .f64 (Sf p j) (pb ((2 ^ j : Nat) : Int))
  | 0, _ => hp
  | j + 1, h => (s_steps (by omega) (s_bd hp j (by omega))).2

/-- at most 8 -/
def small8 (x : Nat) : Prop := x < 4294967296 ∧ x % 2147483648 ≤ 1090519040
theorem small_tests {x : Nat} (h : small8 x) : (FloatKind.f32.format.order x 1128792064 == some .gt) = false ∧ (FloatKind.f32.format.order x 3276275712 == some .lt) = false := by
  obtain ⟨h1, h2⟩ := h
  have hn : isNan .f32 x = false := by rw [isNan32]; exact decide_eq_false (by omega)
  have hw : (Lit.float .f32 x).wf = true := wf_of32 h1
  rw [order_key .f32 hw (by decide) hn (by decide +kernel), order_key .f32 hw (by decide) hn (by decide +kernel), show key .f32 1128792064 = 1128792064 from by decide +kernel, show key .f32 3276275712 = -1128792064 from by decide +kernel,
    some_beq, some_beq, compare_gt, compare_lt]
  unfold key sg
  rw [show FloatKind.f32.format.signWeight = 2147483648 from by decide +kernel]
  by_cases c : 2147483648 ≤ x
  · rw [decide_eq_true c, if_pos rfl]; exact ⟨decide_eq_false (by omega), decide_eq_false (by omega)⟩
  · rw [decide_eq_false c, if_neg (by decide)]; exact ⟨decide_eq_false (by omega), decide_eq_false (by omega)⟩
theorem exp_start {x u : Nat} (h : small8 x) (hu : floatToFloatBits .f32 x .f64 = some u) : floatBits .quo .f64 u 4643211215818981376 = some (tE u) ∧ Bd .f64 (tE u) (pb 4) := by
  have hb := wide_bd (R := 1090519040) h.1 (.inl hu) h.2 (by decide) (show floatToFloatBits .f32 1090519040 .f64 = some (pb 3) by decide +kernel) (by decide +kernel)
  exact divf hb (show Bd .f64 4643211215818981376 (pb 8) from bd_lit (by decide +kernel)) (by decide) (by decide +kernel) (pb_lt (by decide))
end Fl
end Go.Proofs.Yticocfoheenmdaa
