/- The angle of a point, as both texts compute it. Imports nothing of the translation. -/
import Derived.Test.YthdbjdpkckmbeabFs
set_option linter.unusedVariables false
namespace Go.Proofs.Ythdbjdpkckmbeab
namespace Fl
open Ieee

theorem add_ge_left {x y : Nat} (hx : x < 9218868437227405312) (hy : y < 9218868437227405312) : x ≤ fop .add .f64 x y ∧ fop .add .f64 x y ≤ 9218868437227405312 := by
  rw [fop_of_rel (add_pos hx hy)]
  have h := rg_val double (r := x) (by rw [show double.infRung = 9218868437227405312 from by decide +kernel]; exact hx)
  rw [show double.leastPlace = -1074 from by decide +kernel] at h
  refine ⟨?_, ?_⟩
  · have := rg_mono_at double (m := val double x) (n := val double x + val double y) (-1074) (by omega)
    omega
  · have := nearest_false_le double (val double x + val double y) (-1074)
    rw [show double.infRung = 9218868437227405312 from by decide +kernel] at this
    exact this
/-- a square has no sign -/
theorem mul_self_pos {x A : Nat} (h : Bd .f64 x A) : fop .mul .f64 x x ≤ 9218868437227405312 := by
  obtain ⟨s, m, u, hm, _⟩ := h.read
  have : floatBits .mul .f64 x x = some (rg double (m * m) (FloatKind.f64.format.leastPlace + (u : Int) + (FloatKind.f64.format.leastPlace + (u : Int)))) := by
    show double.mul x x = _
    unfold Format.mul
    rw [show double.read x = _ from hm]
    unfold Datum.product
    dsimp only
    rw [Option.map_some, write_rg64, Bool.xor_self, word_false]
  rw [fop_of_rel this]
  have := nearest_false_le double (m * m) (FloatKind.f64.format.leastPlace + (u : Int) + (FloatKind.f64.format.leastPlace + (u : Int)))
  rw [show double.infRung = 9218868437227405312 from by decide +kernel] at this
  exact this
/-- the root of a number that is at least 1 -/
theorem sqrt_pos {v A : Nat} (h : Bd .f64 v A) (h1 : 4607182418800017408 ≤ v) (h2 : v < 9218868437227405312) : ∃ r, double.sqrt v = some r ∧ r ≤ 9218868437227405312 := by
  have hm := read_pos (r := v) (by omega) h2
  unfold Format.sqrt
  rw [hm]
  unfold Datum.root
  dsimp only
  rw [if_neg (by omega), if_neg (by decide), Option.map_some, write_rg64, word_false]
  refine ⟨_, rfl, ?_⟩
  have := fun m e => nearest_false_le double m e
  rw [show double.infRung = 9218868437227405312 from by decide +kernel] at this
  exact this _ _

def sqrtF (v : Nat) : Nat := (double.sqrt v).getD 0
def stepF (t : Nat) : Nat := fop .quo .f64 t (fop .add .f64 4607182418800017408 (sqrtF (fop .add .f64 4607182418800017408 (fop .mul .f64 t t))))
theorem step_steps {t : Nat} {j : Nat} (hj : j < 5) (h : Bd .f64 t (pb j)) :
    floatBits .mul .f64 t t = some (fop .mul .f64 t t) ∧ floatBits .add .f64 4607182418800017408 (fop .mul .f64 t t) = some (fop .add .f64 4607182418800017408 (fop .mul .f64 t t)) ∧
    double.sqrt (fop .add .f64 4607182418800017408 (fop .mul .f64 t t)) = some (sqrtF (fop .add .f64 4607182418800017408 (fop .mul .f64 t t))) ∧
    floatBits .add .f64 4607182418800017408 (sqrtF (fop .add .f64 4607182418800017408 (fop .mul .f64 t t))) = some (fop .add .f64 4607182418800017408 (sqrtF (fop .add .f64 4607182418800017408 (fop .mul .f64 t t)))) ∧
    floatBits .quo .f64 t (fop .add .f64 4607182418800017408 (sqrtF (fop .add .f64 4607182418800017408 (fop .mul .f64 t t)))) = some (stepF t) ∧ Bd .f64 (stepF t) (pb (j + 1)) := by
  have k : ∀ j : Nat, j < 5 → mulB .f64 (pb j) (pb j) ≤ pb 8 ∧ dblB .f64 (pb j) ≤ pb (j + 1) := by decide +kernel
  obtain ⟨k1, k2⟩ := k j hj
  have a1 := mulf h h k1 (pb_lt (by decide))
  have a1p := mul_self_pos h
  have a1f : fop .mul .f64 t t < 9218868437227405312 := by
    have := a1.2.2.1
    rw [signWeight64, Nat.mod_eq_of_lt (by omega)] at this
    have hp : pb 8 < 9218868437227405312 := by decide +kernel
    omega
  have a2 := addf one_bd a1.2 (show addB .f64 (pb 0) (pb 8) ≤ pb 9 by decide +kernel) (pb_lt (by decide))
  have a2g := add_ge_left (x := 4607182418800017408) (y := fop .mul .f64 t t) (by decide) a1f
  have a2f : fop .add .f64 4607182418800017408 (fop .mul .f64 t t) < 9218868437227405312 := by
    have := a2.2.2.1
    rw [signWeight64, Nat.mod_eq_of_lt (by omega)] at this
    have hp : pb 9 < 9218868437227405312 := by decide +kernel
    omega
  obtain ⟨r, hr, hrp⟩ := sqrt_pos a2.2 a2g.1 a2f
  have hsF : sqrtF (fop .add .f64 4607182418800017408 (fop .mul .f64 t t)) = r := by unfold sqrtF; rw [hr]; rfl
  have hrb := sqrt_bd a2.2 (by decide +kernel) hr
  rw [hsF]
  have hrf : r < 9218868437227405312 := by
    have := hrb.2.1
    rw [signWeight64, Nat.mod_eq_of_lt (by omega)] at this
    omega
  have a3 := addf one_bd hrb (show addB .f64 (pb 0) 4899916394579099648 ≤ pb 66 by decide +kernel) (pb_lt (by decide))
  have a3g := add_ge_left (x := 4607182418800017408) (y := r) (by decide) hrf
  have a4 := divf h a3.2 (by rw [Nat.mod_eq_of_lt (by omega)]; exact a3g.1) k2 (pb_lt (by omega))
  have e : stepF t = fop .quo .f64 t (fop .add .f64 4607182418800017408 r) := by unfold stepF; rw [hsF]
  rw [e]
  exact ⟨a1.1, a2.1, hr, a3.1, a4.1, a4.2⟩
def tF (t : Nat) : Nat → Nat
  | 0 => t
  | j + 1 => stepF (tF t j)
theorem t_bd {t : Nat} (h : Bd .f64 t (pb 1)) : ∀ j : Nat, j ≤ 3 → Bd .f64 (tF t j) (pb ((j + 1 : Nat) : Int))
  | 0, _ => h
  | j + 1, hj => (step_steps (j := j + 1) (by omega) (t_bd h j (by omega))).2.2.2.2.2

/-! ### the series -/
def kg (j : Nat) : Nat := floatOfInt .f64 (15 - 2 * (j : Int))
def Gf (u : Nat) : Nat → Nat
  | 0 => 0
  | j + 1 => fop .sub .f64 (fop .quo .f64 4607182418800017408 (kg j)) (fop .mul .f64 u (Gf u j))
theorem kg_ok : ∀ j, j < 8 → (kg j < 18446744073709551616 ∧ kg j % 9223372036854775808 ≤ pb 5 ∧ pb 5 < 9218868437227405312) ∧ 4607182418800017408 ≤ kg j % 9223372036854775808 := by decide +kernel
theorem gj_ok : ∀ j : Nat, j < 8 → mulB .f64 (pb 8) (pb (9 * j + 2)) ≤ pb (9 * j + 10) ∧ addB .f64 (pb 1) (pb (9 * j + 10)) ≤ pb (9 * ((j + 1 : Nat) : Int) + 2) := by decide +kernel
theorem g_steps {u : Nat} (hu : Bd .f64 u (pb 8)) {j : Nat} (hj : j < 8) (hp : Bd .f64 (Gf u j) (pb (9 * j + 2))) :
    floatBits .quo .f64 4607182418800017408 (kg j) = some (fop .quo .f64 4607182418800017408 (kg j)) ∧ floatBits .mul .f64 u (Gf u j) = some (fop .mul .f64 u (Gf u j)) ∧
    floatBits .sub .f64 (fop .quo .f64 4607182418800017408 (kg j)) (fop .mul .f64 u (Gf u j)) = some (Gf u (j + 1)) ∧ Bd .f64 (Gf u (j + 1)) (pb (9 * ((j + 1 : Nat) : Int) + 2)) := by
  obtain ⟨k1, k2⟩ := gj_ok j hj
  obtain ⟨d1, d2⟩ := kg_ok j hj
  have a1 := divf one_bd (bd_lit d1) d2 (show dblB .f64 (pb 0) ≤ pb 1 by decide +kernel) (pb_lt (by decide))
  have a2 := mulf hu hp k1 (pb_lt (by omega))
  have a3 := subf a1.2 a2.2 k2 (pb_lt (by omega))
  exact ⟨a1.1, a2.1, a3.1, a3.2⟩
theorem g_bd {u : Nat} (hu : Bd .f64 u (pb 8)) : ∀ j : Nat, j ≤ 8 → Bd .f64 (Gf u j) (pb (9 * j + 2))
  | 0, _ => show Bd .f64 0 _ from bd_lit (by decide +kernel)
  | j + 1, h => (g_steps hu (by omega) (g_bd hu j (by omega))).2.2.2

def uG (t : Nat) : Nat := fop .mul .f64 (tF t 3) (tF t 3)
def flatF (t : Nat) : Nat := fop .quo .f64 (fop .mul .f64 4620693217682128896 (fop .mul .f64 (tF t 3) (Gf (uG t) 8))) 4618760256179416344
theorem flat_steps {t : Nat} (h : Bd .f64 t (pb 1)) :
    floatBits .mul .f64 (tF t 3) (tF t 3) = some (uG t) ∧ Bd .f64 (uG t) (pb 8) ∧ floatBits .mul .f64 (tF t 3) (Gf (uG t) 8) = some (fop .mul .f64 (tF t 3) (Gf (uG t) 8)) ∧
    floatBits .mul .f64 4620693217682128896 (fop .mul .f64 (tF t 3) (Gf (uG t) 8)) = some (fop .mul .f64 4620693217682128896 (fop .mul .f64 (tF t 3) (Gf (uG t) 8))) ∧
    floatBits .quo .f64 (fop .mul .f64 4620693217682128896 (fop .mul .f64 (tF t 3) (Gf (uG t) 8))) 4618760256179416344 = some (flatF t) ∧ Bd .f64 (flatF t) (pb 83) := by
  have ht := t_bd h 3 (Nat.le_refl _)
  have a1 := mulf ht ht (show mulB .f64 (pb ((3 + 1 : Nat) : Int)) (pb ((3 + 1 : Nat) : Int)) ≤ pb 8 by decide +kernel) (pb_lt (by decide))
  have a2 := g_bd a1.2 8 (Nat.le_refl _)
  have a3 := mulf ht a2 (show mulB .f64 (pb ((3 + 1 : Nat) : Int)) (pb (9 * ((8 : Nat) : Int) + 2)) ≤ pb 78 by decide +kernel) (pb_lt (by decide))
  have a4 := mulf (show Bd .f64 4620693217682128896 (pb 3) from bd_lit (by decide +kernel)) a3.2 (show mulB .f64 (pb 3) (pb 78) ≤ pb 81 by decide +kernel) (pb_lt (by decide))
  have a5 := divf a4.2 (show Bd .f64 4618760256179416344 (pb 3) from bd_lit (by decide +kernel)) (by decide +kernel) (show dblB .f64 (pb 81) ≤ pb 83 by decide +kernel) (pb_lt (by decide))
  exact ⟨a1.1, a1.2, a3.1, a4.1, a5.1, a5.2⟩

/-- the lesser by the greater -/
theorem ratio {a b : Nat} (hb : b < 9218868437227405312) (hab : a ≤ b) (h0 : 0 < b) : floatBits .quo .f64 a b = some (fop .quo .f64 a b) ∧ Bd .f64 (fop .quo .f64 a b) (pb 1) := by
  have hA : Bd .f64 a b := ⟨by rw [signWeight64]; omega, by rw [signWeight64, Nat.mod_eq_of_lt (by omega)]; exact hab, by rw [infRung64]; exact hb⟩
  have hB : Bd .f64 b b := ⟨by rw [signWeight64]; omega, by rw [signWeight64, Nat.mod_eq_of_lt (by omega)]; exact Nat.le_refl _, by rw [infRung64]; exact hb⟩
  have he : ∃ v, floatBits .quo .f64 a b = some v := by
    obtain ⟨s, m, u, hm, _⟩ := hA.read
    obtain ⟨t, n, j, hn, h0⟩ := read_ne_zero hB (by rw [signWeight64, Nat.mod_eq_of_lt (by omega)]; exact h0)
    exact ⟨_, by show FloatKind.f64.format.div a b = _; unfold Format.div; rw [hm, hn]; unfold Datum.quotient; dsimp only; rw [if_neg h0]; rfl⟩
  obtain ⟨v, hv⟩ := he
  have hC : val FloatKind.f64.format (a % FloatKind.f64.format.signWeight) <<< (-FloatKind.f64.format.leastPlace).toNat ≤ val FloatKind.f64.format (b % FloatKind.f64.format.signWeight) * val FloatKind.f64.format 4607182418800017408 := by
    rw [least64, show (-(-1074 : Int)).toNat = 1074 from rfl, Nat.shiftLeft_eq, ← val64_1]
    refine Nat.mul_le_mul_right _ (val_le _ ?_)
    rw [signWeight64, Nat.mod_eq_of_lt (by omega), Nat.mod_eq_of_lt (by omega)]
    exact hab
  obtain ⟨e, hbd⟩ := div_bd hA hB (by rw [signWeight64, Nat.mod_eq_of_lt (by omega)]; exact h0) (by rw [least64]; decide) hC (FopR.self _ _ hv) (by decide +kernel)
  rw [e] at hbd
  exact ⟨by rw [fop_of_rel hv]; exact hv, hbd.mono (by decide +kernel) (pb_lt (by decide))⟩

/-- from the angle of the flat half quarter to the angle of the point -/
def angF (t : Nat) (steep xn yn : Bool) : Nat :=
  let g0 := flatF t
  let g1 := if steep = true then fop .sub .f64 4598175219545276416 g0 else g0
  let g2 := if xn = true then fop .sub .f64 4602678819172646912 g1 else g1
  if yn = true then Op.negFloat .f64 g2 else g2
theorem ang_steps {t : Nat} (h : Bd .f64 t (pb 1)) :
    floatBits .sub .f64 4598175219545276416 (flatF t) = some (fop .sub .f64 4598175219545276416 (flatF t)) ∧
    floatBits .sub .f64 4602678819172646912 (fop .sub .f64 4598175219545276416 (flatF t)) = some (fop .sub .f64 4602678819172646912 (fop .sub .f64 4598175219545276416 (flatF t))) ∧
    floatBits .sub .f64 4602678819172646912 (flatF t) = some (fop .sub .f64 4602678819172646912 (flatF t)) ∧ ∀ s xn yn, Bd .f64 (angF t s xn yn) (pb 85) := by
  have h0 := (flat_steps h).2.2.2.2.2
  have a1 := subf (show Bd .f64 4598175219545276416 (pb 0) from bd_lit (by decide +kernel)) h0 (show addB .f64 (pb 0) (pb 83) ≤ pb 84 by decide +kernel) (pb_lt (by decide))
  have a2 := subf half_bd a1.2 (show addB .f64 (pb 0) (pb 84) ≤ pb 85 by decide +kernel) (pb_lt (by decide))
  have a3 := subf half_bd h0 (show addB .f64 (pb 0) (pb 83) ≤ pb 84 by decide +kernel) (pb_lt (by decide))
  refine ⟨a1.1, a2.1, a3.1, fun s xn yn => ?_⟩
  have hm : ∀ {z A : Nat}, Bd .f64 z A → A ≤ pb 85 → Bd .f64 z (pb 85) := fun hz hA => hz.mono hA (pb_lt (by decide))
  unfold angF
  cases s <;> cases xn <;> cases yn <;> simp only [Bool.false_eq_true, if_false, if_true]
  · exact hm h0 (by decide +kernel)
  · exact neg_bd (hm h0 (by decide +kernel))
  · exact hm a3.2 (by decide +kernel)
  · exact neg_bd (hm a3.2 (by decide +kernel))
  · exact hm a1.2 (by decide +kernel)
  · exact neg_bd (hm a1.2 (by decide +kernel))
  · exact hm a2.2 (Nat.le_refl _)
  · exact neg_bd (hm a2.2 (Nat.le_refl _))
theorem zero64 {x : Nat} (h : x < 18446744073709551616) (hf : x % 9223372036854775808 ≤ 9218868437227405312) : (FloatKind.f64.format.order x 0 == some .eq) = decide (x % 9223372036854775808 = 0) := by
  rw [order_key .f64 (wf_of64 h) (by decide) (by rw [isNan64]; exact decide_eq_false (by omega)) (by decide +kernel), show key .f64 0 = 0 from by decide +kernel, some_beq, compare_eq]
  congr 1
  unfold key sg
  rw [signWeight64]
  apply propext
  split <;> omega
end Fl
end Go.Proofs.Ythdbjdpkckmbeab
