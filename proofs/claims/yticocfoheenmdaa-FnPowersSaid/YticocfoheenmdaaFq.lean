/- Numbers made whole: the integer that is left when the places behind the point are cut off, and the greatest integer that is not greater. Imports nothing of the translation. -/
import Derived.Test.YticocfoheenmdaaFp
set_option linter.unusedVariables false
namespace Go.Proofs.Yticocfoheenmdaa
namespace Fl
open Ieee

theorem cut_low (n d : Nat) : n / (1 <<< min d (n.log2 + 2)) = n / 2 ^ d := by
  rw [Nat.one_shiftLeft]
  by_cases h : d ≤ n.log2 + 2
  · rw [Nat.min_eq_left h]
  · rw [Nat.min_eq_right (by omega)]
    have h1 : n < 2 ^ (n.log2 + 1) := Nat.lt_log2_self
    have h2 : 2 ^ (n.log2 + 1) ≤ 2 ^ (n.log2 + 2) := Nat.pow_le_pow_right (by decide) (by omega)
    have h3 : 2 ^ (n.log2 + 2) < 2 ^ d := Nat.pow_lt_pow_right (by decide) (by omega)
    rw [Nat.div_eq_of_lt (by omega), Nat.div_eq_of_lt (by omega)]
theorem cut_zero_way (s : Bool) (n d : Nat) : Toward.zero.cut s n d = n / 2 ^ d := by
  unfold Toward.cut
  dsimp only
  rw [cut_low]
  rfl
theorem cut_down_le (s : Bool) (n d : Nat) : Toward.down.cut s n d ≤ n / 2 ^ d + 1 := by
  unfold Toward.cut
  dsimp only
  rw [cut_low]
  have : ∀ b : Bool, b.toNat ≤ 1 := fun b => by cases b <;> decide
  exact Nat.add_le_add_left (this _) _
def Z1074 : Nat := 1074
theorem z1074 : Z1074 = 1074 := rfl
/-- what is left of a magnitude as a whole number -/
theorem whole_of (m u : Nat) : (m <<< (-1074 + (u : Int)).toNat) / 2 ^ (-(-1074 + (u : Int))).toNat = (m <<< u) / 2 ^ Z1074 := by
  have hz := z1074
  by_cases h : 1074 ≤ u
  · have e : m <<< u = m * 2 ^ (-1074 + (u : Int)).toNat * 2 ^ Z1074 := by
      rw [Nat.shiftLeft_eq, Nat.mul_assoc, ← Nat.pow_add]
      exact congrArg (fun t => m * 2 ^ t) (by omega)
    rw [e, Nat.mul_div_cancel _ (Nat.two_pow_pos _), show (-(-1074 + (u : Int))).toNat = 0 by omega, Nat.pow_zero, Nat.div_one, Nat.shiftLeft_eq]
  · have e : 2 ^ Z1074 = 2 ^ (-(-1074 + (u : Int))).toNat * 2 ^ u := by
      rw [← Nat.pow_add]
      exact congrArg (fun t => 2 ^ t) (by omega)
    rw [e, show (-1074 + (u : Int)).toNat = 0 by omega, Nat.shiftLeft_zero, Nat.shiftLeft_eq, Nat.mul_div_mul_right _ _ (Nat.two_pow_pos _)]

/-- the whole part of the absolute value -/
def whole (y : Nat) : Nat := val double (y % 9223372036854775808) / 2 ^ Z1074
def trunc (y : Nat) : Int := if 9223372036854775808 ≤ y then -(whole y : Int) else whole y
theorem whole_le {y A : Nat} (h : Bd .f64 y A) : whole y ≤ val double A / 2 ^ Z1074 := by
  unfold whole
  have := h.2.1
  rw [signWeight64] at this
  exact Nat.div_le_div_right (val_le _ this)
theorem toInt_ok {y A : Nat} (h : Bd .f64 y A) (hA : val double A / 2 ^ Z1074 < 9223372036854775808) : floatToIntVal .f64 y .i64 = some (trunc y) := by
  obtain ⟨s, m, u, hm, hu, _, hs⟩ := h.read
  have hw := whole_le h
  unfold floatToIntVal
  rw [show FloatKind.f64.decode y = _ from hm, least64]
  unfold Datum.toInt Datum.integral
  dsimp only
  rw [cut_zero_way, whole_of, hu, signWeight64]
  have he : signed s (val FloatKind.f64.format (y % 9223372036854775808) / 2 ^ Z1074) 0 = trunc y := by
    unfold signed trunc whole
    rw [Nat.shiftLeft_zero, hs, signWeight64]
    by_cases c : 9223372036854775808 ≤ y
    · rw [decide_eq_true c, if_pos rfl, if_pos c]; rfl
    · rw [decide_eq_false c, if_neg (by decide), if_neg c]; rfl
  rw [he, if_pos]
  have e1 : IntKind.i64.min = -9223372036854775808 := by decide +kernel
  have e2 : IntKind.i64.max = 9223372036854775807 := by decide +kernel
  rw [e1, e2]
  unfold trunc
  split <;> omega

/-- the greatest integer that is not greater, as a number -/
def floorBits (y : Nat) : Nat := FloatKind.f64.encode ((FloatKind.f64.decode y).integral .down)
theorem floor_bd {y j : Nat} (h : Bd .f64 y (pb j)) (hj : j < 60) : Bd .f64 (floorBits y) (pb (j + 1)) := by
  obtain ⟨s, m, u, hm, hu, hv, hs⟩ := h.read
  unfold floorBits
  rw [show FloatKind.f64.decode y = _ from hm, least64]
  unfold Datum.integral
  dsimp only
  show Bd .f64 (FloatKind.f64.format.write _) _
  rw [write_rg]
  refine word_bd ?_ (pb_lt (by omega))
  have hw := whole_le h
  have hval : val double (pb j) = 2 ^ (j + Z1074) := by
    have h60 : ∀ i : Nat, i < 60 → val double (pb (i : Int)) = 2 ^ (i + Z1074) := by decide +kernel
    exact h60 j hj
  rw [hval, Nat.pow_add, Nat.mul_div_cancel _ (Nat.two_pow_pos _)] at hw
  have hc := cut_down_le s (m <<< (-1074 + (u : Int)).toNat) (-(-1074 + (u : Int))).toNat
  rw [whole_of, hu, signWeight64] at hc
  have hp := Nat.two_pow_pos j
  have hle : Toward.down.cut s (m <<< (-1074 + (u : Int)).toNat) (-(-1074 + (u : Int))).toNat ≤ 2 ^ (j + 1) := by
    rw [Nat.pow_succ]
    unfold whole at hw
    refine Nat.le_trans hc ?_
    show val double _ / _ + 1 ≤ _
    omega
  refine Nat.le_trans (rg_mono_at double 0 hle) ?_
  have h60 : ∀ i : Nat, i < 60 → rg double (2 ^ (i + 1)) 0 ≤ pb ((i : Int) + 1) := by decide +kernel
  exact h60 j hj

/-- tenths of decibels of the logarithm of a 64-bit number -/
def tenX (u : Nat) : Nat := fop .add .f64 (fop .mul .f64 (logF u) 4631308968768463603) 4602678819172646912
def tenF (u : Nat) : Int := trunc (floorBits (tenX u))
theorem ten_steps {u : Nat} (h1 : 3936146074321813504 ≤ u) (h2 : u < 5183643171103440896) :
    floatBits .mul .f64 (logF u) 4631308968768463603 = some (fop .mul .f64 (logF u) 4631308968768463603) ∧ floatBits .add .f64 (fop .mul .f64 (logF u) 4631308968768463603) 4602678819172646912 = some (tenX u) ∧
    Bd .f64 (tenX u) (pb 16) ∧ floatToIntVal .f64 (floorBits (tenX u)) .i64 = some (tenF u) := by
  have hL : (logX u : Int) = u - logD u * 4503599627370496 ∧ 4604930618986332160 ≤ logX u ∧ logX u < 4609434218613702656 := by
    unfold logX logD; omega
  have hD : -200 ≤ logD u ∧ logD u ≤ 200 := by unfold logD; omega
  obtain ⟨_, _, _, _, _, _, _, _, _, hb⟩ := log_steps hL.2.1 hL.2.2 hD.1 hD.2
  have b1 := mulf (show Bd .f64 (logF u) (pb 9) from hb) (show Bd .f64 4631308968768463603 (pb 6) from bd_lit (by decide +kernel)) (show mulB .f64 (pb 9) (pb 6) ≤ pb 15 by decide +kernel) (pb_lt (by decide))
  have b2 := addf b1.2 (show Bd .f64 4602678819172646912 (pb 0) from bd_lit (by decide +kernel)) (show addB .f64 (pb 15) (pb 0) ≤ pb 16 by decide +kernel) (pb_lt (by decide))
  exact ⟨b1.1, b2.1, b2.2, toInt_ok (floor_bd (j := 16) b2.2 (by decide)) (by decide +kernel)⟩

/-- not above zero, of a number -/
theorem leq32 {x : Nat} (hx : x < 4294967296) (hn : isNan .f32 x = false) : (FloatKind.f32.format.order x 0 == some .lt || FloatKind.f32.format.order x 0 == some .eq) = decide (x = 0 ∨ 2147483648 ≤ x) := by
  rw [order_key .f32 (wf_of32 hx) (by decide) hn (by decide +kernel), show key .f32 0 = 0 from by decide +kernel, some_beq, some_beq, compare_lt, compare_eq, Bool.eq_iff_iff, Bool.or_eq_true, decide_eq_true_iff, decide_eq_true_iff, decide_eq_true_iff]
  unfold key sg
  rw [signWeight32]
  by_cases c : 2147483648 ≤ x
  · rw [decide_eq_true c, if_pos rfl]; omega
  · rw [decide_eq_false c, if_neg (by decide)]; omega
end Fl
end Go.Proofs.Yticocfoheenmdaa
