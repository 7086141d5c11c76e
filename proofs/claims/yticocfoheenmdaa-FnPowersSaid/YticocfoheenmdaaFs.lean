/- The sine of turns, as both texts compute it: the turns without the whole ones, and the series. Imports nothing of the translation. -/
import Derived.Test.YticocfoheenmdaaFq
set_option linter.unusedVariables false
namespace Go.Proofs.Yticocfoheenmdaa
namespace Fl
open Ieee

def sv (x : Nat) : Int := if 9223372036854775808 ≤ x then -(val double (x % 9223372036854775808) : Int) else val double (x % 9223372036854775808)
theorem signed_scale (s : Bool) (m a d : Nat) : signed s m a * ((2 ^ d : Nat) : Int) = signed s m (a + d) := (signed_mul s m a d).symm
theorem signed_sv {x A : Nat} {s : Bool} {m u : Nat} (hu : m <<< u = val FloatKind.f64.format (x % FloatKind.f64.format.signWeight)) (hs : s = decide (FloatKind.f64.format.signWeight ≤ x)) : signed s m u = sv x := by
  unfold signed sv
  rw [signWeight64] at hu hs
  rw [hu, hs]
  by_cases c : 9223372036854775808 ≤ x
  · rw [decide_eq_true c, if_pos rfl, if_pos c]; rfl
  · rw [decide_eq_false c, if_neg (by decide), if_neg c]; rfl
theorem signed_not (s : Bool) (m u : Nat) : signed (!s) m u = -signed s m u := by
  unfold signed
  cases s
  · simp only [Bool.not_false, if_true, Bool.false_eq_true, if_false]
  · simp only [Bool.not_true, Bool.false_eq_true, if_false, if_true, Int.neg_neg]
theorem sub_sv {x y A C : Nat} (hx : Bd .f64 x A) (hy : Bd .f64 y C) : ∃ s, floatBits .sub .f64 x y = some (double.word s (rg double (sv x - sv y).natAbs (-1074))) := by
  obtain ⟨s, m, u, hm, hu, _, hs⟩ := hx.read
  obtain ⟨t, n, v, hn, hv, _, ht⟩ := hy.read
  rw [least64] at hm hn
  have e1 := signed_sv (x := x) (A := A) hu hs
  have e2 := signed_sv (x := y) (A := C) hv ht
  obtain ⟨base, hb⟩ : ∃ base, min (-1074 + (u : Int)) (-1074 + (v : Int)) = base := ⟨_, rfl⟩
  have e3 : (signed s m (-1074 + (u : Int) - base).toNat - signed t n (-1074 + (v : Int) - base).toNat).natAbs <<< (base + 1074).toNat = (sv x - sv y).natAbs := by
    rw [← e1, ← e2, Nat.shiftLeft_eq]
    have k1 : signed s m u = signed s m (-1074 + (u : Int) - base).toNat * ((2 ^ (base + 1074).toNat : Nat) : Int) := by rw [signed_scale]; exact congrArg (signed s m) (by omega)
    have k2 : signed t n v = signed t n (-1074 + (v : Int) - base).toNat * ((2 ^ (base + 1074).toNat : Nat) : Int) := by rw [signed_scale]; exact congrArg (signed t n) (by omega)
    rw [k1, k2, ← Int.sub_mul, Int.natAbs_mul, Int.natAbs_natCast]
  have he : ∃ s', double.sub x y = some (double.word s' (rg double (signed s m (-1074 + (u : Int) - base).toNat - signed t n (-1074 + (v : Int) - base).toNat).natAbs base)) := by
    unfold Format.sub
    rw [show double.read x = _ from hm, show double.read y = _ from hn]
    unfold Datum.opposite Datum.sum
    dsimp only
    rw [Option.map_some, write_rg64, hb, signed_not, ← Int.sub_eq_add_neg]
    exact ⟨_, rfl⟩
  obtain ⟨s', he⟩ := he
  exact ⟨s', he.trans (congrArg (fun r => some (double.word s' r)) (rg_at _ base (by omega) _ e3))⟩

/-- a small integer as a number -/
theorem int_num {n : Int} (h : n.natAbs < 9007199254740992) : sv (floatOfInt .f64 n) = n * ((2 ^ Z1074 : Nat) : Int) ∧ Bd .f64 (floatOfInt .f64 n) (pb 53) := by
  have hz := z1074
  have hw : floatOfInt .f64 n = double.word (decide (n < 0)) (rg double n.natAbs 0) := by
    show FloatKind.f64.encode (.number (decide (n < 0)) n.natAbs 0) = _
    exact write_rg64 _ _ _
  have hle : rg double n.natAbs 0 ≤ pb 53 := Nat.le_trans (rg_mono_at double 0 (Nat.le_of_lt h)) (show rg double 9007199254740992 0 ≤ pb 53 by decide +kernel)
  have hbd : Bd .f64 (floatOfInt .f64 n) (pb 53) := by rw [hw]; exact word_bd (k := .f64) hle (pb_lt (by decide))
  refine ⟨?_, hbd⟩
  obtain ⟨s, m, u, hm, hu, _, hs⟩ := hbd.read
  rw [least64] at hm
  rw [← signed_sv (x := floatOfInt .f64 n) (A := pb 53) hu hs]
  by_cases h0 : n = 0
  · subst h0
    have : double.read (floatOfInt .f64 0) = .number false 0 (-1074) := by decide +kernel
    rw [show FloatKind.f64.format.read (floatOfInt .f64 0) = _ from this] at hm
    obtain ⟨rfl, rfl, _⟩ := Datum.number.inj hm
    unfold signed
    simp
  · have hna : n.natAbs ≠ 0 := by omega
    have hL : n.natAbs.log2 < 53 := log2_lt_of (k := 53) (by omega) (by decide)
    have hr := read_nearest64 (decide (n < 0)) n.natAbs 0 hna (by omega) (by omega) (by omega)
    have hr2 : double.read (floatOfInt .f64 n) = .number (decide (n < 0)) (n.natAbs <<< (52 - n.natAbs.log2)) (0 - (52 - n.natAbs.log2 : Nat)) := hr
    rw [show FloatKind.f64.format.read (floatOfInt .f64 n) = _ from hr2] at hm
    obtain ⟨rfl, rfl, h3⟩ := Datum.number.inj hm
    rw [signed_shift, show (52 - n.natAbs.log2) + u = Z1074 by omega]
    unfold signed
    rw [Nat.shiftLeft_eq]
    by_cases c : n < 0
    · rw [decide_eq_true c, if_pos rfl, Int.natCast_mul, ← Int.neg_mul]
      congr 1
      omega
    · rw [decide_eq_false c, if_neg (by decide), Int.natCast_mul]
      congr 1
      omega

def f0 (y : Nat) : Nat := fop .sub .f64 y (floatOfInt .f64 (trunc y))
def f1 (y : Nat) : Nat := if (FloatKind.f64.format.order (f0 y) 0 == some .lt) = true then fop .add .f64 (f0 y) 4607182418800017408 else f0 y
theorem val52 : val double 4841369599423283200 = 4503599627370496 * 2 ^ Z1074 := by decide +kernel
theorem val_one : val double 4607182418800017408 = 2 ^ Z1074 := by decide +kernel
/-- what is left without the whole turns -/
theorem turn_steps {y : Nat} (h1 : y < 18446744073709551616) (h2 : y % 9223372036854775808 < 4841369599423283200) :
    floatToIntVal .f64 y .i64 = some (trunc y) ∧ floatBits .sub .f64 y (floatOfInt .f64 (trunc y)) = some (f0 y) ∧ Bd .f64 (f0 y) (pb 0) ∧
    floatBits .add .f64 (f0 y) 4607182418800017408 = some (fop .add .f64 (f0 y) 4607182418800017408) ∧ Bd .f64 (f1 y) (pb 1) := by
  have hy : Bd .f64 y (pb 52) := bd_lit ⟨h1, by unfold pb; omega, by decide +kernel⟩
  have hw : whole y < 4503599627370496 := by
    unfold whole
    refine Nat.div_lt_of_lt_mul ?_
    rw [Nat.mul_comm, ← val52]
    exact val_lt _ h2
  have ht : (trunc y).natAbs = whole y := by unfold trunc; split <;> omega
  have hi := toInt_ok hy (by decide +kernel)
  obtain ⟨g1, g2⟩ := int_num (n := trunc y) (by omega)
  obtain ⟨s, hs⟩ := sub_sv hy g2
  have hf : f0 y = double.word s (rg double (sv y - sv (floatOfInt .f64 (trunc y))).natAbs (-1074)) := fop_of_rel hs
  have hlt : (sv y - sv (floatOfInt .f64 (trunc y))).natAbs ≤ 2 ^ Z1074 := by
    rw [g1]
    have hd := Nat.div_add_mod (val double (y % 9223372036854775808)) (2 ^ Z1074)
    have hm := Nat.mod_lt (val double (y % 9223372036854775808)) (Nat.two_pow_pos Z1074)
    unfold sv trunc whole
    generalize val double (y % 9223372036854775808) = V at *
    generalize V % 2 ^ Z1074 = r at *
    have hc : ((V / 2 ^ Z1074 : Nat) : Int) * ((2 ^ Z1074 : Nat) : Int) = ((2 ^ Z1074 * (V / 2 ^ Z1074) : Nat) : Int) := by rw [Int.natCast_mul, Int.mul_comm]
    by_cases c : 9223372036854775808 ≤ y
    · rw [if_pos c, if_pos c, Int.neg_mul, hc]
      generalize 2 ^ Z1074 * (V / 2 ^ Z1074) = q at *
      omega
    · rw [if_neg c, if_neg c, hc]
      generalize 2 ^ Z1074 * (V / 2 ^ Z1074) = q at *
      omega
  have hb0 : Bd .f64 (f0 y) (pb 0) := by
    rw [hf]
    exact word_bd (k := .f64) (Nat.le_trans (rg_mono_at double (-1074) hlt) (show rg double (2 ^ Z1074) (-1074) ≤ pb 0 by decide +kernel)) (pb_lt (by decide))
  have ha := addf hb0 one_bd (show addB .f64 (pb 0) (pb 0) ≤ pb 1 by decide +kernel) (pb_lt (by decide))
  refine ⟨hi, by rw [hs, hf], hb0, ha.1, ?_⟩
  unfold f1
  split
  · exact ha.2
  · exact hb0.mono (by decide +kernel) (pb_lt (by decide))

/-! ### the series -/
def dj (j : Nat) : Nat := floatOfInt .f64 (2 * (8 - (j : Int)) * (2 * (8 - (j : Int)) + 1))
def Pf (u : Nat) : Nat → Nat
  | 0 => 4607182418800017408
  | j + 1 => fop .sub .f64 4607182418800017408 (fop .quo .f64 (fop .mul .f64 u (Pf u j)) (dj j))
theorem dj_ok : ∀ j, j < 8 → (dj j < 18446744073709551616 ∧ dj j % 9223372036854775808 ≤ pb 9 ∧ pb 9 < 9218868437227405312) ∧ 4607182418800017408 ≤ dj j % 9223372036854775808 := by decide +kernel
theorem pj_ok : ∀ j : Nat, j < 8 → mulB .f64 (pb 12) (pb (14 * j + 1)) ≤ pb (14 * j + 13) ∧ dblB .f64 (pb (14 * j + 13)) ≤ pb (14 * j + 14) ∧ addB .f64 (pb 0) (pb (14 * j + 14)) ≤ pb (14 * ((j + 1 : Nat) : Int) + 1) := by decide +kernel
theorem p_steps {u : Nat} (hu : Bd .f64 u (pb 12)) {j : Nat} (hj : j < 8) (hp : Bd .f64 (Pf u j) (pb (14 * j + 1))) :
    floatBits .mul .f64 u (Pf u j) = some (fop .mul .f64 u (Pf u j)) ∧ floatBits .quo .f64 (fop .mul .f64 u (Pf u j)) (dj j) = some (fop .quo .f64 (fop .mul .f64 u (Pf u j)) (dj j)) ∧
    floatBits .sub .f64 4607182418800017408 (fop .quo .f64 (fop .mul .f64 u (Pf u j)) (dj j)) = some (Pf u (j + 1)) ∧ Bd .f64 (Pf u (j + 1)) (pb (14 * ((j + 1 : Nat) : Int) + 1)) := by
  obtain ⟨k1, k2, k3⟩ := pj_ok j hj
  obtain ⟨d1, d2⟩ := dj_ok j hj
  have a1 := mulf hu hp k1 (pb_lt (by omega))
  have a2 := divf a1.2 (bd_lit d1) d2 k2 (pb_lt (by omega))
  have a3 := subf one_bd a2.2 k3 (pb_lt (by omega))
  exact ⟨a1.1, a2.1, a3.1, a3.2⟩
theorem p_bd {u : Nat} (hu : Bd .f64 u (pb 12)) : ∀ j : Nat, j ≤ 8 → Bd .f64 (Pf u j) (pb (14 * j + 1))
  | 0, _ => one_bd.mono (by decide +kernel) (pb_lt (by decide))
  | j + 1, h => (p_steps hu (by omega) (p_bd hu j (by omega))).2.2.2

/-- at least a half, so that the sign is turned -/
def belowB (g : Nat) : Bool := FloatKind.f64.format.order g 4602678819172646912 == some .gt || FloatKind.f64.format.order g 4602678819172646912 == some .eq
def f2 (g : Nat) : Nat := if belowB g = true then fop .sub .f64 g 4602678819172646912 else g
def overB (g : Nat) : Bool := FloatKind.f64.format.order (f2 g) 4598175219545276416 == some .gt
def f3 (g : Nat) : Nat := if overB g = true then fop .sub .f64 4602678819172646912 (f2 g) else f2 g
def zOf (g : Nat) : Nat := fop .mul .f64 (f3 g) 4618760256179416344
def wOf (g : Nat) : Nat := fop .mul .f64 (zOf g) (zOf g)
def sinP (g : Nat) : Nat := fop .mul .f64 (zOf g) (Pf (wOf g) 8)
def sinF (g : Nat) : Nat := if belowB g = true then Op.negFloat .f64 (sinP g) else sinP g
theorem half_bd : Bd .f64 4602678819172646912 (pb 0) := bd_lit (by decide +kernel)
theorem sine_steps {g : Nat} (hg : Bd .f64 g (pb 1)) :
    floatBits .sub .f64 g 4602678819172646912 = some (fop .sub .f64 g 4602678819172646912) ∧ floatBits .sub .f64 4602678819172646912 (f2 g) = some (fop .sub .f64 4602678819172646912 (f2 g)) ∧
    floatBits .mul .f64 (f3 g) 4618760256179416344 = some (zOf g) ∧ floatBits .mul .f64 (zOf g) (zOf g) = some (wOf g) ∧ Bd .f64 (wOf g) (pb 12) ∧
    floatBits .mul .f64 (zOf g) (Pf (wOf g) 8) = some (sinP g) ∧ Bd .f64 (sinP g) (pb 119) := by
  have a1 := subf hg half_bd (show addB .f64 (pb 1) (pb 0) ≤ pb 2 by decide +kernel) (pb_lt (by decide))
  have h2 : Bd .f64 (f2 g) (pb 2) := by
    unfold f2; split
    · exact a1.2
    · exact hg.mono (by decide +kernel) (pb_lt (by decide))
  have a2 := subf half_bd h2 (show addB .f64 (pb 0) (pb 2) ≤ pb 3 by decide +kernel) (pb_lt (by decide))
  have h3 : Bd .f64 (f3 g) (pb 3) := by
    unfold f3; split
    · exact a2.2
    · exact h2.mono (by decide +kernel) (pb_lt (by decide))
  have a3 := mulf h3 (show Bd .f64 4618760256179416344 (pb 3) from bd_lit (by decide +kernel)) (show mulB .f64 (pb 3) (pb 3) ≤ pb 6 by decide +kernel) (pb_lt (by decide))
  have a4 := mulf a3.2 a3.2 (show mulB .f64 (pb 6) (pb 6) ≤ pb 12 by decide +kernel) (pb_lt (by decide))
  have a5 := p_bd a4.2 8 (Nat.le_refl _)
  have a6 := mulf a3.2 a5 (show mulB .f64 (pb 6) (pb (14 * ((8 : Nat) : Int) + 1)) ≤ pb 119 by decide +kernel) (pb_lt (by decide))
  exact ⟨a1.1, a2.1, a3.1, a4.1, a4.2, a6.1, a6.2⟩
theorem neg_bd {x A : Nat} (h : Bd .f64 x A) : Bd .f64 (Op.negFloat .f64 x) A := by
  obtain ⟨h1, h2, h3⟩ := h
  rw [signWeight64] at h1 h2
  unfold Op.negFloat
  rw [show FloatKind.f64.format.exponentBits + FloatKind.f64.format.fractionBits = 63 from rfl]
  refine ⟨?_, ?_, h3⟩
  · rw [signWeight64]
    exact Nat.xor_lt_two_pow (n := 64) h1 (by decide)
  · rw [signWeight64, show (9223372036854775808 : Nat) = 2 ^ 63 from rfl, Nat.xor_mod_two_pow, Nat.mod_self, Nat.xor_zero]
    exact h2
theorem sinF_bd {g : Nat} (hg : Bd .f64 g (pb 1)) : Bd .f64 (sinF g) (pb 119) := by
  have h := (sine_steps hg).2.2.2.2.2.2
  unfold sinF
  split
  · exact neg_bd h
  · exact h
/-- what is taken from itself is +0, of a finite number; else there is none -/
theorem self_sub64 {x A : Nat} (h : Bd .f64 x A) : floatBits .sub .f64 x x = some 0 := by
  obtain ⟨s, hs⟩ := sub_sv h h
  obtain ⟨t, m, u, hm, _⟩ := h.read
  show double.sub x x = some 0
  unfold Format.sub
  rw [show double.read x = _ from hm]
  unfold Datum.opposite Datum.sum
  dsimp only
  rw [signed_not, Int.add_right_neg, if_pos rfl]
  cases t <;> rfl
theorem self_sub64_none {x : Nat} (hx : x < 18446744073709551616) (h : 9218868437227405312 ≤ x % 9223372036854775808) : floatBits .sub .f64 x x = none := by
  by_cases hn : isNan .f64 x = true
  · exact floatBits_nan_left hn
  · have hle := notNan_le (k := .f64) (Bool.eq_false_iff.2 hn)
    rw [infRung64, signWeight64] at hle
    have hx1 := word_of .f64 (b := x) (by rw [signWeight64]; omega)
    have e : x % double.signWeight = double.infRung := by rw [show double.signWeight = 9223372036854775808 from by decide +kernel, show double.infRung = 9218868437227405312 from by decide +kernel]; omega
    have hx2 : double.read x = .infinity (decide (double.signWeight ≤ x)) := by
      refine (congrArg double.read hx1).trans ?_
      show double.read (double.word _ (x % double.signWeight)) = _
      rw [e]
      exact read_word_inf double _ (by decide +kernel)
    show double.sub x x = none
    unfold Format.sub
    rw [hx2]
    cases decide (double.signWeight ≤ x) <;> rfl
/-- as great as 2 to the power of 52 in either direction, as the sign and the rung tell it -/
theorem whole_tests {y : Nat} (h1 : y < 18446744073709551616) (h2 : y % 9223372036854775808 < 9218868437227405312) :
    ((FloatKind.f64.format.order y 4841369599423283200 == some .gt || FloatKind.f64.format.order y 4841369599423283200 == some .eq) || (FloatKind.f64.format.order y 14064741636278059008 == some .lt || FloatKind.f64.format.order y 14064741636278059008 == some .eq)) = decide (4841369599423283200 ≤ y % 9223372036854775808) := by
  have hn : isNan .f64 y = false := by rw [isNan64]; exact decide_eq_false (by omega)
  rw [order_key .f64 (wf_of64 h1) (by decide) hn (by decide +kernel), order_key .f64 (wf_of64 h1) (by decide) hn (by decide +kernel), show key .f64 4841369599423283200 = 4841369599423283200 from by decide +kernel, show key .f64 14064741636278059008 = -4841369599423283200 from by decide +kernel,
    some_beq, some_beq, some_beq, some_beq, compare_gt, compare_eq, compare_lt, compare_eq, Bool.eq_iff_iff, Bool.or_eq_true, Bool.or_eq_true, Bool.or_eq_true, decide_eq_true_iff, decide_eq_true_iff, decide_eq_true_iff, decide_eq_true_iff, decide_eq_true_iff]
  unfold key sg
  rw [signWeight64]
  by_cases c : 9223372036854775808 ≤ y
  · rw [decide_eq_true c, if_pos rfl]; omega
  · rw [decide_eq_false c, if_neg (by decide)]; omega
theorem fop_none {op : BinOp} {k : FloatKind} {x y r : Nat} (h : FopR op k x y r) (hn : floatBits op k x y = none) : isNan k r = true := by
  rcases h with h | ⟨_, h, _⟩
  · rw [hn] at h; cases h
  · exact h
end Fl
end Go.Proofs.Yticocfoheenmdaa
