/- The logarithm, as both texts compute it: the number made to lie from 0.75 to 1.5, and the series. Imports nothing of the translation. -/
import Derived.Test.YtfihnnhgegdjkaaFo
set_option linter.unusedVariables false
namespace Go.Proofs.Ytfihnnhgegdjkaa
namespace Fl
open Ieee

theorem read_fin64 {x : Nat} (h : x < 9218868437227405312) : ∃ m u : Nat, double.read x = .number false m (-1074 + (u : Int)) ∧ m <<< u = val double x := by
  obtain ⟨m, u, hm, hv⟩ := read_word_fin double false (r := x) (by rw [show double.infRung = 9218868437227405312 from by decide +kernel]; exact h)
  rw [word_false, show double.leastPlace = -1074 from by decide +kernel] at hm
  exact ⟨m, u, hm, hv⟩
theorem rg_at (m base : Int) (h : -1074 ≤ base) (t : Nat) (ht : m.natAbs <<< (base + 1074).toNat = t) : rg double m.natAbs base = rg double t (-1074) := by
  rw [← ht, ← rg_shift double m.natAbs (base + 1074).toNat base]
  exact congrArg (rg double _) (by omega)
theorem add_pos {x y : Nat} (hx : x < 9218868437227405312) (hy : y < 9218868437227405312) : floatBits .add .f64 x y = some (rg double (val double x + val double y) (-1074)) := by
  obtain ⟨m, u, hm, hu⟩ := read_fin64 hx
  obtain ⟨n, v, hn, hv⟩ := read_fin64 hy
  show double.add x y = _
  unfold Format.add
  rw [hm, hn]
  unfold Datum.sum
  dsimp only
  rw [Option.map_some, write_rg64]
  generalize hb : min (-1074 + (u : Int)) (-1074 + (v : Int)) = base
  have hs : ∀ m k, signed false m k = ((m <<< k : Nat) : Int) := fun m k => rfl
  rw [hs, hs]
  have e3 : (m <<< (-1074 + (u : Int) - base).toNat + n <<< (-1074 + (v : Int) - base).toNat) <<< (base + 1074).toNat = val double x + val double y := by
    rw [Nat.shiftLeft_eq, Nat.add_mul, ← Nat.shiftLeft_eq, ← Nat.shiftLeft_eq, ← Nat.shiftLeft_add, ← Nat.shiftLeft_add, show (-1074 + (u : Int) - base).toNat + (base + 1074).toNat = u by omega, show (-1074 + (v : Int) - base).toNat + (base + 1074).toNat = v by omega, hu, hv]
  generalize m <<< (-1074 + (u : Int) - base).toNat = M at *
  generalize n <<< (-1074 + (v : Int) - base).toNat = N at *
  have hneg : (if (M : Int) + (N : Int) = 0 then false && false else decide ((M : Int) + (N : Int) < 0)) = false := by
    split
    · rfl
    · exact decide_eq_false (by omega)
  rw [hneg, word_false]
  refine congrArg some (rg_at _ base (by omega) _ ?_)
  rw [show (M : Int) + (N : Int) = ((M + N : Nat) : Int) by omega, Int.natAbs_natCast]
  exact e3
/-- a sum of numbers that are not below zero is not below each -/
theorem add_ge {x y : Nat} (hx : x < 9218868437227405312) (hy : y < 9218868437227405312) : y ≤ fop .add .f64 x y ∧ fop .add .f64 x y ≤ 9218868437227405312 := by
  rw [fop_of_rel (add_pos hx hy)]
  have h := rg_val double (r := y) (by rw [show double.infRung = 9218868437227405312 from by decide +kernel]; exact hy)
  rw [show double.leastPlace = -1074 from by decide +kernel] at h
  refine ⟨?_, ?_⟩
  · have := rg_mono_at double (m := val double y) (n := val double x + val double y) (-1074) (by omega)
    omega
  · have := nearest_false_le double (val double x + val double y) (-1074)
    rw [show double.infRung = 9218868437227405312 from by decide +kernel] at this
    exact this
/-- the absolute value of a difference of numbers that are not below zero -/
theorem sub_pos {x y : Nat} (hx : x < 9218868437227405312) (hy : y < 9218868437227405312) : ∃ s, floatBits .sub .f64 x y = some (double.word s (rg double ((val double x : Int) - (val double y : Int)).natAbs (-1074))) := by
  obtain ⟨m, u, hm, hu⟩ := read_fin64 hx
  obtain ⟨n, v, hn, hv⟩ := read_fin64 hy
  obtain ⟨base, hb⟩ : ∃ base, min (-1074 + (u : Int)) (-1074 + (v : Int)) = base := ⟨_, rfl⟩
  have e3 : (((m <<< (-1074 + (u : Int) - base).toNat : Nat) : Int) - ((n <<< (-1074 + (v : Int) - base).toNat : Nat) : Int)).natAbs <<< (base + 1074).toNat = ((val double x : Int) - (val double y : Int)).natAbs := by
    rw [← hu, ← hv]
    have e1 : m <<< u = m <<< (-1074 + (u : Int) - base).toNat <<< (base + 1074).toNat := by rw [← Nat.shiftLeft_add]; exact congrArg (m <<< ·) (by omega)
    have e2 : n <<< v = n <<< (-1074 + (v : Int) - base).toNat <<< (base + 1074).toNat := by rw [← Nat.shiftLeft_add]; exact congrArg (n <<< ·) (by omega)
    rw [e1, e2]
    generalize m <<< (-1074 + (u : Int) - base).toNat = M
    generalize n <<< (-1074 + (v : Int) - base).toNat = N
    generalize (base + 1074).toNat = d
    simp only [Nat.shiftLeft_eq]
    rw [Int.natCast_mul, Int.natCast_mul, ← Int.sub_mul, Int.natAbs_mul, Int.natAbs_natCast]
  have he : ∃ s, double.sub x y = some (double.word s (rg double (((m <<< (-1074 + (u : Int) - base).toNat : Nat) : Int) - ((n <<< (-1074 + (v : Int) - base).toNat : Nat) : Int)).natAbs base)) := by
    unfold Format.sub
    rw [hm, hn]
    unfold Datum.opposite Datum.sum
    dsimp only
    rw [Option.map_some, write_rg64, hb]
    have hs : ∀ m k, signed false m k = ((m <<< k : Nat) : Int) := fun m k => rfl
    have hs2 : ∀ m k, signed (!false) m k = -((m <<< k : Nat) : Int) := fun m k => rfl
    rw [hs, hs2, ← Int.sub_eq_add_neg]
    exact ⟨_, rfl⟩
  obtain ⟨s, he⟩ := he
  refine ⟨s, he.trans ?_⟩
  exact congrArg (fun r => some (double.word s r)) (rg_at _ base (by omega) _ e3)

/-! ### the series -/
def kf (j : Nat) : Nat := floatOfInt .f64 (25 - 2 * (j : Int))
def Qf (u : Nat) : Nat → Nat
  | 0 => 0
  | j + 1 => fop .add .f64 (fop .quo .f64 4607182418800017408 (kf j)) (fop .mul .f64 u (Qf u j))
def qb : Nat → Nat
  | 0 => 0
  | j + 1 => addB .f64 (pb 1) (mulB .f64 (pb 0) (qb j))
theorem bd_lit {x A : Nat} (h : x < 18446744073709551616 ∧ x % 9223372036854775808 ≤ A ∧ A < 9218868437227405312) : Bd .f64 x A := ⟨by rw [signWeight64]; exact h.1, by rw [signWeight64]; exact h.2.1, by rw [infRung64]; exact h.2.2⟩
theorem kf_ok : ∀ j, j < 13 → (kf j < 18446744073709551616 ∧ kf j % 9223372036854775808 ≤ pb 5 ∧ pb 5 < 9218868437227405312) ∧ 4607182418800017408 ≤ kf j % 9223372036854775808 := by decide +kernel
theorem qb_ok : ∀ j, j < 14 → qb j ≤ pb 5 ∧ mulB .f64 (pb 0) (qb j) ≤ pb 5 := by decide +kernel
theorem one_bd : Bd .f64 4607182418800017408 (pb 0) := bd_lit (by decide +kernel)

theorem q_ok {u : Nat} (hu : Bd .f64 u (pb 0)) : ∀ j, j ≤ 13 → Bd .f64 (Qf u j) (qb j)
  | 0, _ => show Bd .f64 0 0 from bd_lit (by decide +kernel)
  | j + 1, h => by
    have h1 := (divf one_bd (bd_lit (kf_ok j (by omega)).1) (kf_ok j (by omega)).2 (show dblB .f64 (pb 0) ≤ pb 1 by decide +kernel) (pb_lt (by decide))).2
    have h2 := (mulf hu (q_ok hu j (by omega)) (Nat.le_refl _) (Nat.lt_of_le_of_lt (qb_ok j (by omega)).2 (pb_lt (by decide)))).2
    have := (qb_ok (j + 1) (by omega)).1
    exact (addf h1 h2 (Nat.le_refl _) (Nat.lt_of_le_of_lt this (pb_lt (by decide)))).2
/-- what one round computes -/
theorem q_steps {u : Nat} (hu : Bd .f64 u (pb 0)) {j : Nat} (h : j < 13) :
    floatBits .quo .f64 4607182418800017408 (kf j) = some (fop .quo .f64 4607182418800017408 (kf j)) ∧ floatBits .mul .f64 u (Qf u j) = some (fop .mul .f64 u (Qf u j)) ∧
    floatBits .add .f64 (fop .quo .f64 4607182418800017408 (kf j)) (fop .mul .f64 u (Qf u j)) = some (Qf u (j + 1)) := by
  have h1 := divf one_bd (bd_lit (kf_ok j h).1) (kf_ok j h).2 (show dblB .f64 (pb 0) ≤ pb 1 by decide +kernel) (pb_lt (by decide))
  have h2 := mulf hu (q_ok hu j (by omega)) (Nat.le_refl _) (Nat.lt_of_le_of_lt (qb_ok j (by omega)).2 (pb_lt (by decide)))
  have h3 := (qb_ok (j + 1) (by omega)).1
  exact ⟨h1.1, h2.1, (addf h1.2 h2.2 (Nat.le_refl _) (Nat.lt_of_le_of_lt h3 (pb_lt (by decide)))).1⟩

def sOf (X : Nat) : Nat := fop .quo .f64 (fop .sub .f64 X 4607182418800017408) (fop .add .f64 X 4607182418800017408)
def uOf (X : Nat) : Nat := fop .mul .f64 (sOf X) (sOf X)
def logS (X : Nat) (d : Int) : Nat := fop .add .f64 (fop .mul .f64 4611686018427387904 (fop .mul .f64 (sOf X) (Qf (uOf X) 13))) (fop .mul .f64 (floatOfInt .f64 d) 4604418534313441775)
theorem small_int : ∀ i : Nat, i < 401 → (floatOfInt .f64 ((i : Int) - 200) < 18446744073709551616 ∧ floatOfInt .f64 ((i : Int) - 200) % 9223372036854775808 ≤ pb 8 ∧ pb 8 < 9218868437227405312) := by decide +kernel

/-- what both texts compute behind the loops, operation by operation -/
theorem log_steps {X : Nat} {d : Int} (h1 : 4604930618986332160 ≤ X) (h2 : X < 4609434218613702656) (d1 : -200 ≤ d) (d2 : d ≤ 200) :
    floatBits .sub .f64 X 4607182418800017408 = some (fop .sub .f64 X 4607182418800017408) ∧ floatBits .add .f64 X 4607182418800017408 = some (fop .add .f64 X 4607182418800017408) ∧
    floatBits .quo .f64 (fop .sub .f64 X 4607182418800017408) (fop .add .f64 X 4607182418800017408) = some (sOf X) ∧ floatBits .mul .f64 (sOf X) (sOf X) = some (uOf X) ∧ Bd .f64 (uOf X) (pb 0) ∧
    floatBits .mul .f64 (sOf X) (Qf (uOf X) 13) = some (fop .mul .f64 (sOf X) (Qf (uOf X) 13)) ∧ floatBits .mul .f64 4611686018427387904 (fop .mul .f64 (sOf X) (Qf (uOf X) 13)) = some (fop .mul .f64 4611686018427387904 (fop .mul .f64 (sOf X) (Qf (uOf X) 13))) ∧
    floatBits .mul .f64 (floatOfInt .f64 d) 4604418534313441775 = some (fop .mul .f64 (floatOfInt .f64 d) 4604418534313441775) ∧
    floatBits .add .f64 (fop .mul .f64 4611686018427387904 (fop .mul .f64 (sOf X) (Qf (uOf X) 13))) (fop .mul .f64 (floatOfInt .f64 d) 4604418534313441775) = some (logS X d) ∧ Bd .f64 (logS X d) (pb 9) := by
  have hX : Bd .f64 X (pb 1) := bd_lit ⟨by omega, by unfold pb; omega, by decide +kernel⟩
  have a1 := subf hX one_bd (show addB .f64 (pb 1) (pb 0) ≤ pb 2 by decide +kernel) (pb_lt (by decide))
  have a2 := addf hX one_bd (show addB .f64 (pb 1) (pb 0) ≤ pb 2 by decide +kernel) (pb_lt (by decide))
  have b1 := add_ge (x := X) (y := 4607182418800017408) (by omega) (by omega)
  have b2 : fop .add .f64 X 4607182418800017408 % 9223372036854775808 = fop .add .f64 X 4607182418800017408 := Nat.mod_eq_of_lt (by omega)
  -- the difference is at most a half
  have a3 : Bd .f64 (fop .sub .f64 X 4607182418800017408) (pb (-1)) := by
    obtain ⟨s, hs⟩ := sub_pos (x := X) (y := 4607182418800017408) (by omega) (by omega)
    rw [fop_of_rel hs]
    refine word_bd (k := .f64) ?_ (pb_lt (by decide))
    have v1 : val double X ≤ val double 4609434218613702656 := val_le _ (by omega)
    have v2 : val double 4604930618986332160 ≤ val double X := val_le _ h1
    have v3 : ((val double X : Int) - (val double 4607182418800017408 : Int)).natAbs ≤ val double 4609434218613702656 - val double 4607182418800017408 := by
      have w1 : val double 4607182418800017408 - val double 4604930618986332160 ≤ val double 4609434218613702656 - val double 4607182418800017408 := by decide +kernel
      have w2 : val double 4604930618986332160 ≤ val double 4607182418800017408 := by decide +kernel
      have w3 : val double 4607182418800017408 ≤ val double 4609434218613702656 := by decide +kernel
      generalize val double 4609434218613702656 = p at *
      generalize val double 4607182418800017408 = q at *
      generalize val double 4604930618986332160 = r at *
      generalize val double X = x at *
      omega
    exact Nat.le_trans (rg_mono_at double (-1074) v3) (show rg double (val double 4609434218613702656 - val double 4607182418800017408) (-1074) ≤ pb (-1) by decide +kernel)
  have a4 := divf a3 a2.2 (by rw [b2]; exact b1.1) (show dblB .f64 (pb (-1)) ≤ pb 0 by decide +kernel) (pb_lt (by decide))
  have a5 := mulf a4.2 a4.2 (show mulB .f64 (pb 0) (pb 0) ≤ pb 0 by decide +kernel) (pb_lt (by decide))
  have a6 := (q_ok a5.2 13 (Nat.le_refl _)).mono (qb_ok 13 (by decide)).1 (pb_lt (by decide))
  have a7 := mulf a4.2 a6 (show mulB .f64 (pb 0) (pb 5) ≤ pb 5 by decide +kernel) (pb_lt (by decide))
  have a8 := mulf (show Bd .f64 4611686018427387904 (pb 1) from bd_lit (by decide +kernel)) a7.2 (show mulB .f64 (pb 1) (pb 5) ≤ pb 6 by decide +kernel) (pb_lt (by decide))
  have hd : Bd .f64 (floatOfInt .f64 d) (pb 8) := by
    have := small_int (d + 200).toNat (by omega)
    rw [show (((d + 200).toNat : Int) - 200) = d by omega] at this
    exact bd_lit this
  have a9 := mulf hd (show Bd .f64 4604418534313441775 (pb 0) from bd_lit (by decide +kernel)) (show mulB .f64 (pb 8) (pb 0) ≤ pb 8 by decide +kernel) (pb_lt (by decide))
  have a10 := addf a8.2 a9.2 (show addB .f64 (pb 6) (pb 8) ≤ pb 9 by decide +kernel) (pb_lt (by decide))
  exact ⟨a1.1, a2.1, a4.1, a5.1, a5.2, a7.1, a8.1, a9.1, a10.1, a10.2⟩

/-- how often the number is halved, less how often doubled -/
def logD (x : Nat) : Int := ((x : Int) - 4604930618986332160) / 4503599627370496
def logX (x : Nat) : Nat := ((x : Int) - logD x * 4503599627370496).toNat
def logF (x : Nat) : Nat := logS (logX x) (logD x)
theorem log_unique {x X : Nat} {d : Int} (h : (X : Int) + d * 4503599627370496 = x) (h1 : 4604930618986332160 ≤ X) (h2 : X < 4609434218613702656) : logD x = d ∧ logX x = X := by
  have e : logD x = d := by unfold logD; omega
  exact ⟨e, by unfold logX; rw [e]; omega⟩
end Fl
end Go.Proofs.Ytfihnnhgegdjkaa
