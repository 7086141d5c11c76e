/- Quarters of turns, as both texts take them away. Imports nothing of the translation. -/
import Derived.Test.YthdbjdpkckmbeabFs
set_option linter.unusedVariables false
namespace Go.Proofs.Ythdbjdpkckmbeab
namespace Fl
open Ieee

/-- sums that are not below zero, of numbers not both below: no sign -/
theorem add_nonneg {x y A C : Nat} (hx : Bd .f64 x A) (hy : Bd .f64 y C) (hs : y < 9223372036854775808) (h : 0 ≤ sv x + sv y) : floatBits .add .f64 x y = some (rg double (sv x + sv y).natAbs (-1074)) := by
  obtain ⟨s, m, u, hm, hu, _, hss⟩ := hx.read
  obtain ⟨t, n, v, hn, hv, _, ht⟩ := hy.read
  rw [least64] at hm hn
  rw [signWeight64, decide_eq_false (by omega)] at ht
  subst ht
  have e1 := signed_sv (x := x) (A := A) hu hss
  have e2 := signed_sv (x := y) (A := C) hv (s := false) (by rw [signWeight64, decide_eq_false (by omega)])
  obtain ⟨base, hb⟩ : ∃ base, min (-1074 + (u : Int)) (-1074 + (v : Int)) = base := ⟨_, rfl⟩
  have k1 : signed s m u = signed s m (-1074 + (u : Int) - base).toNat * ((2 ^ (base + 1074).toNat : Nat) : Int) := by rw [signed_scale]; exact congrArg (signed s m) (by omega)
  have k2 : signed false n v = signed false n (-1074 + (v : Int) - base).toNat * ((2 ^ (base + 1074).toNat : Nat) : Int) := by rw [signed_scale]; exact congrArg (signed false n) (by omega)
  have hp : (0 : Int) < ((2 ^ (base + 1074).toNat : Nat) : Int) := by have := Nat.two_pow_pos (base + 1074).toNat; omega
  show double.add x y = _
  unfold Format.add
  rw [show double.read x = _ from hm, show double.read y = _ from hn]
  unfold Datum.sum
  dsimp only
  rw [Option.map_some, write_rg64, hb]
  generalize signed s m (-1074 + (u : Int) - base).toNat = M at *
  generalize signed false n (-1074 + (v : Int) - base).toNat = N at *
  have hsum : sv x + sv y = (M + N) * ((2 ^ (base + 1074).toNat : Nat) : Int) := by rw [← e1, ← e2, k1, k2, ← Int.add_mul]
  have hMN : 0 ≤ M + N := by
    rw [hsum] at h
    exact Int.nonneg_of_mul_nonneg_left h hp
  have hneg : (if M + N = 0 then s && false else decide (M + N < 0)) = false := by
    split
    · exact Bool.and_false s
    · exact decide_eq_false (by omega)
  rw [hneg, word_false]
  refine congrArg some (rg_at _ base (by omega) _ ?_)
  rw [hsum, Int.natAbs_mul, Int.natAbs_natCast, Nat.shiftLeft_eq]
theorem sub_nonneg {x y A C : Nat} (hx : Bd .f64 x A) (hy : Bd .f64 y C) (hs : x < 9223372036854775808) (h : 0 ≤ sv x - sv y) : floatBits .sub .f64 x y = some (rg double (sv x - sv y).natAbs (-1074)) := by
  obtain ⟨s, m, u, hm, hu, _, hss⟩ := hx.read
  obtain ⟨t, n, v, hn, hv, _, ht⟩ := hy.read
  rw [least64] at hm hn
  rw [signWeight64, decide_eq_false (by omega)] at hss
  subst hss
  have e1 := signed_sv (x := x) (A := A) hu (s := false) (by rw [signWeight64, decide_eq_false (by omega)])
  have e2 := signed_sv (x := y) (A := C) hv ht
  obtain ⟨base, hb⟩ : ∃ base, min (-1074 + (u : Int)) (-1074 + (v : Int)) = base := ⟨_, rfl⟩
  have k1 : signed false m u = signed false m (-1074 + (u : Int) - base).toNat * ((2 ^ (base + 1074).toNat : Nat) : Int) := by rw [signed_scale]; exact congrArg (signed false m) (by omega)
  have k2 : signed t n v = signed t n (-1074 + (v : Int) - base).toNat * ((2 ^ (base + 1074).toNat : Nat) : Int) := by rw [signed_scale]; exact congrArg (signed t n) (by omega)
  have hp : (0 : Int) < ((2 ^ (base + 1074).toNat : Nat) : Int) := by have := Nat.two_pow_pos (base + 1074).toNat; omega
  show double.sub x y = _
  unfold Format.sub
  rw [show double.read x = _ from hm, show double.read y = _ from hn]
  unfold Datum.opposite Datum.sum
  dsimp only
  rw [Option.map_some, write_rg64, hb, signed_not, ← Int.sub_eq_add_neg]
  generalize signed false m (-1074 + (u : Int) - base).toNat = M at *
  generalize signed t n (-1074 + (v : Int) - base).toNat = N at *
  have hsum : sv x - sv y = (M - N) * ((2 ^ (base + 1074).toNat : Nat) : Int) := by rw [← e1, ← e2, k1, k2, ← Int.sub_mul]
  have hMN : 0 ≤ M - N := by
    rw [hsum] at h
    exact Int.nonneg_of_mul_nonneg_left h hp
  have hneg : (if M - N = 0 then false && !t else decide (M - N < 0)) = false := by
    split
    · rfl
    · exact decide_eq_false (by omega)
  rw [hneg, word_false]
  refine congrArg some (rg_at _ base (by omega) _ ?_)
  rw [hsum, Int.natAbs_mul, Int.natAbs_natCast, Nat.shiftLeft_eq]

/-- from 0 to R, without a sign but for a zero -/
def Pos (x R : Nat) : Prop := (x ≤ R ∨ x = 9223372036854775808) ∧ R < 9218868437227405312
theorem Pos.bd {x R : Nat} (h : Pos x R) : Bd .f64 x R := by
  obtain ⟨h | h, h2⟩ := h
  · exact bd_lit ⟨by omega, by rw [Nat.mod_eq_of_lt (by omega)]; exact h, h2⟩
  · subst h; exact bd_lit ⟨by decide, Nat.zero_le _, h2⟩
theorem sv_pos {x : Nat} (h : x < 9223372036854775808) : sv x = val double x := by
  unfold sv
  rw [if_neg (by omega), Nat.mod_eq_of_lt h]
theorem f1_pos {y : Nat} (h1 : y < 18446744073709551616) (h2 : y % 9223372036854775808 < 4841369599423283200) : Pos (f1 y) 4607182418800017408 := by
  obtain ⟨_, _, hb, _, _⟩ := turn_steps h1 h2
  have hr := hb.2.1
  have hl := hb.1
  rw [signWeight64] at hr hl
  have hp0 : pb 0 = 4607182418800017408 := by decide +kernel
  rw [hp0] at hr
  have hord : (FloatKind.f64.format.order (f0 y) 0 == some .lt) = decide (9223372036854775808 < f0 y) := by
    rw [order_key .f64 (wf_of64 (by omega)) (by decide) (by rw [isNan64]; exact decide_eq_false (by omega)) (by decide +kernel), show key .f64 0 = 0 from by decide +kernel, some_beq, compare_lt]
    congr 1
    unfold key sg
    rw [signWeight64]
    apply propext
    by_cases c : 9223372036854775808 ≤ f0 y
    · rw [decide_eq_true c, if_pos rfl]; omega
    · rw [decide_eq_false c, if_neg (by decide)]; omega
  unfold f1
  rw [hord]
  by_cases c : 9223372036854775808 < f0 y
  · rw [if_pos (decide_eq_true c)]
    have hsx : sv (f0 y) = -(val double (f0 y % 9223372036854775808) : Int) := by unfold sv; rw [if_pos (by omega)]
    have hv : val double (f0 y % 9223372036854775808) ≤ val double 4607182418800017408 := val_le _ hr
    have hs1 : sv 4607182418800017408 = val double 4607182418800017408 := sv_pos (by decide)
    have hadd := add_nonneg hb one_bd (by decide) (by rw [hsx, hs1]; omega)
    rw [fop_of_rel hadd]
    refine ⟨.inl ?_, by decide⟩
    refine Nat.le_trans (rg_mono_at double (-1074) (n := val double 4607182418800017408) ?_) (show rg double (val double 4607182418800017408) (-1074) ≤ 4607182418800017408 by decide +kernel)
    rw [hsx, hs1]
    omega
  · rw [if_neg (by rw [decide_eq_false c]; decide)]
    refine ⟨?_, by decide⟩
    by_cases e : f0 y = 9223372036854775808
    · exact .inr e
    · left; omega

/-! ### the quarters -/
def qrtB (p : Nat) : Bool := FloatKind.f64.format.order p 4598175219545276416 == some .gt || FloatKind.f64.format.order p 4598175219545276416 == some .eq
def itF (g : Nat) : Nat → Nat
  | 0 => g
  | q + 1 => fop .sub .f64 (itF g q) 4598175219545276416
def RF : Nat → Nat
  | 0 => 4607182418800017408
  | 1 => 4604930618986332160
  | 2 => 4602678819172646912
  | 3 => 4598175219545276416
  | _ => 0
theorem rf_ok : ∀ q, q < 4 → rg double (val double (RF q) - val double 4598175219545276416) (-1074) ≤ RF (q + 1) := by decide +kernel
theorem rf_lt : ∀ q, q < 5 → RF q ≤ 4607182418800017408 := by decide +kernel
theorem quarter_bd : Bd .f64 4598175219545276416 4598175219545276416 := bd_lit (by decide)
theorem qrt_pos {p R : Nat} (h : Pos p R) : qrtB p = decide (4598175219545276416 ≤ p ∧ p < 9223372036854775808) := by
  obtain ⟨h | h, h2⟩ := h
  · unfold qrtB
    rw [geq_pos (by omega) (by decide)]
    congr 1
    apply propext
    omega
  · subst h
    decide +kernel
/-- one quarter taken away -/
theorem it_step {p : Nat} {q : Nat} (hq : q < 4) (h : Pos p (RF q)) (hg : qrtB p = true) : floatBits .sub .f64 p 4598175219545276416 = some (fop .sub .f64 p 4598175219545276416) ∧ Pos (fop .sub .f64 p 4598175219545276416) (RF (q + 1)) := by
  rw [qrt_pos h] at hg
  obtain ⟨g1, g2⟩ := of_decide_eq_true hg
  have hle : p ≤ RF q := by
    rcases h.1 with h | h
    · exact h
    · omega
  have hs1 := sv_pos g2
  have hs2 : sv 4598175219545276416 = val double 4598175219545276416 := sv_pos (by decide)
  have hv := val_le double g1
  have hv2 := val_le double hle
  have hsub := sub_nonneg h.bd quarter_bd g2 (by rw [hs1, hs2]; omega)
  refine ⟨by rw [fop_of_rel hsub]; exact hsub, .inl ?_, Nat.lt_of_le_of_lt (rf_lt (q + 1) (by omega)) (by decide)⟩
  rw [fop_of_rel hsub]
  refine Nat.le_trans (rg_mono_at double (-1074) ?_) (rf_ok q hq)
  rw [hs1, hs2]
  omega
theorem it_end {p : Nat} (h : Pos p (RF 4)) : qrtB p = false := by
  rw [qrt_pos h]
  refine decide_eq_false ?_
  have h1 := h.1
  rw [show RF 4 = 0 from rfl] at h1
  omega
/-- q is how many quarters there are -/
def Qn (g q : Nat) : Prop := (∀ i, i < q → qrtB (itF g i) = true) ∧ qrtB (itF g q) = false
theorem Qn.same {g q r : Nat} (h : Qn g q) (k : Qn g r) : q = r := by
  by_cases h1 : q < r
  · have := k.1 q h1; rw [h.2] at this; cases this
  · by_cases h2 : r < q
    · have := h.1 r h2; rw [k.2] at this; cases this
    · omega

def cosP (p : Nat) : Nat := sinF (f1 (fop .sub .f64 4598175219545276416 p))
def sinQ (p : Nat) : Nat := sinF (f1 p)
def re4 (q p : Nat) : Nat := if q = 1 then fop .sub .f64 0 (sinQ p) else if q = 2 then fop .sub .f64 0 (cosP p) else if q = 3 then sinQ p else cosP p
def im4 (q p : Nat) : Nat := if q = 1 then cosP p else if q = 2 then fop .sub .f64 0 (sinQ p) else if q = 3 then fop .sub .f64 0 (cosP p) else sinQ p
theorem ph_steps {p : Nat} (h : Pos p 4607182418800017408) :
    floatBits .sub .f64 4598175219545276416 p = some (fop .sub .f64 4598175219545276416 p) ∧ (fop .sub .f64 4598175219545276416 p < 18446744073709551616 ∧ fop .sub .f64 4598175219545276416 p % 9223372036854775808 < 4841369599423283200) ∧
    (p < 18446744073709551616 ∧ p % 9223372036854775808 < 4841369599423283200) ∧
    floatBits .sub .f64 0 (sinQ p) = some (fop .sub .f64 0 (sinQ p)) ∧ floatBits .sub .f64 0 (cosP p) = some (fop .sub .f64 0 (cosP p)) ∧
    ∀ q, (∃ v, floatToFloatBits .f64 (re4 q p) .f32 = some v) ∧ ∃ v, floatToFloatBits .f64 (im4 q p) .f32 = some v := by
  have hb : Bd .f64 p (pb 0) := h.bd.mono (by decide +kernel) (pb_lt (by decide))
  have a1 := subf (quarter_bd.mono (show 4598175219545276416 ≤ pb 0 by decide +kernel) (pb_lt (by decide))) hb (show addB .f64 (pb 0) (pb 0) ≤ pb 1 by decide +kernel) (pb_lt (by decide))
  have hp1 : pb 1 < 4841369599423283200 := by decide +kernel
  have hp0 : pb 0 < 4841369599423283200 := by decide +kernel
  have c1 := a1.2.1
  have c2 := a1.2.2.1
  have c3 := hb.1
  have c4 := hb.2.1
  rw [signWeight64] at c1 c2 c3 c4
  have k1 : fop .sub .f64 4598175219545276416 p < 18446744073709551616 ∧ fop .sub .f64 4598175219545276416 p % 9223372036854775808 < 4841369599423283200 := ⟨by omega, by omega⟩
  have k2 : p < 18446744073709551616 ∧ p % 9223372036854775808 < 4841369599423283200 := ⟨by omega, by omega⟩
  have s1 : Bd .f64 (cosP p) (pb 119) := sinF_bd (turn_steps k1.1 k1.2).2.2.2.2
  have s2 : Bd .f64 (sinQ p) (pb 119) := sinF_bd (turn_steps k2.1 k2.2).2.2.2.2
  have z0 : Bd .f64 0 (pb 0) := bd_lit (by decide +kernel)
  have a2 := subf z0 s2 (show addB .f64 (pb 0) (pb 119) ≤ pb 120 by decide +kernel) (pb_lt (by decide))
  have a3 := subf z0 s1 (show addB .f64 (pb 0) (pb 119) ≤ pb 120 by decide +kernel) (pb_lt (by decide))
  have n1 : ∃ v, floatToFloatBits .f64 (cosP p) .f32 = some v := by obtain ⟨v, hv, _⟩ := narrow_ok s1 (by decide +kernel); exact ⟨v, hv⟩
  have n2 : ∃ v, floatToFloatBits .f64 (sinQ p) .f32 = some v := by obtain ⟨v, hv, _⟩ := narrow_ok s2 (by decide +kernel); exact ⟨v, hv⟩
  have n3 : ∃ v, floatToFloatBits .f64 (fop .sub .f64 0 (sinQ p)) .f32 = some v := by obtain ⟨v, hv, _⟩ := narrow_ok a2.2 (by decide +kernel); exact ⟨v, hv⟩
  have n4 : ∃ v, floatToFloatBits .f64 (fop .sub .f64 0 (cosP p)) .f32 = some v := by obtain ⟨v, hv, _⟩ := narrow_ok a3.2 (by decide +kernel); exact ⟨v, hv⟩
  refine ⟨a1.1, k1, k2, a2.1, a3.1, fun q => ⟨?_, ?_⟩⟩
  · unfold re4; split
    · exact n3
    · split
      · exact n4
      · split
        · exact n2
        · exact n1
  · unfold im4; split
    · exact n1
    · split
      · exact n3
      · split
        · exact n4
        · exact n2
end Fl
end Go.Proofs.Ythdbjdpkckmbeab
