/- Narrowing of bounded numbers, widening in order, square roots, halves and doubles. Imports nothing of the translation. -/
import Derived.Test.YtfihnnhgegdjkaaFm
set_option linter.unusedVariables false
namespace Go.Proofs.Ytfihnnhgegdjkaa
namespace Fl
open Ieee

theorem least64 : (FloatKind.format .f64).leastPlace = -1074 := by decide +kernel
theorem least32 : (FloatKind.format .f32).leastPlace = -149 := by decide +kernel
theorem val64_1 : val (FloatKind.format .f64) 4607182418800017408 = 2 ^ 1074 := by decide +kernel
theorem fop_of_rel {op : BinOp} {k : FloatKind} {x y v : Nat} (h : floatBits op k x y = some v) : fop op k x y = v := by unfold fop; rw [h]; rfl

/-- 32-bit numbers in order are 64-bit ones in order -/
theorem wide_bd {x u R W : Nat} (hx : x < 4294967296) (h : FconvR .f32 x .f64 u) (hR : x % 2147483648 ≤ R) (hR2 : R < 2139095040) (hW : floatToFloatBits .f32 R .f64 = some W) (hW2 : W < 9218868437227405312) : Bd .f64 u W := by
  have hn : isNan .f32 x = false := by rw [isNan32]; exact decide_eq_false (by omega)
  have hw := wide_some h hn
  obtain ⟨h1, _, h3⟩ := wide_parts hn hw
  have hn2 : isNan .f32 (x % 2147483648) = false := by rw [isNan32]; exact decide_eq_false (by omega)
  have hnR : isNan .f32 R = false := by rw [isNan32]; exact decide_eq_false (by omega)
  have ho := wide_order h1 hW hn2 hnR
  have hu4 : isNan .f64 (u % 9223372036854775808) = false := by
    have := isNan_abs .f64 u
    rw [signWeight64] at this
    rw [this, wide_nan h, hn]
  have hW4 : isNan .f64 W = false := by rw [isNan64]; exact decide_eq_false (by omega)
  have o1 : double.order (u % 9223372036854775808) W = some (compare (key .f64 (u % 9223372036854775808)) (key .f64 W)) := order_key .f64 (wf_of64 (by omega)) (wf_of64 (by omega)) hu4 hW4
  have o2 : single.order (x % 2147483648) R = some (compare (key .f32 (x % 2147483648)) (key .f32 R)) := order_key .f32 (wf_of32 (by omega)) (wf_of32 (by omega)) hn2 hnR
  rw [o1, o2, key_abs .f64 (by rw [signWeight64]; omega), key_abs .f64 (by rw [signWeight64]; omega), key_abs .f32 (by rw [signWeight32]; omega), key_abs .f32 (by rw [signWeight32]; omega)] at ho
  have hc := Option.some.inj ho
  have hg := congrArg (fun c => c == Ordering.gt) hc
  simp only [compare_gt] at hg
  refine ⟨by rw [signWeight64]; omega, ?_, by rw [infRung64]; omega⟩
  rw [signWeight64]
  by_cases hle : u % 9223372036854775808 ≤ W
  · exact hle
  · rw [decide_eq_true (by omega), eq_comm] at hg
    have := of_decide_eq_true hg
    omega

theorem wide_ge {x u R W : Nat} (hx : x < 4294967296) (h : FconvR .f32 x .f64 u) (hR : R ≤ x % 2147483648) (hx2 : x % 2147483648 ≤ 2139095040) (hW : floatToFloatBits .f32 R .f64 = some W) (hW2 : W ≤ 9218868437227405312) : W ≤ u % 9223372036854775808 ∧ u / 9223372036854775808 = x / 2147483648 ∧ u % 9223372036854775808 ≤ 9218868437227405312 := by
  have hn : isNan .f32 x = false := by rw [isNan32]; exact decide_eq_false (by omega)
  have hw := wide_some h hn
  obtain ⟨h1, h5, h3⟩ := wide_parts hn hw
  have hn2 : isNan .f32 (x % 2147483648) = false := by rw [isNan32]; exact decide_eq_false (by omega)
  have hnR : isNan .f32 R = false := by rw [isNan32]; exact decide_eq_false (by omega)
  have ho := wide_order h1 hW hn2 hnR
  have hu4 : isNan .f64 (u % 9223372036854775808) = false := by
    have := isNan_abs .f64 u
    rw [signWeight64] at this
    rw [this, wide_nan h, hn]
  have hle := hu4
  rw [isNan64] at hle
  have hle2 := of_decide_eq_false hle
  have hW4 : isNan .f64 W = false := by rw [isNan64]; exact decide_eq_false (by omega)
  have o1 : double.order (u % 9223372036854775808) W = some (compare (key .f64 (u % 9223372036854775808)) (key .f64 W)) := order_key .f64 (wf_of64 (by omega)) (wf_of64 (by omega)) hu4 hW4
  have o2 : single.order (x % 2147483648) R = some (compare (key .f32 (x % 2147483648)) (key .f32 R)) := order_key .f32 (wf_of32 (by omega)) (wf_of32 (by omega)) hn2 hnR
  rw [o1, o2, key_abs .f64 (by rw [signWeight64]; omega), key_abs .f64 (by rw [signWeight64]; omega), key_abs .f32 (by rw [signWeight32]; omega), key_abs .f32 (by rw [signWeight32]; omega)] at ho
  have hc := Option.some.inj ho
  have hg := congrArg (fun c => c == Ordering.lt) hc
  simp only [compare_lt] at hg
  refine ⟨?_, ?_, by omega⟩
  · by_cases hle : W ≤ u % 9223372036854775808
    · exact hle
    · rw [decide_eq_true (by omega), eq_comm] at hg
      have := of_decide_eq_true hg
      omega
  · have a1 : u / 9223372036854775808 = 0 ∨ u / 9223372036854775808 = 1 := by omega
    have a2 : x / 2147483648 = 0 ∨ x / 2147483648 = 1 := by omega
    rcases a1 with a1 | a1 <;> rcases a2 with a2 | a2 <;> rw [a1, a2] at h5 <;> first | (rw [a1, a2]; done) | (exact absurd h5 (by decide))

/-- a 64-bit number that is not too great for 32 bits is narrowed to just one -/
theorem narrow_ok {a A : Nat} (h : Bd .f64 a A) (hA : A ≤ 5179139571476070400) : ∃ v, floatToFloatBits .f64 a .f32 = some v ∧ Bd .f32 v 2130706432 := by
  obtain ⟨s, m, u, hm, hu, hv, _⟩ := h.read
  have hq : rg single m (double.leastPlace + (u : Int)) ≤ 2130706432 := by
    refine Nat.le_trans (rg_mono single (c := double.leastPlace) (g := double.leastPlace) (n := val double 5179139571476070400) (by omega) (by omega) ?_) (show rg single (val double 5179139571476070400) double.leastPlace ≤ 2130706432 by decide +kernel)
    rw [show (double.leastPlace + (u : Int) - double.leastPlace).toNat = u by omega, show (double.leastPlace - double.leastPlace).toNat = 0 by omega, Nat.shiftLeft_zero]
    exact Nat.le_trans (Nat.le_of_eq hu) (Nat.le_trans hv (val_le _ hA))
  have hb : Bd .f32 (single.word s (rg single m (double.leastPlace + (u : Int)))) 2130706432 := word_bd (k := .f32) hq (by decide +kernel)
  refine ⟨_, ?_, hb⟩
  unfold floatToFloatBits
  rw [if_neg (by decide), show FloatKind.f64.decode a = _ from hm]
  have hw : FloatKind.f32.encode (.number s m (FloatKind.f64.format.leastPlace + (u : Int))) = single.word s (rg single m (double.leastPlace + (u : Int))) := write_rg .f32 s m _
  have hi : (FloatKind.f32.decode (FloatKind.f32.encode (.number s m (FloatKind.f64.format.leastPlace + (u : Int))))).isInfinity = false := by
    rw [hw]
    obtain ⟨s2, m2, u2, hm2, _⟩ := hb.read
    rw [show FloatKind.f32.decode _ = _ from hm2]
    rfl
  dsimp only
  rw [hi, hw]
  rfl

/-- narrowing of the same numbers gives the same ones, where none is too great -/
theorem fconv_same {a b q r : Nat} (h : SameF .f64 a b) (ha : isNan .f64 a = true ∨ ∃ v, floatToFloatBits .f64 a .f32 = some v) (h1 : FconvR .f64 a .f32 q) (h2 : FconvR .f64 b .f32 r) : SameF .f32 q r := by
  have hnone : ∀ {x : Nat}, isNan .f64 x = true → floatToFloatBits .f64 x .f32 = none := by
    intro x hx
    obtain ⟨s, t, e⟩ := isNaN_iff hx
    unfold floatToFloatBits
    rw [if_neg (by decide), show FloatKind.f64.decode x = _ from e]
  rcases h.cases with ⟨n1, n2⟩ | ⟨n1, n2, rfl⟩
  · have e1 : isNan .f32 q = true := by
      rcases h1 with h | ⟨_, h, _⟩
      · rw [hnone n1] at h; cases h
      · exact h n1
    have e2 : isNan .f32 r = true := by
      rcases h2 with h | ⟨_, h, _⟩
      · rw [hnone n2] at h; cases h
      · exact h n2
    show cn _ q = cn _ r
    rw [cn_nan e1, cn_nan e2]
  · rcases ha with ha | ⟨v, hv⟩
    · rw [ha] at n1; cases n1
    · rcases h1 with h1 | ⟨h1, _⟩
      · rcases h2 with h2 | ⟨h2, _⟩
        · rw [hv] at h1 h2; cases h1; cases h2; rfl
        · rw [hv] at h2; cases h2
      · rw [hv] at h1; cases h1

theorem narrow_nan {x r : Nat} (h : FconvR .f64 x .f32 r) (hx : isNan .f64 x = true) : isNan .f32 r = true := by
  rcases h with h | ⟨_, h, _⟩
  · obtain ⟨s, t, e⟩ := isNaN_iff hx
    unfold floatToFloatBits at h
    rw [if_neg (by decide), show FloatKind.f64.decode x = _ from e] at h
    cases h
  · exact h hx

/-! ### square roots -/
theorem rootFrom_sq (n : Nat) : ∀ (todo root : Nat), root * root ≤ n → Datum.rootFrom n todo root * Datum.rootFrom n todo root ≤ n
  | 0, root, h => h
  | todo + 1, root, h => by
    unfold Datum.rootFrom
    dsimp only
    split
    · exact rootFrom_sq n todo _ (by assumption)
    · exact rootFrom_sq n todo _ h

theorem sqrt_bd {x A v : Nat} (hx : Bd .f64 x A) (hA : A < 5183643171103440896) (h : double.sqrt x = some v) : Bd .f64 v 4899916394579099648 := by
  obtain ⟨s, m, u, hm, hu, hv, _⟩ := hx.read
  have hv2 : m <<< u < 2 ^ 1202 := by
    have h1 : val double A < val double 5183643171103440896 := val_lt _ hA
    rw [show val double 5183643171103440896 = 2 ^ 1202 by decide +kernel] at h1
    rw [hu]
    exact Nat.lt_of_le_of_lt hv h1
  obtain ⟨Z, hZ⟩ : ∃ Z : Nat, Z = 1202 := ⟨_, rfl⟩
  rw [← hZ] at hv2
  unfold Format.sqrt at h
  rw [show double.read x = _ from hm, show (FloatKind.format .f64).leastPlace = -1074 from least64] at h
  unfold Datum.root at h
  dsimp only at h
  split at h
  · cases h
    show Bd .f64 (FloatKind.f64.format.write _) _
    rw [write_rg]
    refine word_bd ?_ (by decide +kernel)
    rename_i h0
    subst h0
    show (double.nearest false 0 _) ≤ _
    unfold Format.nearest
    rw [if_pos rfl]
    exact Nat.zero_le _
  · rename_i h0
    split at h
    · cases h
    · generalize hmore : 2 * (double.fractionBits + 2) - m.log2 + ((-1074 + (u : Int) - (2 * (double.fractionBits + 2) - m.log2 : Nat)) % 2).toNat = more at h
      have hpar : (-1074 + (u : Int) - (more : Int)) % 2 = 0 := by omega
      have hsq := rootFrom_sq (m <<< more) ((m <<< more).log2 / 2 + 1) 0 (by simp)
      generalize Datum.rootFrom (m <<< more) ((m <<< more).log2 / 2 + 1) 0 = whole at h hsq
      have hst : (whole * whole != m <<< more).toNat ≤ 1 := by cases (whole * whole != m <<< more) <;> decide
      generalize (whole * whole != m <<< more).toNat = st at h hst
      cases h
      show Bd .f64 (FloatKind.f64.format.write _) _
      rw [write_rg]
      refine word_bd ?_ (by decide +kernel)
      obtain ⟨hh, hhe⟩ : ∃ hh : Int, -1074 + (u : Int) - (more : Int) = 2 * hh := ⟨(-1074 + (u : Int) - (more : Int)) / 2, by omega⟩
      rw [hhe, show 2 * hh / 2 - 1 = hh - 1 by omega]
      -- the radicand is below 2 ^ (128 - 2 hh)
      have hlog : m.log2 + u < Z := by
        have h1 := Nat.log2_self_le h0
        have h2 : 2 ^ (m.log2 + u) < 2 ^ Z := by
          rw [Nat.pow_add]
          refine Nat.lt_of_le_of_lt (Nat.mul_le_mul_right _ h1) ?_
          rw [← Nat.shiftLeft_eq]; exact hv2
        exact (Nat.pow_lt_pow_iff_right (by decide)).1 h2
      have hmb : 2 * (double.fractionBits + 2) = 108 := rfl
      have hhi : hh ≤ 10 := by omega
      have hn : m <<< more < 2 ^ (128 - 2 * hh).toNat := by
        refine Nat.lt_of_mul_lt_mul_right (a := 2 ^ (1074 + 2 * hh).toNat) ?_
        by_cases hc : 0 ≤ 1074 + 2 * hh
        · rw [← Nat.pow_add, show (128 - 2 * hh).toNat + (1074 + 2 * hh).toNat = Z by omega, Nat.shiftLeft_eq, Nat.mul_assoc, ← Nat.pow_add, show more + (1074 + 2 * hh).toNat = u by omega, ← Nat.shiftLeft_eq]
          exact hv2
        · rw [show (1074 + 2 * hh).toNat = 0 by omega, Nat.pow_zero, Nat.mul_one, Nat.mul_one, Nat.shiftLeft_eq]
          have h1 := Nat.lt_log2_self (n := m)
          calc m * 2 ^ more < 2 ^ (m.log2 + 1) * 2 ^ more := Nat.mul_lt_mul_of_pos_right h1 (Nat.two_pow_pos _)
            _ = 2 ^ (m.log2 + 1 + more) := by rw [← Nat.pow_add]
            _ ≤ _ := Nat.pow_le_pow_right (by decide) (by omega)
      have hw : whole < 2 ^ (64 - hh).toNat := by
        by_cases hlt : whole < 2 ^ (64 - hh).toNat
        · exact hlt
        · exfalso
          have h1 : 2 ^ (64 - hh).toNat * 2 ^ (64 - hh).toNat ≤ whole * whole := Nat.mul_le_mul (by omega) (by omega)
          rw [← Nat.pow_add, show (64 - hh).toNat + (64 - hh).toNat = (128 - 2 * hh).toNat by omega] at h1
          omega
      refine Nat.le_trans (rg_mono double (c := hh - 1) (n := 1) (g := 65) (by omega) (by omega) ?_) (show rg double 1 65 ≤ 4899916394579099648 by decide +kernel)
      rw [show (hh - 1 - (hh - 1)).toNat = 0 by omega, Nat.shiftLeft_zero, Nat.one_shiftLeft, show (65 - (hh - 1)).toNat = (64 - hh).toNat + 2 by omega, Nat.pow_add]
      omega
end Fl
end Go.Proofs.Ytfihnnhgegdjkaa
