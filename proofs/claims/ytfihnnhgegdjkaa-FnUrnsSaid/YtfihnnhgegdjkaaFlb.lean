/- Floats by their bits: the absolute value, the sign, subnormal and finite numbers. Imports nothing of the translation. -/
import Derived.Test.YtfihnnhgegdjkaaFl
import Derived.Laws.BitsAllLaws
set_option linter.unusedVariables false
namespace Go.Proofs.Ytfihnnhgegdjkaa
namespace Fl
open Ieee

theorem ofInt_i64 (a : Nat) (ha : a < 9223372036854775808) : (BitVec.ofInt 64 (a : Int)).toNat = a := by
  rw [BitVec.ofInt_natCast, BitVec.toNat_ofNat]; exact Nat.mod_eq_of_lt (by omega)
theorem i64_and_nat (a b : Nat) (ha : a < 9223372036854775808) (hb : b < 9223372036854775808) : bits .and .i64 (a : Int) (b : Int) = ((a &&& b : Nat) : Int) := by
  have hx : a &&& b < 2 ^ 63 := Nat.and_lt_two_pow _ (by omega)
  show IntKind.i64.wrap ((BitVec.ofInt 64 (a : Int) &&& BitVec.ofInt 64 (b : Int)).toNat : Int) = _
  rw [BitVec.toNat_and, ofInt_i64 a ha, ofInt_i64 b hb, IntKind.wrap_i64]
  omega

theorem and_mask (x i n : Nat) : x &&& ((2 ^ n - 1) * 2 ^ i) = x / 2 ^ i % 2 ^ n * 2 ^ i := by
  apply Nat.eq_of_testBit_eq
  intro j
  rw [Nat.testBit_and, Nat.mul_comm _ (2 ^ i), Nat.mul_comm _ (2 ^ i), Nat.testBit_two_pow_mul, Nat.testBit_two_pow_mul, Nat.testBit_mod_two_pow, Nat.testBit_two_pow_sub_one, Nat.testBit_div_two_pow]
  by_cases h : i ≤ j
  · simp only [h, decide_true, Bool.true_and]
    rw [Nat.sub_add_cancel h, Bool.and_comm]
  · simp [h]

/-- the exponent's field of a 32-bit number -/
theorem exp32 (x : Nat) (h : x < 4294967296) : bits .and .i64 (x : Int) 2139095040 = ((x / 8388608 % 256 * 8388608 : Nat) : Int) := by
  have := i64_and_nat x 2139095040 (by omega) (by omega)
  rw [show ((2139095040 : Nat) : Int) = 2139095040 from rfl] at this
  rw [this, show (2139095040 : Nat) = (2 ^ 8 - 1) * 2 ^ 23 from rfl, and_mask]
theorem sign32 (x : Nat) (h : x < 4294967296) : bits .and .i64 (x : Int) 2147483648 = ((x / 2147483648 % 2 * 2147483648 : Nat) : Int) := by
  have := i64_and_nat x 2147483648 (by omega) (by omega)
  rw [show ((2147483648 : Nat) : Int) = 2147483648 from rfl] at this
  rw [this, show (2147483648 : Nat) = (2 ^ 1 - 1) * 2 ^ 31 from rfl, and_mask]
theorem abs64 (u : Nat) (h : u < 18446744073709551616) : bits .andNot .u64 (u : Int) 9223372036854775808 = ((u % 9223372036854775808 : Nat) : Int) := by
  have := u64_andNot_nat u 9223372036854775808 h (by omega)
  rw [show ((9223372036854775808 : Nat) : Int) = 9223372036854775808 from rfl] at this
  rw [this, show 18446744073709551615 - 9223372036854775808 = 2 ^ 63 - 1 from rfl, Nat.and_two_pow_sub_one_eq_mod]
theorem sgn64 (u : Nat) (h : u < 18446744073709551616) : bits .and .u64 (u : Int) 9223372036854775808 = ((u / 9223372036854775808 * 9223372036854775808 : Nat) : Int) := by
  have := u64_and_nat u 9223372036854775808 h (by omega)
  rw [show ((9223372036854775808 : Nat) : Int) = 9223372036854775808 from rfl] at this
  rw [this, show (9223372036854775808 : Nat) = (2 ^ 1 - 1) * 2 ^ 63 from rfl, and_mask]
  congr 2
  omega

/-- the absolute value of what a word stands for -/
theorem read_abs (f : Format) (x : Nat) : f.read (x % f.signWeight) = match f.read x with | .number _ m e => .number false m e | .infinity _ => .infinity false | .nan _ t => .nan false t := by
  have h1 : x % f.signWeight % f.signWeight = x % f.signWeight := Nat.mod_mod _ _
  have h2 : (x % f.signWeight / f.signWeight % 2 == 1) = false := by rw [Nat.div_eq_of_lt (Nat.mod_lt _ (sw_pos f))]; rfl
  unfold Format.read
  dsimp only
  rw [h1, h2]
  split
  · rfl
  · split
    · rfl
    · split <;> rfl
theorem isNan_abs (k : FloatKind) (x : Nat) : isNan k (x % k.format.signWeight) = isNan k x := by
  unfold isNan
  rw [read_abs]
  cases k.format.read x <;> rfl

theorem nearest_sign (f : Format) (s : Bool) (m : Nat) (e : Int) : f.nearest s m e = f.word s (f.nearest false m e) := by
  unfold Format.nearest
  dsimp only
  split
  · rfl
  · rfl
theorem nearest_false_le (f : Format) (m : Nat) (e : Int) : f.nearest false m e ≤ f.infRung := by
  unfold Format.nearest
  dsimp only
  split
  · exact Nat.zero_le _
  · exact Nat.min_le_right _ _

/-- the 64-bit number of a 32-bit one: its sign, and the rung that belongs to the absolute value -/
theorem wide_parts {x u : Nat} (hn : isNan .f32 x = false) (h : floatToFloatBits .f32 x .f64 = some u) :
    floatToFloatBits .f32 (x % 2147483648) .f64 = some (u % 9223372036854775808) ∧ (u / 9223372036854775808 % 2 == 1) = (x / 2147483648 % 2 == 1) ∧ u < 18446744073709551616 := by
  have hr := read_abs single x
  rw [show single.signWeight = 2147483648 from by decide +kernel] at hr
  have hs : ∀ y, (∃ s m e, single.read y = .number s m e ∧ s = (y / 2147483648 % 2 == 1)) ∨ (∃ s, single.read y = .infinity s ∧ s = (y / 2147483648 % 2 == 1)) ∨ ∃ s t, single.read y = .nan s t := by
    intro y
    unfold Format.read
    dsimp only
    rw [show single.signWeight = 2147483648 from by decide +kernel]
    split
    · exact .inl ⟨_, _, _, rfl, rfl⟩
    · split
      · exact .inl ⟨_, _, _, rfl, rfl⟩
      · split
        · exact .inr (.inl ⟨_, rfl, rfl⟩)
        · exact .inr (.inr ⟨_, _, rfl⟩)
  have key : ∀ (s : Bool) (q : Nat), q ≤ double.infRung → double.word s q % 9223372036854775808 = q ∧ (double.word s q / 9223372036854775808 % 2 == 1) = s ∧ double.word s q < 18446744073709551616 := by
    intro s q hq
    rw [show double.infRung = 9218868437227405312 from by decide +kernel] at hq
    unfold Format.word
    rw [show double.signWeight = 9223372036854775808 from by decide +kernel]
    cases s
    · rw [if_neg (by decide)]
      refine ⟨by omega, ?_, by omega⟩
      rw [show q / 9223372036854775808 % 2 = 0 by omega]; rfl
    · rw [if_pos rfl]
      refine ⟨by omega, ?_, by omega⟩
      rw [show (9223372036854775808 + q) / 9223372036854775808 % 2 = 1 by omega]; rfl
  rcases hs x with ⟨s, m, e, hx, hsx⟩ | ⟨s, hx, hsx⟩ | ⟨s, t, hx⟩
  · rw [hx] at hr
    have hi : (FloatKind.f64.decode (FloatKind.f64.encode (.number s m e))).isInfinity = false := by
      cases hh : (FloatKind.f64.decode (FloatKind.f64.encode (.number s m e))).isInfinity with
      | false => rfl
      | true =>
        unfold floatToFloatBits at h
        rw [if_neg (by decide), show FloatKind.f32.decode x = _ from hx] at h
        simp only [hh, if_true] at h
        cases h
    have hu : u = double.nearest s m e := by
      unfold floatToFloatBits at h
      rw [if_neg (by decide), show FloatKind.f32.decode x = _ from hx] at h
      simp only [hi] at h
      cases h; rfl
    have hn2 : isNan .f32 (x % 2147483648) = false := by
      have := isNan_abs .f32 x
      rw [signWeight32] at this
      rw [this, hn]
    obtain ⟨q, hq, _, _⟩ := widen (x % 2147483648) hn2
    have hq2 : q = double.nearest false m e := by
      unfold floatToFloatBits at hq
      rw [if_neg (by decide), show FloatKind.f32.decode (x % 2147483648) = _ from hr] at hq
      dsimp only at hq
      split at hq
      · cases hq
      · cases hq; rfl
    have hk := key s (double.nearest false m e) (nearest_false_le double m e)
    have hu2 : u = double.word s (double.nearest false m e) := by rw [hu, nearest_sign]
    rw [hq, hq2, hu2, hk.1, hk.2.1]
    exact ⟨rfl, hsx, hk.2.2⟩
  · rw [hx] at hr
    have hu : u = double.word s double.infRung := by
      unfold floatToFloatBits at h
      rw [if_neg (by decide), show FloatKind.f32.decode x = _ from hx] at h
      cases h; rfl
    have hk := key s double.infRung (Nat.le_refl _)
    rw [hu, hk.1, hk.2.1]
    refine ⟨?_, hsx, hk.2.2⟩
    unfold floatToFloatBits
    rw [if_neg (by decide), show FloatKind.f32.decode (x % 2147483648) = _ from hr]
    rfl
  · have : isNan .f32 x = true := by unfold isNan; rw [show FloatKind.f32.format.read x = _ from hx]; rfl
    rw [this] at hn; cases hn

theorem some_beq (a b : Ordering) : (some a == some b) = (a == b) := rfl
theorem compare_gt (a b : Int) : (compare a b == .gt) = decide (b < a) := by
  show (compareOfLessAndEq a b == .gt) = _
  unfold compareOfLessAndEq
  by_cases h : a < b
  · rw [if_pos h, decide_eq_false (by omega)]; rfl
  · rw [if_neg h]
    by_cases e : a = b
    · rw [if_pos e, decide_eq_false (by omega)]; rfl
    · rw [if_neg e, decide_eq_true (by omega)]; rfl
theorem compare_lt (a b : Int) : (compare a b == .lt) = decide (a < b) := by
  show (compareOfLessAndEq a b == .lt) = _
  unfold compareOfLessAndEq
  by_cases h : a < b
  · rw [if_pos h, decide_eq_true h]; rfl
  · rw [if_neg h, decide_eq_false h]
    by_cases e : a = b
    · rw [if_pos e]; rfl
    · rw [if_neg e]; rfl
theorem compare_eq (a b : Int) : (compare a b == .eq) = decide (a = b) := by
  show (compareOfLessAndEq a b == .eq) = _
  unfold compareOfLessAndEq
  by_cases h : a < b
  · rw [if_pos h, decide_eq_false (by omega)]; rfl
  · rw [if_neg h]
    by_cases e : a = b
    · rw [if_pos e, decide_eq_true e]; rfl
    · rw [if_neg e, decide_eq_false e]; rfl

theorem wf_of32 {b : Nat} (h : b < 4294967296) : (Lit.float .f32 b).wf = true := wf_of_lt .f32 b h
theorem wf_of64 {b : Nat} (h : b < 18446744073709551616) : (Lit.float .f64 b).wf = true := wf_of_lt .f64 b h
theorem key_abs (k : FloatKind) {b : Nat} (h : b < k.format.signWeight) : key k b = b := by
  unfold key
  rw [decide_eq_false (by omega), Nat.mod_eq_of_lt h]; rfl
theorem isNan32 (b : Nat) : isNan .f32 b = decide (2139095040 < b % 2147483648) := by
  have := isNan_iff .f32 b
  rw [infRung32, signWeight32] at this
  rw [Bool.eq_iff_iff, this, decide_eq_true_iff]
theorem isNan64 (b : Nat) : isNan .f64 b = decide (9218868437227405312 < b % 9223372036854775808) := by
  have := isNan_iff .f64 b
  rw [infRung64, signWeight64] at this
  rw [Bool.eq_iff_iff, this, decide_eq_true_iff]

/-- a 32-bit number is a zero -/
theorem zero32 (x : Nat) (h : x < 4294967296) : (FloatKind.f32.format.order x 0 == some .eq) = decide (x % 2147483648 = 0) := by
  cases hn : isNan .f32 x with
  | true =>
    rw [order_nan_left hn]
    rw [isNan32] at hn
    rw [decide_eq_false (by have := of_decide_eq_true hn; omega)]; rfl
  | false =>
    rw [order_key .f32 (wf_of32 h) (by decide) hn (by decide +kernel), show key .f32 0 = 0 from by decide +kernel]
    rw [some_beq, compare_eq]
    congr 1
    unfold key sg
    rw [signWeight32]
    apply propext
    split <;> omega

theorem order_lt_eq {x y : Nat} : (FloatKind.f64.format.order x y == some .lt) = (match FloatKind.f64.format.order x y with | some c => c == .lt | none => false) := by
  cases FloatKind.f64.format.order x y <;> rfl

/-- nearer to 0 than the least number that is not subnormal -/
theorem sub64 (x u : Nat) (hx : x < 4294967296) (h : FconvR .f32 x .f64 u) :
    (FloatKind.f64.format.order (u % 9223372036854775808) 4039728865751334912 == some .lt) = decide (x % 2147483648 < 8388608) := by
  cases hn : isNan .f32 x with
  | true =>
    have h1 := wide_nan h
    rw [hn] at h1
    have h2 := isNan_abs .f64 u
    rw [signWeight64, h1] at h2
    rw [order_nan_left h2]
    rw [isNan32] at hn
    rw [decide_eq_false (by have := of_decide_eq_true hn; omega)]; rfl
  | false =>
    have hw := wide_some h hn
    obtain ⟨h1, _, _⟩ := wide_parts hn hw
    have hn2 := isNan_abs .f32 x
    rw [signWeight32, hn] at hn2
    have := wide_order h1 (show floatToFloatBits .f32 8388608 .f64 = some 4039728865751334912 from by decide +kernel) hn2 (by decide +kernel)
    show (double.order _ _ == _) = _
    rw [this]
    show (FloatKind.f32.format.order (x % 2147483648) 8388608 == some .lt) = _
    rw [order_key .f32 (wf_of32 (by omega)) (by decide) hn2 (by decide +kernel), key_abs .f32 (by rw [signWeight32]; omega), show key .f32 8388608 = 8388608 from by decide +kernel]
    rw [some_beq, compare_lt]
    congr 1
    apply propext
    omega

/-- greater than each finite number -/
theorem inf64 (x u : Nat) (hx : x < 4294967296) (h : FconvR .f32 x .f64 u) :
    (FloatKind.f64.format.order (u % 9223372036854775808) 9218868437227405311 == some .gt) = decide (x % 2147483648 = 2139095040) := by
  cases hn : isNan .f32 x with
  | true =>
    have h1 := wide_nan h
    rw [hn] at h1
    have h2 := isNan_abs .f64 u
    rw [signWeight64, h1] at h2
    rw [order_nan_left h2]
    rw [isNan32] at hn
    rw [decide_eq_false (by have := of_decide_eq_true hn; omega)]; rfl
  | false =>
    have hw := wide_some h hn
    obtain ⟨h1, _, h3⟩ := wide_parts hn hw
    have hn2 := isNan_abs .f32 x
    rw [signWeight32, hn] at hn2
    have hn4 : isNan .f64 (u % 9223372036854775808) = false := by
      have := isNan_abs .f64 u
      rw [signWeight64] at this
      rw [this, wide_nan h, hn]
    have hn3 := notNan_le (k := .f64) hn4
    rw [infRung64, signWeight64] at hn3
    rw [order_key .f64 (wf_of64 (by omega)) (by decide) hn4 (by decide +kernel), key_abs .f64 (by rw [signWeight64]; omega), show key .f64 9218868437227405311 = 9218868437227405311 from by decide +kernel]
    rw [some_beq, compare_gt]
    have hle := notNan_le (k := .f32) hn2
    rw [infRung32, signWeight32] at hle
    have hinf : floatToFloatBits .f32 2139095040 .f64 = some 9218868437227405312 := by decide +kernel
    by_cases e : x % 2147483648 = 2139095040
    · rw [e, hinf] at h1
      have := Option.some.inj h1
      rw [decide_eq_true e, decide_eq_true (by omega)]
    · have hlt : x % 2147483648 < 2139095040 := by omega
      rw [decide_eq_false e, decide_eq_false]
      intro hc
      have hu : u % 9223372036854775808 = 9218868437227405312 := by omega
      have ho := wide_order h1 hinf hn2 (by decide +kernel)
      rw [hu] at ho
      have e1 : double.order 9218868437227405312 9218868437227405312 = some .eq := by decide +kernel
      rw [e1] at ho
      have ho2 : FloatKind.f32.format.order (x % 2147483648) 2139095040 = some .eq := ho.symm
      rw [order_key .f32 (wf_of32 (by omega)) (by decide) hn2 (by decide +kernel), key_abs .f32 (by rw [signWeight32]; omega), show key .f32 2139095040 = 2139095040 from by decide +kernel] at ho2
      have ho3 : (compare ((x % 2147483648 : Nat) : Int) 2139095040 == Ordering.eq) = true := by rw [Option.some.inj ho2]; rfl
      rw [compare_eq] at ho3
      have := of_decide_eq_true ho3
      omega

/-- what is taken from itself is zero just if it is finite -/
theorem self_sub (x r : Nat) (hx : x < 4294967296) (h : FopR .sub .f32 x x r) : (FloatKind.f32.format.order r 0 == some .eq) = decide (x % 2147483648 < 2139095040) := by
  have hx1 := word_of .f32 (b := x) (by rw [signWeight32]; omega)
  by_cases hf : x % 2147483648 < 2139095040
  · obtain ⟨m, u, hm, _⟩ := read_word_fin single (decide (single.signWeight ≤ x)) (r := x % single.signWeight) (by rw [show single.signWeight = 2147483648 from by decide +kernel, show single.infRung = 2139095040 from by decide +kernel]; exact hf)
    have hx2 : single.read x = _ := (congrArg single.read hx1).trans hm
    have : floatBits .sub .f32 x x = some 0 := by
      show single.sub x x = some 0
      unfold Format.sub
      rw [hx2]
      unfold Datum.opposite Datum.sum
      dsimp only
      have e : ∀ (s : Bool) (m k : Nat), signed s m k + signed (!s) m k = 0 := by
        intro s m k; unfold signed; cases s
        · simp only [Bool.false_eq_true, if_false, Bool.not_false, if_true]; omega
        · simp only [if_true, Bool.not_true, Bool.false_eq_true, if_false]; omega
      rw [e, if_pos rfl]
      cases decide (single.signWeight ≤ x) <;> rfl
    rcases h with h | ⟨h, _⟩
    · rw [this] at h
      cases h
      rw [decide_eq_true hf]
      decide +kernel
    · rw [this] at h; cases h
  · rw [decide_eq_false hf]
    have hnone : floatBits .sub .f32 x x = none := by
      by_cases hn : isNan .f32 x = true
      · exact floatBits_nan_left hn
      · have hle := notNan_le (k := .f32) (Bool.eq_false_iff.2 hn)
        rw [infRung32, signWeight32] at hle
        have e : x % single.signWeight = single.infRung := by rw [show single.signWeight = 2147483648 from by decide +kernel, show single.infRung = 2139095040 from by decide +kernel]; omega
        have hx2 : single.read x = .infinity (decide (single.signWeight ≤ x)) := by
          refine (congrArg single.read hx1).trans ?_
          show single.read (single.word _ (x % single.signWeight)) = _
          rw [e]
          exact read_word_inf single _ (by decide +kernel)
        show single.sub x x = none
        unfold Format.sub
        rw [hx2]
        cases decide (single.signWeight ≤ x) <;> rfl
    rcases h with h | ⟨_, h, _⟩
    · rw [hnone] at h; cases h
    · rw [order_nan_left h]; rfl
end Fl
end Go.Proofs.Ytfihnnhgegdjkaa
