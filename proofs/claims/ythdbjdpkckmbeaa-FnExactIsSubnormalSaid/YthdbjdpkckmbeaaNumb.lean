/- Contracts: absolute values, infinities, finite and subnormal numbers, zeros with signs. -/
import Derived.Test.YthdbjdpkckmbeaaFlb
import Derived.Test.YthdbjdpkckmbeaaNum
import Derived.Lib.Hide
set_option linter.unusedVariables false
namespace Go.Proofs.Ythdbjdpkckmbeaa
open Go.RowKit Fl

theorem abs_any (u : Nat) (hu : u < 18446744073709551616) (w : World) : Calls Try.prog 38 #[.float .f64 u] w fun e w' => e = .returned (.float .f64 (u % 9223372036854775808)) ∧ w = w' := by
  have h1 := abs64 u hu
  go_enter Try.func38, Try.ntmps38
  go_wp2
  go_ret
  exact ⟨ret_float rfl, rfl⟩

theorem isInf_any (u : Nat) (hu : u < 18446744073709551616) (w : World) : Calls Try.prog 42 #[.float .f64 u, .int .i64 0] w fun e w' => e = .returned (.bool (FloatKind.f64.format.order (u % 9223372036854775808) 9218868437227405311 == some .gt)) ∧ w = w' := by
  go_enter Try.func42, Try.ntmps42
  go_wp2_with (go_at_call 38; refine (abs_any _ hu _).mono ?_; rintro e w' ⟨rfl, rfl⟩)
  go_ret
  exact ⟨rfl, rfl⟩

theorem wide_lt {x u : Nat} (hx : x < 4294967296) (h : FconvR .f32 x .f64 u) : u < 18446744073709551616 := by
  simpa [Lit.wf] using h.wf (wf_of32 hx)

/-- a 32-bit number as a 64-bit one, in a walk -/
theorem ldexp_least (w : World) : Calls Try.prog 39 #[.float .f64 4607182418800017408, .int .i64 (-126)] w fun e w' => e = .returned (.float .f64 4039728865751334912) ∧ ∃ n, w' = w.drewN n := by
  have e1 : (FloatKind.f64.format.order 4607182418800017408 0 == some .eq) = false := by decide +kernel
  have e2 : (FloatKind.f64.format.order (4607182418800017408 % 9223372036854775808) 9218868437227405311 == some .gt) = false := by decide +kernel
  have e3 : isNan .f64 4607182418800017408 = false := by decide +kernel
  have e4 : (FloatKind.f64.format.order (4607182418800017408 % 9223372036854775808) 4503599627370496 == some .lt) = false := by decide +kernel
  have b1 : bits .and .i64 1023 2047 = 1023 := by decide +kernel
  have b2 : wrap64 (1023 - 1023) = 0 := by decide +kernel
  have b3 : wrap64 (-126 + 0) = -126 := by decide +kernel
  have b4 : bits .andNot .u64 4607182418800017408 9218868437227405312 = 0 := by decide +kernel
  go_enter Try.func39, Try.ntmps39
  go_wp2_with (first | (go_at_call 38; refine (abs_any _ (by decide) _).mono ?_; rintro e w' ⟨rfl, rfl⟩) | (go_at_call 42; refine (isInf_any _ (by decide) _).mono ?_; rintro e w' ⟨rfl, rfl⟩) | (go_at_call 32; refine (isNaN_any _ _).mono ?_; rintro e w' ⟨rfl, rfl⟩) | go_in | (refine wpList_farith rfl .mul _ _ _ _ rfl (by simp) .f64 _ _ rfl rfl ?_; intro r n hr))
  have hr1 : FopR .mul .f64 4607182418800017408 (bits .or .u64 0 4039728865751334912).toNat r := hr
  rw [show (bits .or .u64 0 4039728865751334912).toNat = 4039728865751334912 by decide +kernel] at hr1
  have hr2 : floatBits .mul .f64 4607182418800017408 4039728865751334912 = some 4039728865751334912 := by decide +kernel
  have hr3 : r = 4039728865751334912 := by
    rcases hr1 with h | ⟨h, _⟩
    · rw [hr2] at h; exact (Option.some.inj h).symm
    · rw [hr2] at h; cases h
  go_ret
  exact ⟨ret_float hr3, _, rfl⟩

theorem copysign_zero (u : Nat) (hu : u < 18446744073709551616) (w : World) : Calls Try.prog 41 #[.float .f64 0, .float .f64 u] w fun e w' => e = .returned (.float .f64 (u / 9223372036854775808 * 9223372036854775808)) ∧ w = w' := by
  have h1 := sgn64 u hu
  have h2 : bits .andNot .u64 0 9223372036854775808 = 0 := by decide +kernel
  have h3 : bits .or .u64 0 ((u / 9223372036854775808 * 9223372036854775808 : Nat) : Int) = ((u / 9223372036854775808 * 9223372036854775808 : Nat) : Int) := by
    have := u64_or_nat 0 (u / 9223372036854775808 * 9223372036854775808) (by decide) (by omega)
    rw [show ((0 : Nat) : Int) = 0 from rfl] at this
    rw [this, Nat.zero_or]
  generalize u / 9223372036854775808 * 9223372036854775808 = q at *
  go_enter Try.func41, Try.ntmps41
  go_wp2
  go_ret
  exact ⟨ret_float (by first | rfl | simp), rfl⟩

/-- subnormal, as the bits tell it -/
def subB (x : Nat) : Bool := decide (0 < x % 2147483648 ∧ x % 2147483648 < 8388608)
theorem subB_eq (x : Nat) : subB x = (!decide (x % 2147483648 = 0) && decide (x % 2147483648 < 8388608)) := by
  unfold subB
  rw [Bool.eq_iff_iff]
  simp
  omega

theorem isSubnormal_any (x : Nat) (hx : x < 4294967296) (w : World) : Calls Try.prog 23 #[.float .f32 x] w fun e w' => e = .returned (.bool (subB x)) ∧ ∃ n, w' = w.drewN n := by
  have hz := zero32 x hx
  have hs := subB_eq x
  cases hd : decide (x % 2147483648 = 0)
  · rw [hd] at hz hs
    have hz' : (FloatKind.f32.format.order x 0 != some .eq) = true := by rw [bne, hz]; rfl
    have Hs := Lib.hid hs
    clear hs hz hd
    go_enter Try.func23, Try.ntmps23
    go_wp2_with (first | (refine wpList_fconv rfl _ _ _ rfl .f32 .f64 (by kernel_rfl) (by kernel_rfl) _ rfl ?_; intro r n hr) | (go_at_call 38; refine (abs_any _ (wide_lt hx hr) _).mono ?_; rintro e w' ⟨rfl, rfl⟩) | (go_at_call 39; refine (ldexp_least _).mono ?_; rintro e w' ⟨rfl, n2, rfl⟩))
    go_ret
    exact ⟨ret_bool (by rw [Hs.out, sub64 x r hx hr]; rfl), _, rfl⟩
  · rw [hd] at hz hs
    have hz' : (FloatKind.f32.format.order x 0 != some .eq) = false := by rw [bne, hz]; rfl
    have Hs := Lib.hid hs
    clear hs hz hd
    go_enter Try.func23, Try.ntmps23
    go_wp2
    go_ret
    exact ⟨ret_bool (by rw [Hs.out]; rfl), 0, rfl⟩

theorem isSubnormal_spec (x : Nat) (hx : x < 4294967296) (w : World) : Calls Try.prog 22 #[.float .f32 x] w fun e w' => e = .returned (.bool (subB x)) ∧ w = w' := by
  have hz := zero32 x hx
  have hs := subB_eq x
  have hc : cn .f32 x < 4294967296 := by
    unfold cn; split
    · decide
    · exact hx
  have he := exp32 (cn .f32 x) hc
  cases hd : decide (x % 2147483648 = 0)
  · rw [hd] at hz hs
    have hz' : (FloatKind.f32.format.order x 0 != some .eq) = true := by rw [bne, hz]; rfl
    have hq : (((cn .f32 x / 8388608 % 256 * 8388608 : Nat) : Int) == 0) = subB x := by
      rw [hs, Bool.eq_iff_iff, beq_iff_eq]
      simp only [Bool.not_false, Bool.true_and, decide_eq_true_iff]
      cases hn : isNan .f32 x with
      | true =>
        rw [cn_nan hn]
        rw [isNan32] at hn
        have := of_decide_eq_true hn
        show ((2143289344 / 8388608 % 256 * 8388608 : Nat) : Int) = 0 ↔ _
        omega
      | false => rw [cn_notNan hn]; omega
    have Hq := Lib.hid hq
    clear hq hs hz hd
    go_enter Try.func22, Try.ntmps22
    go_wp2_with (go_at_call 31; refine (l01Bits_any x hx _).mono ?_; rintro e w' ⟨rfl, rfl⟩)
    go_ret
    refine ⟨ret_bool ?_, rfl⟩
    rw [← Hq.out]
    rfl
  · rw [hd] at hz hs
    have hz' : (FloatKind.f32.format.order x 0 != some .eq) = false := by rw [bne, hz]; rfl
    have Hs := Lib.hid hs
    clear hs hz hd
    go_enter Try.func22, Try.ntmps22
    go_wp2
    go_ret
    exact ⟨ret_bool (by rw [Hs.out]; rfl), rfl⟩

def finB (x : Nat) : Bool := decide (x % 2147483648 < 2139095040)
theorem finB_eq (x : Nat) : finB x = (!isNan .f32 x && !decide (x % 2147483648 = 2139095040)) := by
  rw [isNan32]
  unfold finB
  rw [Bool.eq_iff_iff]
  simp
  omega

theorem finite_spec (x : Nat) (hx : x < 4294967296) (w : World) : Calls Try.prog 29 #[.float .f32 x] w fun e w' => e = .returned (.bool (finB x)) ∧ ∃ n, w' = w.drewN n := by
  go_enter Try.func29, Try.ntmps29
  go_wp2_with (refine wpList_farith rfl .sub _ _ _ _ rfl (by simp) .f32 _ _ rfl rfl ?_; intro r n hr)
  go_ret
  exact ⟨ret_bool (self_sub x r hx hr), _, rfl⟩

theorem isFinite64_any (x u : Nat) (hx : x < 4294967296) (hu : FconvR .f32 x .f64 u) (w : World) : Calls Try.prog 30 #[.float .f64 u] w fun e w' => e = .returned (.bool (finB x)) ∧ w = w' := by
  have h1 := wide_nan hu
  have h2 := inf64 x u hx hu
  have hb := finB_eq x
  have hl := wide_lt hx hu
  have Hb := Lib.hid hb
  clear hb
  cases hn : isNan .f32 x
  · rw [hn] at h1
    have H2 := Lib.hid h2
    clear h2
    go_enter Try.func30, Try.ntmps30
    go_wp2_with (first | (go_at_call 32; refine (isNaN_any _ _).mono ?_; rintro e w' ⟨rfl, rfl⟩) | (go_at_call 42; refine (isInf_any _ hl _).mono ?_; rintro e w' ⟨rfl, rfl⟩))
    go_ret
    exact ⟨ret_bool (by rw [Hb.out, hn, ← H2.out]; rfl), rfl⟩
  · rw [hn] at h1
    have H2 := Lib.hid h2
    clear h2
    go_enter Try.func30, Try.ntmps30
    go_wp2_with (first | (go_at_call 32; refine (isNaN_any _ _).mono ?_; rintro e w' ⟨rfl, rfl⟩))
    go_ret
    exact ⟨ret_bool (by rw [Hb.out, hn]; rfl), rfl⟩

theorem isFinite_any (x : Nat) (hx : x < 4294967296) (w : World) : Calls Try.prog 14 #[.float .f32 x] w fun e w' => e = .returned (.bool (finB x)) ∧ ∃ n, w' = w.drewN n := by
  go_enter Try.func14, Try.ntmps14
  go_wp2_with (first | (refine wpList_fconv rfl _ _ _ rfl .f32 .f64 (by kernel_rfl) (by kernel_rfl) _ rfl ?_; intro r n hr) | (go_at_call 30; refine (isFinite64_any x _ hx hr _).mono ?_; rintro e w' ⟨rfl, rfl⟩))
  go_ret
  exact ⟨rfl, _, rfl⟩

/-- a zero of its sign if it is subnormal -/
def flushed (x : Nat) : Nat := if x % 2147483648 < 8388608 then x / 2147483648 * 2147483648 else x

theorem flush_any (x : Nat) (hx : x < 4294967296) (w : World) : Calls Try.prog 25 #[.float .f32 x] w fun e w' => e = .returned (.float .f32 (flushed x)) ∧ ∃ n, w' = w.drewN n := by
  cases hs : subB x
  · have hf : flushed x = x := by
      unfold flushed
      unfold subB at hs
      have := of_decide_eq_false hs
      split <;> omega
    go_enter Try.func25, Try.ntmps25
    go_wp2_with (go_at_call 23; refine (isSubnormal_any x hx _).mono ?_; rintro e w' ⟨rfl, n, rfl⟩)
    go_ret
    exact ⟨ret_float hf.symm, _, rfl⟩
  · have Hs := Lib.hid hs
    go_enter Try.func25, Try.ntmps25
    go_wp2_with (first | (refine wpList_fconv rfl _ _ _ rfl .f32 .f64 (by kernel_rfl) (by kernel_rfl) _ rfl ?_; intro r n hr) | (go_at_call 23; refine (isSubnormal_any x hx _).mono ?_; rintro e w' ⟨rfl, n, rfl⟩) | (go_at_call 41; refine (copysign_zero _ (wide_lt hx hr) _).mono ?_; rintro e w' ⟨rfl, rfl⟩) | (refine wpList_fconv rfl _ _ _ rfl .f64 .f32 (by kernel_rfl) (by kernel_rfl) _ rfl ?_; intro r2 n2 hr2))
    have hs' := of_decide_eq_true hs
    have hn : isNan .f32 x = false := by rw [isNan32]; exact decide_eq_false (by omega)
    obtain ⟨_, h2, h3⟩ := wide_parts hn (wide_some hr hn)
    have hq : r / 9223372036854775808 = x / 2147483648 := by
      have a1 : r / 9223372036854775808 = 0 ∨ r / 9223372036854775808 = 1 := by omega
      have a2 : x / 2147483648 = 0 ∨ x / 2147483648 = 1 := by omega
      rcases a1 with a1 | a1 <;> rcases a2 with a2 | a2 <;> rw [a1, a2] at h2 <;> first | (rw [a1, a2]; done) | (exact absurd h2 (by decide))
    have hr2' : FconvR .f64 (r / 9223372036854775808 * 9223372036854775808) .f32 r2 := hr2
    have hres : r2 = flushed x := by
      unfold flushed
      rw [if_pos hs'.2]
      rw [hq] at hr2'
      have a2 : x / 2147483648 = 0 ∨ x / 2147483648 = 1 := by omega
      rcases a2 with a2 | a2 <;> rw [a2] at hr2' ⊢
      · have e : floatToFloatBits .f64 (0 * 9223372036854775808) .f32 = some (0 * 2147483648) := by decide +kernel
        rcases hr2' with h | ⟨h, _⟩
        · rw [e] at h; exact (Option.some.inj h).symm
        · rw [e] at h; cases h
      · have e : floatToFloatBits .f64 (1 * 9223372036854775808) .f32 = some (1 * 2147483648) := by decide +kernel
        rcases hr2' with h | ⟨h, _⟩
        · rw [e] at h; exact (Option.some.inj h).symm
        · rw [e] at h; cases h
    go_ret
    exact ⟨ret_float hres, _, rfl⟩

theorem l01From_any (n : Int) (h0 : 0 ≤ n) (h1 : n ≤ 4294967295) (w : World) : Calls Try.prog 35 #[.int .i64 n] w fun e w' => e = .returned (.float .f32 n.toNat) ∧ w = w' := by
  go_enter Try.func35, Try.ntmps35
  go_wp2
  go_ret
  exact ⟨ret_float rfl, rfl⟩

theorem flush_spec (x : Nat) (hx : x < 4294967296) (w : World) : Calls Try.prog 40 #[.float .f32 x] w fun e w' => e = .returned (.float .f32 (flushed x)) ∧ w = w' := by
  have hc : cn .f32 x < 4294967296 := by
    unfold cn; split
    · decide
    · exact hx
  have he := exp32 (cn .f32 x) hc
  have hg := sign32 (cn .f32 x) hc
  cases hz : ((((cn .f32 x / 8388608 % 256 * 8388608 : Nat) : Int)) == 0)
  · have hf : flushed x = x := by
      have h := beq_eq_false_iff_ne.1 hz
      unfold flushed
      rw [if_neg]
      intro hlt
      have hn : isNan .f32 x = false := by rw [isNan32]; exact decide_eq_false (by omega)
      rw [cn_notNan hn] at h
      omega
    have Hf := Lib.hid hf
    clear hf
    go_enter Try.func40, Try.ntmps40
    go_wp2_with (go_at_call 31; refine (l01Bits_any x hx _).mono ?_; rintro e w' ⟨rfl, rfl⟩)
    go_ret
    exact ⟨ret_float Hf.out.symm, rfl⟩
  · have h := beq_iff_eq.1 hz
    have hn : isNan .f32 x = false := by
      cases hn : isNan .f32 x with
      | false => rfl
      | true =>
        rw [cn_nan hn] at h
        exact absurd h (by decide)
    rw [cn_notNan hn] at he hg hz h
    have hlt : x % 2147483648 < 8388608 := by omega
    have hf : (((x / 2147483648 % 2 * 2147483648 : Nat) : Int)).toNat = flushed x := by
      unfold flushed
      rw [if_pos hlt]
      omega
    have Hf := Lib.hid hf
    have hb := l01Bits_any x hx
    rw [cn_notNan hn] at hb
    have Hb := Lib.hid hb
    clear hb hf h
    go_enter Try.func40, Try.ntmps40
    go_wp2_with (first | (go_at_call 31; refine (Hb.out _).mono ?_; rintro e w' ⟨rfl, rfl⟩) | (go_at_call 35; refine (l01From_any _ (by omega) (by omega) _).mono ?_; rintro e w' ⟨rfl, rfl⟩))
    go_ret
    exact ⟨ret_float (by rw [← Hf.out]; rfl), rfl⟩

def inB (n : Int) : Bool := decide (0 ≤ n ∧ n ≤ 4294967295)
theorem fromBits_yes (n : Int) (h0 : 0 ≤ n) (h1 : n ≤ 4294967295) (w : World) : Calls Try.prog 18 #[.int .i64 n] w fun e w' => e = .returned (.tuple #[.float .f32 n.toNat, .bool true]) ∧ w = w' := by
  go_enter Try.func18, Try.ntmps18
  go_wp2
  go_ret2
  exact ⟨rfl, rfl⟩
theorem fromBits_no (n : Int) (h : n < 0 ∨ 4294967295 < n) (w : World) : Calls Try.prog 18 #[.int .i64 n] w fun e w' => e = .returned (.tuple #[.float .f32 0, .bool false]) ∧ w = w' := by
  rcases h with h | h
  · go_enter Try.func18, Try.ntmps18
    go_wp2
    all_goals (go_ret2; exact ⟨rfl, rfl⟩)
  · have h' : ¬ n < 0 := by omega
    go_enter Try.func18, Try.ntmps18
    go_wp2
    all_goals (go_ret2; exact ⟨rfl, rfl⟩)
theorem fromBits_spec_yes (n : Int) (h0 : 0 ≤ n) (h1 : n ≤ 4294967295) (w : World) : Calls Try.prog 17 #[.int .i64 n] w fun e w' => e = .returned (.tuple #[.float .f32 n.toNat, .bool true]) ∧ w = w' := by
  go_enter Try.func17, Try.ntmps17
  go_wp2
  go_ret2
  exact ⟨rfl, rfl⟩
theorem fromBits_spec_no (n : Int) (h : n < 0 ∨ 4294967295 < n) (w : World) : Calls Try.prog 17 #[.int .i64 n] w fun e w' => e = .returned (.tuple #[.float .f32 0, .bool false]) ∧ w = w' := by
  rcases h with h | h
  · go_enter Try.func17, Try.ntmps17
    go_wp2
    all_goals (go_ret2; exact ⟨rfl, rfl⟩)
  · have h' : ¬ n < 0 := by omega
    have h2 : decide (n ≤ 4294967295) = false := decide_eq_false (by omega)
    have h3 : decide (0 ≤ n) = true := decide_eq_true (by omega)
    go_enter Try.func17, Try.ntmps17
    go_wp2
    all_goals (go_ret2; exact ⟨rfl, rfl⟩)
end Go.Proofs.Ythdbjdpkckmbeaa
