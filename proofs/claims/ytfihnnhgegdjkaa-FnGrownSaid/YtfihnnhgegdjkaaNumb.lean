/- Contracts: absolute values, infinities, finite and subnormal numbers, zeros with signs. -/
import Derived.Test.YtfihnnhgegdjkaaFlb
import Derived.Test.YtfihnnhgegdjkaaNum
import Derived.Lib.Hide
set_option linter.unusedVariables false
namespace Go.Proofs.Ytfihnnhgegdjkaa
open Go.RowKit Fl

theorem abs_any (u : Nat) (hu : u < 18446744073709551616) (w : World) : Calls Try.prog 46 #[.float .f64 u] w fun e w' => e = .returned (.float .f64 (u % 9223372036854775808)) ∧ w = w' := by
  have h1 := abs64 u hu
  go_enter Try.func46, Try.ntmps46
  go_wp2
  go_ret
  exact ⟨ret_float rfl, rfl⟩

theorem isInf_any (u : Nat) (hu : u < 18446744073709551616) (w : World) : Calls Try.prog 40 #[.float .f64 u, .int .i64 0] w fun e w' => e = .returned (.bool (FloatKind.f64.format.order (u % 9223372036854775808) 9218868437227405311 == some .gt)) ∧ w = w' := by
  go_enter Try.func40, Try.ntmps40
  go_wp2_with (go_at_call 46; refine (abs_any _ hu _).mono ?_; rintro e w' ⟨rfl, rfl⟩)
  go_ret
  exact ⟨rfl, rfl⟩

theorem wide_lt {x u : Nat} (hx : x < 4294967296) (h : FconvR .f32 x .f64 u) : u < 18446744073709551616 := by
  simpa [Lit.wf] using h.wf (wf_of32 hx)



/-- subnormal, as the bits tell it -/
def subB (x : Nat) : Bool := decide (0 < x % 2147483648 ∧ x % 2147483648 < 8388608)
theorem subB_eq (x : Nat) : subB x = (!decide (x % 2147483648 = 0) && decide (x % 2147483648 < 8388608)) := by
  unfold subB
  rw [Bool.eq_iff_iff]
  simp
  omega



def finB (x : Nat) : Bool := decide (x % 2147483648 < 2139095040)
theorem finB_eq (x : Nat) : finB x = (!isNan .f32 x && !decide (x % 2147483648 = 2139095040)) := by
  rw [isNan32]
  unfold finB
  rw [Bool.eq_iff_iff]
  simp
  omega


theorem isFinite64_any (x u : Nat) (hx : x < 4294967296) (hu : FconvR .f32 x .f64 u) (w : World) : Calls Try.prog 36 #[.float .f64 u] w fun e w' => e = .returned (.bool (finB x)) ∧ w = w' := by
  have h1 := wide_nan hu
  have h2 := inf64 x u hx hu
  have hb := finB_eq x
  have hl := wide_lt hx hu
  have Hb := Lib.hid hb
  clear hb
  cases hn : isNan .f32 x
  · rw [hn] at h1
    have H2 := Lib.hid h2
    clear h2
    go_enter Try.func36, Try.ntmps36
    go_wp2_with (first | (go_at_call 37; refine (isNaN_any _ _).mono ?_; rintro e w' ⟨rfl, rfl⟩) | (go_at_call 40; refine (isInf_any _ hl _).mono ?_; rintro e w' ⟨rfl, rfl⟩))
    go_ret
    exact ⟨ret_bool (by rw [Hb.out, hn, ← H2.out]; rfl), rfl⟩
  · rw [hn] at h1
    have H2 := Lib.hid h2
    clear h2
    go_enter Try.func36, Try.ntmps36
    go_wp2_with (first | (go_at_call 37; refine (isNaN_any _ _).mono ?_; rintro e w' ⟨rfl, rfl⟩))
    go_ret
    exact ⟨ret_bool (by rw [Hb.out, hn]; rfl), rfl⟩

theorem isFinite_any (x : Nat) (hx : x < 4294967296) (w : World) : Calls Try.prog 29 #[.float .f32 x] w fun e w' => e = .returned (.bool (finB x)) ∧ ∃ n, w' = w.drewN n := by
  go_enter Try.func29, Try.ntmps29
  go_wp2_with (first | (refine wpList_fconv rfl _ _ _ rfl .f32 .f64 (by kernel_rfl) (by kernel_rfl) _ rfl ?_; intro r n hr) | (go_at_call 36; refine (isFinite64_any x _ hx hr _).mono ?_; rintro e w' ⟨rfl, rfl⟩))
  go_ret
  exact ⟨rfl, _, rfl⟩

/-- a zero of its sign if it is subnormal -/
def flushed (x : Nat) : Nat := if x % 2147483648 < 8388608 then x / 2147483648 * 2147483648 else x




def inB (n : Int) : Bool := decide (0 ≤ n ∧ n ≤ 4294967295)
