/- Contracts: absolute values, infinities, finite and subnormal numbers, zeros with signs. -/
import Derived.Test.YticocfoheenmdaaFlb
import Derived.Test.YticocfoheenmdaaNum
import Derived.Lib.Hide
set_option linter.unusedVariables false
namespace Go.Proofs.Yticocfoheenmdaa
open Go.RowKit Fl

theorem abs_any (u : Nat) (hu : u < 18446744073709551616) (w : World) : Calls Try.prog 43 #[.float .f64 u] w fun e w' => e = .returned (.float .f64 (u % 9223372036854775808)) ∧ w = w' := by
  have h1 := abs64 u hu
  go_enter Try.func43, Try.ntmps43
  go_wp2
  go_ret
  exact ⟨ret_float rfl, rfl⟩

theorem isInf_any (u : Nat) (hu : u < 18446744073709551616) (w : World) : Calls Try.prog 25 #[.float .f64 u, .int .i64 0] w fun e w' => e = .returned (.bool (FloatKind.f64.format.order (u % 9223372036854775808) 9218868437227405311 == some .gt)) ∧ w = w' := by
  go_enter Try.func25, Try.ntmps25
  go_wp2_with (go_at_call 43; refine (abs_any _ hu _).mono ?_; rintro e w' ⟨rfl, rfl⟩)
  go_ret
  exact ⟨rfl, rfl⟩

theorem wide_lt {x u : Nat} (hx : x < 4294967296) (h : FconvR .f32 x .f64 u) : u < 18446744073709551616 := by
  simpa [Lit.wf] using h.wf (wf_of32 hx)



/-- subnormal, as the bits tell it -/
def subB (x : Nat) : Bool := decide (0 < x % 2147483648 ∧ x % 2147483648 < 8388608)
theorem subB_eq (x : Nat) : subB x = (!decide (x % 2147483648 = 0) && decide (x % 2147483648 < 8388608)) := by
  unfold subB
  rw [Bool.eq_iff_iff]
  simp
  omega



def finB (x : Nat) : Bool := decide (x % 2147483648 < 2139095040)
theorem finB_eq (x : Nat) : finB x = (!isNan .f32 x && !decide (x % 2147483648 = 2139095040)) := by
  rw [isNan32]
  unfold finB
  rw [Bool.eq_iff_iff]
  simp
  omega




/-- a zero of its sign if it is subnormal -/
def flushed (x : Nat) : Nat := if x % 2147483648 < 8388608 then x / 2147483648 * 2147483648 else x




def inB (n : Int) : Bool := decide (0 ≤ n ∧ n ≤ 4294967295)
