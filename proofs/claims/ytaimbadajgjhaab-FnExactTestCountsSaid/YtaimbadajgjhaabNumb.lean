/- Contracts: absolute values, infinities, finite and subnormal numbers, zeros with signs. -/
import Derived.Test.YtaimbadajgjhaabFlb
import Derived.Test.YtaimbadajgjhaabNum
import Derived.Lib.Hide
set_option linter.unusedVariables false
namespace Go.Proofs.Ytaimbadajgjhaab
open Go.RowKit Fl



theorem wide_lt {x u : Nat} (hx : x < 4294967296) (h : FconvR .f32 x .f64 u) : u < 18446744073709551616 := by
  simpa [Lit.wf] using h.wf (wf_of32 hx)



/-- subnormal, as the bits tell it -/
def subB (x : Nat) : Bool := decide (0 < x % 2147483648 ∧ x % 2147483648 < 8388608)
theorem subB_eq (x : Nat) : subB x = (!decide (x % 2147483648 = 0) && decide (x % 2147483648 < 8388608)) := by
  unfold subB
  rw [Bool.eq_iff_iff]
  simp
  omega



def finB (x : Nat) : Bool := decide (x % 2147483648 < 2139095040)
theorem finB_eq (x : Nat) : finB x = (!isNan .f32 x && !decide (x % 2147483648 = 2139095040)) := by
  rw [isNan32]
  unfold finB
  rw [Bool.eq_iff_iff]
  simp
  omega

theorem finite_spec (x : Nat) (hx : x < 4294967296) (w : World) : Calls Try.prog 93 #[.float .f32 x] w fun e w' => e = .returned (.bool (finB x)) ∧ ∃ n, w' = w.drewN n := by
  go_enter Try.func93, Try.ntmps93
  go_wp2_with (refine wpList_farith rfl .sub _ _ _ _ rfl (by simp) .f32 _ _ rfl rfl ?_; intro r n hr)
  go_ret
  exact ⟨ret_bool (self_sub x r hx hr), _, rfl⟩



/-- a zero of its sign if it is subnormal -/
def flushed (x : Nat) : Nat := if x % 2147483648 < 8388608 then x / 2147483648 * 2147483648 else x




def inB (n : Int) : Bool := decide (0 ≤ n ∧ n ≤ 4294967295)
