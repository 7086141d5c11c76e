/- Contracts of the small functions on numbers: bits, tests for not-a-numbers and infinities, the sign, and the comparison that the exact laws end with. -/
import Derived.Test.YtfihnnhgegdjkaaFl
import Derived.Test.YtfihnnhgegdjkaaCk
import Derived.Test.YtfihnnhgegdjkaaChecked
import Derived.WalkKit
import Derived.ProofKit
namespace Go.Proofs.Ytfihnnhgegdjkaa
open Go.RowKit Fl

@[go_sem] theorem x_f64bits (b : Nat) (w : World) : (callFunc 47 #[.float .f64 b]).run Try.prog w = .ok (.value (.int .u64 (b : Int))) w := by
  rw [run_callFunc_extern Try.func47 (by kernel_rfl) (by kernel_rfl) (by kernel_rfl) (by kernel_rfl : _ = some Extern.MathFloatBits.float64bits)]; rfl
@[go_sem] theorem x_f64from (n : Int) (w : World) : (callFunc 45 #[.int .u64 n]).run Try.prog w = .ok (.value (.float .f64 n.toNat)) w := by
  rw [run_callFunc_extern Try.func45 (by kernel_rfl) (by kernel_rfl) (by kernel_rfl) (by kernel_rfl : _ = some Extern.MathFloatBits.float64frombits)]; rfl

theorem ret_float {k : FloatKind} {a b : Nat} (h : a = b) : Ending.returned (.float k a) = .returned (.float k b) := by rw [h]
theorem neq_nan (k : FloatKind) (u : Nat) : (k.format.order u u != some .eq) = isNan k u := by
  have := order_self_eq k u
  rw [bne, this, Bool.not_not]

theorem isNaN_any (u : Nat) (w : World) : Calls Try.prog 37 #[.float .f64 u] w fun e w' => e = .returned (.bool (isNan .f64 u)) ∧ w = w' := by
  go_enter Try.func37, Try.ntmps37
  go_wp2
  go_ret
  exact ⟨ret_bool (neq_nan .f64 u), rfl⟩




theorem wf32 {b : Nat} (h : (Lit.float .f32 b).wf = true) : b < 4294967296 := by simpa [Lit.wf] using h
theorem wf64 {b : Nat} (h : (Lit.float .f64 b).wf = true) : b < 18446744073709551616 := by simpa [Lit.wf] using h
end Go.Proofs.Ytfihnnhgegdjkaa
