/- Contracts of the small functions on numbers: bits, tests for not-a-numbers and infinities, the sign, and the comparison that the exact laws end with. -/
import Derived.Test.YtpidkedcnhohdaaFl
import Derived.Test.YtpidkedcnhohdaaCk
import Derived.Test.YtpidkedcnhohdaaChecked
import Derived.WalkKit
import Derived.ProofKit
namespace Go.Proofs.Ytpidkedcnhohdaa
open Go.RowKit Fl


theorem ret_float {k : FloatKind} {a b : Nat} (h : a = b) : Ending.returned (.float k a) = .returned (.float k b) := by rw [h]
theorem neq_nan (k : FloatKind) (u : Nat) : (k.format.order u u != some .eq) = isNan k u := by
  have := order_self_eq k u
  rw [bne, this, Bool.not_not]





theorem wf32 {b : Nat} (h : (Lit.float .f32 b).wf = true) : b < 4294967296 := by simpa [Lit.wf] using h
theorem wf64 {b : Nat} (h : (Lit.float .f64 b).wf = true) : b < 18446744073709551616 := by simpa [Lit.wf] using h
end Go.Proofs.Ytpidkedcnhohdaa
