/- The law of purses: rows, by the kernel. -/
import Derived.Test.YticocfoheenmdaaPuA
set_option linter.unusedVariables false
namespace Go.Proofs.Yticocfoheenmdaa
open Go.RowKit Fl Ieee
set_option maxRecDepth 100000 in
set_option maxHeartbeats 40000000 in
theorem tab_7 : ∀ u, u < 8 → ∀ q, q < 9 → ∀ p, p < q + 1 → tabB 7 u (p + 1) (q + 2) = true := by decide +kernel
set_option maxRecDepth 100000 in
set_option maxHeartbeats 40000000 in
theorem tab_8 : ∀ u, u < 9 → ∀ q, q < 9 → ∀ p, p < q + 1 → tabB 8 u (p + 1) (q + 2) = true := by decide +kernel
end Go.Proofs.Yticocfoheenmdaa
