/- The law of purses: rows, by the kernel. -/
import Derived.Test.YticocfoheenmdaaPuA
set_option linter.unusedVariables false
namespace Go.Proofs.Yticocfoheenmdaa
open Go.RowKit Fl Ieee
set_option maxRecDepth 100000 in
set_option maxHeartbeats 40000000 in
theorem tab_10 : ∀ u, u < 11 → ∀ q, q < 9 → ∀ p, p < q + 1 → tabB 10 u (p + 1) (q + 2) = true := by decide +kernel
end Go.Proofs.Yticocfoheenmdaa
