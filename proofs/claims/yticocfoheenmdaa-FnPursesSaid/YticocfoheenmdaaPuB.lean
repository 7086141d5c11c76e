/- The law of purses: rows, by the kernel. -/
import Derived.Test.YticocfoheenmdaaPuA
set_option linter.unusedVariables false
namespace Go.Proofs.Yticocfoheenmdaa
open Go.RowKit Fl Ieee
set_option maxRecDepth 100000 in
set_option maxHeartbeats 40000000 in
theorem tab_1 : ∀ u, u < 2 → ∀ q, q < 9 → ∀ p, p < q + 1 → tabB 1 u (p + 1) (q + 2) = true := by decide +kernel
set_option maxRecDepth 100000 in
set_option maxHeartbeats 40000000 in
theorem tab_2 : ∀ u, u < 3 → ∀ q, q < 9 → ∀ p, p < q + 1 → tabB 2 u (p + 1) (q + 2) = true := by decide +kernel
set_option maxRecDepth 100000 in
set_option maxHeartbeats 40000000 in
theorem tab_3 : ∀ u, u < 4 → ∀ q, q < 9 → ∀ p, p < q + 1 → tabB 3 u (p + 1) (q + 2) = true := by decide +kernel
set_option maxRecDepth 100000 in
set_option maxHeartbeats 40000000 in
theorem tab_4 : ∀ u, u < 5 → ∀ q, q < 9 → ∀ p, p < q + 1 → tabB 4 u (p + 1) (q + 2) = true := by decide +kernel
end Go.Proofs.Yticocfoheenmdaa
