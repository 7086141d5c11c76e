/- The law of urns: chances, by the kernel. -/
import Derived.Test.YtfihnnhgegdjkaaUrB
set_option linter.unusedVariables false
namespace Go.Proofs.Ytfihnnhgegdjkaa
open Go.RowKit Fl Ieee

set_option maxRecDepth 100000 in
set_option maxHeartbeats 40000000 in
theorem ch_tab0 : ∀ r, r < 3 → ∀ b, b < 12 → ∀ n, n < 7 → chanceF (0 + r) (b + 1) n = true := by decide +kernel
set_option maxRecDepth 100000 in
set_option maxHeartbeats 40000000 in
theorem ch_tab1 : ∀ r, r < 3 → ∀ b, b < 12 → ∀ n, n < 7 → chanceF (3 + r) (b + 1) n = true := by decide +kernel
end Go.Proofs.Ytfihnnhgegdjkaa
