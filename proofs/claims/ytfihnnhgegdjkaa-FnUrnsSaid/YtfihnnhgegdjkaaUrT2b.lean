/- The law of urns: urns that grow, by the kernel. -/
import Derived.Test.YtfihnnhgegdjkaaUrB
set_option linter.unusedVariables false
namespace Go.Proofs.Ytfihnnhgegdjkaa
open Go.RowKit Fl Ieee

set_option maxRecDepth 100000 in
set_option maxHeartbeats 40000000 in
theorem gr_tab2_2 : ∀ r, r < 3 → ∀ b, b < 12 → ∀ n, n < 7 → growsF (6 + r) (b + 1) 2 n = true := by decide +kernel
set_option maxRecDepth 100000 in
set_option maxHeartbeats 40000000 in
theorem gr_tab2_3 : ∀ r, r < 3 → ∀ b, b < 12 → ∀ n, n < 7 → growsF (9 + r) (b + 1) 2 n = true := by decide +kernel
end Go.Proofs.Ytfihnnhgegdjkaa
