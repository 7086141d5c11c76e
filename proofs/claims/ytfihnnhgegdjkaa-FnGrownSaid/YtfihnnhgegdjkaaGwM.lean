/- Growth at the best share, by the kernel. -/
import Derived.Test.YtfihnnhgegdjkaaGwA
set_option linter.unusedVariables false
namespace Go.Proofs.Ytfihnnhgegdjkaa
namespace Fl
open Ieee
set_option maxRecDepth 100000 in
set_option maxHeartbeats 40000000 in
theorem gm_tabM : ∀ k : Nat, k < 8 → ∀ i : Nat, i < 16 → mostB (gX.getD (0 + k) 0) (gY.getD i 0) (gB (0 + k) i) (gM (0 + k) i) (gP (0 + k) i) (gQ (0 + k) i) = true := by decide +kernel
end Fl
end Go.Proofs.Ytfihnnhgegdjkaa
