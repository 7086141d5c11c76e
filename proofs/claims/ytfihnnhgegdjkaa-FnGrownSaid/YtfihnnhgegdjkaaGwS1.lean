/- Growth at other shares, by the kernel. -/
import Derived.Test.YtfihnnhgegdjkaaGwA
set_option linter.unusedVariables false
namespace Go.Proofs.Ytfihnnhgegdjkaa
namespace Fl
open Ieee
set_option maxRecDepth 100000 in
set_option maxHeartbeats 40000000 in
theorem gs_tab1 : ∀ k : Nat, k < 6 → ∀ i : Nat, i < 16 → ∀ j : Nat, j < 16 → someB (gX.getD (6 + k) 0) (gY.getD i 0) (gX.getD j 0) (gL i j) (gK.getD j 0) (gM (6 + k) i) (gB (6 + k) i) = true := by decide +kernel
end Fl
end Go.Proofs.Ytfihnnhgegdjkaa
