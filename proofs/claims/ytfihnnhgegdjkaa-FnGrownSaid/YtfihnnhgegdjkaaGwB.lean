/- Growth, all tables. -/
import Derived.Test.YtfihnnhgegdjkaaGwM
import Derived.Test.YtfihnnhgegdjkaaGwN
import Derived.Test.YtfihnnhgegdjkaaGwS0
import Derived.Test.YtfihnnhgegdjkaaGwS1
import Derived.Test.YtfihnnhgegdjkaaGwS2
set_option linter.unusedVariables false
namespace Go.Proofs.Ytfihnnhgegdjkaa
namespace Fl
open Ieee
theorem gm_tab (k i : Nat) (hk : k < 17) (hi : i < 16) : mostB (gX.getD k 0) (gY.getD i 0) (gB k i) (gM k i) (gP k i) (gQ k i) = true := by
  rcases Nat.lt_or_ge k 8 with h | h
  · have := gm_tabM k h i hi
    rw [Nat.zero_add] at this
    exact this
  · have := gm_tabN (k - 8) (by omega) i hi
    rw [show 8 + (k - 8) = k by omega] at this
    exact this
theorem gs_tab (k i j : Nat) (hk : k < 17) (hi : i < 16) (hj : j < 16) : someB (gX.getD k 0) (gY.getD i 0) (gX.getD j 0) (gL i j) (gK.getD j 0) (gM k i) (gB k i) = true := by
  rcases Nat.lt_or_ge k 6 with h | h
  · have := gs_tab0 k h i hi j hj
    rw [Nat.zero_add] at this
    exact this
  · rcases Nat.lt_or_ge k 12 with h2 | h2
    · have := gs_tab1 (k - 6) (by omega) i hi j hj
      rw [show 6 + (k - 6) = k by omega] at this
      exact this
    · have := gs_tab2 (k - 12) (by omega) i hi j hj
      rw [show 12 + (k - 12) = k by omega] at this
      exact this
end Fl
end Go.Proofs.Ytfihnnhgegdjkaa
