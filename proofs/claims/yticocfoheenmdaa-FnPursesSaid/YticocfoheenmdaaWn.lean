/- Contracts: streaks, the model. -/
import Derived.Test.YticocfoheenmdaaWk
import Derived.Test.YticocfoheenmdaaWj
set_option linter.unusedVariables false
namespace Go.Proofs.Yticocfoheenmdaa
open Go.RowKit Go.Maps

