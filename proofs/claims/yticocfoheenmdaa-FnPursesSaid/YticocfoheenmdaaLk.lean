/- Slices whose elements are one cell each, and the copies, comparisons and marks of the exact laws, at int64 and at bool. -/
import Derived.Test.YticocfoheenmdaaCk
import Derived.Test.YticocfoheenmdaaChecked
import Derived.WalkKit
import Derived.ProofKit
import Derived.Lib.Hide
set_option linter.unusedVariables false
namespace Go.Proofs.Yticocfoheenmdaa
open Go.RowKit










end Go.Proofs.Yticocfoheenmdaa
