/- Slices whose elements are one cell each, and the copies, comparisons and marks of the exact laws, at int64 and at bool. -/
import Derived.Test.YtfihnnhgegdjkaaCk
import Derived.Test.YtfihnnhgegdjkaaChecked
import Derived.WalkKit
import Derived.ProofKit
import Derived.Lib.Hide
set_option linter.unusedVariables false
namespace Go.Proofs.Ytfihnnhgegdjkaa
open Go.RowKit










end Go.Proofs.Ytfihnnhgegdjkaa
