/- Contracts: the library's Grow of nothing, and Concat of two lists. -/
import Derived.Test.YtodmaomngpnboaaDb
import Derived.Lib.AppendZerosOnto
import Derived.Lib.SliceRun
import Derived.Laws.AppendOwnNone
import Derived.IntWalk
import Derived.Lib.Walk
set_option linter.unusedVariables false
namespace Go.Proofs.Ytodmaomngpnboaa
open Go.RowKit

