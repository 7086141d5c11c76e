/- Contracts: even throws: the model. -/
import Derived.Test.YtodmaomngpnboaaNg
set_option linter.unusedVariables false
namespace Go.Proofs.Ytodmaomngpnboaa
open Go.RowKit

