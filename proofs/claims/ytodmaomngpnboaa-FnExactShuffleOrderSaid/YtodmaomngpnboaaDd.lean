/- Contracts: the model's functions on decks: joined, riffled, drawn. -/
import Derived.Test.YtodmaomngpnboaaDi
import Derived.Test.YtodmaomngpnboaaDs
set_option linter.unusedVariables false
namespace Go.Proofs.Ytodmaomngpnboaa
open Go.RowKit

