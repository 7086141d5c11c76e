/- Contracts: the model's functions on decks: joined, riffled, drawn. -/
import Derived.Test.YtolmhnekfokpdacDi
import Derived.Test.YtolmhnekfokpdacDs
set_option linter.unusedVariables false
namespace Go.Proofs.Ytolmhnekfokpdac
open Go.RowKit

