/- Five cards: the counts, checked one after another. -/
import Derived.Test.YtodmaomngpnboaaOa
namespace Go.Proofs.Ytodmaomngpnboaa
set_option maxRecDepth 100000 in
theorem okC_2 : ((((allC 13 5).drop 2600).take 1300).all okC) = true := by decide +kernel
set_option maxRecDepth 100000 in
theorem okC_3 : ((((allC 13 5).drop 3900).take 1300).all okC) = true := by decide +kernel
end Go.Proofs.Ytodmaomngpnboaa
