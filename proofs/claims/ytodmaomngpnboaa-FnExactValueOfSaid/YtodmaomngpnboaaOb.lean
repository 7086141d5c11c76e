/- Five cards: the counts, checked one after another. -/
import Derived.Test.YtodmaomngpnboaaOa
namespace Go.Proofs.Ytodmaomngpnboaa
set_option maxRecDepth 100000 in
theorem okC_0 : ((((allC 13 5).drop 0).take 1300).all okC) = true := by decide +kernel
set_option maxRecDepth 100000 in
theorem okC_1 : ((((allC 13 5).drop 1300).take 1300).all okC) = true := by decide +kernel
end Go.Proofs.Ytodmaomngpnboaa
