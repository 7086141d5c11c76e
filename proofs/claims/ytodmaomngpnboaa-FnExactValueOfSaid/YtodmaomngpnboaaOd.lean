/- Five cards: kinds and values, pure: all counts. -/
import Derived.Test.YtodmaomngpnboaaOb
import Derived.Test.YtodmaomngpnboaaOc
set_option linter.unusedVariables false
namespace Go.Proofs.Ytodmaomngpnboaa

theorem all_parts {α : Type} (f : α → Bool) (l : List α) (k : Nat) (h1 : (l.take k).all f = true) (h2 : (l.drop k).all f = true) : l.all f = true := by
  rw [← List.take_append_drop k l, List.all_append, h1, h2]; rfl
set_option maxRecDepth 100000 in
theorem okC_e : (((allC 13 5).drop 5200).all okC) = true := by decide +kernel
set_option maxRecDepth 100000 in
theorem okC_all : (allC 13 5).all okC = true := by
  refine all_parts okC _ 1300 okC_0 ?_
  refine all_parts okC _ 1300 okC_1 ?_
  rw [List.drop_drop]
  refine all_parts okC _ 1300 okC_2 ?_
  rw [List.drop_drop]
  refine all_parts okC _ 1300 okC_3 ?_
  rw [List.drop_drop]
  exact okC_e
theorem okC_at (c : List Nat) (h1 : c.length = 13) (h2 : ∀ x ∈ c, x ≤ 4) (h3 : c.sum = 5) : okC c = true := by
  have h := allC_mem c 5 h2 h3
  rw [h1] at h
  exact List.all_eq_true.1 okC_all c h
end Go.Proofs.Ytodmaomngpnboaa
