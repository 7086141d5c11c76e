/- Contracts: words that have not come, the model. -/
import Derived.Test.YticocfoheenmdaaWi
import Derived.Test.YticocfoheenmdaaWr
set_option linter.unusedVariables false
namespace Go.Proofs.Yticocfoheenmdaa
open Go.RowKit Go.Maps

theorem tab_setW (n : Nat) (g : Nat → Int) (k : Nat) (v : Int) : (tab n g).set k v = tab n (fun j => if j = k then v else g j) := by
  apply List.ext_getElem
  · simp [tab]
  · intro i h1 h2
    simp only [tab, List.getElem_set, List.getElem_map, List.getElem_range]
    by_cases e : k = i
    · subst e; simp
    · rw [if_neg e, if_neg (fun h => e h.symm)]
theorem zeros_tabW (n : Nat) : (madeCells (Value.int .i64 0).cells (n * 1)).toList = (tab n fun _ => 0).map (Value.int .i64) := by
  rw [Nat.mul_one]
  refine (made1 _ n).trans ?_
  unfold tab
  rw [List.map_map]
  apply List.ext_getElem
  · simp
  · intro i h1 h2; simp
