/- Contracts: sums of dice, the model. -/
import Derived.Test.YtodmaomngpnboaaMw
set_option linter.unusedVariables false
namespace Go.Proofs.Ytodmaomngpnboaa
open Go.RowKit Go.Maps

theorem zeros_tab6 (n : Nat) : (madeCells (Value.int .i64 0).cells (n * 1)).toList = (tab n fun _ => 0).map (Value.int .i64) := by
  rw [Nat.mul_one]
  show (madeCells #[Value.int .i64 0] n).toList = _
  rw [made1]
  apply List.ext_getElem
  · simp [tab]
  · intro i h1 h2
    simp [tab]
theorem tab_set6 (n : Nat) (g : Nat → Int) (k : Nat) (v : Int) : (tab n g).set k v = tab n (fun j => if j = k then v else g j) := by
  apply List.ext_getElem
  · simp [tab]
  · intro i h1 h2
    simp only [tab, List.getElem_set, List.getElem_map, List.getElem_range]
    by_cases e : k = i
    · subst e; simp
    · rw [if_neg e, if_neg (fun h => e h.symm)]
theorem nextP_set (ds : List (List Int)) (j k i t : Nat) (x : Int) (hx : (k : Int) + (ds.getD j []).getD i 0 = (t : Int)) (n : Nat) : (tab n fun u => nextP ds j k i (u : Int)).set t (nextP ds j k i (t : Int) + wayF ds j (k : Int)) = tab n fun u => nextP ds j k (i + 1) (u : Int) := by
  rw [tab_set6]
  refine tab_congr fun u _ => ?_
  rw [nextP_step, hx]
  by_cases e : u = t
  · subst e; rw [if_pos rfl, if_pos rfl]
  · rw [if_neg e, if_neg (by omega), Int.add_zero]
