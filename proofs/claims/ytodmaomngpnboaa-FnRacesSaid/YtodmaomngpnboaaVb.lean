/- t -/
import Derived.Test.YtodmaomngpnboaaVa
set_option linter.unusedVariables false
namespace Go.Proofs.Ytodmaomngpnboaa
open Go.RowKit Go.Maps

theorem lit2 (w : World) (N : Nat) (x1 v1 x2 v2 : Int) (h1 : (Lit.int .i64 x1).wf = true) (g1 : (Lit.int .i64 v1).wf = true) (h2 : (Lit.int .i64 x2).wf = true) (g2 : (Lit.int .i64 v2).wf = true) (b1 : 0 ≤ x1 ∧ x1 < N) (b2 : 0 ≤ x2 ∧ x2 < N) :
    ∃ W1 W2 : World, (Instr.mapUpdate 119 (.map (some w.heap.size)) (.int .i64 x1) (.int .i64 v1)).run Try.prog (w.alloc (.map #[] 0)).drew = .ok () W1 ∧ (Instr.mapUpdate 119 (.map (some w.heap.size)) (.int .i64 x2) (.int .i64 v2)).run Try.prog W1 = .ok () W2 ∧
      TV W2 w.heap.size 2 N (upd (upd (fun _ => 0) x1 v1) x2 v2) ∧ (w.alloc (.map #[] 0)).drew.grownBy W1 (some w.heap.size) ∧ W1.grownBy W2 (some w.heap.size) := by
  obtain ⟨D, ho, hr, hk⟩ := TV.made w N
  have ho' : (w.alloc (.map #[] 0)).drew.ownsMap Try.prog 2 (plainElem (H := Unit) Try.prog 2) w.heap.size 0 D := ho
  obtain ⟨W1, r1, o1, q1⟩ := ho'.update lawI Try.underlying119 (by unfold maxLen; omega) (keyOf_int_mk Try.underlying2 h1) (plainElem_int Try.underlying2 g1)
  obtain ⟨W2, r2, o2, q2⟩ := o1.update lawI Try.underlying119 (by unfold maxLen; omega) (keyOf_int_mk Try.underlying2 h2) (plainElem_int Try.underlying2 g2)
  exact ⟨W1, W2, r1, r2, ⟨_, o2, put_reads o1.isMap (put_reads ho.isMap hr x1 v1) x2 v2, put_keys o1.isMap (put_keys ho.isMap hk x1 _ b1.1 b1.2) x2 _ b2.1 b2.2⟩, q1, q2⟩
theorem tab_set (n : Nat) (g : Nat → Int) (k : Nat) (v : Int) : (tab n g).set k v = tab n (fun j => if j = k then v else g j) := by
  apply List.ext_getElem
  · simp [tab]
  · intro i h1 h2
    simp only [tab, List.getElem_set, List.getElem_map, List.getElem_range]
    by_cases e : k = i
    · subst e; simp
    · rw [if_neg e, if_neg (fun h => e h.symm)]
end Go.Proofs.Ytodmaomngpnboaa
