/- Contracts: sums of dice, the program: the closure, the map of sums. -/
import Derived.Test.YtodmaomngpnboaaMt
import Derived.Test.YtodmaomngpnboaaVb
set_option linter.unusedVariables false
namespace Go.Proofs.Ytodmaomngpnboaa
open Go.RowKit Go.Maps

theorem lit5 (w : World) (N : Nat) (x1 v1 : Int) (h1 : (Lit.int .i64 x1).wf = true) (g1 : (Lit.int .i64 v1).wf = true) (b1 : 0 ≤ x1 ∧ x1 < N) :
    ∃ W1 : World, (Instr.mapUpdate 119 (.map (some w.heap.size)) (.int .i64 x1) (.int .i64 v1)).run Try.prog (w.alloc (.map #[] 0)) = .ok () W1 ∧ TV W1 w.heap.size 1 N (upd (fun _ => 0) x1 v1) ∧ (w.alloc (.map #[] 0)).grownBy W1 (some w.heap.size) := by
  obtain ⟨D, ho, hr, hk⟩ := TV.made w N
  obtain ⟨W1, r1, o1, q1⟩ := ho.update lawI Try.underlying119 (by unfold maxLen; omega) (keyOf_int_mk Try.underlying2 h1) (plainElem_int Try.underlying2 g1)
  exact ⟨W1, r1, ⟨_, o1, put_reads ho.isMap hr x1 v1, put_keys ho.isMap hk x1 _ b1.1 b1.2⟩, q1⟩
