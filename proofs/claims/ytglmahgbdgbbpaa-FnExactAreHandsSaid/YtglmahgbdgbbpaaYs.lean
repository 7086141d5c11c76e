/- Contracts: the library's Grow of nothing, and Concat of two lists. -/
import Derived.Test.YtglmahgbdgbbpaaDb
import Derived.Lib.AppendZerosOnto
import Derived.Lib.SliceRun
import Derived.Laws.AppendOwnNone
import Derived.IntWalk
import Derived.Lib.Walk
set_option linter.unusedVariables false
namespace Go.Proofs.Ytglmahgbdgbbpaa
open Go.RowKit

set_option maxRecDepth 100000 in
set_option maxHeartbeats 2000000 in
theorem grow_nil (n : Nat) (w : World) (h1 : 1 ≤ n) (hn : n ≤ 1000000) :
    Calls Try.prog 86 #[.slice none 0 0, .int .i64 (n : Int)] w fun e w' => ∃ r, e = .returned r ∧ w'.ownsRow w.heap.size 2 1 r 0 [] ∧ Below w.heap.size w w' := by
  obtain ⟨i0, hi, hz0, hz1, hz2⟩ := info_parts (show (Try.prog.info? 2).map (fun i => (i.zero, i.size, i.bytes)) = some (some (.int .i64 0), 1, 8) by kernel_rfl)
  obtain ⟨G, W, hrz, hG, hown, hb⟩ : ∃ (G : Nat) (W : World), (∀ ty, (Builtin.append_ #[25, 3] ty #[.slice none 0 0, .int .i64 (n : Int)]).run Try.prog w = .ok (.slice (some ⟨w.heap.size, 0, none⟩) n G) W) ∧ n ≤ G ∧ Hid (W.ownsRow w.heap.size 2 1 (.slice (some ⟨w.heap.size, 0, none⟩) 0 G) 0 []) ∧ Hid (Below w.heap.size w W) := by
    have hold : (Builtin.firstCells i0.size 0 (.slice none 0 0)).run Try.prog w.drew = .ok ([] : List Value).toArray w.drew := run_firstCells_none w.drew i0.size 0 0 0
    have hr := fun ty => Lib.run_append_grow_zeros (P := Try.prog) w 25 3 ty 2 i0 (.int .i64 0) .i64 .i64 (by kernel_rfl) (by kernel_rfl) hi hz0 none 0 0 [] hold n (by omega) (by omega) (by omega) (by omega) (by rw [hz2]; omega) (growslice_fits (by omega) (by rw [hz2]; omega))
    simp only [Nat.zero_add] at hr
    have hge := grownCap_ge w n 0 2
    have hle := grownCap_le_maxLen w n 0 2 (by unfold maxLen; omega)
    obtain ⟨C, hC⟩ : ∃ C, C = (([] : List Value).toArray ++ Builtin.zeroCells (Value.int .i64 0).cells n ++ Builtin.zeroCells (Value.int .i64 0).cells (grownCap w n 0 2 - n)) := ⟨_, rfl⟩
    have hCs : C.size = grownCap w n 0 2 * 1 := by rw [hC]; simp [Builtin.zeroCells, Value.cells]; omega
    rw [← hC] at hr
    have hh : (w.drew.alloc (.cells C 2)).heap[w.heap.size]? = some (.cells C 2 (0, 0)) := by
      show (w.heap.push _)[w.heap.size]? = _
      simp
    exact ⟨_, _, hr, hge, Lib.hid ⟨rfl, .inr ⟨w.heap.size, _, C, rfl, Nat.le_refl _, hh, Nat.zero_le _, hle, hCs, by simp⟩⟩, Lib.hid (((Below.refl _ w).drew).alloc (Nat.le_refl _) _)⟩
  have d0 : decide ((n : Int) < 0) = false := decide_eq_false (by omega)
  have d1 : decide (0 < (n : Int)) = true := decide_eq_true (by omega)
  clear hi hz0 hz1 hz2
  go_enter Try.func86, Try.ntmps86
  go_wp2_with (at_builtin; refine Lib.wpList_append_run _ rfl _ _ _ _ rfl _ _ rfl rfl _ _ (hrz _) ?_)
  all_goals (go_ret; exact ⟨_, rfl, hown.out, hb.out⟩)
end Go.Proofs.Ytglmahgbdgbbpaa
