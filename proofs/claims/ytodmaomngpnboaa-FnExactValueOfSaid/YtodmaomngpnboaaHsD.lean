/- Contracts: what five cards look like, in the program: the loop over the cards. -/
import Derived.Test.YtodmaomngpnboaaHsC
import Derived.Test.YtodmaomngpnboaaCwB
import Derived.Laws.Tables
import Derived.Deep.MidRow
import Derived.Laws.NewBlocks
import Derived.RegionTactic
import Derived.Laws.Cover3
import Derived.Laws.CopyOwn
set_option linter.unusedVariables false
namespace Go.Proofs.Ytodmaomngpnboaa
open Go.RowKit

theorem und5 : Try.prog.underlying 96 = some (.array 5 2) := by kernel_rfl
theorem inf5 : (Try.prog.info? 96).map (·.size) = some 5 := by kernel_rfl
theorem inf8 : (Try.prog.info? 98).map (·.size) = some 8 := by kernel_rfl
theorem only_cell (w : World) (b k : Nat) (v : Value) : Only b (b + 1) w (w.setCell ⟨b, k, none⟩ v) := (Only.refl b (b + 1) w).step' ⟨b, k, none⟩ v (Nat.le_refl _) (Nat.lt_succ_self _)
theorem Sw_of_heap {w : World} {g n : Nat} {L : List Int} {t : TypeId} (hn : L.length = n) (hg : w.heap[g]? = some (.cells (L.map (Value.int .i64)).toArray t (0, 0))) : Sw (Value.int .i64) 0 w (.slice (some ⟨g, 0, none⟩) n n) L g (g + 1) := by
  have hlt : g < w.heap.size := by
    rcases Nat.lt_or_ge g w.heap.size with h | h
    · exact h
    · rw [Array.getElem?_eq_none h] at hg; cases hg
  refine ⟨_, _, by rw [hn], fun _ => ⟨Nat.le_of_eq hn, g, 0, rfl, Nat.le_refl _, Nat.lt_succ_self _, hlt, fun i hi => ⟨?_, ?_⟩⟩⟩
  · unfold World.cell?
    rw [Nat.zero_add, hg]
    simp [hi]
  · simp [World.frozen?, hg]
/-- ranks and counts when k cards have been looked at -/
def rnkK (cs : List Nat) (k : Nat) : List Int := tab 5 fun j => if j < k then ((cs.getD j 0 % 13 : Nat) : Int) else ((cs.getD j 0 : Nat) : Int)
def cntK (cs : List Nat) (k : Nat) : List Int := tab 13 fun r => ((((cs.take k).map (· % 13)).count r : Nat) : Int)
def sameK (cs : List Nat) (k : Nat) : Bool := (cs.take k).all fun c => c / 13 == cs.getD 0 0 / 13
theorem rnkK_len (cs : List Nat) (k : Nat) : (rnkK cs k).length = 5 := tab_len _ _
theorem cntK_len (cs : List Nat) (k : Nat) : (cntK cs k).length = 13 := tab_len _ _
theorem take_next (cs : List Nat) (k : Nat) (h : k < cs.length) : cs.take (k + 1) = cs.take k ++ [cs.getD k 0] := by
  rw [List.take_succ_eq_append_getElem h, List.getD, List.getElem?_eq_getElem h]; rfl
theorem rnkK_next (cs : List Nat) (k : Nat) (h : k < 5) : (rnkK cs k).set k ((cs.getD k 0 % 13 : Nat) : Int) = rnkK cs (k + 1) := by
  unfold rnkK
  rw [tab_setC]
  refine tab_congr fun j hj => ?_
  by_cases e : j = k
  · subst e; rw [if_pos rfl, if_pos (by omega)]
  · rw [if_neg e]
    by_cases e2 : j < k
    · rw [if_pos e2, if_pos (by omega)]
    · rw [if_neg e2, if_neg (by omega)]
theorem cntK_next (cs : List Nat) (k : Nat) (h : k < cs.length) : (cntK cs k).set (cs.getD k 0 % 13) ((cntK cs k).getD (cs.getD k 0 % 13) 0 + 1) = cntK cs (k + 1) := by
  have hm : cs.getD k 0 % 13 < 13 := Nat.mod_lt _ (by omega)
  unfold cntK
  rw [tab_get _ _ _ hm, tab_setC]
  refine tab_congr fun j hj => ?_
  rw [take_next cs k h, List.map_append, List.count_append]
  show _ = ((_ + List.count j [cs.getD k 0 % 13] : Nat) : Int)
  rw [List.count_singleton]
  by_cases e : j = cs.getD k 0 % 13
  · rw [if_pos e, ← e]; simp
  · rw [if_neg e]
    have : (cs.getD k 0 % 13 == j) = false := by rw [beq_eq_false_iff_ne]; exact fun h => e h.symm
    rw [this]; simp
theorem cntK_bd (cs : List Nat) (k r : Nat) (h : cs.length = 5) : 0 ≤ (cntK cs k).getD r 0 ∧ (cntK cs k).getD r 0 ≤ 5 := by
  rcases Nat.lt_or_ge r 13 with hr | hr
  · unfold cntK
    rw [tab_get _ _ _ hr]
    have h1 := List.count_le_length (a := r) (l := (cs.take k).map (· % 13))
    rw [List.length_map, List.length_take] at h1
    omega
  · have e : (cntK cs k)[r]? = none := List.getElem?_eq_none (by rw [cntK_len]; exact hr)
    rw [List.getD, e]; exact ⟨by decide, by decide⟩
theorem sameK_next (cs : List Nat) (k : Nat) (h : k < cs.length) : sameK cs (k + 1) = (sameK cs k && (cs.getD k 0 / 13 == cs.getD 0 0 / 13)) := by
  unfold sameK
  rw [take_next cs k h, List.all_append]; simp
set_option maxRecDepth 100000 in
set_option maxHeartbeats 4000000 in
theorem loop_round (cs : List Nat) (k G D : Nat) (wr : World) (h5 : cs.length = 5) (hk : k < 5) (hGD : G < D) (hG : Sw (Value.int .i64) 0 wr (.slice (some ⟨G, 0, none⟩) 13 13) (cntK cs k) G (G + 1)) (hD : Sw (Value.int .i64) 0 wr (.slice (some ⟨D, 0, none⟩) 5 5) (rnkK cs k) D (D + 1)) :
    let w2 := (wr.setCell ⟨D, k, none⟩ (.int .i64 ((cs.getD k 0 % 13 : Nat) : Int))).setCell ⟨G, cs.getD k 0 % 13, none⟩ (.int .i64 ((cntK cs k).getD (cs.getD k 0 % 13) 0 + 1))
    Sw (Value.int .i64) 0 w2 (.slice (some ⟨G, 0, none⟩) 13 13) (cntK cs (k + 1)) G (G + 1) ∧ Sw (Value.int .i64) 0 w2 (.slice (some ⟨D, 0, none⟩) 5 5) (rnkK cs (k + 1)) D (D + 1) := by
  have hm : cs.getD k 0 % 13 < 13 := Nat.mod_lt _ (by omega)
  have d1 := hD.store k (by rw [rnkK_len]; exact hk) ((cs.getD k 0 % 13 : Nat) : Int)
  rw [rnkK_next cs k hk, Nat.zero_add] at d1
  have g1 := hG.apart (only_cell wr D k (.int .i64 ((cs.getD k 0 % 13 : Nat) : Int))) (.inl (by omega))
  have g2 := g1.store (cs.getD k 0 % 13) (by rw [cntK_len]; exact hm) ((cntK cs k).getD (cs.getD k 0 % 13) 0 + 1)
  rw [cntK_next cs k (by omega), Nat.zero_add] at g2
  have d2 := d1.apart (only_cell (wr.setCell ⟨D, k, none⟩ (.int .i64 ((cs.getD k 0 % 13 : Nat) : Int))) G (cs.getD k 0 % 13) (.int .i64 ((cntK cs k).getD (cs.getD k 0 % 13) 0 + 1))) (.inr (by omega))
  exact ⟨g2, d2⟩
end Go.Proofs.Ytodmaomngpnboaa
