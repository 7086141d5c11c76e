/- Contracts: who is left behind each round, the model's. -/
import Derived.Test.YtfipcpbibmhjoabSv
set_option linter.unusedVariables false
namespace Go.Proofs.Ytfipcpbibmhjoab
open Go.RowKit
theorem own_zeroK (w : World) (base : Nat) (e : TypeId) (hb : base ≤ w.heap.size) : (w.alloc (.cells #[] e)).ownsRow base e 1 (.slice (some ⟨w.heap.size, 0, none⟩) 0 0) 0 [] :=
  World.ownsRow_lit w #[] 0 hb (Nat.zero_le _) rfl
theorem own_laterK {w w' : World} {base : Nat} {e : TypeId} {size : Nat} {v : Value} {n : Nat} {xs : List Value} (h : w.ownsRow base e size v n xs) (hb : Below w.heap.size w w') : w'.ownsRow base e size v n xs :=
  h.kept (row := none) ⟨hb.os, hb.tape, hb.output, hb.size, fun k hk _ => hb.block k hk⟩ (by cases v.ownBlock <;> simp)
theorem own_at {w : World} {base : Nat} {e : TypeId} {v : Value} {n : Nat} {l : List Int} (h : w.ownsRow base e 1 v n (l.map (Value.int .i64))) (hl : l.length = n) (h0 : 0 < n) :
    ∃ g cap, v = .slice (some ⟨g, 0, none⟩) n cap ∧ n ≤ cap ∧ base ≤ g ∧ g < w.heap.size ∧ ∀ i, i < n → w.cell? ⟨g, i, none⟩ = some (.int .i64 (l.getD i 0)) := by
  rcases h.2 with ⟨e, hz⟩ | ⟨g, cap', cur, e, hb', hg', hnc, _⟩
  · exfalso; omega
  · subst e
    refine ⟨g, cap', rfl, hnc, hb', (h.lt g rfl).2, fun i hi => ?_⟩
    rw [h.cellAt i (by omega), List.getElem?_map, List.getElem?_eq_getElem (by omega), getD_lt _ 0 _ (by omega)]; rfl
theorem own_monoK {w : World} {base base' : Nat} {e : TypeId} {size : Nat} {v : Value} {n : Nat} {xs : List Value} (h : w.ownsRow base e size v n xs) (hb : base' ≤ base) : w.ownsRow base' e size v n xs :=
  ⟨h.1, h.2.imp id (fun ⟨g, cap, cur, e, hb', r⟩ => ⟨g, cap, cur, e, Nat.le_trans hb hb', r⟩)⟩
theorem tab_snoc (g : Nat → Int) (k : Nat) : (tab k g).map (Value.int .i64) ++ [.int .i64 (g k)] = (tab (k + 1) g).map (Value.int .i64) := by
  rw [tab_succ, List.map_append]; rfl
/-- what is left when g games have been played, and what t games more add -/
theorem left_get (p : Nat) (ws : List Bool) (g t : Nat) (h : 2 * g + t < p + g) : ((cameL p ws g).drop (2 * g)).getD t 0 = (cameL p ws g).getD (2 * g + t) 0 := by
  simp only [List.getD, List.getElem?_drop]
theorem next_more (p : Nat) (ws : List Bool) (g t : Nat) (h : 2 * g + 2 * t + 1 < p + g) :
    ((cameL p ws (g + t)).drop (p + g)).map (Value.int .i64) ++ [.int .i64 (((cameL p ws g).drop (2 * g)).getD (if ws.getD (g + t) false = true then 2 * t else 2 * t + 1) 0)] = ((cameL p ws (g + (t + 1))).drop (p + g)).map (Value.int .i64) := by
  rw [show g + (t + 1) = (g + t) + 1 by omega]
  have e : cameL p ws (g + t + 1) = cameL p ws (g + t) ++ [(cameL p ws (g + t)).getD (if ws.getD (g + t) false = true then 2 * (g + t) else 2 * (g + t) + 1) 0] := rfl
  rw [e, List.drop_append_of_le_length (by rw [cameL_len]; omega), List.map_append]
  congr 1
  cases hw : ws.getD (g + t) false
  · rw [if_neg Bool.false_ne_true, if_neg Bool.false_ne_true, left_get p ws g (2 * t + 1) (by omega)]
    rw [cameL_get p ws g (2 * (g + t) + 1) (by omega) t, show 2 * g + (2 * t + 1) = 2 * (g + t) + 1 by omega]
    rfl
  · rw [if_pos rfl, if_pos rfl, left_get p ws g (2 * t) (by omega)]
    rw [cameL_get p ws g (2 * (g + t)) (by omega) t, show 2 * g + 2 * t = 2 * (g + t) by omega]
    rfl
theorem came_split (p : Nat) (ws : List Bool) (g : Nat) : ∀ d, ∃ ex, cameL p ws (g + d) = cameL p ws g ++ ex ∧ ex.length = d
  | 0 => ⟨[], by simp, rfl⟩
  | d + 1 => by
    obtain ⟨ex, e, hl⟩ := came_split p ws g d
    exact ⟨ex ++ [_], by show cameL p ws (g + d) ++ _ = _; rw [e, List.append_assoc], by simp [hl]⟩
theorem out_more (p : Nat) (ws : List Bool) (g d : Nat) : ((cameL p ws g).drop p).map (Value.int .i64) ++ ((cameL p ws (g + d)).drop (p + g)).map (Value.int .i64) = ((cameL p ws (g + d)).drop p).map (Value.int .i64) := by
  obtain ⟨ex, e, hl⟩ := came_split p ws g d
  have e2 : (cameL p ws g ++ ex).drop (p + g) = ex := by rw [show p + g = (cameL p ws g).length by rw [cameL_len], List.drop_left]
  have e3 : (cameL p ws g ++ ex).drop p = (cameL p ws g).drop p ++ ex := List.drop_append_of_le_length (by rw [cameL_len]; omega)
  rw [e, e2, e3, List.map_append]
