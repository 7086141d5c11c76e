/- Contracts: a row that a function fills (deckBy), whatever function of places it is handed; new decks. -/
import Derived.Test.YtfihnnhgegdjkaaDk
import Derived.Maps.AppendAt
set_option linter.unusedVariables false
namespace Go.Proofs.Ytfihnnhgegdjkaa
open Go.RowKit

theorem Sw.of_owns {α : Type} {mk : α → Value} {d : α} {w : World} {base : Nat} {e : TypeId} {v : Value} {fs : List α} {n : Nat} (h : w.ownsRow base e 1 v n (fs.map mk)) (hn : fs.length = n) : Sw mk d w v fs base w.heap.size := by
  subst hn
  have h0 := h
  rcases h.2 with ⟨rfl, h'⟩ | ⟨g, cap, cur, rfl, hb, hg, hnc, _⟩
  · obtain rfl : fs = [] := List.eq_nil_of_length_eq_zero h'
    exact Sw.nil _ _ _ _ _ _ _
  · have hlt := (h.lt g rfl)
    refine ⟨_, cap, rfl, fun _ => ⟨hnc, g, 0, rfl, hb, hlt.2, Nat.le_refl _, fun i hi => ⟨?_, ?_⟩⟩⟩
    · rw [Nat.zero_add, h0.cellAt i (by omega), List.getElem?_map, List.getElem?_eq_getElem hi, getD_lt fs d i hi]
      rfl
    · rw [Nat.zero_add]; exact h0.frozenAt i
/-- the row of a table after k rounds -/
def filled (n : Nat) (g : Nat → Int) (k : Nat) : List Int := tab k g ++ List.replicate (n - k) 0
theorem filled_len (n : Nat) (g : Nat → Int) (k : Nat) (h : k ≤ n) : (filled n g k).length = n := by simp [filled, tab]; omega
theorem filled_zero (n : Nat) (g : Nat → Int) : filled n g 0 = List.replicate n 0 := by simp [filled, tab]
theorem filled_set (n : Nat) (g : Nat → Int) (k : Nat) (h : k < n) : (filled n g k).set k (g k) = filled n g (k + 1) := by
  unfold filled
  have e : n - k = (n - (k + 1)) + 1 := by omega
  rw [List.set_append_right _ _ (by rw [tab_len]; exact Nat.le_refl _), tab_len, Nat.sub_self, e, List.replicate_succ, tab_succ, List.append_assoc]
  rfl
theorem filled_done (n : Nat) (g : Nat → Int) : filled n g n = tab n g := by simp [filled]
theorem filled_at (n : Nat) (g : Nat → Int) (k : Nat) (h : k < n) : (filled n g k)[k]? = some 0 := by
  unfold filled
  rw [List.getElem?_append_right (by rw [tab_len]; exact Nat.le_refl _), tab_len, Nat.sub_self, List.getElem?_replicate, if_pos (by omega)]

theorem run_enter {P : Program} {f : FuncId} {fn : Func} (hf : P.funcs[f]? = some fn) (hname : (fn.name == "runtime.NumGoroutine") = false) (hb : fn.body.isSome = true) (args : Array Value) (w : World) :
    (callFunc f args).run P w = .ok (.enter f args) w := by
  obtain ⟨c, hb⟩ := Option.isSome_iff_exists.1 hb
  have h1 : fn.name ≠ "runtime.NumGoroutine" := by simpa using hname
  simp [callFunc, hf, h1, hb]

/-! ### new decks -/

/-! ### turned decks -/
