/- Contracts: the library's Concat of two lists. -/
import Derived.Test.YtodmaomngpnboaaYs
set_option linter.unusedVariables false
namespace Go.Proofs.Ytodmaomngpnboaa
open Go.RowKit

theorem sl_news {w : World} {b off n cap : Nat} {fs : List Int} (h : Sl (Value.int .i64) 0 w (.slice (some ⟨b, off, none⟩) n cap) fs) : ∀ j u, (fs.map (Value.int .i64))[j]? = some u → w.cell? ((⟨b, off, none⟩ : Addr).add j) = some u := by
  intro j u hj
  rw [List.getElem?_map] at hj
  cases hx : fs[j]? with
  | none => rw [hx] at hj; cases hj
  | some x =>
    rw [hx] at hj
    cases hj
    have hj2 : j < fs.length := (List.getElem?_eq_some_iff.1 hx).1
    obtain ⟨p', cap', e, hf⟩ := h
    obtain ⟨_, b', off', e2, _, hc⟩ := hf (by omega)
    cases e
    cases e2
    have := hc j hj2
    rw [show fs.getD j 0 = x by simp [List.getD, hx]] at this
    rw [Addr.add_lit]
    exact this
theorem all_one (fs : List Int) : ∀ u ∈ fs.map (Value.int .i64), u.oneCell' = true := by
  intro u hu
  obtain ⟨x, -, rfl⟩ := List.mem_map.1 hu; rfl
theorem own_cat {w : World} {base : Nat} {e : TypeId} {v : Value} {l m : List Int} (h : w.ownsRow base e 1 v (l.length + m.length) (l.map (Value.int .i64) ++ m.map (Value.int .i64))) : w.ownsRow base e 1 v (l ++ m).length ((l ++ m).map (Value.int .i64)) := by
  rw [List.length_append, List.map_append]; exact h
