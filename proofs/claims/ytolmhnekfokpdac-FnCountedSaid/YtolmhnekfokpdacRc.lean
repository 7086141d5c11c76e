/- Contracts: rings of bits, the model's. -/
import Derived.Test.YtolmhnekfokpdacRb
import Derived.Deep.AppendLies
import Derived.Deep.LoopGhost
set_option linter.unusedVariables false
namespace Go.Proofs.Ytolmhnekfokpdac
open Go.RowKit


theorem own_trunc {w : World} {base g cap : Nat} {e : TypeId} {n : Nat} {L : List Int} (h : w.ownsRow base e 1 (.slice (some ⟨g, 0, none⟩) (n + 1) cap) (n + 1) (L.map (Value.int .i64))) : w.ownsRow base e 1 (.slice (some ⟨g, 0, none⟩) n cap) n ((L.take n).map (Value.int .i64)) := by
  obtain ⟨h1, h2⟩ := h
  rw [List.length_map] at h1
  rcases h2 with ⟨hn, _⟩ | ⟨g', cap', cur, hv, hb, hgg, hc, hm, hs, ht⟩
  · cases hn
  · cases hv
    refine ⟨by simp; omega, .inr ⟨g, cap, cur, rfl, hb, hgg, by omega, hm, hs, ?_⟩⟩
    rw [List.map_take, ← ht, List.take_take]
    congr 1
    omega
theorem own_cell {w : World} {base g cap n : Nat} {e : TypeId} {L : List Int} (h : w.ownsRow base e 1 (.slice (some ⟨g, 0, none⟩) n cap) n (L.map (Value.int .i64))) (k : Nat) (hk : k < n) : w.cell? ⟨g, k, none⟩ = some (.int .i64 (L.getD k 0)) := by
  have hl : L.length = n := by have := h.1; simp at this; exact this
  rw [h.cellAt k (by omega), List.getElem?_map, List.getElem?_eq_getElem (by omega)]
  simp [List.getD, show k < L.length by omega]
theorem extL_len (m : Nat) (L : List Int) : ∀ j, (extL m L j).length = L.length + j
  | 0 => rfl
  | j + 1 => by rw [extL, List.length_append, extL_len m L j]; rfl

