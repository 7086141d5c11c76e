/- Contracts: overlaps, borders, leads, parts of words, in both texts. -/
import Derived.Test.YtodmaomngpnboaaWb
import Derived.Test.YtodmaomngpnboaaDc
import Derived.BigQuiet
import Derived.Lib.MinMax
set_option linter.unusedVariables false
namespace Go.Proofs.Ytodmaomngpnboaa
open Go.RowKit

theorem part_end {w : World} {b off n cap : Nat} {fs : List Int} (h : Sl (Value.int .i64) 0 w (.slice (some ⟨b, off, none⟩) n cap) fs) (hn : fs.length = n) (hcap : n ≤ cap) (k : Nat) (hk : k ≤ n) :
    Sl (Value.int .i64) 0 w (.slice (some ⟨b, off + (n - k), none⟩) (n - (n - k)) (cap - (n - k))) (fs.drop (n - k)) := by
  have := h.part (n - k) (n - (n - k)) (cap - (n - k)) (by omega) (by omega)
  rwa [List.take_of_length_le (by simp; omega)] at this
theorem own_add {w : World} {base : Nat} {e : TypeId} {v : Value} {l : List Int} {x : Int} (h : w.ownsRow base e 1 v (l.length + 1) (l.map (Value.int .i64) ++ [.int .i64 x])) : w.ownsRow base e 1 v (l ++ [x]).length ((l ++ [x]).map (Value.int .i64)) := by
  rw [List.length_append, List.map_append]; exact h
