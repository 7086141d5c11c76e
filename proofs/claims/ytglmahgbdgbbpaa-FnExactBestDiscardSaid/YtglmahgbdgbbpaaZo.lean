/- BestDiscard: the best so far. -/
import Derived.Test.YtglmahgbdgbbpaaZl
set_option linter.unusedVariables false
namespace Go.Proofs.Ytglmahgbdgbbpaa
open Go.RowKit

/-- the best tile to discard of the first k kinds, and how many kinds are awaited then -/
def bestT (i0 : Int) (l : List Int) : Nat → Int × Int
  | 0 => (i0, -1)
  | k + 1 => if l.getD k 0 = 0 then bestT i0 l k else if (bestT i0 l k).2 < ((waitT (l.set k (l.getD k 0 - 1)) 9).length : Int) then ((k : Int), ((waitT (l.set k (l.getD k 0 - 1)) 9).length : Int)) else bestT i0 l k
theorem bestT_same (l : List Int) : ∀ k, (bestT 0 l k).2 = (bestT (-1) l k).2 ∧ (0 ≤ (bestT (-1) l k).2 → (bestT 0 l k).1 = (bestT (-1) l k).1) ∧ ((∃ j, j < k ∧ l.getD j 0 ≠ 0) → 0 ≤ (bestT (-1) l k).2)
  | 0 => ⟨rfl, fun h => absurd h (show ¬ (0 : Int) ≤ -1 by decide), fun ⟨j, hj, _⟩ => absurd hj (by omega)⟩
  | k + 1 => by
    obtain ⟨h1, h2, h3⟩ := bestT_same l k
    simp only [bestT]
    by_cases h0 : l.getD k 0 = 0
    · rw [if_pos h0, if_pos h0]
      refine ⟨h1, h2, fun ⟨j, hj, hne⟩ => h3 ⟨j, ?_, hne⟩⟩
      by_cases e : j = k
      · subst e; exact absurd h0 hne
      · omega
    · rw [if_neg h0, if_neg h0, h1]
      split
      · exact ⟨rfl, fun _ => rfl, fun _ => by show (0 : Int) ≤ ((waitT (l.set k (l.getD k 0 - 1)) 9).length : Int); omega⟩
      · rename_i hh
        exact ⟨h1, h2, fun _ => by omega⟩
theorem bestT_eq (l : List Int) (h9 : l.length = 9) (hs : sumI l 9 % 3 = 2) : bestT 0 l 9 = bestT (-1) l 9 := by
  obtain ⟨h1, h2, h3⟩ := bestT_same l 9
  have hex : ∃ j, j < 9 ∧ l.getD j 0 ≠ 0 := by
    apply Classical.byContradiction
    intro hno
    have hz : ∀ j, j < 9 → l.getD j 0 = 0 := fun j hj => Classical.byContradiction fun hne => hno ⟨j, hj, hne⟩
    have : sumI l 9 = 0 := by
      simp only [sumI]
      rw [hz 0 (by omega), hz 1 (by omega), hz 2 (by omega), hz 3 (by omega), hz 4 (by omega), hz 5 (by omega), hz 6 (by omega), hz 7 (by omega), hz 8 (by omega)]
      rfl
    rw [this] at hs
    exact absurd hs (by decide)
  exact Prod.ext (h2 (h3 hex)) h1
def ok_BestDiscard (fs : List Int) : Bool := tileB fs && decide (sumI fs fs.length % 3 = 2)
def res_BestDiscard (fs : List Int) : Int := if ok_BestDiscard fs = true then (bestT (-1) fs 9).1 else 0
def res2_BestDiscard (fs : List Int) : Int := if ok_BestDiscard fs = true then (bestT (-1) fs 9).2 else 0
end Go.Proofs.Ytglmahgbdgbbpaa
