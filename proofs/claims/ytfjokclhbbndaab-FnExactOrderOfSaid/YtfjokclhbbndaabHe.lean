/- The library's sort, on a slice of the call's own. -/
import Derived.Test.YtfjokclhbbndaabHb
set_option linter.unusedVariables false
namespace Go.Proofs.Ytfjokclhbbndaab
open Go.RowKit

theorem sort_ok : SortOk := by
  intro base v zs w hb h1 hlen hown
  rcases hown.2 with ⟨_, hn⟩ | ⟨g, cap, cur, rfl, hbase, hg, hnc, hcap, hsz, htake⟩
  · omega
  · have ht : cur.toList.take zs.length = zs.map (Value.int .i64) := by rw [Nat.mul_one] at htake; exact htake
    have hgl : g < w.heap.size := (Array.getElem?_eq_some_iff.1 hg).1
    have hc := AnyM.slices_Sort_int sortLays g 0 cap zs w (holds_of_blockI hg ht) hgl (by omega)
    change Calls Try.prog 47 _ _ _ at hc
    refine hc.mono ?_
    rintro e w' ⟨rfl, n, os, rfl⟩
    refine ⟨rfl, ?_, ?_⟩
    · have := ownsRow_sortedI (w := w) (n := n) (os := os) (ts := sortI zs) (sortI_len zs) hbase hg hnc hcap hsz
      exact this
    · exact (Below.refl base w).grown (grownBy_sortedI _) hb (fun k hk => by cases hk; exact hbase)
end Go.Proofs.Ytfjokclhbbndaab
