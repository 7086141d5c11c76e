/- The library's iterator over the parts of a list, each within the list: its contract; decks whose parts have all kinds, the program. -/
import Derived.Test.YtodmaomngpnboaaItC
set_option linter.unusedVariables false
namespace Go.Proofs.Ytodmaomngpnboaa
open Go.RowKit Go.Shelf
attribute [local go_sem] Oper.semAt_some

theorem chunk_stopsF (B1 B2 n₀ L cap k cnt : Nat) (p : Option Addr) (hk : 1 ≤ k) (hk2 : k ≤ 1000) (hcn : L ≤ 1000000) (hL : L = cnt * k) (hcap : L ≤ cap) (hp : ∃ b off, p = some ⟨b, off, none⟩) (w : World) (h1 : B1 < n₀) (h2 : B2 < n₀) (hn₀ : n₀ ≤ w.heap.size)
    (c1 : w.cell? ⟨B1, 0, none⟩ = some (.slice p L cap)) (c2 : w.cell? ⟨B2, 0, none⟩ = some (.int .i64 (k : Int))) (n : Nat) (hn : 1 ≤ n) :
    SeqStopsK Fence.wide n Try.prog 168 #[.pointer (some ⟨B1, 0, none⟩), .pointer (some ⟨B2, 0, none⟩)] (fun i : Fin cnt => #[.slice (partA p k i.1) k k]) (Below n₀) (fun ys => ys.map Fin.val = List.range cnt) (fun pre => ∃ m, m ≤ cnt ∧ pre.map Fin.val = List.range m) cnt w := fun l J Jx W hW hJ _ hY h0 => by
  have e1 := (hW.cell (p := ⟨B1, 0, none⟩) (by show B1 < _; omega)).trans c1
  have e2 := (hW.cell (p := ⟨B2, 0, none⟩) (by show B2 < _; omega)).trans c2
  obtain ⟨b, off, rfl⟩ := hp
  refine (chunk1_in Fence.wide n trivial rfl hn l B1 B2 n₀ b off L cap k cnt hk hk2 hcn (Lib.hid hL) hcap h1 h2 (fun s W' => ∃ l : List (Fin cnt), l.map Fin.val = s ∧ J l W') (fun s W' => ∃ l : List (Fin cnt), l.map Fin.val = s ∧ Jx l W')
    (Lib.hid fun s A B hs hb => by obtain ⟨l, e, hl⟩ := hs; exact ⟨l, e, hJ l A B none hl (gobI hb) (fun r e => by cases e)⟩)
    (fun pre x W1 hj hl hx => ?_) W e1 e2 ⟨[], rfl, h0⟩).mono ?_
  · obtain ⟨l, e, hl'⟩ := hj
    obtain ⟨fn, tmps, assign, body, hy, hR⟩ := hY l ⟨x, hx⟩ W1 hl' (by rw [← List.length_map (f := Fin.val), e]; exact hl)
    refine ⟨fn, tmps, assign, body, hy, hR.mono ?_⟩
    rintro e' W' (⟨a1, a2, a3⟩ | ⟨a1, a2⟩)
    · exact .inl ⟨a1, ⟨_, by rw [List.map_append, e]; rfl, a2⟩, a3⟩
    · exact .inr ⟨a1, _, by rw [List.map_append, e]; rfl, a2⟩
  · rintro e W' ⟨hv, ⟨ys, h3, l, e3, h4⟩ | ⟨pre, ⟨m, hm, h5⟩, l, e3, h4⟩⟩
    · exact ⟨hv, .inl ⟨l, e3.trans h3, h4⟩⟩
    · exact ⟨hv, .inr ⟨l, ⟨m, hm, e3.trans h5⟩, h4⟩⟩
/-- the part's cards by kinds -/
def kindG (fs : List Int) (k i : Nat) (j : Nat) : Int := fs.getD (i * k + j) 0 % (k : Int)
