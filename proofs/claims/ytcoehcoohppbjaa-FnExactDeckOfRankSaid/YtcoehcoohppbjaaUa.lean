/- Contracts: dealing down and under, pure and the model's. -/
import Derived.Test.YtcoehcoohppbjaaDc
import Derived.Deep.AppendLies
import Derived.Deep.LoopGhost
import Derived.Deep.RegionHeld3
import Derived.Deep.Cut
set_option linter.unusedVariables false
namespace Go.Proofs.Ytcoehcoohppbjaa
open Go.RowKit

def duN (L : List Int) : List Int := match L.tail with
  | [] => []
  | y :: s => s ++ [y]
theorem duN_len (L : List Int) : (duN L).length = L.length - 1 := by
  unfold duN
  rw [← List.length_tail]
  split
  · rename_i h; rw [h]
  · rename_i h; rw [h]; simp
theorem duN_small (L : List Int) (h : L.length ≤ 2) : duN L = L.tail := by
  unfold duN
  split
  · rename_i e; rw [e]
  · rename_i y s e
    have := congrArg List.length e
    simp at this
    have : s = [] := by cases s with
      | nil => rfl
      | cons a b => simp at this; omega
    rw [e, this]; rfl
theorem duN_big (L : List Int) (h : 3 ≤ L.length) : duN L = L.tail.tail ++ [L.tail.getD 0 0] := by
  unfold duN
  split
  · rename_i e
    have := congrArg List.length e
    simp at this; omega
  · rename_i y s e
    rw [e]; rfl
def duS (n : Nat) : Nat → List Int
  | 0 => tab n fun k => (k : Int)
  | k + 1 => duN (duS n k)
theorem duS_len (n : Nat) : ∀ k, (duS n k).length = n - k
  | 0 => by rw [duS, tab_len]; rfl
  | k + 1 => by rw [duS, duN_len, duS_len n k]; omega
def duG (n k : Nat) : Int := (duS n k).getD 0 0

theorem own_keep {w w' : World} {base g0 cap : Nat} {e : TypeId} {size n : Nat} {xs : List Value} (h : w.ownsRow base e size (.slice (some ⟨g0, 0, none⟩) n cap) n xs) (hk : w'.heap[g0]? = w.heap[g0]?) : w'.ownsRow base e size (.slice (some ⟨g0, 0, none⟩) n cap) n xs := by
  obtain ⟨h1, h2⟩ := h
  refine ⟨h1, ?_⟩
  rcases h2 with ⟨hn, h0⟩ | ⟨g', cap', cur, hv, hb, hgg, hc, hm, hs, ht⟩
  · exact .inl ⟨hn, h0⟩
  · cases hv
    exact .inr ⟨g0, cap, cur, rfl, hb, hk.trans hgg, hc, hm, hs, ht⟩
theorem own_cell {w : World} {base g cap n : Nat} {e : TypeId} {L : List Int} (h : w.ownsRow base e 1 (.slice (some ⟨g, 0, none⟩) n cap) n (L.map (Value.int .i64))) (k : Nat) (hk : k < n) : w.cell? ⟨g, k, none⟩ = some (.int .i64 (L.getD k 0)) := by
  have hl : L.length = n := by have := h.1; simp at this; exact this
  rw [h.cellAt k (by omega), List.getElem?_map, List.getElem?_eq_getElem (by omega)]
  simp [List.getD, show k < L.length by omega]
theorem own_tail {w : World} {base g cap n : Nat} {e : TypeId} {L : List Int} (h : w.ownsRow base e 1 (.slice (some ⟨g, 0, none⟩) n cap) n (L.map (Value.int .i64))) : ∀ j u, (L.tail.map (Value.int .i64))[j]? = some u → w.cell? ((⟨g, 1, none⟩ : Addr).add j) = some u := by
  intro j u hj
  have hc := h.cells (g := g) rfl (j + 1) u (by rw [List.getElem?_map] at hj ⊢; rw [← hj]; cases L <;> simp)
  have e1 : (⟨g, 0, none⟩ : Addr).add (j + 1) = (⟨g, 1, none⟩ : Addr).add j := by
    unfold Addr.add
    rw [if_neg (by omega)]
    split
    · subst j; rfl
    · simp; omega
  rw [← e1]; exact hc
theorem own_cap {w : World} {base g cap n : Nat} {e : TypeId} {xs : List Value} (h : w.ownsRow base e 1 (.slice (some ⟨g, 0, none⟩) n cap) n xs) : n ≤ cap := by
  rcases h.2 with ⟨h, _⟩ | ⟨g', cap', cur, hv, -, -, hc, -⟩
  · cases h
  · cases hv; exact hc
theorem ints_one (L : List Int) : ∀ t ∈ L.map (Value.int .i64), t.oneCell' = true := fun t ht => by
  obtain ⟨y, -, rfl⟩ := List.mem_map.1 ht; rfl

theorem du_fact {base b2 n2 c2 bE b4 : Nat} {e : TypeId} {w w3 W w4 : World} {xs : List Value} (HO3 : w3.ownsRow base e 1 (.slice (some ⟨b2, 0, none⟩) n2 c2) n2 xs) (HB3 : Below base w w3) (hB : Below w3.heap.size w3 W) (hbase : base ≤ w3.heap.size) (hgrow : W.grownBy w4 (some bE)) (hE : w3.heap.size ≤ bE) (hat : some bE = some b4 ∨ b4 = W.heap.size) :
    Hid (w4.ownsRow base e 1 (.slice (some ⟨b2, 0, none⟩) n2 c2) n2 xs) ∧ Hid (Below base w w4) ∧ Hid (Below w3.heap.size w3 w4) ∧ w3.heap.size ≤ b4 := by
  have h2 : b2 < w3.heap.size := (HO3.lt _ rfl).2
  have hs := hB.size
  refine ⟨Lib.hid ?_, Lib.hid ?_, Lib.hid ?_, ?_⟩
  · exact (own_keep HO3 (hB.block b2 h2)).kept hgrow (.inr (by simp [Value.ownBlock]; omega))
  · exact (HB3.trans (hB.mono hbase)).grown hgrow (by omega) (fun k hk => by cases hk; omega)
  · exact hB.grown hgrow (by omega) (fun k hk => by cases hk; omega)
  · rcases hat with h | h
    · injection h with h; omega
    · omega
theorem news_kept {w w' : World} {own : Option Nat} {b : Nat} {x : Value} (hg : w.grownBy w' own) (hc : w.cell? ⟨b, 0, none⟩ = some x) (hne : some b ≠ own) : ∀ j u, [x][j]? = some u → w'.cell? ((⟨b, 0, none⟩ : Addr).add j) = some u := by
  intro j u h
  cases j with
  | zero =>
    simp at h
    subst h
    rw [show (⟨b, 0, none⟩ : Addr).add 0 = ⟨b, 0, none⟩ from rfl, hg.cell_far _ (World.block_lt_of_cell? _ _ hc) hne]
    exact hc
  | succ j => simp at h

