/- Slices of structs of some integers, told by one flat list. Nothing of a translation. -/
import Derived.Test.YtcoehcoohppbjacCk
set_option linter.unusedVariables false
namespace Go.Proofs.Ytcoehcoohppbjac
open Go.RowKit
/-- v is a slice of n structs of k integers each, which read as the list -/
def SlK (k : Nat) (w : World) (v : Value) (n : Nat) (fs : List Int) : Prop :=
  fs.length = n * k ∧ ∃ p cap, v = .slice p n cap ∧ (0 < n → n ≤ cap ∧ ∃ b off, p = some ⟨b, off, none⟩ ∧ b < w.heap.size ∧ ∀ i, i < n * k → w.cell? ⟨b, off + i, none⟩ = some (.int .i64 (fs.getD i 0)))
theorem SlK.later {k : Nat} {w w' : World} {v : Value} {n : Nat} {fs : List Int} (h : SlK k w v n fs) (hb : Below w.heap.size w w') : SlK k w' v n fs := by
  obtain ⟨hl, p, cap, rfl, h⟩ := h
  refine ⟨hl, p, cap, rfl, fun h0 => ?_⟩
  obtain ⟨hcap, b, off, rfl, hbs, hc⟩ := h h0
  exact ⟨hcap, b, off, rfl, Nat.lt_of_lt_of_le hbs hb.size, fun i hi => by rw [hb.cell hbs]; exact hc i hi⟩
/-- .. which may be written, and whose cells lie in a block from lo to below hi -/
def SwK (k : Nat) (w : World) (v : Value) (n : Nat) (fs : List Int) (lo hi : Nat) : Prop :=
  fs.length = n * k ∧ ∃ p cap, v = .slice p n cap ∧ (0 < n → n ≤ cap ∧ ∃ b off, p = some ⟨b, off, none⟩ ∧ lo ≤ b ∧ b < hi ∧ hi ≤ w.heap.size ∧ ∀ i, i < n * k → w.cell? ⟨b, off + i, none⟩ = some (.int .i64 (fs.getD i 0)) ∧ w.frozen? ⟨b, off + i, none⟩ = false)
theorem SwK.sl {k : Nat} {w : World} {v : Value} {n : Nat} {fs : List Int} {lo hi : Nat} (h : SwK k w v n fs lo hi) : SlK k w v n fs := by
  obtain ⟨hl, p, cap, rfl, h⟩ := h
  refine ⟨hl, p, cap, rfl, fun h0 => ?_⟩
  obtain ⟨hcap, b, off, rfl, h1, h2, h3, hc⟩ := h h0
  exact ⟨hcap, b, off, rfl, by omega, fun i hi => (hc i hi).1⟩
theorem SwK.later {k : Nat} {w w' : World} {v : Value} {n : Nat} {fs : List Int} {lo hi : Nat} (h : SwK k w v n fs lo hi) (hb : Below w.heap.size w w') : SwK k w' v n fs lo hi := by
  obtain ⟨hl, p, cap, rfl, h⟩ := h
  refine ⟨hl, p, cap, rfl, fun h0 => ?_⟩
  obtain ⟨hcap, b, off, rfl, h1, h2, h3, hc⟩ := h h0
  have := hb.size
  exact ⟨hcap, b, off, rfl, h1, h2, by omega, fun i hi => ⟨by rw [hb.cell (by show b < _; omega)]; exact (hc i hi).1, by rw [hb.frozen (by show b < _; omega)]; exact (hc i hi).2⟩⟩
theorem SwK.apart {k : Nat} {w w' : World} {v : Value} {n : Nat} {fs : List Int} {lo hi l2 h2 : Nat} (h : SwK k w v n fs lo hi) (g : Only l2 h2 w w') (ha : hi ≤ l2 ∨ h2 ≤ lo) : SwK k w' v n fs lo hi := by
  obtain ⟨hl, p, cap, rfl, h⟩ := h
  refine ⟨hl, p, cap, rfl, fun h0 => ?_⟩
  obtain ⟨hcap, b, off, rfl, g1, g2, g3, hc⟩ := h h0
  have hb : w'.heap[b]? = w.heap[b]? := g.block b (by omega)
  exact ⟨hcap, b, off, rfl, g1, g2, by rw [g.size]; exact g3, fun i hi => ⟨(World.cell?_of_block (a := ⟨b, off + i, none⟩) hb).trans (hc i hi).1, (World.frozen?_of_block (a := ⟨b, off + i, none⟩) hb).trans (hc i hi).2⟩⟩
theorem SwK.still {k : Nat} {w w' : World} {v : Value} {n : Nat} {fs : List Int} {lo hi : Nat} (h : SwK k w v n fs lo hi) (g : Only 0 0 w w') : SwK k w' v n fs lo hi := h.apart g (.inr (Nat.zero_le _))
theorem SwK.drawn {k : Nat} {w w' : World} {v : Value} {n : Nat} {fs : List Int} {lo hi : Nat} (h : SwK k w v n fs lo hi) (g : Drawn w w') : SwK k w' v n fs lo hi := by
  obtain ⟨m, rfl⟩ := g
  exact h
theorem SwK.store {k : Nat} {w : World} {b off n cap : Nat} {fs : List Int} {lo hi : Nat} (h : SwK k w (.slice (some ⟨b, off, none⟩) n cap) n fs lo hi) (j : Nat) (hj : j < n * k) (x : Int) :
    SwK k (w.setCell ⟨b, off + j, none⟩ (.int .i64 x)) (.slice (some ⟨b, off, none⟩) n cap) n (fs.set j x) lo hi := by
  obtain ⟨hl, p', cap', e, h⟩ := h
  cases e
  refine ⟨by rw [List.length_set]; exact hl, _, _, rfl, fun h0 => ?_⟩
  obtain ⟨hcap, b', off', e2, g1, g2, g3, hc⟩ := h h0
  cases e2
  refine ⟨hcap, b, off, rfl, g1, g2, by simpa [World.setCell] using g3, fun i hi => ⟨?_, by rw [World.frozen?_setCell]; exact (hc i hi).2⟩⟩
  by_cases e : i = j
  · subst e
    rw [World.cell?_setCell_same _ _ _ (hc i hi).1]
    simp [List.getD, show i < fs.length by omega]
  · rw [World.cell?_setCell_other _ _ _ _ (fun h => e (by injection h; omega)), (hc i hi).1]
    simp [List.getD, show ¬ j = i from fun h => e h.symm]
theorem SwK.cells {k : Nat} {w : World} {p : Option Addr} {n cap : Nat} {fs : List Int} {lo hi : Nat} (h : SwK k w (.slice p n cap) n fs lo hi) (h0 : 0 < n) :
    ∃ b off, p = some ⟨b, off, none⟩ ∧ (lo ≤ b ∧ b < hi ∧ hi ≤ w.heap.size) ∧ ∀ i, i < n * k → w.cell? ⟨b, off + i, none⟩ = some (.int .i64 (fs.getD i 0)) ∧ w.frozen? ⟨b, off + i, none⟩ = false := by
  obtain ⟨hl, p', cap', e, h⟩ := h
  obtain ⟨hcap, b, off, rfl, g1, g2, g3, hc⟩ := h h0
  cases e
  exact ⟨b, off, rfl, ⟨g1, g2, g3⟩, hc⟩
theorem SlK.nil (k : Nat) (w : World) (p : Option Addr) (cap : Nat) : SlK k w (.slice p 0 cap) 0 [] := ⟨by simp, p, cap, rfl, fun h => absurd h (by simp)⟩
/-- n structs copied up to k -/
theorem ints_made (z : Value) (n : Nat) : (madeCells #[z, z, z] (n * 3)).toList = List.replicate (n * 3) z := by
  apply List.ext_getElem
  · simp [madeCells]
  · intro i h1 h2
    have h3 : i % 3 = 0 ∨ i % 3 = 1 ∨ i % 3 = 2 := by omega
    rcases h3 with h | h | h <;> simp [madeCells, h]
theorem ints_made2 (z : Value) (n : Nat) : (madeCells #[z, z] (n * 2)).toList = List.replicate (n * 2) z := by
  apply List.ext_getElem
  · simp [madeCells]
  · intro i h1 h2
    have h3 : i % 2 = 0 ∨ i % 2 = 1 := by omega
    rcases h3 with h | h <;> simp [madeCells, h]
/-- what is left of a budget behind n things -/
def szK (n : Nat) (left : Int) : Int := if left - n < 0 then -1 else left - n
theorem take_more (fs : List Int) (j : Nat) (h : j < fs.length) {d : Int} : fs.take j ++ [fs.getD j d] = fs.take (j + 1) := by
  rw [getD_lt fs d j h, List.take_succ_eq_append_getElem h]
end Go.Proofs.Ytcoehcoohppbjac
