/- Lists of dice: what they read as; the law's helpers at them. -/
import Derived.Test.YtodmaomngpnboaaMa
import Derived.Deep.RegionLawGrows
set_option linter.unusedVariables false
namespace Go.Proofs.Ytodmaomngpnboaa
open Go.RowKit

/-- how many faces the first k dice have -/
def totD (ds : List (List Int)) : Nat → Nat
  | 0 => 0
  | k + 1 => totD ds k + (ds.getD k []).length
theorem totD_mono (ds : List (List Int)) (k : Nat) : ∀ j, totD ds k ≤ totD ds (k + j)
  | 0 => Nat.le_refl _
  | j + 1 => Nat.le_trans (totD_mono ds k j) (by show _ ≤ totD ds (k + j) + _; omega)
theorem totD_le (ds : List (List Int)) {k n : Nat} (h : k ≤ n) : totD ds k ≤ totD ds n := by
  have := totD_mono ds k (n - k)
  rwa [show k + (n - k) = n by omega] at this
theorem totD_at (ds : List (List Int)) {k n : Nat} (h : k < n) : totD ds k + (ds.getD k []).length ≤ totD ds n := totD_le ds (k := k + 1) h
/-- v is a list of dice that read as the lists -/
def SlD (w : World) (v : Value) (ds : List (List Int)) : Prop := ∃ p cap, v = .slice p ds.length cap ∧ (0 < ds.length → ds.length ≤ cap ∧ ∃ b off, p = some ⟨b, off, none⟩ ∧ b < w.heap.size ∧ ∀ i, i < ds.length → ∃ s, w.cell? ⟨b, off + i, none⟩ = some s ∧ Sl (Value.int .i64) 0 w s (ds.getD i []))
theorem SlD.later {w w' : World} {v : Value} {ds : List (List Int)} (h : SlD w v ds) (hb : Below w.heap.size w w') : SlD w' v ds := by
  obtain ⟨p, cap, rfl, h⟩ := h
  refine ⟨p, cap, rfl, fun h0 => ?_⟩
  obtain ⟨hcap, b, off, rfl, hbs, hc⟩ := h h0
  exact ⟨hcap, b, off, rfl, Nat.lt_of_lt_of_le hbs hb.size, fun i hi => by obtain ⟨s, h1, h2⟩ := hc i hi; exact ⟨s, by rw [hb.cell hbs]; exact h1, h2.later hb⟩⟩
/-- .. of the call's own, whose cells lie from lo to below hi, the faces of each die apart from those of the others -/
def SwD (w : World) (v : Value) (ds : List (List Int)) (lo hi : Nat) : Prop := ∃ p cap, v = .slice p ds.length cap ∧ (0 < ds.length → ds.length ≤ cap ∧ ∃ b, p = some ⟨b, 0, none⟩ ∧ lo ≤ b ∧ hi ≤ w.heap.size ∧ ∃ B : Nat → Nat, b < B 0 ∧ (∀ i, i < ds.length → B i ≤ B (i + 1)) ∧ B ds.length ≤ hi ∧ ∀ i, i < ds.length → ∃ s, w.cell? ⟨b, i, none⟩ = some s ∧ Sw (Value.int .i64) 0 w s (ds.getD i []) (B i) (B (i + 1)))
theorem bounds_le {B : Nat → Nat} {n : Nat} (h : ∀ i, i < n → B i ≤ B (i + 1)) : ∀ j i, i + j ≤ n → B i ≤ B (i + j)
  | 0, _, _ => Nat.le_refl _
  | j + 1, i, hj => Nat.le_trans (bounds_le h j i (by omega)) (h (i + j) (by omega))
theorem SwD.sl {w : World} {v : Value} {ds : List (List Int)} {lo hi : Nat} (h : SwD w v ds lo hi) : SlD w v ds := by
  obtain ⟨p, cap, rfl, h⟩ := h
  refine ⟨p, cap, rfl, fun h0 => ?_⟩
  obtain ⟨hcap, b, rfl, h1, h2, B, h3, h4, h5, hc⟩ := h h0
  have := bounds_le h4 ds.length 0 (by omega)
  rw [Nat.zero_add] at this
  exact ⟨hcap, b, 0, rfl, by omega, fun i hi => by obtain ⟨s, g1, g2⟩ := hc i hi; exact ⟨s, by rw [Nat.zero_add]; exact g1, g2.sl⟩⟩
theorem SwD.later {w w' : World} {v : Value} {ds : List (List Int)} {lo hi : Nat} (h : SwD w v ds lo hi) (hb : Below w.heap.size w w') : SwD w' v ds lo hi := by
  obtain ⟨p, cap, rfl, h⟩ := h
  refine ⟨p, cap, rfl, fun h0 => ?_⟩
  obtain ⟨hcap, b, rfl, h1, h2, B, h3, h4, h5, hc⟩ := h h0
  have := bounds_le h4 ds.length 0 (by omega)
  rw [Nat.zero_add] at this
  have := hb.size
  exact ⟨hcap, b, rfl, h1, by omega, B, h3, h4, h5, fun i hi => by obtain ⟨s, g1, g2⟩ := hc i hi; exact ⟨s, by rw [hb.cell (by show b < _; omega)]; exact g1, g2.later hb⟩⟩
theorem SwD.apart {w w' : World} {v : Value} {ds : List (List Int)} {lo hi l2 h2 : Nat} (h : SwD w v ds lo hi) (g : Only l2 h2 w w') (ha : hi ≤ l2 ∨ h2 ≤ lo) : SwD w' v ds lo hi := by
  obtain ⟨p, cap, rfl, h⟩ := h
  refine ⟨p, cap, rfl, fun h0 => ?_⟩
  obtain ⟨hcap, b, rfl, h1, h2', B, h3, h4, h5, hc⟩ := h h0
  have e0 := bounds_le h4 ds.length 0 (by omega)
  rw [Nat.zero_add] at e0
  refine ⟨hcap, b, rfl, h1, by rw [g.size]; exact h2', B, h3, h4, h5, fun i hi' => ?_⟩
  obtain ⟨s, g1, g2⟩ := hc i hi'
  have e1 := bounds_le h4 i 0 (by omega)
  have e2 := bounds_le h4 (ds.length - (i + 1)) (i + 1) (by omega)
  rw [Nat.zero_add] at e1
  rw [show i + 1 + (ds.length - (i + 1)) = ds.length by omega] at e2
  exact ⟨s, (World.cell?_of_block (a := ⟨b, i, none⟩) (g.block b (by omega))).trans g1, g2.apart g (by omega)⟩
theorem SwD.still {w w' : World} {v : Value} {ds : List (List Int)} {lo hi : Nat} (h : SwD w v ds lo hi) (g : Only 0 0 w w') : SwD w' v ds lo hi := h.apart g (.inr (Nat.zero_le _))

theorem grown_of_below' {w w' : World} (h : Below w.heap.size w w') : w.grownBy w' none := ⟨h.os, h.tape, h.output, h.size, fun i hi _ => h.block i hi⟩

/-- the row of a list of dice, of which k are laid -/
def rowD (S : Nat → Value) (n k : Nat) : List Value := (List.range n).map fun i => if i < k then S i else .slice none 0 0
theorem rowD_len (S : Nat → Value) (n k : Nat) : (rowD S n k).length = n := by simp [rowD]
theorem rowD_get (S : Nat → Value) (n k i : Nat) (h : i < n) : (rowD S n k)[i]? = some (if i < k then S i else .slice none 0 0) := by simp [rowD, h]
theorem rowD_set (S : Nat → Value) (n k : Nat) (v : Value) : (rowD S n k).set k v = rowD (fun i => if i = k then v else S i) n (k + 1) := by
  apply List.ext_getElem
  · simp [rowD]
  · intro i h1 h2
    simp only [rowD, List.getElem_set, List.getElem_map, List.getElem_range]
    by_cases e : k = i
    · subst e; simp
    · rw [if_neg e]
      by_cases e2 : i < k
      · rw [if_pos e2, if_pos (by omega), if_neg (fun h => e h.symm)]
      · rw [if_neg e2, if_neg (by omega)]
theorem rowD_zero (S : Nat → Value) (n : Nat) : (madeCells (Value.agg #[.slice none 0 0]).cells (n * 1)).toList = rowD S n 0 := by
  rw [Nat.mul_one]
  show (madeCells #[Value.slice none 0 0] n).toList = _
  rw [made1]
  apply List.ext_getElem
  · simp [rowD]
  · intro i h1 h2
    simp [rowD]



