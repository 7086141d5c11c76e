/- Cycles of a deck: the lists of lengths. No translation. -/
import Derived.Test.YtfjokclhbbndaabHa
import Derived.Test.YtfjokclhbbndaabDq
import Derived.Test.YtfjokclhbbndaabCk
set_option linter.unusedVariables false
namespace Go.Proofs.Ytfjokclhbbndaab
open Go.RowKit

def fN (fs : List Int) (x : Nat) : Nat := (fs.getD x 0).toNat
theorem fN_lt {fs : List Int} (h : deckB fs = true) (x : Nat) (hx : x < fs.length) : fN fs x < fs.length := by
  have := deckB_bd h x hx
  unfold fN; omega
theorem fN_int {fs : List Int} (h : deckB fs = true) (x : Nat) (hx : x < fs.length) : fs.getD x 0 = (fN fs x : Int) := by
  have := deckB_bd h x hx
  unfold fN; omega
theorem fN_inj {fs : List Int} (h : deckB fs = true) (x y : Nat) (hx : x < fs.length) (hy : y < fs.length) (e : fN fs x = fN fs y) : x = y := by
  have o := (deckB_len h).2.2
  have h1 := placesR_at fs o fs.length (Nat.le_refl _) x hx
  have h2 := placesR_at fs o fs.length (Nat.le_refl _) y hy
  unfold fN at e
  rw [e, h2] at h1
  omega
/-- the lengths of the cycles whose least place lies before i -/
def cycL (fs : List Int) (i : Nat) : List Int := ((List.range i).filter (leastB fs.length (fN fs))).map (fun j => (perF fs.length (fN fs) j : Int))
theorem cycL_zero (fs : List Int) : cycL fs 0 = [] := rfl
theorem cycL_yes (fs : List Int) (i : Nat) (h : leastB fs.length (fN fs) i = true) : cycL fs (i + 1) = cycL fs i ++ [(perF fs.length (fN fs) i : Int)] := by
  unfold cycL
  rw [List.range_succ, List.filter_append, List.map_append]
  congr 1
  rw [List.filter_cons, if_pos h]; rfl
theorem cycL_no (fs : List Int) (i : Nat) (h : leastB fs.length (fN fs) i = false) : cycL fs (i + 1) = cycL fs i := by
  unfold cycL
  rw [List.range_succ, List.filter_append, List.map_append]
  rw [List.filter_cons, if_neg (by rw [h]; exact Bool.false_ne_true)]
  simp
theorem cycL_len (fs : List Int) (i : Nat) : (cycL fs i).length ≤ i := by
  unfold cycL
  rw [List.length_map]
  refine Nat.le_trans (List.length_filter_le _ _) ?_
  rw [List.length_range]; exact Nat.le_refl _

/-- an integer at place k of a list -/
def insAt (l : List Int) (x : Int) (k : Nat) : List Int := l.take k ++ x :: l.drop k
theorem insAt_perm (l : List Int) (x : Int) (k : Nat) : (insAt l x k).Perm (x :: l) := by
  unfold insAt
  refine List.perm_middle.trans ?_
  rw [List.take_append_drop]
theorem insAt_len (l : List Int) (x : Int) (k : Nat) : (insAt l x k).length = l.length + 1 := (insAt_perm l x k).length_eq
theorem insAt_all (l : List Int) (x : Int) : insAt l x l.length = l ++ [x] := by
  unfold insAt
  rw [List.take_length, List.drop_length]
abbrev Srt (l : List Int) : Prop := l.Pairwise (fun a b => a ≤ b)
theorem insAt_srt (l : List Int) (x : Int) (k : Nat) (h : Srt l) (hk : k ≤ l.length) (h1 : ∀ j, k ≤ j → j < l.length → x ≤ l.getD j 0) (h2 : ∀ j, j < k → l.getD j 0 ≤ x) : Srt (insAt l x k) := by
  unfold insAt
  have e := List.take_append_drop k l
  rw [← e] at h
  obtain ⟨p1, p2, p3⟩ := List.pairwise_append.1 h
  have q1 : ∀ a, a ∈ l.take k → a ≤ x := fun a ha => by
    obtain ⟨i, hi, rfl⟩ := List.getElem_of_mem ha
    rw [List.length_take] at hi
    have := h2 i (by omega)
    rw [getD_lt l 0 i (by omega)] at this
    rw [List.getElem_take]; exact this
  have q2 : ∀ a, a ∈ l.drop k → x ≤ a := fun a ha => by
    obtain ⟨i, hi, rfl⟩ := List.getElem_of_mem ha
    rw [List.length_drop] at hi
    have := h1 (k + i) (by omega) (by omega)
    rw [getD_lt l 0 (k + i) (by omega)] at this
    rw [List.getElem_drop]; exact this
  refine List.pairwise_append.2 ⟨p1, List.pairwise_cons.2 ⟨q2, p2⟩, fun a ha b hb => ?_⟩
  rcases List.mem_cons.1 hb with rfl | hb
  · exact q1 a ha
  · exact Int.le_trans (q1 a ha) (q2 b hb)
theorem srt_unique (l m : List Int) (hl : Srt l) (hm : Srt m) (h : l.Perm m) : l = m :=
  h.eq_of_pairwise (fun a b _ _ h1 h2 => Int.le_antisymm h1 h2) hl hm
def sortI (l : List Int) : List Int := l.mergeSort (fun x y => decide (x ≤ y))
theorem sortI_perm (l : List Int) : (sortI l).Perm l := List.mergeSort_perm _ _
theorem sortI_srt (l : List Int) : Srt (sortI l) := by
  have := List.pairwise_mergeSort (le := fun x y => decide (x ≤ y)) (fun a b c h1 h2 => by simp at *; omega) (fun a b => by simp; omega) l
  unfold sortI
  refine this.imp ?_
  intro a b h
  simpa using h
theorem sortI_snoc (l : List Int) (x : Int) (k : Nat) (h : Srt (insAt (sortI l) x k)) : insAt (sortI l) x k = sortI (l ++ [x]) := by
  refine srt_unique _ _ h (sortI_srt _) ?_
  refine (insAt_perm _ _ _).trans ?_
  refine ((sortI_perm l).cons x).trans ?_
  refine List.Perm.trans ?_ (sortI_perm _).symm
  exact (List.perm_append_comm (l₁ := l) (l₂ := [x])).symm
theorem sortI_len (l : List Int) : (sortI l).length = l.length := (sortI_perm l).length_eq
end Go.Proofs.Ytfjokclhbbndaab
