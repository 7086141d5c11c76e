/- Decks as lists: the test, the row of what has been seen. Nothing of a translation. -/
import Derived.WalkKit
set_option linter.unusedVariables false
namespace Go.Proofs.Ytfihnnhgegdjkaa

def goodAt (fs : List Int) (k : Nat) : Bool := decide (0 ≤ fs.getD k 0) && decide (fs.getD k 0 < fs.length) && !((fs.take k).contains (fs.getD k 0))
def ordB (fs : List Int) : Bool := (List.range fs.length).all (goodAt fs)
def deckB (fs : List Int) : Bool := decide (1 ≤ fs.length) && decide (fs.length ≤ 52) && ordB fs

theorem ordB_bad (fs : List Int) (k : Nat) (h : k < fs.length) (hb : goodAt fs k = false) : ordB fs = false := by
  unfold ordB
  rw [Bool.eq_false_iff]
  intro ha
  have := List.all_eq_true.1 ha k (List.mem_range.2 h)
  rw [hb] at this
  cases this
theorem ordB_good (fs : List Int) (h : ∀ k, k < fs.length → goodAt fs k = true) : ordB fs = true := by
  unfold ordB
  rw [List.all_eq_true]
  intro k hk
  exact h k (List.mem_range.1 hk)
theorem ordB_at {fs : List Int} (h : ordB fs = true) (k : Nat) (hk : k < fs.length) : goodAt fs k = true := List.all_eq_true.1 h k (List.mem_range.2 hk)
theorem goodAt_neg (fs : List Int) (k : Nat) (h : fs.getD k 0 < 0) : goodAt fs k = false := by
  unfold goodAt
  rw [decide_eq_false (by omega)]; rfl
theorem goodAt_big (fs : List Int) (k : Nat) (h : (fs.length : Int) ≤ fs.getD k 0) : goodAt fs k = false := by
  unfold goodAt
  rw [decide_eq_false (show ¬ fs.getD k 0 < (fs.length : Int) by omega), Bool.and_false]; rfl
theorem goodAt_in (fs : List Int) (k : Nat) (h0 : 0 ≤ fs.getD k 0) (h1 : fs.getD k 0 < fs.length) : goodAt fs k = !((fs.take k).contains (fs.getD k 0)) := by
  unfold goodAt
  rw [decide_eq_true h0, decide_eq_true h1]; rfl
theorem goodAt_bd {fs : List Int} {k : Nat} (h : goodAt fs k = true) : 0 ≤ fs.getD k 0 ∧ fs.getD k 0 < fs.length ∧ (fs.take k).contains (fs.getD k 0) = false := by
  unfold goodAt at h
  simp only [Bool.and_eq_true, decide_eq_true_eq, Bool.not_eq_true'] at h
  exact ⟨h.1.1, h.1.2, h.2⟩
theorem deckB_len {fs : List Int} (h : deckB fs = true) : 1 ≤ fs.length ∧ fs.length ≤ 52 ∧ ordB fs = true := by
  unfold deckB at h
  simp only [Bool.and_eq_true, decide_eq_true_eq] at h
  exact ⟨h.1.1, h.1.2, h.2⟩
theorem deckB_bd {fs : List Int} (h : deckB fs = true) (k : Nat) (hk : k < fs.length) : 0 ≤ fs.getD k 0 ∧ fs.getD k 0 < fs.length :=
  ⟨(goodAt_bd (ordB_at (deckB_len h).2.2 k hk)).1, (goodAt_bd (ordB_at (deckB_len h).2.2 k hk)).2.1⟩
theorem deckB_short (fs : List Int) (h : fs.length < 1 ∨ 52 < fs.length) : deckB fs = false := by
  unfold deckB
  rcases h with h | h
  · rw [decide_eq_false (by omega)]; rfl
  · rw [decide_eq_false (show ¬ fs.length ≤ 52 by omega), Bool.and_false]; rfl
theorem deckB_ord (fs : List Int) (h0 : 1 ≤ fs.length) (h1 : fs.length ≤ 52) : deckB fs = ordB fs := by
  unfold deckB
  rw [decide_eq_true h0, decide_eq_true h1]; rfl

/-- the row of what the first k have been -/
def seenR (fs : List Int) (k : Nat) : List Bool := (List.range fs.length).map fun (j : Nat) => (fs.take k).contains (j : Int)
theorem seenR_len (fs : List Int) (k : Nat) : (seenR fs k).length = fs.length := by simp [seenR]
theorem seenR_zero (fs : List Int) : seenR fs 0 = List.replicate fs.length false := by
  unfold seenR
  apply List.ext_getElem
  · simp
  · intro i h1 h2; simp
theorem seenR_at (fs : List Int) (k : Nat) (x : Int) (h0 : 0 ≤ x) (h1 : x < fs.length) : (seenR fs k)[x.toNat]? = some ((fs.take k).contains x) := by
  have e : ((x.toNat : Nat) : Int) = x := by omega
  unfold seenR
  rw [List.getElem?_map, List.getElem?_range (by omega)]
  simp only [Option.map_some, e]
theorem seenR_el (fs : List Int) (k i : Nat) (h : i < (seenR fs k).length) : (seenR fs k)[i] = (fs.take k).contains (i : Int) := by simp [seenR]
theorem seenR_set (fs : List Int) (k : Nat) (hk : k < fs.length) (h0 : 0 ≤ fs.getD k 0) (h1 : fs.getD k 0 < fs.length) : (seenR fs k).set (fs.getD k 0).toNat true = seenR fs (k + 1) := by
  have hx : fs.getD k 0 = fs[k] := by simp [List.getD, hk]
  rw [hx] at h0 h1 ⊢
  apply List.ext_getElem
  · simp [seenR]
  · intro i h2 h3
    have hi : i < fs.length := by simpa [seenR] using h3
    rw [List.getElem_set]
    rw [seenR_el, seenR_el, List.take_succ_eq_append_getElem hk]
    have e : ∀ l : List Int, (l ++ [fs[k]]).contains (i : Int) = (l.contains (i : Int) || (i : Int) == fs[k]) := by
      intro l
      rw [Bool.eq_iff_iff]
      simp
    rw [e]
    by_cases hxi : fs[k].toNat = i
    · rw [if_pos hxi]
      have : ((i : Int) == fs[k]) = true := by simp; omega
      rw [this, Bool.or_true]
    · rw [if_neg hxi]
      have : ((i : Int) == fs[k]) = false := by simp; omega
      rw [this, Bool.or_false]

/-- the table of g on the first n numbers -/
def tab (n : Nat) (g : Nat → Int) : List Int := (List.range n).map g
theorem tab_len (n : Nat) (g : Nat → Int) : (tab n g).length = n := by simp [tab]
theorem tab_succ (n : Nat) (g : Nat → Int) : tab (n + 1) g = tab n g ++ [g n] := by unfold tab; rw [List.range_succ, List.map_append]; rfl
theorem tab_get (n : Nat) (g : Nat → Int) (k : Nat) (h : k < n) : (tab n g).getD k 0 = g k := by simp [tab, List.getD, h]
theorem tab_congr {n : Nat} {g h : Nat → Int} (e : ∀ k, k < n → g k = h k) : tab n g = tab n h := by
  unfold tab
  apply List.map_congr_left
  intro k hk
  exact e k (List.mem_range.1 hk)
theorem tab_of (fs : List Int) : tab fs.length (fun i => fs.getD i 0) = fs := by
  unfold tab
  apply List.ext_getElem
  · simp
  · intro i h1 h2
    simp only [List.getElem_map, List.getElem_range]
    simp [List.getD, h2]
theorem tab_ext (fs : List Int) (n : Nat) (g : Nat → Int) (hn : fs.length = n) (h : ∀ k, k < n → fs.getD k 0 = g k) : fs = tab n g := by
  subst hn
  exact (tab_of fs).symm.trans (tab_congr h)
theorem iota_deck (n : Nat) (h1 : 1 ≤ n) (h2 : n ≤ 52) : deckB (tab n fun k => (k : Int)) = true := by
  rw [deckB_ord _ (by rw [tab_len]; exact h1) (by rw [tab_len]; exact h2)]
  apply ordB_good
  intro k hk
  rw [tab_len] at hk
  rw [goodAt_in _ _ (by rw [tab_get _ _ _ hk]; omega) (by rw [tab_get _ _ _ hk, tab_len]; omega), tab_get _ _ _ hk]
  have : ((tab n fun k => (k : Int)).take k).contains (k : Int) = false := by
    rw [Bool.eq_false_iff]
    intro hc
    have hm := List.contains_iff_mem.1 hc
    obtain ⟨i, hi, e⟩ := List.getElem_of_mem hm
    simp [tab] at e hi
    omega
  rw [this]; rfl
end Go.Proofs.Ytfihnnhgegdjkaa
