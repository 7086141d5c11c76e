/- What the functions on decks answer, as lists. Nothing of a translation. -/
import Derived.Test.YtfihnnhgegdjkaaDp
set_option linter.unusedVariables false
namespace Go.Proofs.Ytfihnnhgegdjkaa

def ok_NewDeck (a : Int) : Bool := decide (1 ≤ a) && decide (a ≤ 52)
def res_NewDeck (a : Int) : List Int := if 1 ≤ a ∧ a ≤ 52 then tab a.toNat (fun k => (k : Int)) else []
theorem new_yes (a : Int) (h1 : 1 ≤ a) (h2 : a ≤ 52) : ok_NewDeck a = true ∧ res_NewDeck a = tab a.toNat (fun k => (k : Int)) := by
  unfold ok_NewDeck res_NewDeck; simp [h1, h2]
theorem new_no (a : Int) (h : a < 1 ∨ 52 < a) : ok_NewDeck a = false ∧ res_NewDeck a = [] := by
  unfold ok_NewDeck res_NewDeck
  rcases h with h | h
  · rw [if_neg (by omega), decide_eq_false (by omega)]; simp
  · rw [if_neg (by omega), decide_eq_false (show ¬ a ≤ 52 by omega), Bool.and_false]; simp

def ok_TurnDeck (fs : List Int) : Bool := deckB fs
def turnG (fs : List Int) (k : Nat) : Int := fs.getD (fs.length - 1 - k) 0
def res_TurnDeck (fs : List Int) : List Int := if deckB fs = true then tab fs.length (turnG fs) else []

def ok_CutDeck (fs : List Int) (a : Int) : Bool := deckB fs && (decide (0 ≤ a) && decide (a ≤ fs.length))
def cutG (fs : List Int) (a : Int) (k : Nat) : Int := fs.getD ((k + a.toNat) % fs.length) 0
def res_CutDeck (fs : List Int) (a : Int) : List Int := if deckB fs = true ∧ 0 ≤ a ∧ a ≤ fs.length then tab fs.length (cutG fs a) else []
theorem cut_append (fs : List Int) (a : Int) (h0 : 0 ≤ a) (h1 : a ≤ fs.length) (hp : 0 < fs.length) : fs.drop a.toNat ++ fs.take a.toNat = tab fs.length (cutG fs a) := by
  apply tab_ext
  · simp; omega
  · intro k hk
    unfold cutG
    by_cases hlt : k < fs.length - a.toNat
    · have e : (k + a.toNat) % fs.length = a.toNat + k := by rw [Nat.add_comm]; exact Nat.mod_eq_of_lt (by omega)
      rw [e]
      simp only [List.getD]
      rw [List.getElem?_append_left (by simp; omega), List.getElem?_drop]
    · have e : (k + a.toNat) % fs.length = k - (fs.length - a.toNat) := by
        have : k + a.toNat = (k - (fs.length - a.toNat)) + fs.length := by omega
        rw [this, Nat.add_mod_right]
        exact Nat.mod_eq_of_lt (by omega)
      rw [e]
      simp only [List.getD]
      rw [List.getElem?_append_right (by simp; omega), List.length_drop, List.getElem?_take, if_pos (by omega)]

def ok_JoinDecks (fs gs : List Int) : Bool := deckB fs && (deckB gs && decide (fs.length = gs.length))
def joinG (fs gs : List Int) (k : Nat) : Int := fs.getD (gs.getD k 0).toNat 0
def res_JoinDecks (fs gs : List Int) : List Int := if deckB fs = true ∧ deckB gs = true ∧ fs.length = gs.length then tab fs.length (joinG fs gs) else []

/-- the places of the cards, after k of them -/
def placesR (fs : List Int) : Nat → List Int
  | 0 => List.replicate fs.length 0
  | k + 1 => (placesR fs k).set (fs.getD k 0).toNat (k : Int)
theorem placesR_len (fs : List Int) (k : Nat) : (placesR fs k).length = fs.length := by
  induction k with
  | zero => simp [placesR]
  | succ k ih => simp [placesR, ih]
def ok_BackDeck (fs : List Int) : Bool := deckB fs
def res_BackDeck (fs : List Int) : List Int := if deckB fs = true then placesR fs fs.length else []
theorem placesR_at (fs : List Int) (h : ordB fs = true) : ∀ k, k ≤ fs.length → ∀ i, i < k → (placesR fs k).getD (fs.getD i 0).toNat 0 = (i : Int) := by
  intro k
  induction k with
  | zero => intro _ i hi; omega
  | succ k ih =>
    intro hk i hi
    have hg := goodAt_bd (ordB_at h k (by omega))
    have hgi := goodAt_bd (ordB_at h i (by omega))
    show ((placesR fs k).set (fs.getD k 0).toNat (k : Int)).getD _ 0 = _
    simp only [List.getD]
    rw [List.getElem?_set]
    by_cases e : (fs.getD k 0).toNat = (fs.getD i 0).toNat
    · have e2 : fs.getD k 0 = fs.getD i 0 := by omega
      by_cases hik : i = k
      · subst hik
        rw [show (fs[i]?.getD 0).toNat = (fs.getD i 0).toNat from rfl, if_pos rfl, if_pos (by rw [placesR_len]; omega)]
        rfl
      · exfalso
        have hc : (fs.take k).contains (fs.getD k 0) = true := by
          rw [e2, List.contains_iff_mem]
          have : fs.getD i 0 = fs[i]'(by omega) := by simp [List.getD, show i < fs.length by omega]
          rw [this, List.mem_take_iff_getElem]
          exact ⟨i, by omega, rfl⟩
        rw [hg.2.2] at hc
        cases hc
    · have hik : i ≠ k := fun e' => e (by rw [e'])
      rw [show (fs[k]?.getD 0).toNat = (fs.getD k 0).toNat from rfl, show (fs[i]?.getD 0).toNat = (fs.getD i 0).toNat from rfl, if_neg e]
      exact ih (by omega) i (by omega)
theorem nodup_le : ∀ (l m : List Nat), l.Nodup → (∀ x ∈ l, x ∈ m) → l.length ≤ m.length
  | [], _, _, _ => Nat.zero_le _
  | x :: l, m, hn, hs => by
    obtain ⟨h1, h2⟩ := List.nodup_cons.1 hn
    have hx := hs x (List.mem_cons_self ..)
    have := nodup_le l (m.erase x) h2 (fun y hy => (List.mem_erase_of_ne (fun e => h1 (by rw [← e]; exact hy))).2 (hs y (List.mem_cons_of_mem _ hy)))
    rw [List.length_erase_of_mem hx] at this
    have : 0 < m.length := List.length_pos_of_mem hx
    simp only [List.length_cons]
    omega
/-- in a deck each number below the length is a card -/
theorem ord_mem (fs : List Int) (h : ordB fs = true) (c : Nat) (hc : c < fs.length) : ∃ i, i < fs.length ∧ fs.getD i 0 = (c : Int) := by
  have hnd : (fs.map Int.toNat).Nodup := by
    rw [List.Nodup, List.pairwise_iff_getElem]
    intro i j hi hj hij e
    simp only [List.length_map] at hi hj
    simp only [List.getElem_map] at e
    have gi := goodAt_bd (ordB_at h i hi)
    have gj := goodAt_bd (ordB_at h j hj)
    have ei : fs.getD i 0 = fs[i] := by simp [List.getD, hi]
    have ej : fs.getD j 0 = fs[j] := by simp [List.getD, hj]
    rw [ei] at gi
    rw [ej] at gj
    have e2 : fs[i] = fs[j] := by omega
    have : (fs.take j).contains fs[j] = true := by
      rw [List.contains_iff_mem, ← e2, List.mem_take_iff_getElem]
      exact ⟨i, by omega, rfl⟩
    rw [gj.2.2] at this
    cases this
  have hm : c ∈ fs.map Int.toNat := by
    by_cases hc' : c ∈ fs.map Int.toNat
    · exact hc'
    · exfalso
      have := nodup_le (fs.map Int.toNat) ((List.range fs.length).erase c) hnd (fun x hx => by
        rw [List.mem_erase_of_ne (fun e => hc' (by rw [← e]; exact hx))]
        obtain ⟨i, hi, rfl⟩ := List.getElem_of_mem hx
        simp only [List.length_map] at hi
        have gi := goodAt_bd (ordB_at h i hi)
        have ei : fs.getD i 0 = fs[i] := by simp [List.getD, hi]
        rw [ei] at gi
        simp only [List.getElem_map, List.mem_range]
        omega)
      rw [List.length_erase_of_mem (List.mem_range.2 hc), List.length_map, List.length_range] at this
      omega
  obtain ⟨i, hi, e⟩ := List.getElem_of_mem hm
  simp only [List.length_map] at hi
  simp only [List.getElem_map] at e
  have gi := goodAt_bd (ordB_at h i hi)
  have ei : fs.getD i 0 = fs[i] := by simp [List.getD, hi]
  rw [ei] at gi
  exact ⟨i, hi, by rw [ei]; omega⟩
theorem places_deck (fs : List Int) (h : deckB fs = true) : deckB (placesR fs fs.length) = true := by
  obtain ⟨h1, h2, ho⟩ := deckB_len h
  have hL := placesR_len fs fs.length
  have hat : ∀ c, c < fs.length → ∃ i, i < fs.length ∧ fs.getD i 0 = (c : Int) ∧ (placesR fs fs.length).getD c 0 = (i : Int) := by
    intro c hc
    obtain ⟨i, hi, e⟩ := ord_mem fs ho c hc
    refine ⟨i, hi, e, ?_⟩
    have := placesR_at fs ho fs.length (Nat.le_refl _) i hi
    rw [e] at this
    exact this
  rw [deckB_ord _ (by omega) (by omega)]
  apply ordB_good
  intro c hc
  rw [hL] at hc
  obtain ⟨i, hi, e, ep⟩ := hat c hc
  rw [goodAt_in _ _ (by rw [ep]; omega) (by rw [ep, hL]; omega), ep]
  have : ((placesR fs fs.length).take c).contains (i : Int) = false := by
    rw [Bool.eq_false_iff]
    intro hcon
    rw [List.contains_iff_mem, List.mem_take_iff_getElem] at hcon
    obtain ⟨d, hd, ed⟩ := hcon
    have hdl : d < fs.length := by omega
    obtain ⟨j, hj, e', ep'⟩ := hat d hdl
    have : (placesR fs fs.length).getD d 0 = (placesR fs fs.length)[d] := by simp [List.getD, show d < (placesR fs fs.length).length by omega]
    rw [this, ed] at ep'
    have : i = j := by omega
    subst this
    omega
  rw [this]; rfl

/-- descents before the place k + 1 -/
def descR (fs : List Int) : Nat → Nat
  | 0 => 0
  | k + 1 => descR fs k + if fs.getD (k + 1) 0 < fs.getD k 0 then 1 else 0
theorem descR_le (fs : List Int) (k : Nat) : descR fs k ≤ k := by
  induction k with
  | zero => exact Nat.le_refl _
  | succ k ih => simp only [descR]; split <;> omega
def ok_DescentsOf (fs : List Int) : Bool := deckB fs
def res_DescentsOf (fs : List Int) : Int := if deckB fs = true then (descR fs (fs.length - 1) : Nat) else 0
def ok_RisingRuns (fs : List Int) : Bool := deckB fs
def res_RisingRuns (fs : List Int) : Int := if deckB fs = true then (descR (placesR fs fs.length) (fs.length - 1) : Nat) + 1 else 0

def ok_PerfectShuffle (fs : List Int) (b : Bool) : Bool := deckB fs && decide (fs.length % 2 = 0)
def perfG (fs : List Int) (b : Bool) (p : Nat) : Int := if (decide (p % 2 = 1) != b) = true then fs.getD (fs.length / 2 + p / 2) 0 else fs.getD (p / 2) 0
def res_PerfectShuffle (fs : List Int) (b : Bool) : List Int := if deckB fs = true ∧ fs.length % 2 = 0 then tab fs.length (perfG fs b) else []

/-- how many of the first k are false -/
def cntF (bs : List Bool) : Nat → Nat
  | 0 => 0
  | k + 1 => cntF bs k + if bs.getD k false = true then 0 else 1
theorem cntF_le (bs : List Bool) (k : Nat) : cntF bs k ≤ k := by
  induction k with
  | zero => exact Nat.le_refl _
  | succ k ih => simp only [cntF]; split <;> omega
theorem cntF_mono (bs : List Bool) (k j : Nat) : cntF bs k ≤ cntF bs (k + j) ∧ cntF bs (k + j) ≤ cntF bs k + j := by
  induction j with
  | zero => exact ⟨Nat.le_refl _, Nat.le_refl _⟩
  | succ j ih => rw [← Nat.add_assoc]; simp only [cntF]; split <;> omega
def befG (bs : List Bool) (k : Nat) : Nat := if bs.getD k false = true then cntF bs bs.length + (k - cntF bs k) else cntF bs k
theorem befG_lt (bs : List Bool) (k : Nat) (h : k < bs.length) : befG bs k < bs.length := by
  have h1 := cntF_mono bs (k + 1) (bs.length - (k + 1))
  rw [show k + 1 + (bs.length - (k + 1)) = bs.length by omega] at h1
  have h2 := cntF_le bs k
  unfold befG
  simp only [cntF] at h1
  split
  · rename_i e
    rw [if_pos e] at h1
    omega
  · rename_i e
    rw [if_neg e] at h1
    have := cntF_le bs bs.length
    omega
def ok_RiffleBy (fs : List Int) (bs : List Bool) : Bool := deckB fs && decide (bs.length = fs.length)
def rifG (fs : List Int) (bs : List Bool) (k : Nat) : Int := fs.getD (befG bs k) 0
def res_RiffleBy (fs : List Int) (bs : List Bool) : List Int := if deckB fs = true ∧ bs.length = fs.length then tab fs.length (rifG fs bs) else []

/-- the state of a draw after j cards: the deck, the seed -/
def drawR (n : Nat) (s : Int) : Nat → List Int × Int
  | 0 => (tab n fun k => (k : Int), s)
  | j + 1 => (((drawR n s j).1.set (n - 1 - j) ((drawR n s j).1.getD ((1664525 * (drawR n s j).2 + 1013904223) % 4294967296 * ((n - 1 - j : Nat) + 1) / 4294967296).toNat 0)).set
      ((1664525 * (drawR n s j).2 + 1013904223) % 4294967296 * ((n - 1 - j : Nat) + 1) / 4294967296).toNat ((drawR n s j).1.getD (n - 1 - j) 0), (1664525 * (drawR n s j).2 + 1013904223) % 4294967296)
theorem drawR_len (n : Nat) (s : Int) (j : Nat) : (drawR n s j).1.length = n := by
  induction j with
  | zero => exact tab_len _ _
  | succ j ih => simp only [drawR, List.length_set, ih]
theorem drawR_bd (n : Nat) (s : Int) (h0 : 0 ≤ s) (h1 : s ≤ 4294967295) (j : Nat) : 0 ≤ (drawR n s j).2 ∧ (drawR n s j).2 ≤ 4294967295 := by
  cases j with
  | zero => exact ⟨h0, h1⟩
  | succ j => simp only [drawR]; omega
def ok_DrawDeck (a s : Int) : Bool := (decide (1 ≤ a) && decide (a ≤ 52)) && (decide (0 ≤ s) && decide (s ≤ 4294967295))
end Go.Proofs.Ytfihnnhgegdjkaa
