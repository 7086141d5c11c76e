/- Cards that are different ones: nothing of a translation. -/
import Derived.WalkKit
import Derived.Maps.OwnSet
set_option linter.unusedVariables false
namespace Go.Proofs.Ytodmaomngpnboaa

def handAt (fs : List Int) (k : Nat) : Bool := decide (0 ≤ fs.getD k 0) && decide (fs.getD k 0 ≤ 51) && !((fs.take k).contains (fs.getD k 0))
def cardsB (fs : List Int) : Bool := (List.range fs.length).all (handAt fs)
def handB (lo hi : Nat) (fs : List Int) : Bool := decide (lo ≤ fs.length) && decide (fs.length ≤ hi) && cardsB fs
theorem cardsB_at {fs : List Int} (h : cardsB fs = true) (k : Nat) (hk : k < fs.length) : handAt fs k = true := List.all_eq_true.1 h k (List.mem_range.2 hk)
theorem cardsB_of {fs : List Int} (h : ∀ k, k < fs.length → handAt fs k = true) : cardsB fs = true := List.all_eq_true.2 fun k hk => h k (List.mem_range.1 hk)
theorem cardsB_bad {fs : List Int} (k : Nat) (hk : k < fs.length) (h : handAt fs k = false) : cardsB fs = false := by
  rw [Bool.eq_false_iff]; intro h'; rw [cardsB_at h' k hk] at h; exact Bool.false_ne_true h.symm
theorem handAt_out (fs : List Int) (k : Nat) (h : fs.getD k 0 < 0 ∨ 51 < fs.getD k 0) : handAt fs k = false := by
  unfold handAt
  rcases h with h | h
  · rw [decide_eq_false (by omega)]; rfl
  · rw [decide_eq_false (p := fs.getD k 0 ≤ 51) (by omega), Bool.and_false]; rfl
theorem handAt_in (fs : List Int) (k : Nat) (h0 : 0 ≤ fs.getD k 0) (h1 : fs.getD k 0 ≤ 51) : handAt fs k = !((fs.take k).contains (fs.getD k 0)) := by
  unfold handAt; rw [decide_eq_true h0, decide_eq_true h1]; rfl
theorem handAt_bd {fs : List Int} {k : Nat} (h : handAt fs k = true) : 0 ≤ fs.getD k 0 ∧ fs.getD k 0 ≤ 51 ∧ (fs.take k).contains (fs.getD k 0) = false := by
  unfold handAt at h
  simp only [Bool.and_eq_true, decide_eq_true_eq, Bool.not_eq_true'] at h
  exact ⟨h.1.1, h.1.2, h.2⟩
theorem handB_yes {lo hi : Nat} {fs : List Int} (h : handB lo hi fs = true) : lo ≤ fs.length ∧ fs.length ≤ hi ∧ cardsB fs = true := by
  unfold handB at h
  simp only [Bool.and_eq_true, decide_eq_true_eq] at h
  exact ⟨h.1.1, h.1.2, h.2⟩

def litsI (fs : List Int) : List Lit := fs.map (Lit.int .i64)
theorem litsI_key (fs : List Int) : ∀ x ∈ litsI fs, WideAt.IsKeyLit x := by
  intro x hx
  obtain ⟨a, -, rfl⟩ := List.mem_map.1 hx
  trivial
def addI (acc : List Int) (x : Int) : List Int := if acc.contains x then acc else acc ++ [x]
theorem any_key (acc : List Int) (x : Int) : (litsI acc).any (fun y => y.sameKey (Lit.int .i64 x)) = acc.contains x := by
  induction acc with
  | nil => rfl
  | cons a r ih =>
    show (Lit.sameKey (.int .i64 a) (.int .i64 x) || (litsI r).any _) = (a :: r).contains x
    rw [ih, List.contains_cons]
    congr 1
    show decide (_ ∧ a = x) = (x == a)
    rw [Bool.eq_iff_iff]; simp; exact eq_comm
theorem add_fold (fs acc : List Int) : (litsI fs).foldl Maps.addKey (litsI acc) = litsI (fs.foldl addI acc) := by
  induction fs generalizing acc with
  | nil => rfl
  | cons a r ih =>
    show (litsI r).foldl Maps.addKey (Maps.addKey (litsI acc) (.int .i64 a)) = litsI (r.foldl addI (addI acc a))
    rw [← ih]
    congr 1
    unfold Maps.addKey addI
    rw [any_key]
    by_cases h : acc.contains a = true
    · rw [if_pos h, if_pos h]
    · rw [if_neg h, if_neg h]; simp [litsI]
def dedR (fs : List Int) (k : Nat) : List Int := (fs.take k).foldl addI []
theorem dedR_next (fs : List Int) (k : Nat) (hk : k < fs.length) : dedR fs (k + 1) = addI (dedR fs k) (fs.getD k 0) := by
  unfold dedR
  rw [List.take_succ_eq_append_getElem hk, List.foldl_append]
  simp [List.getD, hk]
theorem dedR_mem (fs : List Int) (x : Int) : ∀ k, k ≤ fs.length → ((dedR fs k).contains x = (fs.take k).contains x)
  | 0, _ => by simp [dedR]
  | k + 1, hk => by
    have ih := dedR_mem fs x k (by omega)
    rw [dedR_next fs k (by omega), List.take_succ_eq_append_getElem (by omega)]
    have e : fs.getD k 0 = fs[k] := by simp [List.getD, show k < fs.length by omega]
    rw [e]
    have ih2 := dedR_mem fs fs[k] k (by omega)
    unfold addI
    by_cases h : (dedR fs k).contains fs[k] = true
    · rw [if_pos h, ih]
      rw [ih2] at h
      rw [Bool.eq_iff_iff]
      simp only [List.contains_iff_mem, List.mem_append, List.mem_singleton] at h ⊢
      constructor
      · exact Or.inl
      · rintro (h' | rfl)
        · exact h'
        · exact h
    · rw [if_neg h]
      rw [Bool.eq_iff_iff] at ih ⊢
      simp only [List.contains_iff_mem, List.mem_append, List.mem_singleton] at ih ⊢
      rw [ih]
theorem dedR_len (fs : List Int) (hr : ∀ k, k < fs.length → 0 ≤ fs.getD k 0 ∧ fs.getD k 0 ≤ 51) : ∀ k, k ≤ fs.length → (dedR fs k).length ≤ k ∧ ((∀ j, j < k → handAt fs j = true) → (dedR fs k).length = k) ∧ ((∃ j, j < k ∧ handAt fs j = false) → (dedR fs k).length < k)
  | 0, _ => ⟨by simp [dedR], fun _ => by simp [dedR], fun ⟨j, hj, _⟩ => absurd hj (by omega)⟩
  | k + 1, hk => by
    obtain ⟨i1, i2, i3⟩ := dedR_len fs hr k (by omega)
    have hx := hr k (by omega)
    have ha := handAt_in fs k hx.1 hx.2
    rw [dedR_next fs k (by omega)]
    have hm := dedR_mem fs (fs.getD k 0) k (by omega)
    unfold addI
    by_cases h : (dedR fs k).contains (fs.getD k 0) = true
    · rw [if_pos h]
      rw [← hm, h] at ha
      refine ⟨by omega, fun g => absurd (g k (by omega)) (by rw [ha]; exact Bool.false_ne_true), fun _ => by omega⟩
    · rw [if_neg h, List.length_append]
      have h' : (dedR fs k).contains (fs.getD k 0) = false := by simpa using h
      rw [← hm, h'] at ha
      refine ⟨by simp; omega, fun g => by rw [i2 fun j hj => g j (by omega)]; rfl, fun ⟨j, hj, e⟩ => ?_⟩
      have : j ≠ k := fun e' => by subst e'; rw [ha] at e; exact absurd e (by decide)
      have := i3 ⟨j, by omega, e⟩
      simp; omega
theorem size_cards {H : Type} (u : DataW H) (fs : List Int) (hr : ∀ k, k < fs.length → 0 ≤ fs.getD k 0 ∧ fs.getD k 0 ≤ 51) : decide (Maps.size (Maps.setOf u (litsI fs)) = fs.length) = cardsB fs := by
  have hs : Maps.size (Maps.setOf u (litsI fs)) = (dedR fs fs.length).length := by
    rw [Maps.size_setOf u _ (litsI_key fs)]
    have := add_fold fs []
    rw [show litsI [] = [] from rfl] at this
    rw [this, litsI, List.length_map, dedR, List.take_length]
  obtain ⟨i1, i2, i3⟩ := dedR_len fs hr fs.length (Nat.le_refl _)
  rw [hs]
  cases hB : cardsB fs
  · apply decide_eq_false
    have : ∃ j, j < fs.length ∧ handAt fs j = false := by
      by_cases h : ∃ j, j < fs.length ∧ handAt fs j = false
      · exact h
      · exfalso
        rw [cardsB_of fun k hk => by
          cases hh : handAt fs k
          · exact absurd ⟨k, hk, hh⟩ h
          · rfl] at hB
        exact absurd hB (by decide)
    have := i3 this
    omega
  · exact decide_eq_true (i2 fun j hj => cardsB_at hB j hj)
end Go.Proofs.Ytodmaomngpnboaa
