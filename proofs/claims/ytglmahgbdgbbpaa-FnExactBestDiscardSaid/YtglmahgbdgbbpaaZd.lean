/- In how many ways tiles are groups: nothing of a translation. -/
import Derived.WalkKit
set_option linter.unusedVariables false
namespace Go.Proofs.Ytglmahgbdgbbpaa

/-- a list without the further tiles of r rows that begin with the kind k -/
def rowsT (l : List Int) (k : Nat) (r : Int) : Option (List Int) :=
  if r = 0 then some l else if 9 < k + 3 then none else if l.getD (k + 1) 0 < r ∨ l.getD (k + 2) 0 < r then none else some ((l.set (k + 1) (l.getD (k + 1) 0 - r)).set (k + 2) (l.getD (k + 2) 0 - r))
def trT (g : List Int → Int) (l : List Int) (k : Nat) (r : Int) : Int := match rowsT l k r with
  | none => 0
  | some l' => g l'
def wT (g : List Int → Int) (l : List Int) (k : Nat) : Nat → Int
  | 0 => 0
  | t + 1 => wT g l k t + trT g l k (l.getD k 0 - 3 * t)
def nT (x : Int) : Nat := if x < 3 then 1 else 2
def grp : Nat → List Int → Int
  | 0, _ => 1
  | f + 1, l => wT (grp f) l (8 - f) (nT (l.getD (8 - f) 0))
/-- a list of nine counts -/
def nineT (l : List Int) : Prop := l.length = 9 ∧ ∀ i, i < 9 → 0 ≤ l.getD i 0 ∧ l.getD i 0 ≤ 4
theorem getD_set (l : List Int) (i j : Nat) (x : Int) (hi : i < l.length) : (l.set i x).getD j 0 = if j = i then x else l.getD j 0 := by
  by_cases e : j = i
  · subst e; rw [if_pos rfl]; simp [List.getD, hi]
  · rw [if_neg e]; simp [List.getD, show ¬ i = j from fun h => e h.symm]
theorem rowsT_nine {l l' : List Int} {k : Nat} {r : Int} (h : nineT l) (hr : 0 ≤ r) (e : rowsT l k r = some l') : nineT l' := by
  obtain ⟨h1, h2⟩ := h
  unfold rowsT at e
  by_cases h0 : r = 0
  · rw [if_pos h0] at e; cases e; exact ⟨h1, h2⟩
  · rw [if_neg h0] at e
    by_cases h9 : 9 < k + 3
    · rw [if_pos h9] at e; cases e
    · rw [if_neg h9] at e
      by_cases hlt : l.getD (k + 1) 0 < r ∨ l.getD (k + 2) 0 < r
      · rw [if_pos hlt] at e; cases e
      · rw [if_neg hlt] at e
        cases e
        refine ⟨by rw [List.length_set, List.length_set]; exact h1, fun i hi => ?_⟩
        have a1 := h2 (k + 1) (by omega)
        have a2 := h2 (k + 2) (by omega)
        have a3 := h2 i hi
        rw [getD_set _ _ _ _ (by rw [List.length_set]; omega), getD_set _ _ _ _ (by omega)]
        split
        · omega
        · split <;> omega
theorem grp_bd : ∀ (f : Nat) (l : List Int), f ≤ 9 → nineT l → 0 ≤ grp f l ∧ grp f l ≤ 2 ^ f
  | 0, l, _, h => by simp [grp]
  | f + 1, l, hf, h => by
    have ht : ∀ r, 0 ≤ r → 0 ≤ trT (grp f) l (8 - f) r ∧ trT (grp f) l (8 - f) r ≤ 2 ^ f := by
      intro r hr
      unfold trT
      cases e : rowsT l (8 - f) r with
      | none =>
        have : (0 : Int) ≤ 2 ^ f := Int.pow_nonneg (by decide)
        simp; omega
      | some l' => exact grp_bd f l' (by omega) (rowsT_nine h hr e)
    have hx := h.2 (8 - f) (by omega)
    have h0 := ht (l.getD (8 - f) 0) hx.1
    have e2 : (2 : Int) ^ (f + 1) = 2 * 2 ^ f := by rw [Int.pow_succ]; omega
    have hp : (0 : Int) ≤ 2 ^ f := Int.pow_nonneg (by decide)
    unfold grp
    unfold nT
    split
    · show 0 ≤ 0 + trT (grp f) l (8 - f) (l.getD (8 - f) 0 - 3 * ((0 : Nat) : Int)) ∧ _
      simp only [Int.natCast_zero, Int.mul_zero, Int.sub_zero, Int.zero_add]
      show _ ∧ 0 + trT (grp f) l (8 - f) (l.getD (8 - f) 0 - 3 * ((0 : Nat) : Int)) ≤ _
      simp only [Int.natCast_zero, Int.mul_zero, Int.sub_zero, Int.zero_add]
      omega
    · have h1 := ht (l.getD (8 - f) 0 - 3 * ((1 : Nat) : Int)) (by omega)
      show 0 ≤ 0 + trT (grp f) l (8 - f) (l.getD (8 - f) 0 - 3 * ((0 : Nat) : Int)) + trT (grp f) l (8 - f) (l.getD (8 - f) 0 - 3 * ((1 : Nat) : Int)) ∧ 0 + trT (grp f) l (8 - f) (l.getD (8 - f) 0 - 3 * ((0 : Nat) : Int)) + trT (grp f) l (8 - f) (l.getD (8 - f) 0 - 3 * ((1 : Nat) : Int)) ≤ _
      rw [show l.getD (8 - f) 0 - 3 * ((0 : Nat) : Int) = l.getD (8 - f) 0 by omega]
      omega
theorem grp_small (f : Nat) (l : List Int) (hf : f ≤ 9) (h : nineT l) : 0 ≤ grp f l ∧ grp f l ≤ 512 := by
  obtain ⟨h1, h2⟩ := grp_bd f l hf h
  refine ⟨h1, Int.le_trans h2 ?_⟩
  obtain rfl | rfl | rfl | rfl | rfl | rfl | rfl | rfl | rfl | rfl : f = 0 ∨ f = 1 ∨ f = 2 ∨ f = 3 ∨ f = 4 ∨ f = 5 ∨ f = 6 ∨ f = 7 ∨ f = 8 ∨ f = 9 := by omega
  all_goals decide
/-- how many tiles there are from a kind on -/
def fromS (l : List Int) : Nat → Int
  | 0 => 0
  | f + 1 => fromS l f + l.getD (8 - f) 0
theorem fromS_set (l : List Int) (h9 : l.length = 9) (i : Nat) (x : Int) (hi : i < 9) : ∀ f, f ≤ 9 → fromS (l.set i x) f = fromS l f + (if 9 ≤ f + i then x - l.getD i 0 else 0)
  | 0, _ => by rw [if_neg (by omega)]; rfl
  | f + 1, hf => by
    have ih := fromS_set l h9 i x hi f (by omega)
    rw [fromS, fromS, ih, getD_set _ _ _ _ (by omega)]
    by_cases e : 8 - f = i
    · rw [if_pos e, if_neg (by omega), if_pos (by omega), e]; omega
    · rw [if_neg e]
      by_cases e2 : 9 ≤ f + i
      · rw [if_pos e2, if_pos (by omega)]; omega
      · rw [if_neg e2, if_neg (by omega)]; omega
theorem grp_mod : ∀ (f : Nat) (l : List Int), f ≤ 9 → nineT l → grp f l ≠ 0 → fromS l f % 3 = 0
  | 0, l, _, _, _ => rfl
  | f + 1, l, hf, h, hne => by
    have ht : ∀ r t : Int, 0 ≤ r → l.getD (8 - f) 0 = r + 3 * t → trT (grp f) l (8 - f) r ≠ 0 → fromS l (f + 1) % 3 = 0 := by
      intro r t hr he hn
      unfold trT at hn
      rw [fromS, he]
      cases e : rowsT l (8 - f) r with
      | none => rw [e] at hn; exact absurd rfl hn
      | some l' =>
        rw [e] at hn
        have ih := grp_mod f l' (by omega) (rowsT_nine h hr e) hn
        unfold rowsT at e
        by_cases h0 : r = 0
        · rw [if_pos h0] at e; cases e; subst h0; omega
        · rw [if_neg h0] at e
          by_cases h9 : 9 < (8 - f) + 3
          · rw [if_pos h9] at e; cases e
          · rw [if_neg h9] at e
            by_cases hlt : l.getD ((8 - f) + 1) 0 < r ∨ l.getD ((8 - f) + 2) 0 < r
            · rw [if_pos hlt] at e; cases e
            · rw [if_neg hlt] at e
              cases e
              rw [fromS_set _ (by rw [List.length_set]; exact h.1) _ _ (by omega) f (by omega), fromS_set _ h.1 _ _ (by omega) f (by omega), if_pos (by omega), if_pos (by omega), getD_set _ _ _ _ (by rw [h.1]; omega), if_neg (by omega)] at ih
              omega
    have hx := h.2 (8 - f) (by omega)
    unfold grp nT at hne
    split at hne
    · have e1 : wT (grp f) l (8 - f) 1 = trT (grp f) l (8 - f) (l.getD (8 - f) 0) := by
        show 0 + trT (grp f) l (8 - f) (l.getD (8 - f) 0 - 3 * ((0 : Nat) : Int)) = _
        rw [show l.getD (8 - f) 0 - 3 * ((0 : Nat) : Int) = l.getD (8 - f) 0 by omega]; omega
      rw [e1] at hne
      exact ht _ 0 hx.1 (by omega) hne
    · have e2 : wT (grp f) l (8 - f) 2 = trT (grp f) l (8 - f) (l.getD (8 - f) 0) + trT (grp f) l (8 - f) (l.getD (8 - f) 0 - 3) := by
        show 0 + trT (grp f) l (8 - f) (l.getD (8 - f) 0 - 3 * ((0 : Nat) : Int)) + trT (grp f) l (8 - f) (l.getD (8 - f) 0 - 3 * ((1 : Nat) : Int)) = _
        rw [show l.getD (8 - f) 0 - 3 * ((0 : Nat) : Int) = l.getD (8 - f) 0 by omega, show l.getD (8 - f) 0 - 3 * ((1 : Nat) : Int) = l.getD (8 - f) 0 - 3 by omega]; omega
      rw [e2] at hne
      by_cases h1 : trT (grp f) l (8 - f) (l.getD (8 - f) 0) = 0
      · exact ht (l.getD (8 - f) 0 - 3) 1 (by omega) (by omega) (fun h2 => hne (by rw [h1, h2]; rfl))
      · exact ht _ 0 hx.1 (by omega) h1
end Go.Proofs.Ytglmahgbdgbbpaa
