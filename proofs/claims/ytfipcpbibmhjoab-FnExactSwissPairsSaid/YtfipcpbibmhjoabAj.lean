/- Pairs of players in order: pure. -/
import Derived.Test.YtfipcpbibmhjoabAi
set_option linter.unusedVariables false
namespace Go.Proofs.Ytfipcpbibmhjoab
open Go.RowKit
theorem split_last (s o : List Int) (i : Nat) : ∀ l : List Nat, ∃ A B, l = A ++ B ∧ (∀ y ∈ B, kb s o i y) ∧ (A = [] ∨ ∃ A' z, A = A' ++ [z] ∧ ¬ kb s o i z) := by
  intro l
  generalize hn : l.length = n
  induction n generalizing l with
  | zero => exact ⟨[], [], by rw [List.eq_nil_of_length_eq_zero hn]; rfl, fun y h => absurd h (by simp), .inl rfl⟩
  | succ n ih =>
    obtain ⟨l', z, rfl⟩ := last_of l (by intro e; rw [e] at hn; cases hn)
    by_cases hk : kb s o i z
    · obtain ⟨A, B, e, h1, h2⟩ := ih l' (by simpa using hn)
      refine ⟨A, B ++ [z], by rw [e, List.append_assoc], fun y hy => ?_, h2⟩
      rcases List.mem_append.1 hy with h | h
      · exact h1 y h
      · rw [List.mem_singleton] at h; rw [h]; exact hk
    · exact ⟨l' ++ [z], [], by simp, fun y h => absurd h (by simp), .inr ⟨l', z, rfl, hk⟩⟩
theorem ord_some (s o : List Int) : ∀ n, ∃ l, Ord s o n l
  | 0 => ⟨[], List.Pairwise.nil, fun x => by simp⟩
  | n + 1 => by
    obtain ⟨l, h1, h2⟩ := ord_some s o n
    obtain ⟨A, B, rfl, h3, h4⟩ := split_last s o n l
    exact ⟨_, insert_ord h1 h2 h3 h4⟩
/-- the pairs from those that are left, in order, behind those that there are -/
def pairT (n : Nat) (M : List Int) : Nat → List Nat → List Nat → Option (List Nat)
  | 0, _, out => some out
  | t + 1, [], out => some out
  | t + 1, f :: rest, out =>
    match rest.find? (fun g => M.getD (f * n + g) 0 == 0) with
    | none => none
    | some g => pairT n M t (rest.erase g) (out ++ [f, g])
theorem pairT_nil (n : Nat) (M : List Int) (t : Nat) (out : List Nat) : pairT n M t [] out = some out := by
  cases t <;> rfl
theorem pairT_none {n : Nat} {M : List Int} {t f : Nat} {rest out : List Nat} (h : rest.find? (fun g => M.getD (f * n + g) 0 == 0) = none) : pairT n M (t + 1) (f :: rest) out = none := by
  show (match rest.find? (fun g => M.getD (f * n + g) 0 == 0) with | none => none | some g => pairT n M t (rest.erase g) (out ++ [f, g])) = none
  rw [h]
theorem pairT_some {n : Nat} {M : List Int} {t f g : Nat} {rest out : List Nat} (h : rest.find? (fun g => M.getD (f * n + g) 0 == 0) = some g) : pairT n M (t + 1) (f :: rest) out = pairT n M t (rest.erase g) (out ++ [f, g]) := by
  show (match rest.find? (fun g => M.getD (f * n + g) 0 == 0) with | none => none | some g => pairT n M t (rest.erase g) (out ++ [f, g])) = _
  rw [h]
theorem head_best {s o : List Int} {left : List Nat} {a : Nat} (h : left.Pairwise (Bef s o)) (ha : a ∈ left) (hb : ∀ y ∈ left, y ≠ a → Bef s o a y) : ∃ rest, left = a :: rest := by
  cases left with
  | nil => cases ha
  | cons b t =>
    by_cases e : b = a
    · subst e; exact ⟨t, rfl⟩
    · have h1 := hb b (by simp) e
      have h2 := (List.pairwise_cons.1 h).1 a (by
        rcases List.mem_cons.1 ha with e2 | h2
        · exact absurd e2.symm e
        · exact h2)
      exact (h1.asymm h2).elim
theorem find_best {s o : List Int} {p : Nat → Bool} {b : Nat} : ∀ {rest : List Nat}, rest.Pairwise (Bef s o) → b ∈ rest → p b = true → (∀ g ∈ rest, p g = true → g ≠ b → Bef s o b g) → rest.find? p = some b
  | [], _, h, _, _ => absurd h (by simp)
  | h :: t, hs, hb, hp, hbest => by
    by_cases e : h = b
    · subst e; simp [hp]
    · have hbt : b ∈ t := by
        rcases List.mem_cons.1 hb with e2 | h2
        · exact absurd e2.symm e
        · exact h2
      have hph : p h = false := by
        cases hq : p h
        · rfl
        · exact ((hbest h (by simp) hq e).asymm ((List.pairwise_cons.1 hs).1 b hbt)).elim
      rw [List.find?_cons, hph]
      exact find_best (List.pairwise_cons.1 hs).2 hbt hp (fun g hg => hbest g (List.mem_cons_of_mem _ hg))
theorem ord_nodup {s o : List Int} {l : List Nat} (h : l.Pairwise (Bef s o)) : l.Nodup := h.imp (fun hb e => by subst e; exact hb.irrefl)
theorem erase_sorted {s o : List Int} {l : List Nat} (g : Nat) (h : l.Pairwise (Bef s o)) : (l.erase g).Pairwise (Bef s o) := h.sublist (List.erase_sublist ..)
theorem erase_mem {s o : List Int} {l : List Nat} {g x : Nat} (h : l.Pairwise (Bef s o)) : x ∈ l.erase g ↔ x ≠ g ∧ x ∈ l := (ord_nodup h).mem_erase_iff
/-- the place of the first one -/
theorem find_place {p : Nat → Bool} : ∀ {rest : List Nat} {g : Nat}, rest.find? p = some g → ∃ A B, rest = A ++ g :: B ∧ (∀ x ∈ A, p x = false) ∧ p g = true ∧ g ∉ A
  | [], g, h => by cases h
  | h :: t, g, hf => by
    rw [List.find?_cons] at hf
    cases hp : p h
    · rw [hp] at hf
      obtain ⟨A, B, e, h1, h2, h3⟩ := find_place hf
      refine ⟨h :: A, B, by rw [e]; rfl, fun x hx => ?_, h2, fun hx => ?_⟩
      · rcases List.mem_cons.1 hx with e2 | hx
        · rw [e2]; exact hp
        · exact h1 x hx
      · rcases List.mem_cons.1 hx with e2 | hx
        · rw [e2, hp] at h2; cases h2
        · exact h3 hx
    · rw [hp] at hf
      cases hf
      exact ⟨[], t, rfl, fun x hx => absurd hx (by simp), hp, by simp⟩
theorem erase_place {A B : List Nat} {g : Nat} (h : g ∉ A) : (A ++ g :: B).erase g = A ++ B := by
  rw [List.erase_append_right _ h, List.erase_cons_head]
/-- nobody by the other number -/
def zerosI (n : Nat) : List Int := List.replicate n 0
theorem kb_zeros (s : List Int) (n a b : Nat) : kb s (zerosI n) a b ↔ s.getD b 0 < s.getD a 0 := by
  have e : ∀ k, (zerosI n).getD k 0 = 0 := fun k => by
    unfold zerosI
    by_cases hk : k < n
    · simp [List.getD, hk]
    · simp [List.getD, hk]
  unfold kb
  rw [e, e]
  omega
end Go.Proofs.Ytfipcpbibmhjoab
