/- The order of players by two numbers and by place: pure. Nothing of a translation. -/
import Derived.Test.YtfipcpbibmhjoabCk
set_option linter.unusedVariables false
namespace Go.Proofs.Ytfipcpbibmhjoab
open Go.RowKit
/-- a comes ahead of b by the numbers alone -/
def kb (s o : List Int) (a b : Nat) : Prop := s.getD b 0 < s.getD a 0 ∨ (s.getD a 0 = s.getD b 0 ∧ o.getD b 0 < o.getD a 0)
instance (s o : List Int) (a b : Nat) : Decidable (kb s o a b) := by unfold kb; infer_instance
/-- .. or as the first one of equal ones -/
def Bef (s o : List Int) (a b : Nat) : Prop := kb s o a b ∨ (¬ kb s o b a ∧ a < b)
theorem Bef.asymm {s o : List Int} {a b : Nat} (h : Bef s o a b) (g : Bef s o b a) : False := by
  unfold Bef kb at *
  omega
theorem Bef.irrefl {s o : List Int} {a : Nat} (h : Bef s o a a) : False := h.asymm h
theorem Bef.trans {s o : List Int} {a b c : Nat} (h : Bef s o a b) (g : Bef s o b c) : Bef s o a c := by
  unfold Bef kb at *
  omega
theorem Bef.total {s o : List Int} {a b : Nat} (h : a ≠ b) : Bef s o a b ∨ Bef s o b a := by
  unfold Bef kb
  omega
theorem sorted_unique {s o : List Int} : ∀ (l m : List Nat), l.Pairwise (Bef s o) → m.Pairwise (Bef s o) → (∀ x, x ∈ l ↔ x ∈ m) → l = m
  | [], m, _, _, h => by
    cases m with
    | nil => rfl
    | cons b m => exact absurd ((h b).2 (by simp)) (by simp)
  | a :: l, m, hl, hm, h => by
    cases m with
    | nil => exact absurd ((h a).1 (by simp)) (by simp)
    | cons b m =>
      obtain ⟨hl1, hl2⟩ := List.pairwise_cons.1 hl
      obtain ⟨hm1, hm2⟩ := List.pairwise_cons.1 hm
      have hab : a = b := by
        have h1 := (h a).1 (by simp)
        have h2 := (h b).2 (by simp)
        rcases List.mem_cons.1 h1 with e | h1
        · exact e
        · rcases List.mem_cons.1 h2 with e | h2
          · exact e.symm
          · exact ((hl1 b h2).asymm (hm1 a h1)).elim
      subst hab
      have ht : ∀ x, x ∈ l ↔ x ∈ m := fun x => by
        constructor
        · intro hx
          rcases List.mem_cons.1 ((h x).1 (by simp [hx])) with e | e
          · subst e; exact (hl1 x hx).irrefl.elim
          · exact e
        · intro hx
          rcases List.mem_cons.1 ((h x).2 (by simp [hx])) with e | e
          · subst e; exact (hm1 x hx).irrefl.elim
          · exact e
      rw [sorted_unique l m hl2 hm2 ht]
/-- l has the players below n, the sooner ones ahead -/
def Ord (s o : List Int) (n : Nat) (l : List Nat) : Prop := l.Pairwise (Bef s o) ∧ ∀ x, x ∈ l ↔ x < n
theorem Ord.unique {s o : List Int} {n : Nat} {l m : List Nat} (h : Ord s o n l) (g : Ord s o n m) : l = m :=
  sorted_unique l m h.1 g.1 fun x => (h.2 x).trans (g.2 x).symm
theorem nodup_len : ∀ (l : List Nat) (n : Nat), l.Nodup → (∀ x ∈ l, x < n) → l.length ≤ n
  | l, 0, _, h => by
    cases l with
    | nil => exact Nat.le_refl _
    | cons a l => exact absurd (h a (by simp)) (by omega)
  | l, n + 1, hd, h => by
    have h1 := nodup_len (l.erase n) n (hd.erase n) (fun x hx => by
      have h2 := (hd.mem_erase_iff).1 hx
      have := h x h2.2
      omega)
    rw [List.length_erase] at h1
    split at h1 <;> omega
theorem Ord.len {s o : List Int} {n : Nat} {l : List Nat} (h : Ord s o n l) : l.length = n := by
  have hd : l.Nodup := h.1.imp (fun hb e => by subst e; exact hb.irrefl)
  have h1 := nodup_len l n hd (fun x hx => (h.2 x).1 hx)
  rcases Nat.lt_or_ge l.length n with hlt | hge
  · exfalso
    have h2 := nodup_len (List.range n) l.length (by exact List.nodup_range) 
    have : ∃ x, x < n ∧ x ∉ l := by
      apply Classical.byContradiction
      intro hc
      have hall : ∀ x, x < n → x ∈ l := fun x hx => Classical.byContradiction fun hn => hc ⟨x, hx, hn⟩
      have h3 : ∀ (k : Nat), k ≤ n → k ≤ l.length := fun k => by
        induction k with
        | zero => intro _; omega
        | succ k ih =>
          intro hk
          have := (List.nodup_range (n := k + 1)).length_le_of_subset (l₂ := l) (fun x hx => hall x (by have := List.mem_range.1 hx; omega))
          simpa using this
      have := h3 n (Nat.le_refl _)
      omega
    obtain ⟨x, hx, hn⟩ := this
    exact hn ((h.2 x).2 hx)
  · omega
/-- the one that is inserted has come to its place -/
theorem insert_ord {s o : List Int} {i : Nat} {A B : List Nat} (hs : (A ++ B).Pairwise (Bef s o)) (hm : ∀ x, x ∈ A ++ B ↔ x < i) (hB : ∀ y ∈ B, kb s o i y) (hA : A = [] ∨ ∃ A' z, A = A' ++ [z] ∧ ¬ kb s o i z) : Ord s o (i + 1) (A ++ i :: B) := by
  obtain ⟨p1, p2, p3⟩ := List.pairwise_append.1 hs
  refine ⟨List.pairwise_append.2 ⟨p1, List.pairwise_cons.2 ⟨fun y hy => .inl (hB y hy), p2⟩, ?_⟩, fun x => ?_⟩
  · intro a ha b hb
    rcases List.mem_cons.1 hb with e | hb
    · subst e
      rcases hA with e | ⟨A', z, e, hz⟩
      · subst e; cases ha
      · subst e
        have hzi : z < b := (hm z).1 (by simp)
        have h1 : Bef s o z b := .inr ⟨hz, hzi⟩
        rcases List.mem_append.1 ha with ha | ha
        · have := (List.pairwise_append.1 p1).2.2 a ha z (by simp)
          exact this.trans h1
        · rw [List.mem_singleton] at ha; subst ha; exact h1
    · exact p3 a ha b hb
  · have := hm x
    simp only [List.mem_append, List.mem_cons] at this ⊢
    constructor
    · intro h
      rcases h with h | h | h
      · have := this.1 (.inl h); omega
      · omega
      · have := this.1 (.inr h); omega
    · intro h
      by_cases e : x = i
      · exact .inr (.inl e)
      · rcases this.2 (by omega) with h | h
        · exact .inl h
        · exact .inr (.inr h)
/-- the next one that is picked -/
theorem pick_ord {s o : List Int} {n b : Nat} {l : List Nat} (hs : l.Pairwise (Bef s o)) (hl : ∀ x ∈ l, x < n) (ha : ∀ x ∈ l, ∀ y, y < n → y ∉ l → Bef s o x y) (hb : b < n) (hbl : b ∉ l) (hbest : ∀ y, y < n → y ∉ l → y ≠ b → Bef s o b y) :
    (l ++ [b]).Pairwise (Bef s o) ∧ (∀ x ∈ l ++ [b], x < n) ∧ ∀ x ∈ l ++ [b], ∀ y, y < n → y ∉ l ++ [b] → Bef s o x y := by
  refine ⟨List.pairwise_append.2 ⟨hs, List.pairwise_singleton _ _, fun a hal c hc => ?_⟩, fun x hx => ?_, fun x hx y hy hyn => ?_⟩
  · rw [List.mem_singleton] at hc; subst hc; exact ha a hal c hb hbl
  · rcases List.mem_append.1 hx with h | h
    · exact hl x h
    · rw [List.mem_singleton] at h; subst h; exact hb
  · have h1 : y ∉ l := fun h => hyn (List.mem_append.2 (.inl h))
    have h2 : y ≠ b := fun h => hyn (List.mem_append.2 (.inr (by rw [h]; exact List.mem_singleton.2 rfl)))
    rcases List.mem_append.1 hx with h | h
    · exact ha x h y hy h1
    · rw [List.mem_singleton] at h; subst h; exact hbest y hy h1 h2
theorem full_ord {s o : List Int} {n : Nat} {l : List Nat} (hs : l.Pairwise (Bef s o)) (hl : ∀ x ∈ l, x < n) (hn : l.length = n) : Ord s o n l := by
  refine ⟨hs, fun x => ⟨fun h => hl x h, fun h => ?_⟩⟩
  have hd : l.Nodup := hs.imp (fun hb e => by subst e; exact hb.irrefl)
  apply Classical.byContradiction
  intro hx
  have := nodup_len (x :: l) n (List.nodup_cons.2 ⟨hx, hd⟩) (fun y hy => by
    rcases List.mem_cons.1 hy with e | hy
    · subst e; exact h
    · exact hl y hy)
  simp at this
  omega
theorem some_left {s o : List Int} {n : Nat} {l : List Nat} (hs : l.Pairwise (Bef s o)) (hn : l.length < n) : ∃ x, x < n ∧ x ∉ l := by
  apply Classical.byContradiction
  intro hc
  have hall : ∀ x, x < n → x ∈ l := fun x hx => Classical.byContradiction fun hn => hc ⟨x, hx, hn⟩
  have := (List.nodup_range (n := n)).length_le_of_subset (l₂ := l) (fun x hx => hall x (List.mem_range.1 hx))
  simp at this
  omega
end Go.Proofs.Ytfipcpbibmhjoab
