/- Five cards: the order of ranks is one, pure. Nothing of a translation. -/
import Derived.Test.YtodmaomngpnboaaOd
set_option linter.unusedVariables false
namespace Go.Proofs.Ytodmaomngpnboaa

/-- how many have rank r; the counts are those from rank 12 down -/
def cAt (c : List Nat) (r : Nat) : Nat := c.getD (12 - r) 0
/-- a comes ahead of b, or is as b -/
def leR (c : List Nat) (a b : Nat) : Prop := cAt c b < cAt c a ∨ (cAt c a = cAt c b ∧ b ≤ a)
theorem leR_anti {c : List Nat} {a b : Nat} (h : leR c a b) (g : leR c b a) : a = b := by unfold leR at *; omega
theorem rkL_mem (n : Nat) : ∀ (d : List Nat) (r : Nat), d.length = r → ∀ x ∈ rkL n d r, x < r ∧ d.getD (r - 1 - x) 0 = n
  | [], r, h, x, hx => by subst h; simp [rkL] at hx
  | y :: d, 0, h, x, hx => by simp at h
  | y :: d, r + 1, h, x, hx => by
    have hd : d.length = r := by simpa using h
    have hrec : x ∈ rkL n d r → x < r + 1 ∧ (y :: d).getD (r + 1 - 1 - x) 0 = n := fun hm => by
      obtain ⟨h1, h2⟩ := rkL_mem n d r hd x hm
      refine ⟨by omega, ?_⟩
      rw [show r + 1 - 1 - x = (r - 1 - x) + 1 by omega, List.getD_cons_succ]
      exact h2
    unfold rkL at hx
    cases hb : Nat.beq y n
    · rw [hb] at hx; exact hrec hx
    · rw [hb] at hx
      rcases List.mem_append.1 hx with h1 | h1
      · obtain ⟨_, rfl⟩ := List.mem_replicate.1 h1
        refine ⟨by omega, ?_⟩
        rw [show x + 1 - 1 - x = 0 by omega, List.getD_cons_zero]
        exact Nat.eq_of_beq_eq_true hb
      · exact hrec h1
theorem rkL_desc (n : Nat) : ∀ (d : List Nat) (r : Nat), d.length = r → (rkL n d r).Pairwise (fun a b => b ≤ a)
  | [], r, h => by subst h; simp [rkL]
  | y :: d, 0, h => by simp at h
  | y :: d, r + 1, h => by
    have hd : d.length = r := by simpa using h
    unfold rkL
    cases hb : Nat.beq y n
    · exact rkL_desc n d r hd
    · refine List.pairwise_append.2 ⟨?_, rkL_desc n d r hd, fun a ha b hb' => ?_⟩
      · rw [List.pairwise_replicate]; right; exact Nat.le_refl _
      · obtain ⟨_, rfl⟩ := List.mem_replicate.1 ha
        have := (rkL_mem n d a hd b hb').1
        omega
theorem rkL_cons (n y r : Nat) (d : List Nat) : rkL n (y :: d) (r + 1) = bif Nat.beq y n then List.replicate n r ++ rkL n d r else rkL n d r := rfl
theorem rkL_count (n : Nat) : ∀ (d : List Nat) (r : Nat), d.length = r → ∀ x, (rkL n d r).count x = if x < r ∧ d.getD (r - 1 - x) 0 = n then n else 0
  | [], r, h, x => by subst h; simp [rkL]
  | y :: d, 0, h, x => by simp at h
  | y :: d, r + 1, h, x => by
    have hd : d.length = r := by simpa using h
    have ih := rkL_count n d r hd x
    by_cases hx : x = r
    · subst hx
      have h0 : (rkL n d x).count x = 0 := by rw [ih, if_neg (by omega)]
      rw [show x + 1 - 1 - x = 0 by omega, List.getD_cons_zero]
      unfold rkL
      cases hb : Nat.beq y n
      · have hn : ¬ y = n := fun e => by rw [e, Nat.beq_refl] at hb; cases hb
        rw [if_neg (fun h => hn h.2)]
        exact h0
      · have hn : y = n := Nat.eq_of_beq_eq_true hb
        rw [if_pos ⟨by omega, hn⟩]
        show (List.replicate n x ++ rkL n d x).count x = n
        rw [List.count_append, h0, List.count_replicate]
        simp
    · have e : (rkL n (y :: d) (r + 1)).count x = (rkL n d r).count x := by
        rw [rkL_cons]
        cases hb : Nat.beq y n
        · rfl
        · show (List.replicate n r ++ rkL n d r).count x = _
          rw [List.count_append, List.count_replicate]
          have : ¬ (r == x) = true := by simp; omega
          rw [if_neg this, Nat.zero_add]
      rw [e, ih]
      by_cases h2 : x < r
      · rw [show r + 1 - 1 - x = (r - 1 - x) + 1 by omega, List.getD_cons_succ]
        by_cases h3 : d.getD (r - 1 - x) 0 = n
        · rw [if_pos ⟨h2, h3⟩, if_pos ⟨by omega, h3⟩]
        · rw [if_neg (fun h => h3 h.2), if_neg (fun h => h3 h.2)]
      · rw [if_neg (fun h => h2 h.1), if_neg (fun h => by omega)]
theorem ordC_mem (c : List Nat) (hc : c.length = 13) : ∀ n, ∀ x ∈ ordC c n, x < 13 ∧ 1 ≤ cAt c x ∧ cAt c x ≤ n
  | 0, x, hx => by simp [ordC] at hx
  | n + 1, x, hx => by
    unfold ordC at hx
    rcases List.mem_append.1 hx with h | h
    · obtain ⟨h1, h2⟩ := rkL_mem (n + 1) c 13 hc x h
      have h3 : cAt c x = n + 1 := h2
      omega
    · have := ordC_mem c hc n x h
      omega
theorem ordC_sorted (c : List Nat) (hc : c.length = 13) : ∀ n, (ordC c n).Pairwise (leR c)
  | 0 => by simp [ordC]
  | n + 1 => by
    unfold ordC
    refine List.pairwise_append.2 ⟨?_, ordC_sorted c hc n, fun a ha b hb => ?_⟩
    · refine (rkL_desc (n + 1) c 13 hc).imp_of_mem fun {a b} ha hb h => ?_
      have h1 : cAt c a = n + 1 := (rkL_mem (n + 1) c 13 hc a ha).2
      have h2 : cAt c b = n + 1 := (rkL_mem (n + 1) c 13 hc b hb).2
      exact .inr ⟨by omega, h⟩
    · have h1 : cAt c a = n + 1 := (rkL_mem (n + 1) c 13 hc a ha).2
      have h2 := ordC_mem c hc n b hb
      exact .inl (by omega)
theorem ordC_count (c : List Nat) (hc : c.length = 13) (x : Nat) : ∀ n, (ordC c n).count x = if x < 13 ∧ cAt c x ≤ n then cAt c x else 0
  | 0 => by
    show ([] : List Nat).count x = _
    rw [List.count_nil]
    split <;> omega
  | n + 1 => by
    unfold ordC
    rw [List.count_append, ordC_count c hc x n, rkL_count (n + 1) c 13 hc]
    show (if x < 13 ∧ cAt c x = n + 1 then n + 1 else 0) + _ = _
    by_cases h1 : x < 13
    · by_cases h2 : cAt c x = n + 1
      · rw [if_pos ⟨h1, h2⟩, if_neg (by omega), if_pos (by omega)]; omega
      · by_cases h3 : cAt c x ≤ n
        · rw [if_neg (by omega), if_pos ⟨h1, h3⟩, if_pos (by omega), Nat.zero_add]
        · rw [if_neg (by omega), if_neg (by omega), if_neg (by omega)]
    · rw [if_neg (by omega), if_neg (by omega), if_neg (by omega)]
/-- the counts of ranks, from rank 12 down -/
def cntL (R : List Nat) : List Nat := (List.range 13).map fun i => R.count (12 - i)
theorem cntL_len (R : List Nat) : (cntL R).length = 13 := by simp [cntL]
theorem cntL_at (R : List Nat) (x : Nat) (hx : x < 13) : cAt (cntL R) x = R.count x := by
  unfold cAt cntL
  rw [List.getD, List.getElem?_map, List.getElem?_range (by omega)]
  show R.count (12 - (12 - x)) = R.count x
  rw [show 12 - (12 - x) = x by omega]
/-- whatever has these ranks and is in order is the order -/
theorem sorted_ordC (R S : List Nat) (hR : ∀ x ∈ R, x < 13) (h4 : ∀ x, R.count x ≤ 4) (hp : S.Perm R) (hs : S.Pairwise (leR (cntL R))) : S = ordC (cntL R) 4 := by
  refine List.Perm.eq_of_pairwise (le := leR (cntL R)) (fun a b _ _ => leR_anti) hs (ordC_sorted _ (cntL_len R) 4) (hp.trans ?_)
  rw [List.perm_iff_count]
  intro x
  rw [ordC_count _ (cntL_len R)]
  by_cases hx : x < 13
  · rw [cntL_at R x hx, if_pos ⟨hx, h4 x⟩]
  · rw [if_neg (fun h => hx h.1)]
    exact List.count_eq_zero.2 fun h => hx (hR x h)
theorem count_sum (R : List Nat) : ∀ n, (∀ x ∈ R, x < n) → ((List.range n).map fun i => R.count i).sum = R.length := by
  induction R with
  | nil => intro n _; induction n with
    | zero => rfl
    | succ n ih => rw [List.range_succ, List.map_append, List.sum_append]; simpa using ih (by simp)
  | cons a R ih =>
    intro n h
    have h1 := ih n (fun x hx => h x (by simp [hx]))
    have ha := h a (by simp)
    have e : ∀ m, ((List.range m).map fun i => (a :: R).count i).sum = ((List.range m).map fun i => R.count i).sum + if a < m then 1 else 0 := by
      intro m
      induction m with
      | zero => rfl
      | succ m im =>
        rw [List.range_succ, List.map_append, List.map_append, List.sum_append, List.sum_append, im]
        simp only [List.map_cons, List.map_nil, List.sum_cons, List.sum_nil, List.count_cons]
        by_cases h1 : a = m
        · subst h1; simp; omega
        · have : (a == m) = false := by simpa using h1
          rw [this]
          by_cases h2 : a < m
          · rw [if_pos h2, if_pos (show a < m + 1 by omega)]; simp; omega
          · rw [if_neg h2, if_neg (show ¬ a < m + 1 by omega)]; simp
    rw [e, if_pos ha, h1]; rfl
theorem cntL_sum (R : List Nat) (h : ∀ x ∈ R, x < 13) : (cntL R).sum = R.length := by
  rw [← count_sum R 13 h]
  unfold cntL
  simp [List.range, List.range.loop]
  omega
theorem cntL_le (R : List Nat) (h4 : ∀ x, R.count x ≤ 4) : ∀ x ∈ cntL R, x ≤ 4 := by
  intro x hx
  obtain ⟨i, _, rfl⟩ := List.mem_map.1 hx
  exact h4 _
theorem okC_of (R : List Nat) (h : ∀ x ∈ R, x < 13) (h5 : R.length = 5) (h4 : ∀ x, R.count x ≤ 4) : okC (cntL R) = true :=
  okC_at _ (cntL_len R) (cntL_le R h4) (by rw [cntL_sum R h, h5])
end Go.Proofs.Ytodmaomngpnboaa
