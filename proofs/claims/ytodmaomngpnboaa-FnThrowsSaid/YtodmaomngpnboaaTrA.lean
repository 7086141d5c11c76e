/- Throws that are learned: what is gained, the first of the best, counts. Nothing of a translation. -/
import Derived.Test.YtodmaomngpnboaaCk
set_option linter.unusedVariables false
namespace Go.Proofs.Ytodmaomngpnboaa

/-- what throw i gains against counts, by the first k of them -/
def gainS (fs cs : List Int) (n i : Nat) : Nat → Int
  | 0 => 0
  | k + 1 => gainS fs cs n i k + fs.getD (i * n + k) 0 * cs.getD k 0
def gainG (fs cs : List Int) (n i : Nat) : Int := gainS fs cs n i n
/-- the first of the best of m -/
def repB (g : Nat → Int) : Nat → Nat
  | 0 => 0
  | m + 1 => if m = 0 ∨ g (repB g m) < g m then m else repB g m
theorem repB_succ (g : Nat → Int) (m : Nat) : repB g (m + 1) = if m = 0 ∨ g (repB g m) < g m then m else repB g m := rfl
theorem repB_facts (g : Nat → Int) : ∀ m, 0 < m → repB g m < m ∧ (∀ j, j < m → g j ≤ g (repB g m)) ∧ (∀ j, j < repB g m → g j < g (repB g m))
  | 0, h => absurd h (by omega)
  | m + 1, _ => by
    rw [repB_succ]
    by_cases h0 : m = 0
    · subst h0
      rw [if_pos (.inl rfl)]
      exact ⟨by omega, fun j hj => by obtain rfl : j = 0 := by omega
                                      exact Int.le_refl _, fun j hj => by omega⟩
    · obtain ⟨h1, h2, h3⟩ := repB_facts g m (by omega)
      by_cases h : g (repB g m) < g m
      · rw [if_pos (.inr h)]
        refine ⟨by omega, fun j hj => ?_, fun j hj => ?_⟩
        · by_cases e : j = m
          · subst e; exact Int.le_refl _
          · have := h2 j (by omega); omega
        · have := h2 j hj; omega
      · rw [if_neg (by intro h'; rcases h' with h' | h'; exact h0 h'; exact h h')]
        refine ⟨by omega, fun j hj => ?_, h3⟩
        by_cases e : j = m
        · subst e; omega
        · exact h2 j (by omega)
theorem repB_lt (g : Nat → Int) (m : Nat) (h : 0 < m) : repB g m < m := (repB_facts g m h).1
theorem repB_unique (g : Nat → Int) (m z : Nat) (hz : z < m) (h1 : ∀ j, j < m → g j ≤ g z) (h2 : ∀ j, j < z → g j ≠ g z) : z = repB g m := by
  obtain ⟨a, b, c⟩ := repB_facts g m (by omega)
  rcases Nat.lt_trichotomy z (repB g m) with h | h | h
  · have := c z h; have := h1 _ a; omega
  · exact h
  · have e1 := h1 _ a
    have e2 := b z hz
    exact absurd (by omega : g (repB g m) = g z) (h2 _ h)
def repL (fs : List Int) (n : Nat) (cs : List Int) : Nat := repB (gainG fs cs n) n
def bumpI (cs : List Int) (x : Nat) : List Int := cs.set x (cs.getD x 0 + 1)
theorem bumpI_len (cs : List Int) (x : Nat) : (bumpI cs x).length = cs.length := by simp [bumpI]
theorem bumpI_at (cs : List Int) (x k : Nat) (hx : x < cs.length) : (bumpI cs x).getD k 0 = if k = x then cs.getD x 0 + 1 else cs.getD k 0 := by
  unfold bumpI
  by_cases e : k = x
  · subst e; simp [List.getD, hx]
  · rw [if_neg e]
    simp [List.getD, show ¬ x = k from fun h => e h.symm]
/-- counts behind r rounds -/
def lrn (fs : List Int) (n : Nat) : Nat → List Int × List Int
  | 0 => (List.replicate n 0, List.replicate n 0)
  | r + 1 => (bumpI (lrn fs n r).1 (repL fs n (lrn fs n r).2), bumpI (lrn fs n r).2 (repL fs n (lrn fs n r).1))
theorem lrn_succ (fs : List Int) (n r : Nat) : lrn fs n (r + 1) = (bumpI (lrn fs n r).1 (repL fs n (lrn fs n r).2), bumpI (lrn fs n r).2 (repL fs n (lrn fs n r).1)) := rfl
theorem lrn_len (fs : List Int) (n : Nat) : ∀ r, (lrn fs n r).1.length = n ∧ (lrn fs n r).2.length = n
  | 0 => ⟨List.length_replicate, List.length_replicate⟩
  | r + 1 => by
    obtain ⟨a, b⟩ := lrn_len fs n r
    rw [lrn_succ]
    exact ⟨by rw [bumpI_len]; exact a, by rw [bumpI_len]; exact b⟩
theorem repl_at (n k : Nat) : (List.replicate n (0 : Int)).getD k 0 = 0 := by
  simp only [List.getD, List.getElem?_replicate]; split <;> rfl
theorem lrn_bd (fs : List Int) (n : Nat) (hn : 0 < n) : ∀ r k, (0 ≤ (lrn fs n r).1.getD k 0 ∧ (lrn fs n r).1.getD k 0 ≤ r) ∧ (0 ≤ (lrn fs n r).2.getD k 0 ∧ (lrn fs n r).2.getD k 0 ≤ r)
  | 0, k => by
    show (0 ≤ (List.replicate n (0 : Int)).getD k 0 ∧ _) ∧ (0 ≤ (List.replicate n (0 : Int)).getD k 0 ∧ _)
    have e : (lrn fs n 0).1 = List.replicate n 0 := rfl
    have e2 : (lrn fs n 0).2 = List.replicate n 0 := rfl
    rw [e, e2, repl_at]
    exact ⟨⟨by omega, by omega⟩, ⟨by omega, by omega⟩⟩
  | r + 1, k => by
    obtain ⟨la, lb⟩ := lrn_len fs n r
    have h1 := lrn_bd fs n hn r k
    have h2 := lrn_bd fs n hn r (repL fs n (lrn fs n r).2)
    have h3 := lrn_bd fs n hn r (repL fs n (lrn fs n r).1)
    rw [lrn_succ]
    show (0 ≤ (bumpI _ _).getD k 0 ∧ (bumpI _ _).getD k 0 ≤ _) ∧ (0 ≤ (bumpI _ _).getD k 0 ∧ (bumpI _ _).getD k 0 ≤ _)
    rw [bumpI_at _ _ _ (by rw [la]; exact repB_lt _ _ hn), bumpI_at _ _ _ (by rw [lb]; exact repB_lt _ _ hn)]
    constructor
    · split <;> omega
    · split <;> omega
theorem gainS_bd (fs cs : List Int) (n i : Nat) (m : Int) (hm : m ≤ 1000) (hf : ∀ k, k < n → -9 ≤ fs.getD (i * n + k) 0 ∧ fs.getD (i * n + k) 0 ≤ 9) (hc : ∀ k, 0 ≤ cs.getD k 0 ∧ cs.getD k 0 ≤ m) : ∀ k, k ≤ n → -(9000 * (k : Int)) ≤ gainS fs cs n i k ∧ gainS fs cs n i k ≤ 9000 * (k : Int)
  | 0, _ => by show -(9000 * ((0 : Nat) : Int)) ≤ (0 : Int) ∧ (0 : Int) ≤ _; omega
  | k + 1, h => by
    have ih := gainS_bd fs cs n i m hm hf hc k (by omega)
    have a := hf k (by omega)
    have b := hc k
    have e : gainS fs cs n i (k + 1) = gainS fs cs n i k + fs.getD (i * n + k) 0 * cs.getD k 0 := rfl
    rw [e]
    generalize fs.getD (i * n + k) 0 = x at *
    generalize cs.getD k 0 = y at *
    have p1 : x * y ≤ 9 * 1000 := by
      rcases Int.le_total 0 x with h | h
      · exact Int.le_trans (Int.mul_le_mul_of_nonneg_left (show y ≤ 1000 by omega) h) (Int.mul_le_mul_of_nonneg_right a.2 (by omega))
      · have := Int.mul_nonneg (show 0 ≤ -x by omega) b.1
        rw [Int.neg_mul] at this
        omega
    have p2 : -(9 * 1000) ≤ x * y := by
      rcases Int.le_total 0 x with h | h
      · have := Int.mul_nonneg h b.1; omega
      · have h1 : (-x) * y ≤ 9 * 1000 := Int.le_trans (Int.mul_le_mul_of_nonneg_left (show y ≤ 1000 by omega) (show 0 ≤ -x by omega)) (Int.mul_le_mul_of_nonneg_right (show -x ≤ 9 by omega) (by omega))
        rw [Int.neg_mul] at h1
        omega
    omega
theorem gainS_zero (fs : List Int) (n i c : Nat) : ∀ k, gainS fs (List.replicate c 0) n i k = 0
  | 0 => rfl
  | k + 1 => by
    show gainS fs (List.replicate c 0) n i k + fs.getD (i * n + k) 0 * (List.replicate c (0 : Int)).getD k 0 = 0
    rw [gainS_zero fs n i c k, repl_at]; simp
theorem repB_zero (g : Nat → Int) (h : ∀ j, g j = 0) : ∀ m, repB g m = 0
  | 0 => rfl
  | m + 1 => by
    rw [repB_succ]
    by_cases h0 : m = 0
    · rw [if_pos (.inl h0), h0]
    · rw [if_neg (by rw [h, h]; omega)]; exact repB_zero g h m
theorem lrn_one (fs : List Int) (n : Nat) : lrn fs n 1 = ((List.replicate n 0).set 0 1, (List.replicate n 0).set 0 1) := by
  have e : repL fs n (List.replicate n 0) = 0 := repB_zero _ (fun j => gainS_zero fs n j n n) n
  show (bumpI (List.replicate n 0) (repL fs n (List.replicate n 0)), bumpI (List.replicate n 0) (repL fs n (List.replicate n 0))) = _
  rw [e]
  unfold bumpI
  rw [repl_at]
  rfl
/-- the sum of a list -/
def sumL : List Int → Int
  | [] => 0
  | x :: l => x + sumL l
theorem sumL_set (cs : List Int) : ∀ x, x < cs.length → sumL (cs.set x (cs.getD x 0 + 1)) = sumL cs + 1 := by
  induction cs with
  | nil => intro x h; simp at h
  | cons a l ih =>
    intro x h
    cases x with
    | zero => show (a + 1) + sumL l = (a + sumL l) + 1; omega
    | succ x =>
      have := ih x (by simpa using h)
      show a + sumL (l.set x ((a :: l).getD (x + 1) 0 + 1)) = (a + sumL l) + 1
      rw [List.getD_cons_succ, this]; omega
theorem sumL_zero : ∀ n, sumL (List.replicate n 0) = 0
  | 0 => rfl
  | n + 1 => by show (0 : Int) + sumL (List.replicate n 0) = 0; rw [sumL_zero n]; rfl
theorem lrn_sum (fs : List Int) (n : Nat) (hn : 0 < n) : ∀ r : Nat, sumL (lrn fs n r).1 = r ∧ sumL (lrn fs n r).2 = r
  | 0 => ⟨sumL_zero n, sumL_zero n⟩
  | r + 1 => by
    obtain ⟨a, b⟩ := lrn_sum fs n hn r
    obtain ⟨la, lb⟩ := lrn_len fs n r
    rw [lrn_succ]
    constructor
    · show sumL (bumpI _ _) = _
      unfold bumpI
      rw [sumL_set _ _ (by rw [la]; exact repB_lt _ _ hn), a]; omega
    · show sumL (bumpI _ _) = _
      unfold bumpI
      rw [sumL_set _ _ (by rw [lb]; exact repB_lt _ _ hn), b]; omega
end Go.Proofs.Ytodmaomngpnboaa
