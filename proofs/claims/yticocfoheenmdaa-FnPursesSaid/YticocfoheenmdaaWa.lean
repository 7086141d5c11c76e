/- Words: which lengths end one and begin another, what they are worth. Nothing of a translation. -/
import Derived.Test.YticocfoheenmdaaQa
set_option linter.unusedVariables false
namespace Go.Proofs.Yticocfoheenmdaa
open Go.RowKit

theorem firstNot (f : Nat → Bool) : ∀ p, ((List.range p).all f) = false → ∃ t, t < p ∧ (∀ j, j < t → f j = true) ∧ f t = false
  | 0, h => by simp at h
  | p + 1, h => by
    by_cases g : ((List.range p).all f) = true
    · refine ⟨p, by omega, fun j hj => List.all_eq_true.1 g j (List.mem_range.2 hj), ?_⟩
      rw [List.range_succ, List.all_append, g, Bool.true_and] at h
      simpa using h
    · obtain ⟨t, t1, t2, t3⟩ := firstNot f p (by simpa using g)
      exact ⟨t, by omega, t2, t3⟩
theorem list_ext0 {fs gs : List Int} (hl : fs.length = gs.length) (h : ∀ j, j < fs.length → fs.getD j 0 = gs.getD j 0) : fs = gs := by
  apply List.ext_getElem hl
  intro i h1 h2
  have := h i h1
  rwa [getD_lt fs 0 i h1, getD_lt gs 0 i h2] at this
theorem list_differ {fs gs : List Int} (hl : fs.length = gs.length) (h : ¬ fs = gs) : ∃ t, t < fs.length ∧ (∀ j, j < t → fs.getD j 0 = gs.getD j 0) ∧ ¬ fs.getD t 0 = gs.getD t 0 := by
  have hf : ((List.range fs.length).all fun j => decide (fs.getD j 0 = gs.getD j 0)) = false := by
    rw [Bool.eq_false_iff]
    intro h'
    exact h (list_ext0 hl fun j hj => of_decide_eq_true (List.all_eq_true.1 h' j (List.mem_range.2 hj)))
  obtain ⟨t, t1, t2, t3⟩ := firstNot _ _ hf
  exact ⟨t, t1, fun j hj => of_decide_eq_true (t2 j hj), of_decide_eq_false t3⟩
/-- gs begins with the last k of fs -/
def endsB (fs gs : List Int) (k : Nat) : Bool := decide (k ≤ fs.length) && (decide (k ≤ gs.length) && decide (fs.drop (fs.length - k) = gs.take k))
theorem endsB_of {fs gs : List Int} {k : Nat} (h1 : k ≤ fs.length) (h2 : k ≤ gs.length) : endsB fs gs k = decide (fs.drop (fs.length - k) = gs.take k) := by
  unfold endsB; rw [decide_eq_true h1, decide_eq_true h2, Bool.true_and, Bool.true_and]
/-- the lengths from 1 to k with which gs begins as fs ends -/
def overL (fs gs : List Int) : Nat → List Int
  | 0 => []
  | k + 1 => overL fs gs k ++ (if endsB fs gs (k + 1) = true then [((k + 1 : Nat) : Int)] else [])
theorem overL_len (fs gs : List Int) (k : Nat) : (overL fs gs k).length ≤ k := by
  induction k with
  | zero => exact Nat.le_refl _
  | succ k ih => unfold overL; split <;> simp <;> omega
theorem overL_yes {fs gs : List Int} {k : Nat} (h : endsB fs gs (k + 1) = true) : overL fs gs (k + 1) = overL fs gs k ++ [((k + 1 : Nat) : Int)] := by rw [overL, if_pos h]
theorem overL_no {fs gs : List Int} {k : Nat} (h : endsB fs gs (k + 1) = false) : overL fs gs (k + 1) = overL fs gs k := by rw [overL, if_neg (by rw [h]; exact Bool.false_ne_true), List.append_nil]
theorem overL_mem (fs gs : List Int) (k : Nat) : ∀ x ∈ overL fs gs k, 1 ≤ x ∧ x ≤ k := by
  induction k with
  | zero => intro x hx; simp [overL] at hx
  | succ k ih =>
    intro x hx
    rw [overL, List.mem_append] at hx
    rcases hx with hx | hx
    · have := ih x hx; omega
    · split at hx
      · rw [List.mem_singleton] at hx; omega
      · simp at hx
theorem overL_at (fs gs : List Int) (k i : Nat) (h : i < (overL fs gs k).length) : 1 ≤ (overL fs gs k).getD i 0 ∧ (overL fs gs k).getD i 0 ≤ k := by
  rw [getD_lt _ _ _ h]; exact overL_mem fs gs k _ (List.getElem_mem h)
/-- beyond the shorter one nothing is added -/
theorem overL_beyond (fs gs : List Int) (m j : Nat) (h : gs.length ≤ m ∨ fs.length ≤ m) : overL fs gs (m + j) = overL fs gs m := by
  induction j with
  | zero => rfl
  | succ j ih =>
    rw [show m + (j + 1) = (m + j) + 1 from rfl, overL_no ?_, ih]
    unfold endsB
    rcases h with h | h
    · rw [decide_eq_false (show ¬ m + j + 1 ≤ gs.length by omega)]; simp
    · rw [decide_eq_false (show ¬ m + j + 1 ≤ fs.length by omega)]; simp
/-- what the lengths of a list are worth: the powers of one less -/
def worthL (s : Int) : List Int → Int
  | [] => 0
  | x :: r => pwI s (x - 1).toNat + worthL s r
theorem worthL_append (s : Int) (a b : List Int) : worthL s (a ++ b) = worthL s a + worthL s b := by
  induction a with
  | nil => exact (Int.zero_add _).symm
  | cons x r ih => show pwI s (x - 1).toNat + worthL s (r ++ b) = _ + worthL s r + _; rw [ih, Int.add_assoc]
def leadI (fs gs : List Int) (s : Int) (k : Nat) : Int := worthL s (overL fs gs k)
theorem leadI_yes {fs gs : List Int} {s : Int} {k : Nat} (h : endsB fs gs (k + 1) = true) : leadI fs gs s (k + 1) = leadI fs gs s k + pwI s k := by
  unfold leadI; rw [overL_yes h, worthL_append]
  show _ + (pwI s (((k + 1 : Nat) : Int) - 1).toNat + 0) = _
  rw [Int.add_zero, show (((k + 1 : Nat) : Int) - 1).toNat = k by omega]
theorem leadI_no {fs gs : List Int} {s : Int} {k : Nat} (h : endsB fs gs (k + 1) = false) : leadI fs gs s (k + 1) = leadI fs gs s k := by
  unfold leadI; rw [overL_no h]
theorem pwI_pos1 (x : Int) (h : 1 ≤ x) (k : Nat) : 1 ≤ pwI x k := by
  induction k with
  | zero => exact Int.le_refl _
  | succ k ih =>
    have := Int.mul_le_mul ih h (by omega) (by omega)
    show 1 ≤ pwI x k * x
    omega
/-- all the powers below k together are less than the power k -/
theorem leadI_lt (fs gs : List Int) (s : Int) (hs : 2 ≤ s) (k : Nat) : 0 ≤ leadI fs gs s k ∧ leadI fs gs s k + 1 ≤ pwI s k := by
  induction k with
  | zero => exact ⟨Int.le_refl _, Int.le_refl _⟩
  | succ k ih =>
    have hp := pwI_pos1 s (by omega) k
    have h2 : pwI s k * 2 ≤ pwI s (k + 1) := Int.mul_le_mul_of_nonneg_left hs (by omega)
    cases h : endsB fs gs (k + 1)
    · rw [leadI_no h]; omega
    · rw [leadI_yes h]; omega
theorem pwI_mono1 (x y : Int) (h0 : 0 ≤ x) (h : x ≤ y) (k : Nat) : 0 ≤ pwI x k ∧ pwI x k ≤ pwI y k := by
  induction k with
  | zero => exact ⟨by show (0 : Int) ≤ 1; omega, Int.le_refl _⟩
  | succ k ih => exact ⟨Int.mul_nonneg ih.1 h0, Int.mul_le_mul ih.2 h h0 (Int.le_trans ih.1 ih.2)⟩
theorem pwI_six : ∀ k, k < 14 → pwI 6 k ≤ 13060694016 := by decide +kernel
theorem pwI_bd6 (s : Int) (h1 : 2 ≤ s) (h6 : s ≤ 6) (k : Nat) (hk : k < 14) : 1 ≤ pwI s k ∧ pwI s k ≤ 13060694016 :=
  ⟨pwI_pos1 s (by omega) k, Int.le_trans (pwI_mono1 s 6 (by omega) h6 k).2 (pwI_six k hk)⟩
theorem leadI_bd (fs gs : List Int) (s : Int) (h1 : 2 ≤ s) (h6 : s ≤ 6) (k : Nat) (hk : k < 14) : 0 ≤ leadI fs gs s k ∧ leadI fs gs s k ≤ 13060694016 := by
  have h := leadI_lt fs gs s h1 k
  have := pwI_bd6 s h1 h6 k hk
  omega
/-- a word among the first i of a list of lengths -/
theorem worthL_take (s : Int) (l : List Int) (i : Nat) (h : i < l.length) : worthL s (l.take (i + 1)) = worthL s (l.take i) + pwI s (l.getD i 0 - 1).toNat := by
  rw [List.take_succ_eq_append_getElem h, worthL_append, getD_lt l 0 i h]
  show _ + (pwI s (l[i] - 1).toNat + 0) = _
  rw [Int.add_zero]
theorem worthL_nonneg (s : Int) (hs : 1 ≤ s) (l : List Int) : 0 ≤ worthL s l := by
  induction l with
  | nil => exact Int.le_refl _
  | cons x r ih => have := pwI_pos1 s hs (x - 1).toNat; show 0 ≤ pwI s (x - 1).toNat + worthL s r; omega
theorem worthL_take_le (s : Int) (hs : 1 ≤ s) (l : List Int) (i : Nat) : 0 ≤ worthL s (l.take i) ∧ worthL s (l.take i) ≤ worthL s l := by
  have h1 := worthL_append s (l.take i) (l.drop i)
  rw [List.take_append_drop] at h1
  have h2 := worthL_nonneg s hs (l.take i)
  have h3 := worthL_nonneg s hs (l.drop i)
  omega
/-! ### words -/
def wordB (fs : List Int) (s : Int) : Bool := decide (1 ≤ fs.length) && decide (fs.length ≤ 12) && (decide (2 ≤ s) && decide (s ≤ 6)) && (List.range fs.length).all fun i => decide (0 ≤ fs.getD i 0) && decide (fs.getD i 0 ≤ s - 1)
theorem wordB_bd {fs : List Int} {s : Int} (h : wordB fs s = true) : (1 ≤ fs.length ∧ fs.length ≤ 12) ∧ 2 ≤ s ∧ s ≤ 6 := by
  unfold wordB at h
  simp only [Bool.and_eq_true, decide_eq_true_eq] at h
  exact ⟨h.1.1, h.1.2⟩
theorem wordB_at {fs : List Int} {s : Int} (h : wordB fs s = true) (i : Nat) (hi : i < fs.length) : 0 ≤ fs.getD i 0 ∧ fs.getD i 0 ≤ s - 1 := by
  unfold wordB at h
  rw [Bool.and_eq_true] at h
  have := List.all_eq_true.1 h.2 i (List.mem_range.2 hi)
  simpa using this
theorem wordB_not {fs : List Int} {s : Int} (h : wordB fs s = false) : (fs.length < 1 ∨ 12 < fs.length) ∨ (1 ≤ fs.length ∧ fs.length ≤ 12) ∧ ((s < 2 ∨ 6 < s) ∨ (2 ≤ s ∧ s ≤ 6) ∧ ∃ t, t < fs.length ∧ (∀ j, j < t → 0 ≤ fs.getD j 0 ∧ fs.getD j 0 ≤ s - 1) ∧ (fs.getD t 0 < 0 ∨ s - 1 < fs.getD t 0)) := by
  by_cases h1 : 1 ≤ fs.length ∧ fs.length ≤ 12
  · refine .inr ⟨h1, ?_⟩
    by_cases h2 : 2 ≤ s ∧ s ≤ 6
    · refine .inr ⟨h2, ?_⟩
      unfold wordB at h
      rw [decide_eq_true h1.1, decide_eq_true h1.2, decide_eq_true h2.1, decide_eq_true h2.2] at h
      simp only [Bool.and_self, Bool.true_and] at h
      obtain ⟨t, t1, t2, t3⟩ := firstNot _ _ h
      refine ⟨t, t1, fun j hj => by simpa using t2 j hj, ?_⟩
      by_cases g : 0 ≤ fs.getD t 0 ∧ fs.getD t 0 ≤ s - 1
      · rw [decide_eq_true g.1, decide_eq_true g.2] at t3; simp at t3
      · omega
    · exact .inl (by omega)
  · exact .inl (by omega)
/-- fs is a part of gs -/
def inB (fs gs : List Int) : Bool := (List.range (gs.length + 1 - fs.length)).any fun i => decide ((gs.drop i).take fs.length = fs)
theorem inB_no {fs gs : List Int} (h : inB fs gs = false) (i : Nat) (hi : i < gs.length + 1 - fs.length) : ¬ (gs.drop i).take fs.length = fs := by
  intro e
  have : inB fs gs = true := List.any_eq_true.2 ⟨i, List.mem_range.2 hi, decide_eq_true e⟩
  rw [h] at this; exact Bool.false_ne_true this
theorem inB_yes {fs gs : List Int} (h : inB fs gs = true) : ∃ t, t < gs.length + 1 - fs.length ∧ (∀ j, j < t → ¬ (gs.drop j).take fs.length = fs) ∧ (gs.drop t).take fs.length = fs := by
  have hf : ((List.range (gs.length + 1 - fs.length)).all fun i => !decide ((gs.drop i).take fs.length = fs)) = false := by
    rw [Bool.eq_false_iff]
    intro h'
    obtain ⟨i, hi, e⟩ := List.any_eq_true.1 h
    have := List.all_eq_true.1 h' i hi
    rw [e] at this; simp at this
  obtain ⟨t, t1, t2, t3⟩ := firstNot _ _ hf
  exact ⟨t, t1, fun j hj => by simpa using t2 j hj, by simpa using t3⟩
/-- two words of which neither is a part of the other: the one that ends less than the whole -/
theorem lead_less (fs gs : List Int) (s : Int) (hs : 2 ≤ s) (h1 : 1 ≤ fs.length) (h2 : 1 ≤ gs.length) (hi : inB fs gs = false) (hj : inB gs fs = false) :
    leadI fs gs s fs.length + 1 ≤ leadI fs fs s fs.length := by
  have hm : 1 ≤ min fs.length gs.length := by omega
  -- at the shorter one's length there is no overlap
  have hno : endsB fs gs (min fs.length gs.length) = false := by
    by_cases hle : fs.length ≤ gs.length
    · rw [Nat.min_eq_left hle, endsB_of (Nat.le_refl _) hle]
      have := inB_no hi 0 (by omega)
      rw [List.drop_zero] at this
      rw [Nat.sub_self, List.drop_zero]
      exact decide_eq_false fun e => this e.symm
    · rw [Nat.min_eq_right (by omega), endsB_of (by omega) (Nat.le_refl _)]
      have := inB_no hj (fs.length - gs.length) (by omega)
      rw [List.take_of_length_le (show (fs.drop (fs.length - gs.length)).length ≤ gs.length by simp; omega)] at this
      rw [List.take_length]
      exact decide_eq_false this
  obtain ⟨m, hm1⟩ : ∃ m, min fs.length gs.length = m + 1 := ⟨min fs.length gs.length - 1, by omega⟩
  have e1 : leadI fs gs s fs.length = leadI fs gs s m := by
    have hb := overL_beyond fs gs (m + 1) (fs.length - (m + 1)) (by omega)
    unfold leadI
    rw [show fs.length = m + 1 + (fs.length - (m + 1)) by omega, hb, overL_no (by rw [← hm1]; exact hno)]
  have hlt := leadI_lt fs gs s hs m
  obtain ⟨n, hn⟩ : ∃ n, fs.length = n + 1 := ⟨fs.length - 1, by omega⟩
  have hself : endsB fs fs (n + 1) = true := by
    rw [← hn, endsB_of (Nat.le_refl _) (Nat.le_refl _), Nat.sub_self, List.drop_zero, List.take_length]
    exact decide_eq_true rfl
  have e2 : leadI fs fs s fs.length = leadI fs fs s n + pwI s n := by rw [hn, leadI_yes hself]
  have h3 := (leadI_lt fs fs s hs n).1
  have hmn : m ≤ n := by omega
  have h4 : pwI s m ≤ pwI s n := by
    clear e1 hlt e2 h3 hself hn hno hm1
    induction n with
    | zero => obtain rfl : m = 0 := by omega
              exact Int.le_refl _
    | succ n ih =>
      by_cases e : m = n + 1
      · subst e; exact Int.le_refl _
      · have i1 := ih (by omega)
        have hp := pwI_pos1 s (by omega) n
        have : pwI s n * 1 ≤ pwI s (n + 1) := Int.mul_le_mul_of_nonneg_left (by omega) (by omega)
        omega
  omega
end Go.Proofs.Yticocfoheenmdaa
