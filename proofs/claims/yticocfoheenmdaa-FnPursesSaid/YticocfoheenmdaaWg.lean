/- Rows of symbols in which a word has not come: pure. Nothing of a translation. -/
import Derived.Test.YticocfoheenmdaaWa
import Derived.Test.YticocfoheenmdaaVh
set_option linter.unusedVariables false
namespace Go.Proofs.Yticocfoheenmdaa
open Go.RowKit Go.Maps

theorem sA_succ (g : Nat → Int) (N : Nat) : sumA g (N + 1) = sumA g N + g N := rfl
theorem sumA_add (g h : Nat → Int) : ∀ N, sumA (fun s => g s + h s) N = sumA g N + sumA h N
  | 0 => rfl
  | N + 1 => by
    show sumA (fun s => g s + h s) N + (g N + h N) = (sumA g N + g N) + (sumA h N + h N)
    rw [sumA_add g h N]; omega
theorem sumA_congr {g h : Nat → Int} : ∀ N, (∀ s, s < N → g s = h s) → sumA g N = sumA h N
  | 0, _ => rfl
  | N + 1, e => by
    show sumA g N + g N = sumA h N + h N
    rw [sumA_congr N (fun s hs => e s (by omega)), e N (by omega)]
theorem sumA_one (x : Int) (G : Int → Int) : ∀ N : Nat, sumA (fun s => if (s : Int) = x then G (s : Int) else 0) N = if 0 ≤ x ∧ x < (N : Int) then G x else 0
  | 0 => by rw [if_neg (by omega)]; rfl
  | N + 1 => by
    show sumA (fun s => if (s : Int) = x then G (s : Int) else 0) N + (if (N : Int) = x then G (N : Int) else 0) = _
    rw [sumA_one x G N]
    by_cases e : (N : Int) = x
    · subst e
      rw [if_neg (show ¬ (0 ≤ (N : Int) ∧ (N : Int) < (N : Int)) by omega), if_pos rfl, if_pos (show 0 ≤ (N : Int) ∧ (N : Int) < ((N + 1 : Nat) : Int) by omega), Int.zero_add]
    · rw [if_neg e, Int.add_zero]
      by_cases e2 : 0 ≤ x ∧ x < (N : Int)
      · rw [if_pos e2, if_pos (by omega)]
      · rw [if_neg e2, if_neg (by omega)]
theorem sA_nonneg {g : Nat → Int} : ∀ N, (∀ s, s < N → 0 ≤ g s) → 0 ≤ sumA g N
  | 0, _ => Int.le_refl _
  | N + 1, h => by rw [sA_succ]; have := sA_nonneg N (fun s hs => h s (by omega)); have := h N (by omega); omega
theorem sA_le {g h : Nat → Int} : ∀ N, (∀ s, s < N → g s ≤ h s) → sumA g N ≤ sumA h N
  | 0, _ => Int.le_refl _
  | N + 1, e => by rw [sA_succ, sA_succ]; have := sA_le N (fun s hs => e s (by omega)); have := e N (by omega); omega
theorem sA_mul (c : Int) (g : Nat → Int) : ∀ N, sumA (fun s => g s * c) N = sumA g N * c
  | 0 => (Int.zero_mul c).symm
  | N + 1 => by rw [sA_succ, sA_succ, sA_mul c g N, Int.add_mul]
theorem sA_zero : ∀ N, sumA (fun _ => 0) N = 0
  | 0 => rfl
  | N + 1 => by rw [sA_succ, sA_zero N]; rfl
theorem sA_const (c : Int) : ∀ N : Nat, sumA (fun _ => c) N = N * c
  | 0 => (Int.zero_mul c).symm
  | N + 1 => by rw [sA_succ, sA_const c N, show ((N + 1 : Nat) : Int) = (N : Int) + 1 from rfl, Int.add_mul, Int.one_mul]
theorem sA_part {g : Nat → Int} (N : Nat) (h : ∀ s, s < N → 0 ≤ g s) (k : Nat) (hk : k ≤ N) : sumA g k ≤ sumA g N := by
  induction N with
  | zero => obtain rfl : k = 0 := by omega
            exact Int.le_refl _
  | succ N ih =>
    by_cases e : k = N + 1
    · subst e; exact Int.le_refl _
    · have := ih (fun s hs => h s (by omega)) (by omega)
      have := h N (by omega)
      rw [sA_succ]; omega
theorem sA_swap (f : Nat → Int) (g : Nat → Nat → Int) (n : Nat) : ∀ m, sumA (fun t => sumA (fun k => f k * g k t) n) m = sumA (fun k => f k * sumA (g k) m) n
  | 0 => (((sumA_congr n (fun k _ => Int.mul_zero (f k)) : sumA (fun k => f k * 0) n = sumA (fun _ => 0) n)).trans (sA_zero n)).symm
  | m + 1 => by
    rw [sA_succ, sA_swap f g n m, ← sumA_add]
    exact sumA_congr n fun k _ => by rw [sA_succ, Int.mul_add]

/-- the greatest length up to k with which gs begins as fs ends -/
def lastE (fs gs : List Int) : Nat → Nat
  | 0 => 0
  | k + 1 => if endsB fs gs (k + 1) = true then k + 1 else lastE fs gs k
theorem lastE_le (fs gs : List Int) (k : Nat) : lastE fs gs k ≤ k := by
  induction k with
  | zero => exact Nat.le_refl _
  | succ k ih => unfold lastE; split <;> omega
theorem lastE_yes {fs gs : List Int} {k : Nat} (h : endsB fs gs (k + 1) = true) : lastE fs gs (k + 1) = k + 1 := by rw [lastE, if_pos h]
theorem lastE_no {fs gs : List Int} {k : Nat} (h : endsB fs gs (k + 1) = false) : lastE fs gs (k + 1) = lastE fs gs k := by rw [lastE, if_neg (by rw [h]; exact Bool.false_ne_true)]
/-- the last of the first i numbers of a list -/
def lastI (l : List Int) (i : Nat) : Int := if i = 0 then 0 else l.getD (i - 1) 0
theorem lastI_zero (l : List Int) : lastI l 0 = 0 := rfl
theorem lastI_succ (l : List Int) (i : Nat) : lastI l (i + 1) = l.getD i 0 := rfl
theorem lastI_all (fs gs : List Int) (k : Nat) : lastI (overL fs gs k) (overL fs gs k).length = (lastE fs gs k : Int) := by
  induction k with
  | zero => rfl
  | succ k ih =>
    cases h : endsB fs gs (k + 1)
    · rw [overL_no h, lastE_no h, ih]
    · rw [overL_yes h, lastE_yes h, List.length_append]
      show lastI _ ((overL fs gs k).length + 1) = _
      rw [lastI_succ]
      simp [List.getD]
/-- with how many of a word a row ends that ended with k of it, behind one symbol more -/
def stepE (W : List Int) (k : Nat) (x : Int) : Nat := lastE (W.take k ++ [x]) W (k + 1)
theorem stepE_le (W : List Int) (k : Nat) (x : Int) : stepE W k x ≤ k + 1 := lastE_le _ _ _
def mvI (W : List Int) (k s : Nat) (t : Int) : Int := sumA (fun x => if ((stepE W k (x : Int) : Nat) : Int) = t then 1 else 0) s
theorem mvI_succ (W : List Int) (k s : Nat) (t : Int) : mvI W k (s + 1) t = mvI W k s t + (if ((stepE W k (s : Int) : Nat) : Int) = t then 1 else 0) := rfl
theorem mvI_bd (W : List Int) (k s : Nat) (t : Int) : 0 ≤ mvI W k s t ∧ mvI W k s t ≤ s := by
  induction s with
  | zero => exact ⟨Int.le_refl _, Int.le_refl _⟩
  | succ s ih => rw [mvI_succ]; split <;> omega
theorem mvI_all (W : List Int) (k s n : Nat) (hk : k < n) : sumA (fun t => mvI W k s (t : Int)) (n + 1) = s := by
  induction s with
  | zero => exact sA_zero _
  | succ s ih =>
    rw [sumA_congr (n + 1) (h := fun t => mvI W k s (t : Int) + (if (t : Int) = ((stepE W k (s : Int) : Nat) : Int) then (fun _ => 1) (t : Int) else 0)) (fun t _ => by
      rw [mvI_succ]; congr 1
      by_cases e : ((stepE W k (s : Int) : Nat) : Int) = (t : Int)
      · rw [if_pos e, if_pos e.symm]
      · rw [if_neg e, if_neg (fun h => e h.symm)]), sumA_add, ih, sumA_one _ (fun _ => 1)]
    have := stepE_le W k (s : Int)
    rw [if_pos (by omega)]; rfl
/-- how many rows of i symbols that have not had the word end with t of it -/
def rwI (W : List Int) (s n : Nat) : Nat → Int → Int
  | 0, t => if t = 0 then 1 else 0
  | i + 1, t => cutA n (fun t => sumA (fun k => rwI W s n i (k : Int) * mvI W k s t) n) t
theorem rw_succ (W : List Int) (s n i : Nat) : rwI W s n (i + 1) = cutA n (fun t => sumA (fun k => rwI W s n i (k : Int) * mvI W k s t) n) := rfl
theorem cutA_bd (n : Nat) (f : Int → Int) (k : Int) (h : 0 ≤ f k) : 0 ≤ cutA n f k ∧ cutA n f k ≤ f k := by unfold cutA; split <;> omega
theorem rw_nonneg (W : List Int) (s n : Nat) : ∀ i t, 0 ≤ rwI W s n i t
  | 0, t => by unfold rwI; split <;> omega
  | i + 1, t => by
    rw [rw_succ]
    exact (cutA_bd n _ t (sA_nonneg n fun k _ => Int.mul_nonneg (rw_nonneg W s n i _) (mvI_bd W k s t).1)).1
theorem rw_next (W : List Int) (s n i : Nat) (t : Int) : 0 ≤ sumA (fun k => rwI W s n i (k : Int) * mvI W k s t) n ∧ sumA (fun k => rwI W s n i (k : Int) * mvI W k s t) n ≤ sumA (fun k => rwI W s n i (k : Int)) n * s := by
  refine ⟨sA_nonneg n fun k _ => Int.mul_nonneg (rw_nonneg W s n i _) (mvI_bd W k s t).1, ?_⟩
  rw [← sA_mul]
  exact sA_le n fun k _ => Int.mul_le_mul_of_nonneg_left (mvI_bd W k s t).2 (rw_nonneg W s n i _)
theorem rw_total (W : List Int) (s n : Nat) : ∀ i, sumA (fun k => rwI W s n i (k : Int)) n ≤ pwI s i
  | 0 => by
    have e : sumA (fun k => rwI W s n 0 (k : Int)) n = if 0 ≤ (0 : Int) ∧ (0 : Int) < (n : Int) then 1 else 0 := sumA_one 0 (fun _ => 1) n
    rw [e]
    show _ ≤ (1 : Int)
    split <;> omega
  | i + 1 => by
    have h1 : sumA (fun t => rwI W s n (i + 1) (t : Int)) n ≤ sumA (fun t => sumA (fun k => rwI W s n i (k : Int) * mvI W k s (t : Int)) n) n :=
      sA_le n fun t _ => by rw [rw_succ]; exact (cutA_bd n _ _ (rw_next W s n i (t : Int)).1).2
    have h2 := sA_part (g := fun t => sumA (fun k => rwI W s n i (k : Int) * mvI W k s (t : Int)) n) (n + 1) (fun t _ => (rw_next W s n i (t : Int)).1) n (by omega)
    rw [sA_swap _ _ n (n + 1), sumA_congr n (g := fun k => rwI W s n i (k : Int) * sumA (fun t => mvI W k s (t : Int)) (n + 1)) (h := fun k => rwI W s n i (k : Int) * s) (fun k hk => by rw [mvI_all W k s n hk]), sA_mul] at h2
    have h3 := Int.mul_le_mul_of_nonneg_right (rw_total W s n i) (show (0 : Int) ≤ s by omega)
    show _ ≤ pwI s i * s
    exact Int.le_trans h1 (Int.le_trans h2 h3)
/-- the next row behind k states and x symbols of the next state -/
def nxW (W : List Int) (s n i k x : Nat) (t : Int) : Int := sumA (fun j => rwI W s n i (j : Int) * mvI W j s t) k + rwI W s n i (k : Int) * mvI W k x t
theorem nxW_zero (W : List Int) (s n i : Nat) (t : Int) : nxW W s n i 0 0 t = 0 := by
  show (0 : Int) + rwI W s n i 0 * 0 = 0
  rw [Int.mul_zero]; rfl
theorem nxW_done (W : List Int) (s n i k : Nat) (t : Int) : nxW W s n i k s t = nxW W s n i (k + 1) 0 t := by
  unfold nxW
  rw [sA_succ, show mvI W (k + 1) 0 t = 0 from rfl, Int.mul_zero, Int.add_zero]
theorem nxW_all (W : List Int) (s n i : Nat) (t : Nat) (ht : t < n) : nxW W s n i n 0 (t : Int) = rwI W s n (i + 1) (t : Int) := by
  rw [rw_succ, cutA, if_neg (by omega)]
  show sumA _ n + _ * 0 = _
  rw [Int.mul_zero, Int.add_zero]
theorem nxW_step (W : List Int) (s n i k x : Nat) (t : Int) : nxW W s n i k (x + 1) t = nxW W s n i k x t + (if ((stepE W k (x : Int) : Nat) : Int) = t then rwI W s n i (k : Int) else 0) := by
  unfold nxW
  rw [mvI_succ, Int.mul_add, ← Int.add_assoc]
  congr 1
  split
  · rw [Int.mul_one]
  · rw [Int.mul_zero]
theorem mvI_mono (W : List Int) (k x s : Nat) (t : Int) (h : x ≤ s) : mvI W k x t ≤ mvI W k s t := sA_part s (fun _ _ => by split <;> omega) x h
theorem nxW_bd (W : List Int) (s n i k x : Nat) (t : Int) (hk : k < n) (hx : x ≤ s) (B : Int) (hB : pwI s (i + 1) ≤ B) : 0 ≤ nxW W s n i k x t ∧ nxW W s n i k x t ≤ B := by
  have h0 := rw_nonneg W s n i
  refine ⟨Int.add_nonneg (sA_nonneg k fun j _ => Int.mul_nonneg (h0 _) (mvI_bd W j s t).1) (Int.mul_nonneg (h0 _) (mvI_bd W k x t).1), ?_⟩
  have h1 : nxW W s n i k x t ≤ sumA (fun j => rwI W s n i (j : Int) * mvI W j s t) (k + 1) := by
    rw [sA_succ]
    have := Int.mul_le_mul_of_nonneg_left (mvI_mono W k x s t hx) (h0 (k : Int))
    unfold nxW; omega
  have h2 := sA_part (g := fun j => rwI W s n i (j : Int) * mvI W j s t) n (fun j _ => Int.mul_nonneg (h0 _) (mvI_bd W j s t).1) (k + 1) (by omega)
  have h3 := (rw_next W s n i t).2
  have h4 := Int.mul_le_mul_of_nonneg_right (rw_total W s n i) (show (0 : Int) ≤ s by omega)
  have h5 : pwI s i * s ≤ B := hB
  omega
theorem rw_each (W : List Int) (s n i k : Nat) (hk : k < n) (B : Int) (hB : pwI s i ≤ B) : 0 ≤ rwI W s n i (k : Int) ∧ rwI W s n i (k : Int) ≤ B := by
  have h0 := rw_nonneg W s n i
  refine ⟨h0 _, ?_⟩
  have h1 := sA_part (g := fun j => rwI W s n i (j : Int)) n (fun j _ => h0 _) (k + 1) (by omega)
  rw [sA_succ] at h1
  have h2 := sA_nonneg (g := fun j => rwI W s n i (j : Int)) k (fun j _ => h0 _)
  have h3 := rw_total W s n i
  omega
end Go.Proofs.Yticocfoheenmdaa
