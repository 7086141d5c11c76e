/- Ranks, counts of sets, of descents and of matches, as numbers. Nothing of a translation. -/
import Derived.Test.YtfihnnhgegdjkaaDq
set_option linter.unusedVariables false
namespace Go.Proofs.Ytfihnnhgegdjkaa

/-! ### ranks -/
def fct : Nat → Nat
  | 0 => 1
  | n + 1 => (n + 1) * fct n
theorem fct_pos (n : Nat) : 0 < fct n := by
  induction n with
  | zero => exact Nat.one_pos
  | succ n ih => exact Nat.mul_pos (Nat.succ_pos _) ih
theorem fct_mono {m n : Nat} (h : m ≤ n) : fct m ≤ fct n := by
  induction h with
  | refl => exact Nat.le_refl _
  | step _ ih => exact Nat.le_trans ih (Nat.le_mul_of_pos_left _ (Nat.succ_pos _))
theorem fct_20 (n : Nat) (h : n ≤ 20) : fct n ≤ 2432902008176640000 := Nat.le_trans (fct_mono h) (by decide +kernel)
/-- how many of the cards from k to below m are less than the card at i -/
def lessR (fs : List Int) (i k : Nat) : Nat → Nat
  | 0 => 0
  | j + 1 => lessR fs i k j + if fs.getD (k + j) 0 < fs.getD i 0 then 1 else 0
theorem lessR_le (fs : List Int) (i k j : Nat) : lessR fs i k j ≤ j := by
  induction j with
  | zero => exact Nat.le_refl _
  | succ j ih => simp only [lessR]; split <;> omega
theorem lessR_front (fs : List Int) (i k j : Nat) : lessR fs i k (j + 1) = (if fs.getD k 0 < fs.getD i 0 then 1 else 0) + lessR fs i (k + 1) j := by
  induction j with
  | zero => simp [lessR]
  | succ j ih =>
    rw [lessR, ih, lessR, show k + (j + 1) = k + 1 + j by omega]
    omega
theorem lessR_self (fs : List Int) (i j : Nat) : lessR fs i i (j + 1) = lessR fs i (i + 1) j := by
  rw [lessR_front, if_neg (by omega), Nat.zero_add]
theorem lessR_zero (fs : List Int) (i j : Nat) : lessR fs i i j ≤ j - 1 := by
  cases j with
  | zero => exact Nat.le_refl _
  | succ j => rw [lessR_self]; exact lessR_le _ _ _ _
/-- the rank, as the program adds it up -/
def rankR (fs : List Int) : Nat → Nat
  | 0 => 0
  | k + 1 => rankR fs k * (fs.length - k) + lessR fs k k (fs.length - k)
/-- the rank, as the model adds it up -/
def rankS (fs : List Int) : Nat → Nat
  | 0 => 0
  | k + 1 => rankS fs k + lessR fs k (k + 1) (fs.length - 1 - k) * fct (fs.length - 1 - k)
theorem rank_inv (fs : List Int) (k : Nat) (hk : k ≤ fs.length) : rankR fs k * fct (fs.length - k) = rankS fs k := by
  induction k with
  | zero => simp [rankR, rankS]
  | succ k ih =>
    have e : fs.length - k = (fs.length - 1 - k) + 1 := by omega
    have e2 : fs.length - (k + 1) = fs.length - 1 - k := by omega
    rw [rankR, rankS, ← ih (by omega), e2, e, fct, lessR_self, Nat.add_mul, Nat.mul_assoc]
theorem rank_lt (fs : List Int) (k : Nat) (hk : k ≤ fs.length) : (rankR fs k + 1) * fct (fs.length - k) ≤ fct fs.length := by
  induction k with
  | zero => simp [rankR]
  | succ k ih =>
    have h1 := ih (by omega)
    have e : fs.length - k = (fs.length - 1 - k) + 1 := by omega
    have e2 : fs.length - (k + 1) = fs.length - 1 - k := by omega
    have h2 := lessR_zero fs k (fs.length - k)
    rw [e2]
    rw [e, fct] at h1
    rw [rankR]
    rw [e] at h2 ⊢
    have h3 : rankR fs k * (fs.length - 1 - k + 1) + lessR fs k k (fs.length - 1 - k + 1) + 1 ≤ (rankR fs k + 1) * (fs.length - 1 - k + 1) := by
      rw [Nat.add_mul]; omega
    calc _ ≤ ((rankR fs k + 1) * (fs.length - 1 - k + 1)) * fct (fs.length - 1 - k) := Nat.mul_le_mul_right _ h3
      _ = (rankR fs k + 1) * ((fs.length - 1 - k + 1) * fct (fs.length - 1 - k)) := Nat.mul_assoc _ _ _
      _ ≤ _ := h1
theorem rank_bd (fs : List Int) (k : Nat) (hk : k ≤ fs.length) (hn : fs.length ≤ 20) : rankR fs k < 2432902008176640000 := by
  have h1 := rank_lt fs k hk
  have h2 := fct_20 fs.length hn
  have h3 : (rankR fs k + 1) * 1 ≤ (rankR fs k + 1) * fct (fs.length - k) := Nat.mul_le_mul_left _ (fct_pos _)
  omega
theorem rank_mul_bd (fs : List Int) (k : Nat) (hk : k < fs.length) (hn : fs.length ≤ 20) : rankR fs k * (fs.length - k) < 2432902008176640000 := by
  have h1 := rank_bd fs (k + 1) (by omega) hn
  rw [rankR] at h1
  omega
theorem rankS_bd (fs : List Int) (k : Nat) (hk : k ≤ fs.length) (hn : fs.length ≤ 20) : rankS fs k < 2432902008176640000 := by
  have h1 := rank_lt fs k hk
  have h2 := fct_20 fs.length hn
  have h3 := fct_pos (fs.length - k)
  rw [← rank_inv fs k hk]
  rw [Nat.add_mul] at h1
  omega
theorem rankS_mul_bd (fs : List Int) (k : Nat) (hk : k < fs.length) (hn : fs.length ≤ 20) : lessR fs k (k + 1) (fs.length - 1 - k) * fct (fs.length - 1 - k) < 2432902008176640000 := by
  have h1 := rankS_bd fs (k + 1) (by omega) hn
  rw [rankS] at h1
  omega
theorem rank_eq (fs : List Int) : rankR fs fs.length = rankS fs fs.length := by
  have := rank_inv fs fs.length (Nat.le_refl _)
  rw [Nat.sub_self, fct, Nat.mul_one] at this
  exact this
def ok_RankOf (fs : List Int) : Bool := deckB fs && decide (fs.length ≤ 20)
def res_RankOf (fs : List Int) : Int := if deckB fs = true ∧ fs.length ≤ 20 then (rankR fs fs.length : Int) else 0

/-! ### sets -/
/-- i steps of a count of sets of n things -/
def setsR (n : Nat) : Nat → Nat
  | 0 => 1
  | i + 1 => setsR n i * (n - i) / (i + 1)
/-- .. and as the model counts them: of k things -/
def setsS (n k : Nat) : Nat → Nat
  | 0 => 1
  | i + 1 => setsS n k i * (n - k + (i + 1)) / (i + 1)
def chooseS (n k : Nat) : Nat := if n < k then 0 else setsS n (min k (n - k)) (min k (n - k))
theorem sets_eq : ∀ n, n < 29 → ∀ k, k < 21 → setsR n k = chooseS n k := by decide +kernel
theorem setsR_bd : ∀ n, n < 29 → ∀ k, k < 21 → setsR n k * (n - k) < 1000000000 ∧ setsR n k < 1000000000 := by decide +kernel
theorem setsS_bd : ∀ n, n < 29 → ∀ k, k < 21 → k ≤ n → ∀ i, i < min k (n - k) → setsS n (min k (n - k)) i * (n - min k (n - k) + (i + 1)) < 1000000000 := by decide +kernel
end Go.Proofs.Ytfihnnhgegdjkaa
