/- Contracts: means of dice, in both texts. -/
import Derived.Test.YtodmaomngpnboaaMy
import Derived.Test.YtodmaomngpnboaaMk
set_option linter.unusedVariables false
namespace Go.Proofs.Ytodmaomngpnboaa
open Go.RowKit Go.Maps

theorem dist2 (s f : Int) : (s + f) * (s + f) = s * s + (s * f + s * f) + f * f := by
  rw [Int.add_mul, Int.mul_add, Int.mul_add, Int.mul_comm f s]; omega
/-- the sum of the squares of the first k numbers -/
def sqL (fs : List Int) : Nat → Int
  | 0 => 0
  | k + 1 => sqL fs k + fs.getD k 0 * fs.getD k 0
theorem faceS1 (fs : List Int) (s : Nat) : ∀ k, (∀ i, i < k → 0 ≤ fs.getD i 0) → sumA (fun i => ((s + (fs.getD i 0).toNat : Nat) : Int)) k = (k : Int) * (s : Int) + sumL fs k
  | 0, _ => by show (0 : Int) = (0 : Int) * _ + 0; rw [Int.zero_mul]; rfl
  | k + 1, h => by
    have := h k (by omega)
    rw [sA_succ, faceS1 fs s k (fun i hi => h i (by omega)), sumL, show ((k + 1 : Nat) : Int) = (k : Int) + 1 from rfl, Int.add_mul, Int.one_mul]
    omega
theorem faceS2 (fs : List Int) (s : Nat) : ∀ k, (∀ i, i < k → 0 ≤ fs.getD i 0) → sumA (fun i => ((s + (fs.getD i 0).toNat : Nat) : Int) * ((s + (fs.getD i 0).toNat : Nat) : Int)) k = (k : Int) * ((s : Int) * (s : Int)) + (2 * sumL fs k * (s : Int) + sqL fs k)
  | 0, _ => by show (0 : Int) = (0 : Int) * _ + (2 * 0 * _ + 0); rw [Int.zero_mul, Int.mul_zero, Int.zero_mul]; rfl
  | k + 1, h => by
    have h0 := h k (by omega)
    rw [sA_succ, faceS2 fs s k (fun i hi => h i (by omega)), sumL, sqL, show ((k + 1 : Nat) : Int) = (k : Int) + 1 from rfl, Int.add_mul, Int.one_mul]
    rw [show ((s + (fs.getD k 0).toNat : Nat) : Int) = (s : Int) + fs.getD k 0 by omega, dist2, Int.mul_add 2, Int.add_mul _ _ (s : Int), Int.mul_assoc 2 (fs.getD k 0), Int.mul_comm (fs.getD k 0) (s : Int)]
    omega
def mean1 (ds : List (List Int)) (j : Nat) : Int := momF ds (fun k => (k : Int)) j
def mean2 (ds : List (List Int)) (j : Nat) : Int := momF ds (fun k => (k : Int) * (k : Int)) j
theorem mean1_zero (ds : List (List Int)) : mean1 ds 0 = 0 := rfl
theorem mean2_zero (ds : List (List Int)) : mean2 ds 0 = 0 := rfl
theorem mean1_step (ds : List (List Int)) (j : Nat) (h : dieB (ds.getD j []) = true) : mean1 ds (j + 1) = mean1 ds j * ((ds.getD j []).length : Int) + sumL (ds.getD j []) (ds.getD j []).length * allW ds j := by
  obtain ⟨-, -, ha, -⟩ := dieB_at h
  unfold mean1 allW
  rw [momF_step ds _ j h, momF_congr ds j (h := fun s => ((ds.getD j []).length : Int) * (s : Int) + sumL (ds.getD j []) (ds.getD j []).length * 1) (fun s => by rw [faceS1 _ _ _ (fun i hi => (ha i hi).1), Int.mul_one]), momF_add, momF_mul, momF_mul, Int.mul_comm (momF ds _ j)]
theorem mean2_step (ds : List (List Int)) (j : Nat) (h : dieB (ds.getD j []) = true) : mean2 ds (j + 1) = ((ds.getD j []).length : Int) * mean2 ds j + (2 * sumL (ds.getD j []) (ds.getD j []).length * mean1 ds j + sqL (ds.getD j []) (ds.getD j []).length * allW ds j) := by
  obtain ⟨-, -, ha, -⟩ := dieB_at h
  unfold mean2 mean1 allW
  rw [momF_step ds _ j h, momF_congr ds j (h := fun s => ((ds.getD j []).length : Int) * ((s : Int) * (s : Int)) + (2 * sumL (ds.getD j []) (ds.getD j []).length * (s : Int) + sqL (ds.getD j []) (ds.getD j []).length * 1)) (fun s => by rw [faceS2 _ _ _ (fun i hi => (ha i hi).1), Int.mul_one]), momF_add, momF_add, momF_mul, momF_mul, momF_mul]
theorem momF_le (ds : List (List Int)) (g : Nat → Int) (c : Int) (j : Nat) (h : ∀ k, k < topN ds j → 0 ≤ g k ∧ g k ≤ c) : 0 ≤ momF ds g j ∧ momF ds g j ≤ c * allW ds j := by
  unfold allW
  rw [← momF_mul]
  unfold momF
  generalize topN ds j = T at *
  induction T with
  | zero => exact ⟨Int.le_refl _, Int.le_refl _⟩
  | succ T ih =>
    have ih := ih (fun k hk => h k (by omega))
    have h0 := h T (by omega)
    have h1 := wayF_nonneg ds j T
    have m0 := Int.mul_nonneg h1 h0.1
    have m1 := Int.mul_le_mul_of_nonneg_left h0.2 h1
    rw [Int.mul_one] at ih ⊢
    show 0 ≤ sumA (fun k => wayF ds j (k : Int) * g k) T + wayF ds j (T : Int) * g T ∧ sumA (fun k => wayF ds j (k : Int) * g k) T + wayF ds j (T : Int) * g T ≤ sumA (fun k => wayF ds j (k : Int) * c) T + wayF ds j (T : Int) * c
    have ih2 : 0 ≤ sumA (fun k => wayF ds j (k : Int) * g k) T ∧ sumA (fun k => wayF ds j (k : Int) * g k) T ≤ sumA (fun k => wayF ds j (k : Int) * c) T := ih
    omega
theorem mean_bd (ds : List (List Int)) (h6 : ds.length ≤ 6) (hd : ∀ k, k < ds.length → dieB (ds.getD k []) = true) (j : Nat) (hj : j ≤ ds.length) : (0 ≤ mean1 ds j ∧ mean1 ds j ≤ 358318080) ∧ (0 ≤ mean2 ds j ∧ mean2 ds j ≤ 42998169600) ∧ 1 ≤ allW ds j ∧ allW ds j ≤ 2985984 := by
  have hT := topN_le ds hd j hj
  have hA := allW_bd ds hd j hj
  have h12 := pow12_6 j (by omega)
  have h1 := momF_le ds (fun k => (k : Int)) 120 j (fun k hk => by omega)
  have h2 := momF_le ds (fun k => (k : Int) * (k : Int)) 14400 j (fun k hk => by
    have a0 : (0 : Int) ≤ (k : Int) := by omega
    have a1 : (k : Int) ≤ 120 := by omega
    exact ⟨Int.mul_nonneg a0 a0, by have := Int.mul_le_mul a1 a1 a0 (by omega); omega⟩)
  unfold mean1 mean2
  omega
theorem sum_bd (fs : List Int) (h : dieB fs = true) : ∀ k, k ≤ fs.length → (0 ≤ sumL fs k ∧ sumL fs k ≤ (k : Int) * 20) ∧ 0 ≤ sqL fs k ∧ sqL fs k ≤ (k : Int) * 400
  | 0, _ => by show (0 ≤ (0 : Int) ∧ (0 : Int) ≤ (0 : Int) * 20) ∧ 0 ≤ (0 : Int) ∧ (0 : Int) ≤ (0 : Int) * 400; omega
  | k + 1, hk => by
    have ih := sum_bd fs h k (by omega)
    obtain ⟨-, -, ha, -⟩ := dieB_at h
    have h0 := ha k (by omega)
    have m0 := Int.mul_nonneg h0.1 h0.1
    have m1 := Int.mul_le_mul h0.2 h0.2 h0.1 (by omega)
    rw [sumL, sqL]
    omega


def ok_MeanOf (ds : List (List Int)) : Bool := diceB ds
def res_MeanOf (ds : List (List Int)) : Int := if diceB ds = true then mean1 ds ds.length / gcdI (mean1 ds ds.length) (allW ds ds.length) else 0
def res2_MeanOf (ds : List (List Int)) : Int := if diceB ds = true then allW ds ds.length / gcdI (mean1 ds ds.length) (allW ds ds.length) else 0
theorem allW_sum (ds : List (List Int)) (j : Nat) : allW ds j = sumA (fun s => wayF ds j (s : Int)) (topN ds j) := sA_congr _ fun k _ => Int.mul_one _
