/- Contracts: chances of ruin, in both texts. -/
import Derived.Test.YtfihnnhgegdjkaaQd
set_option linter.unusedVariables false
namespace Go.Proofs.Ytfihnnhgegdjkaa
open Go.RowKit

def sumI (g : Nat → Int) : Nat → Int
  | 0 => 0
  | k + 1 => sumI g k + g k
theorem pwI_mono (x y : Int) (h0 : 0 ≤ x) (h : x ≤ y) (k : Nat) : 0 ≤ pwI x k ∧ pwI x k ≤ pwI y k := by
  induction k with
  | zero => exact ⟨by show (0 : Int) ≤ 1; omega, Int.le_refl _⟩
  | succ k ih => exact ⟨Int.mul_nonneg ih.1 h0, Int.mul_le_mul ih.2 h h0 (Int.le_trans ih.1 ih.2)⟩
theorem pwI_pos (x : Int) (h : 1 ≤ x) (k : Nat) : 1 ≤ pwI x k := by
  induction k with
  | zero => exact Int.le_refl _
  | succ k ih =>
    have := Int.mul_le_mul ih h (by omega) (by omega)
    show 1 ≤ pwI x k * x
    omega
theorem pwI_nine : ∀ k, k < 10 → pwI 9 k ≤ 387420489 := by decide +kernel
theorem pwI_bd9 (x : Int) (h : 1 ≤ x) (h9 : x ≤ 9) (k : Nat) (hk : k < 10) : 1 ≤ pwI x k ∧ pwI x k ≤ 387420489 :=
  ⟨pwI_pos x h k, Int.le_trans (pwI_mono x 9 (by omega) h9 k).2 (pwI_nine k hk)⟩
def ruG (c d : Int) (n i : Nat) : Int := pwI (d - c) i * pwI c (n - 1 - i)
theorem ruG_bd (c d : Int) (n i : Nat) (c1 : 1 ≤ c) (c2 : c ≤ d - 1) (d2 : d ≤ 10) (hn : n ≤ 10) (hi : i < n) : 1 ≤ ruG c d n i ∧ ruG c d n i ≤ 150094635296999121 := by
  have h1 := pwI_bd9 (d - c) (by omega) (by omega) i (by omega)
  have h2 := pwI_bd9 c (by omega) (by omega) (n - 1 - i) (by omega)
  unfold ruG
  have h3 := Int.mul_le_mul h1.2 h2.2 (by omega) (by omega)
  have h4 := Int.mul_le_mul h1.1 h2.1 (by omega) (by omega)
  omega
theorem sumI_bd (g : Nat → Int) (M : Int) (n : Nat) (h : ∀ i, i < n → 1 ≤ g i ∧ g i ≤ M) (k : Nat) (hk : k ≤ n) : (k : Int) ≤ sumI g k ∧ sumI g k ≤ k * M := by
  induction k with
  | zero => simp [sumI]
  | succ k ih =>
    have h1 := ih (by omega)
    have h2 := h k (by omega)
    have h3 : ((k + 1 : Nat) : Int) * M = k * M + M := by rw [show ((k + 1 : Nat) : Int) = (k : Int) + 1 from rfl, Int.add_mul, Int.one_mul]
    rw [h3]
    show _ ≤ sumI g k + g k ∧ sumI g k + g k ≤ _
    omega
theorem ruS_bd (c d : Int) (n : Nat) (c1 : 1 ≤ c) (c2 : c ≤ d - 1) (d2 : d ≤ 10) (hn : n ≤ 10) (k : Nat) (hk : k ≤ n) : (k : Int) ≤ sumI (ruG c d n) k ∧ sumI (ruG c d n) k ≤ 1500946352969991210 := by
  have h := sumI_bd (ruG c d n) 150094635296999121 n (fun i hi => ruG_bd c d n i c1 c2 d2 hn hi) k hk
  omega
def parts_P (a b : Int) : Prop := (2 ≤ b ∧ b ≤ 10) ∧ (1 ≤ a ∧ a ≤ b - 1)
instance (a b : Int) : Decidable (parts_P a b) := by unfold parts_P; infer_instance
def purseS_P (a b c d : Int) : Prop := (1 ≤ b ∧ b ≤ 10) ∧ (0 ≤ a ∧ a ≤ b) ∧ (2 ≤ d ∧ d ≤ 10) ∧ (1 ≤ c ∧ c ≤ d - 1)
instance (a b c d : Int) : Decidable (purseS_P a b c d) := by unfold purseS_P; infer_instance
def okRC (a b c d : Int) : Prop := ((1 ≤ b ∧ b ≤ 10) ∧ (0 ≤ a ∧ a ≤ b)) ∧ ((2 ≤ d ∧ d ≤ 10) ∧ (1 ≤ c ∧ c ≤ d - 1))
instance (a b c d : Int) : Decidable (okRC a b c d) := by unfold okRC; infer_instance
def ok_RuinChance (a b c d : Int) : Bool := decide (okRC a b c d)
def res_RuinChance (a b c d : Int) : Int := if okRC a b c d then (sumI (ruG c d b.toNat) a.toNat) / gcdI (sumI (ruG c d b.toNat) a.toNat) (sumI (ruG c d b.toNat) b.toNat) else 0
def res2_RuinChance (a b c d : Int) : Int := if okRC a b c d then (sumI (ruG c d b.toNat) b.toNat) / gcdI (sumI (ruG c d b.toNat) a.toNat) (sumI (ruG c d b.toNat) b.toNat) else 0
