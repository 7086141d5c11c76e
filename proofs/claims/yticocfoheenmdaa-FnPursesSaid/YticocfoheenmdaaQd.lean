/- Contracts: urns, runs of bits, in both texts. -/
import Derived.Test.YticocfoheenmdaaQc
set_option linter.unusedVariables false
namespace Go.Proofs.Yticocfoheenmdaa
open Go.RowKit

def okUC (a b c d : Int) : Prop := ((0 ≤ a ∧ a ≤ 40) ∧ (0 ≤ b ∧ b ≤ 40) ∧ (1 ≤ a + b ∧ a + b ≤ 40)) ∧ ((0 ≤ c ∧ c ≤ a + b) ∧ (0 ≤ d ∧ d ≤ c))
instance (a b c d : Int) : Decidable (okUC a b c d) := by unfold okUC; infer_instance
def ok_UrnChance (a b c d : Int) : Bool := decide (okUC a b c d)
def res_UrnChance (a b c d : Int) : Int := if okUC a b c d then (((setsR a.toNat d.toNat * setsR b.toNat (c - d).toNat : Nat) : Int)) / gcdI (((setsR a.toNat d.toNat * setsR b.toNat (c - d).toNat : Nat) : Int)) (((setsR (a + b).toNat c.toNat : Nat) : Int)) else 0
def res2_UrnChance (a b c d : Int) : Int := if okUC a b c d then (((setsR (a + b).toNat c.toNat : Nat) : Int)) / gcdI (((setsR a.toNat d.toNat * setsR b.toNat (c - d).toNat : Nat) : Int)) (((setsR (a + b).toNat c.toNat : Nat) : Int)) else 0
def partN (b r : Nat) : Nat := if b = 0 ∨ r = 0 then (if b = r then 1 else 0) else setsR (b - 1) (r - 1)
theorem partN_two (b r : Nat) (hb : b < 61) (hr : r < 61) : partN b r ≤ 2 ^ b := by
  unfold partN
  split
  · split
    · exact Nat.one_le_two_pow
    · exact Nat.zero_le _
  · exact Nat.le_trans (setsQ_two _ _ (by omega) (by omega)) (Nat.pow_le_pow_right (by omega) (by omega))
theorem partN_prod (a b r s : Nat) (h : a + b < 61) (hr : r < 61) (hs : s < 61) : partN a r * partN b s ≤ 1152921504606846976 := by
  refine Nat.le_trans (Nat.mul_le_mul (partN_two a r (by omega) hr) (partN_two b s (by omega) hs)) ?_
  rw [← Nat.pow_add]
  exact two_pow_60 _ (by omega)
def runR (a b r : Int) : Int := if 1 ≤ r ∧ r ≤ a + b then ((partN a.toNat (r - r / 2).toNat : Nat) : Int) * ((partN b.toNat (r / 2).toNat : Nat) : Int) + ((partN b.toNat (r - r / 2).toNat : Nat) : Int) * ((partN a.toNat (r / 2).toNat : Nat) : Int) else 0
def okRW (a b c : Int) : Prop := ((0 ≤ a ∧ a ≤ 60) ∧ (0 ≤ b ∧ b ≤ 60) ∧ 0 < a + b) ∧ a + b ≤ 60
instance (a b c : Int) : Decidable (okRW a b c) := by unfold okRW; infer_instance
def ok_RunWays (a b c : Int) : Bool := decide (okRW a b c)
def res_RunWays (a b c : Int) : Int := if okRW a b c then runR a b c else 0
theorem runR_none (A B r : Nat) (hz : A = 0 ∨ B = 0) (h0 : 0 < A + B) (r1 : 1 ≤ r) (r2 : r ≤ A + B) : runR A B r = if r = 1 then 1 else 0 := by
  unfold runR
  have e2 : (r : Int) / 2 = ((r / 2 : Nat) : Int) := by omega
  have e3 : (r : Int) - ((r / 2 : Nat) : Int) = ((r - r / 2 : Nat) : Int) := by omega
  rw [if_pos (by omega), e2, e3, Int.toNat_natCast, Int.toNat_natCast, Int.toNat_natCast, Int.toNat_natCast]
  by_cases hr : r = 1
  · subst hr
    rw [if_pos rfl]
    rcases hz with rfl | rfl
    · simp [partN, setsR]
      simp [show ¬ B = 0 by omega]
    · simp [partN, setsR]
      simp [show ¬ A = 0 by omega]
  · rw [if_neg hr]
    have h1 : ∀ k, 1 ≤ k → partN 0 k = 0 := fun k hk => by unfold partN; rw [if_pos (.inl rfl), if_neg (by omega)]
    rcases hz with rfl | rfl
    · rw [h1 _ (by omega), h1 (r / 2) (by omega)]; simp
    · rw [h1 (r - r / 2) (by omega), h1 (r / 2) (by omega)]; simp
