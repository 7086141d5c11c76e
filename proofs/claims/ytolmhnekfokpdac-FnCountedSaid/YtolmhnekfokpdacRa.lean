/- Rings of bits: both ways to make them. Nothing of a translation. -/
import Derived.Test.YtolmhnekfokpdacDp
import Derived.Lib.Hide
set_option linter.unusedVariables false
namespace Go.Proofs.Ytolmhnekfokpdac

def brE (W : Nat) (s : Nat × List Bool) : Nat := 2 * s.1 % W
def brD (W : Nat) (s : Nat × List Bool) : Nat := if s.2.getD (brE W s) false then brE W s + 1 else brE W s
def brS (W : Nat) : Nat → Nat × List Bool
  | 0 => (W - 1, List.replicate W false)
  | k + 1 => (brD W (brS W k), (brS W k).2.set (brD W (brS W k)) true)
def brG (W k : Nat) : Int := ((brD W (brS W k) % 2 : Nat) : Int)
theorem brE_lt (V : Nat) (h : 1 ≤ V) (s : Nat × List Bool) : brE (2 * V) s + 1 < 2 * V := by
  unfold brE
  rw [Nat.mul_mod_mul_left]
  have := Nat.mod_lt s.1 (show 0 < V by omega)
  omega
theorem brD_lt (V : Nat) (h : 1 ≤ V) (s : Nat × List Bool) : brD (2 * V) s < 2 * V := by
  have := brE_lt V h s
  unfold brD; split <;> omega
theorem brS_ok (V : Nat) (h : 1 ≤ V) : ∀ k, (brS (2 * V) k).1 < 2 * V ∧ (brS (2 * V) k).2.length = 2 * V
  | 0 => by simp [brS]; omega
  | k + 1 => ⟨brD_lt V h _, by rw [brS, List.length_set]; exact (brS_ok V h k).2⟩

/-- the model's words -/
def incL (L : List Int) : List Int := L.set (L.length - 1) (L.getD (L.length - 1) 0 + 1)
def extL (m : Nat) (L : List Int) : Nat → List Int
  | 0 => L
  | k + 1 => extL m L k ++ [(extL m L k).getD ((extL m L k).length - m) 0]
def cutL (L : List Int) : Nat → List Int
  | 0 => L
  | k + 1 => (cutL L k).take ((cutL L k).length - 1)
/-- how many are cut off -/
def onesL (L : List Int) : Nat := (L.reverse.takeWhile fun x => x == 1).length
def bwE (n : Nat) (L : List Int) : List Int := extL (incL L).length (incL L) (n - (incL L).length)
def bw (n : Nat) : Nat → List Int
  | 0 => [-1]
  | k + 1 => cutL (bwE n (bw n k)) (onesL (bwE n (bw n k)))
def bo (n : Nat) : Nat → List Int
  | 0 => []
  | k + 1 => if n % (incL (bw n k)).length = 0 then bo n k ++ incL (bw n k) else bo n k
def bN : Nat → Nat
  | 1 => 2 | 2 => 3 | 3 => 5 | 4 => 8 | 5 => 14 | 6 => 23 | _ => 0
/-- what each round owes -/
def roundB (n k : Nat) : Bool :=
  decide (1 ≤ (bw n k).length) && decide ((bw n k).length ≤ n) && decide (-1 ≤ (bw n k).getD ((bw n k).length - 1) 0) && decide ((bw n k).getD ((bw n k).length - 1) 0 ≤ 1) && decide ((bo n k).length ≤ 64) &&
  ((List.range (onesL (bwE n (bw n k)) + 1)).all fun j => decide ((cutL (bwE n (bw n k)) j).length + j = n) && (decide (j = onesL (bwE n (bw n k))) || ((cutL (bwE n (bw n k)) j).getD (n - j - 1) 0 == 1 && decide (j < n)))) &&
  (decide (onesL (bwE n (bw n k)) = n) || !((cutL (bwE n (bw n k)) (onesL (bwE n (bw n k)))).getD (n - onesL (bwE n (bw n k)) - 1) 0 == 1)) && decide (onesL (bwE n (bw n k)) ≤ n)
theorem rounds_ok : ∀ n, n < 7 → 1 ≤ n → ∀ k, k < bN n → roundB n k = true := by decide +kernel
theorem ring_end : ∀ n, n < 7 → 1 ≤ n → bw n (bN n) = [] ∧ bo n (bN n) = tab (2 ^ n) (brG (2 ^ n)) := by decide +kernel
end Go.Proofs.Ytolmhnekfokpdac
