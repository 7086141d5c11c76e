/- Contracts: bounds, fractions without a common factor, products by a function, powers, in both texts. -/
import Derived.Test.YtfipcpbibmhjoabDk
import Derived.Test.YtfipcpbibmhjoabDb
import Derived.Lib.MinMax
set_option linter.unusedVariables false
namespace Go.Proofs.Ytfipcpbibmhjoab
open Go.RowKit

theorem within_yes (n lo hi : Int) (w : World) (h1 : lo ≤ n) (h2 : n ≤ hi) : Calls Try.prog 58 #[.int .i64 n, .int .i64 lo, .int .i64 hi] w fun e w' => e = .returned (.bool true) ∧ w = w' := by
  go_enter Try.func58, Try.ntmps58
  go_wp2
  go_ret
  exact ⟨rfl, rfl⟩
theorem within_no (n lo hi : Int) (w : World) (h : n < lo ∨ hi < n) : Calls Try.prog 58 #[.int .i64 n, .int .i64 lo, .int .i64 hi] w fun e w' => e = .returned (.bool false) ∧ w = w' := by
  by_cases h1 : n < lo
  · clear h
    have d : decide (lo ≤ n) = false := decide_eq_false (by omega)
    go_enter Try.func58, Try.ntmps58
    go_wp2
    go_ret
    exact ⟨rfl, rfl⟩
  · have h2 : hi < n := by omega
    have h1' : lo ≤ n := by omega
    clear h
    have d : decide (n ≤ hi) = false := decide_eq_false (by omega)
    go_enter Try.func58, Try.ntmps58
    go_wp2
    go_ret
    exact ⟨rfl, rfl⟩

theorem gcd_step (a b : Nat) : Nat.gcd b (a % b) = Nat.gcd a b := by rw [Nat.gcd_comm b, ← Nat.gcd_rec, Nat.gcd_comm]

def gcdI (f g : Int) : Int := ((Nat.gcd f.toNat g.toNat : Nat) : Int)
theorem gcdI_bd (f g : Int) (g0 : 1 ≤ g) : 1 ≤ gcdI f g ∧ gcdI f g ≤ g := by
  unfold gcdI
  have h1 := Nat.gcd_pos_of_pos_right f.toNat (show 0 < g.toNat by omega)
  have h2 := Nat.le_of_dvd (show 0 < g.toNat by omega) (Nat.gcd_dvd_right f.toNat g.toNat)
  omega

def prodR (g : Nat → Int) : Nat → Int
  | 0 => 1
  | k + 1 => prodR g k * g k

def pwI (b : Int) : Nat → Int
  | 0 => 1
  | k + 1 => pwI b k * b
theorem pwI_prod (b : Int) (k : Nat) : prodR (fun _ => b) k = pwI b k := by
  induction k with
  | zero => rfl
  | succ k ih => rw [prodR, pwI, ih]
