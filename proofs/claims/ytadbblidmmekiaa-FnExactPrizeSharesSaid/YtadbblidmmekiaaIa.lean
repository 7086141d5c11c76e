/- Contracts: stakes and fractions, in both texts. -/
import Derived.Test.YtadbblidmmekiaaDc
import Derived.Lib.MinMax
set_option linter.unusedVariables false
namespace Go.Proofs.Ytadbblidmmekiaa
open Go.RowKit

theorem gcd_step (a b : Nat) : Nat.gcd b (a % b) = Nat.gcd a b := by rw [Nat.gcd_comm b, ← Nat.gcd_rec, Nat.gcd_comm]
theorem ret2b {v : Value} {a b : Bool} (h : a = b) : Ending.returned (.tuple #[v, .bool a]) = .returned (.tuple #[v, .bool b]) := by rw [h]
theorem ret2i {v : Value} {a b : Int} (h : a = b) : Ending.returned (.tuple #[.int .i64 a, v]) = .returned (.tuple #[.int .i64 b, v]) := by rw [h]
theorem stake_yes (n : Int) (w : World) (h1 : 0 ≤ n) (h2 : n ≤ 1000000) : Calls Try.prog 88 #[.int .i64 n] w fun e w' => e = .returned (.bool true) ∧ w = w' := by
  go_enter Try.func88, Try.ntmps88
  go_wp2
  go_ret
  exact ⟨rfl, rfl⟩
theorem stake_no (n : Int) (w : World) (h : n < 0 ∨ 1000000 < n) : Calls Try.prog 88 #[.int .i64 n] w fun e w' => e = .returned (.bool false) ∧ w = w' := by
  by_cases h1 : n < 0
  · clear h
    have d : decide (0 ≤ n) = false := decide_eq_false (by omega)
    go_enter Try.func88, Try.ntmps88
    go_wp2
    go_ret
    exact ⟨rfl, rfl⟩
  · have h2 : 1000000 < n := by omega
    have h1' : 0 ≤ n := by omega
    clear h
    have d : decide (n ≤ 1000000) = false := decide_eq_false (by omega)
    go_enter Try.func88, Try.ntmps88
    go_wp2
    go_ret
    exact ⟨rfl, rfl⟩

def gcdI (f g : Int) : Int := ((Nat.gcd f.toNat g.toNat : Nat) : Int)
theorem gcdI_bd (f g : Int) (f0 : 1 ≤ f) (f1 : f ≤ 1000000000000000) (g0 : 1 ≤ g) : 1 ≤ gcdI f g ∧ gcdI f g ≤ 1000000000000000 := by
  unfold gcdI
  have h1 := Nat.gcd_pos_of_pos_left g.toNat (show 0 < f.toNat by omega)
  have h2 := Nat.le_of_dvd (show 0 < f.toNat by omega) (Nat.gcd_dvd_left f.toNat g.toNat)
  omega

abbrev okP (a b : Int) : Prop := (0 ≤ a ∧ a ≤ 1000000) ∧ 1 ≤ b ∧ b ≤ 1000000
def ok_CallShare (a b : Int) : Bool := decide (okP a b)
def res_CallShare (a b : Int) : Int := if okP a b then b / gcdI b (a + b) else 0
def res2_CallShare (a b : Int) : Int := if okP a b then (a + b) / gcdI b (a + b) else 0
def ok_BluffShare (a b : Int) : Bool := decide (okP a b)
def res_BluffShare (a b : Int) : Int := if okP a b then b / gcdI b (a + 2 * b) else 0
def res2_BluffShare (a b : Int) : Int := if okP a b then (a + 2 * b) / gcdI b (a + 2 * b) else 0
