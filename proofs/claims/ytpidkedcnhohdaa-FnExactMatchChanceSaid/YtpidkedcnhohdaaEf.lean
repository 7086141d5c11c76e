/- Contracts: ways of riffles, in both texts. -/
import Derived.Test.YtpidkedcnhohdaaEe
set_option linter.unusedVariables false
namespace Go.Proofs.Ytpidkedcnhohdaa
open Go.RowKit


theorem pow_bd (t : Nat) (h1 : 1 ≤ t) (h4 : t ≤ 4) : 2 ≤ 2 ^ t ∧ 2 ^ t ≤ 16 := by
  obtain rfl | rfl | rfl | rfl : t = 1 ∨ t = 2 ∨ t = 3 ∨ t = 4 := by omega
  all_goals decide

abbrev okW (a b c : Int) : Prop := (1 ≤ a ∧ a ≤ 12) ∧ (1 ≤ b ∧ b ≤ a) ∧ (1 ≤ c ∧ c ≤ 4)
def ok_RiffleWays (a b c : Int) : Bool := decide (okW a b c)
def res_RiffleWays (a b c : Int) : Int := if okW a b c then ((setsR (2 ^ c.toNat + a.toNat - b.toNat) a.toNat : Nat) : Int) else 0
theorem rways_yes (a b c : Int) (h : okW a b c) : ok_RiffleWays a b c = true ∧ res_RiffleWays a b c = ((setsR (2 ^ c.toNat + a.toNat - b.toNat) a.toNat : Nat) : Int) := ⟨decide_eq_true h, if_pos h⟩
theorem rways_no (a b c : Int) (h : ¬ okW a b c) : ok_RiffleWays a b c = false ∧ res_RiffleWays a b c = 0 := ⟨decide_eq_false h, if_neg h⟩
