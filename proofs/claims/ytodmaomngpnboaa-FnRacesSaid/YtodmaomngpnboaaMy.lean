/- Contracts: SumCounts, the model, whole; SameSums, in both texts. -/
import Derived.Test.YtodmaomngpnboaaMx
import Derived.Test.YtodmaomngpnboaaMf
set_option linter.unusedVariables false
namespace Go.Proofs.Ytodmaomngpnboaa
open Go.RowKit

theorem sumL_tab (n : Nat) (g : Nat → Int) : ∀ k, k ≤ n → sumL (tab n g) k = sumA g k
  | 0, _ => rfl
  | k + 1, hk => by rw [sumL, sumL_tab n g k (by omega), tab_get _ _ _ (by omega)]; rfl
def ok_SameSums (es ks : List (List Int)) : Bool := diceB es && diceB ks
def res_SameSums (es ks : List (List Int)) : Bool := (diceB es && diceB ks) && decide (res_SumCounts es = res_SumCounts ks)
theorem ret_two5 {a b a' b' : Bool} (h1 : b = b') (h2 : a = a') : Ending.returned (.tuple #[.bool a, .bool b]) = .returned (.tuple #[.bool a', .bool b']) := by rw [h1, h2]
