/- Heaps: the moves and the heaps that the law chooses, pure. -/
import Derived.Test.YtodmaomngpnboaaHpC
import Derived.Test.YtodmaomngpnboaaHpD
import Derived.Test.YtodmaomngpnboaaHpE
set_option linter.unusedVariables false
namespace Go.Proofs.Ytodmaomngpnboaa
open Go.RowKit

/-- the i-th move is mvA (i + 1) -/
def mvA (fs : List Int) : Nat → Nat
  | 0 => 0
  | i + 1 => mvA fs i + (1 + r8V fs i 3)
theorem mvA_bd (fs : List Int) : ∀ i, i ≤ mvA fs i ∧ mvA fs i ≤ 3 * i
  | 0 => ⟨Nat.le_refl _, Nat.le_refl _⟩
  | i + 1 => by
    have h := mvA_bd fs i
    have h2 := r8V_lt fs i 3 (by omega)
    show i + 1 ≤ mvA fs i + (1 + r8V fs i 3) ∧ mvA fs i + (1 + r8V fs i 3) ≤ 3 * (i + 1)
    omega
def mvL (fs : List Int) (m : Nat) : List Int := tab m fun i => ((mvA fs (i + 1) : Nat) : Int)
theorem mvL_len (fs : List Int) (m : Nat) : (mvL fs m).length = m := tab_len _ _
theorem mvL_at (fs : List Int) (m i : Nat) (h : i < m) : (mvL fs m).getD i 0 = ((mvA fs (i + 1) : Nat) : Int) := tab_get _ _ _ h
theorem mvL_next (fs : List Int) (m : Nat) : mvL fs (m + 1) = mvL fs m ++ [((mvA fs (m + 1) : Nat) : Int)] := by
  unfold mvL tab
  rw [List.range_succ, List.map_append]; rfl
theorem mvL_ok (fs : List Int) (m : Nat) (h1 : 1 ≤ m) (h4 : m ≤ 4) : movB (mvL fs m) = true := by
  have ha : allB 1 200 (mvL fs m) = true := allB_of fun k hk => by
    rw [mvL_len] at hk
    rw [mvL_at fs m k hk]
    have := mvA_bd fs (k + 1)
    omega
  have hs : strB (mvL fs m) = true := by
    unfold strB
    rw [List.all_eq_true]
    intro k hk
    have hk2 := List.mem_range.1 hk
    rw [mvL_len] at hk2
    rw [mvL_at fs m k (by omega), mvL_at fs m (k + 1) (by omega), decide_eq_true_eq]
    show ((mvA fs (k + 1) : Nat) : Int) < ((mvA fs (k + 1) + (1 + r8V fs (k + 1) 3) : Nat) : Int)
    omega
  rw [movB_good ha hs, mvL_len, decide_eq_true (show (1 : Int) ≤ (m : Int) by omega), decide_eq_true (show (m : Int) ≤ 8 by omega)]; rfl
/-- the heaps -/
def hpL (gs : List Int) (n m : Nat) : List Int := tab m fun i => ((r8V gs i (n + 1) : Nat) : Int)
theorem hpL_len (gs : List Int) (n m : Nat) : (hpL gs n m).length = m := tab_len _ _
theorem hpL_at (gs : List Int) (n m i : Nat) (h : i < m) : (hpL gs n m).getD i 0 = ((r8V gs i (n + 1) : Nat) : Int) := tab_get _ _ _ h
theorem hpL_next (gs : List Int) (n m : Nat) : hpL gs n (m + 1) = hpL gs n m ++ [((r8V gs m (n + 1) : Nat) : Int)] := by
  unfold hpL tab
  rw [List.range_succ, List.map_append]; rfl
theorem hpL_bd (gs : List Int) (n m i : Nat) (h : i < m) : 0 ≤ (hpL gs n m).getD i 0 ∧ (hpL gs n m).getD i 0 ≤ (n : Int) := by
  rw [hpL_at gs n m i h]
  have := r8V_lt gs i (n + 1) (by omega)
  omega
end Go.Proofs.Ytodmaomngpnboaa
