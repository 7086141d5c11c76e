/- Pure: races: rows as lists; how many throws are needed, told in two ways. -/
import Derived.Test.YtodmaomngpnboaaPc
import Derived.Test.YtodmaomngpnboaaMl
set_option linter.unusedVariables false
namespace Go.Proofs.Ytodmaomngpnboaa
open Go.RowKit Go.Maps

def rowV (F L : Nat) : Nat → List Int
  | 0 => tab (L + 1) (fun k => if k = L then 1 else 0)
  | i + 1 => tab (L + 1) (fun k => sumA (fun j => if k + j + 1 < L + 1 then (rowV F L i).getD (k + j + 1) 0 else 0) F)
theorem rowV_at (F L : Nat) : ∀ i k, 0 < k → k < L + 1 → rowP F L i (k : Int) = (rowV F L i).getD k 0
  | 0, k, h0, hk => by
    show upd (fun _ => 0) (L : Int) 1 (k : Int) = _
    rw [rowV, tab_get _ _ _ hk]
    unfold upd
    by_cases e : k = L
    · rw [if_pos e, if_pos (by omega)]
    · rw [if_neg e, if_neg (by omega)]
  | i + 1, k, h0, hk => by
    rw [rowV, tab_get _ _ _ hk]
    show sumA (fun s => cut0 (rowP F L i) (s : Int) * raceM s F (k : Int)) (L + 1) = _
    rw [sA_congr (h := fun s => sumA (fun j => cut0 (rowP F L i) (s : Int) * (if leftI s j = (k : Int) then 1 else 0)) F) _ (fun s _ => by rw [sA_mul]; rfl), sA_swap]
    refine sA_congr _ fun j _ => ?_
    rw [sA_congr (h := fun s => if s = k + j + 1 then cut0 (rowP F L i) (s : Int) else 0) _ (fun s _ => by
      by_cases e : s = k + j + 1
      · rw [if_pos e, if_pos (by unfold leftI; omega), Int.mul_one]
      · rw [if_neg e, if_neg (by unfold leftI; omega), Int.mul_zero]), sA_one (k + j + 1) (fun s => cut0 (rowP F L i) (s : Int))]
    by_cases h : k + j + 1 < L + 1
    · rw [if_pos h, if_pos h, ← rowV_at F L i (k + j + 1) (by omega) h]
      unfold cut0
      rw [if_neg (by omega)]
    · rw [if_neg h, if_neg h]
def cntW (F L i : Nat) : Int := sumA (fun s => if s = 0 then 0 else (rowV F L i).getD s 0) (L + 1)
theorem cntW_eq (F L i : Nat) : cntR F L i = cntW F L i := sA_congr _ fun s hs => by
  show (if (s : Int) = 0 then 0 else rowP F L i (s : Int)) = _
  by_cases e : s = 0
  · rw [if_pos e, if_pos (by omega)]
  · rw [if_neg e, if_neg (by omega), rowV_at F L i s (by omega) hs]
/-- how many throws are needed, times the power, of the first b rows -/
def needF (F L : Nat) : Nat → Int
  | 0 => 0
  | b + 1 => needF F L b + cntR F L b * pwI (F : Int) (L - b)
def needV (F L : Nat) : Nat → Int
  | 0 => 0
  | b + 1 => needV F L b + cntW F L b * pwI (F : Int) (L - b)
theorem needV_eq (F L : Nat) : ∀ b, needF F L b = needV F L b
  | 0 => rfl
  | b + 1 => by rw [needF, needV, needV_eq F L b, cntW_eq]
/-- the model's sum for l squares, behind t of its rounds -/
def innF (F : Nat) (told : List Int) (l : Nat) : Nat → Int
  | 0 => pwI (F : Int) l
  | t + 1 => innF F told l t + told.getD (l - (t + 1)) 0 * pwI (F : Int) t
def toldL (F : Nat) : Nat → List Int
  | 0 => [0]
  | l + 1 => toldL F l ++ [innF F (toldL F l) (l + 1) (min F l)]
theorem toldL_len (F : Nat) : ∀ l, (toldL F l).length = l + 1
  | 0 => rfl
  | l + 1 => by rw [toldL, List.length_append, toldL_len F l]; rfl
def toldOk (F L : Nat) : Bool := decide (needV F L (L + 1) = (toldL F L).getD L 0) && (List.range (L + 2)).all fun b => decide (0 ≤ needV F L b) && decide (needV F L b ≤ 4611686018427387904) && decide (0 ≤ cntW F L b * pwI (F : Int) (L - b)) && decide (cntW F L b * pwI (F : Int) (L - b) ≤ 4611686018427387904) && decide (0 ≤ cntW F L b)  && decide (cntW F L b ≤ 4611686018427387904)
theorem told_all : ∀ f, f < 5 → ∀ L, L < 13 → toldOk (f + 2) L = true := by decide +kernel
end Go.Proofs.Ytodmaomngpnboaa
