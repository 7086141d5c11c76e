/- Pure: races of two: how likely the first one wins, told in two ways. -/
import Derived.Test.YtodmaomngpnboaaPf
import Derived.Test.YtodmaomngpnboaaNa
set_option linter.unusedVariables false
namespace Go.Proofs.Ytodmaomngpnboaa
open Go.RowKit Go.Maps

/-- the program's sum of the first b rounds -/
def winF (F L O : Nat) : Nat → Int
  | 0 => 0
  | b + 1 => winF F L O b + (cntR F L b * (F : Int) - cntR F L (b + 1)) * cntR F O b * pwI (F : Int) (2 * (L - b - 1))
def winV (F L O : Nat) : Nat → Int
  | 0 => 0
  | b + 1 => winV F L O b + (cntW F L b * (F : Int) - cntW F L (b + 1)) * cntW F O b * pwI (F : Int) (2 * (L - b - 1))
theorem winV_eq (F L O : Nat) : ∀ b, winF F L O b = winV F L O b
  | 0 => rfl
  | b + 1 => by rw [winF, winV, winV_eq F L O b, cntW_eq, cntW_eq, cntW_eq]
/-- the model's count: n bounds the depth; left and other from 1 on -/
def raceS (race : Nat → Nat → Int) (F L O : Nat) : Nat → Int
  | 0 => 0
  | t + 1 => raceS race F L O t + (if L ≤ t + 1 then pwI (F : Int) (L + O - 1) else pwI (F : Int) (L + O - 1) - race O (L - (t + 1)) * pwI (F : Int) t)
def raceN (F : Nat) : Nat → Nat → Nat → Int
  | 0 => fun _ _ => 0
  | n + 1 => fun L O => raceS (raceN F n) F L O F
/-- all counts of races whose squares add up to n -/
def raceT (F : Nat) : Nat → List (List Int)
  | 0 => [[]]
  | n + 1 => raceT F n ++ [tab n (fun i => raceS (fun a b => ((raceT F n).getD (a + b) []).getD (a - 1) 0) F (i + 1) (n - i) F)]
def chkR (F L O : Nat) : Bool := decide (winV F L O L * pwI (F : Int) (L + O) = ((raceT F (L + O)).getD (L + O) []).getD (L - 1) 0 * pwI (F : Int) (2 * L - 1))
theorem chk_small : chkR 2 3 3 = true := by decide +kernel
theorem chk_all : ∀ f, f < 5 → ∀ l, l < 8 → ∀ o, o < 8 → chkR (f + 2) (l + 1) (o + 1) = true := by decide +kernel
def raceV (F L O : Nat) : Int := ((raceT F (L + O)).getD (L + O) []).getD (L - 1) 0
theorem raceT_len (F : Nat) : ∀ n, (raceT F n).length = n + 1
  | 0 => rfl
  | n + 1 => by rw [raceT, List.length_append, raceT_len F n]; rfl
theorem raceT_get (F m : Nat) : ∀ d, (raceT F (m + d)).getD m [] = (raceT F m).getD m []
  | 0 => rfl
  | d + 1 => by
    rw [← raceT_get F m d, show m + (d + 1) = (m + d) + 1 from rfl, raceT]
    have := raceT_len F (m + d)
    simp only [List.getD_eq_getElem?_getD]
    rw [List.getElem?_append_left (by omega)]
theorem raceS_congr (f g : Nat → Nat → Int) (F L O : Nat) : ∀ t, (∀ j, j < t → ¬ L ≤ j + 1 → f O (L - (j + 1)) = g O (L - (j + 1))) → raceS f F L O t = raceS g F L O t
  | 0, _ => rfl
  | t + 1, h => by
    rw [raceS, raceS, raceS_congr f g F L O t (fun j hj => h j (by omega))]
    by_cases e : L ≤ t + 1
    · rw [if_pos e, if_pos e]
    · rw [if_neg e, if_neg e, h t (by omega) e]
theorem raceV_eq (F L O : Nat) (hL : 1 ≤ L) (hO : 1 ≤ O) : raceV F L O = raceS (raceV F) F L O F := by
  obtain ⟨n, hn⟩ : ∃ n, L + O = n + 1 := ⟨L + O - 1, by omega⟩
  unfold raceV
  rw [hn, raceT]
  have hl := raceT_len F n
  simp only [List.getD_eq_getElem?_getD]
  rw [List.getElem?_append_right (by omega), hl, Nat.sub_self]
  show ((tab n _)[L - 1]?).getD 0 = _
  rw [← List.getD_eq_getElem?_getD, tab_get _ _ _ (by omega), show L - 1 + 1 = L by omega, show n - (L - 1) = O by omega]
  refine raceS_congr _ _ F L O F fun j hj he => ?_
  have h := raceT_get F (O + (L - (j + 1))) (n - (O + (L - (j + 1))))
  rw [show O + (L - (j + 1)) + (n - (O + (L - (j + 1)))) = n by omega] at h
  simp only [List.getD_eq_getElem?_getD] at h
  rw [h]
def bdR (x : Int) : Bool := decide (0 ≤ x) && decide (x ≤ 4611686018427387904)
theorem bdR_at {x : Int} (h : bdR x = true) : 0 ≤ x ∧ x ≤ 4611686018427387904 := by
  unfold bdR at h
  rw [Bool.and_eq_true, decide_eq_true_eq, decide_eq_true_eq] at h
  exact h
def tabW (F L O : Nat) : Bool := (List.range L).all fun b => bdR (cntW F L b * (F : Int)) && bdR (cntW F L b * (F : Int) - cntW F L (b + 1)) && bdR ((cntW F L b * (F : Int) - cntW F L (b + 1)) * cntW F O b) && bdR ((cntW F L b * (F : Int) - cntW F L (b + 1)) * cntW F O b * pwI (F : Int) (2 * (L - b - 1))) && bdR (winV F L O b) && bdR (winV F L O (b + 1)) && bdR (cntW F L b) && bdR (cntW F L (b + 1)) && bdR (cntW F O b)
theorem tabW_all : ∀ f, f < 5 → ∀ l, l < 8 → ∀ o, o < 9 → tabW (f + 2) (l + 1) o = true := by decide +kernel
def tabS (F L O : Nat) : Bool := (List.range (F + 1)).all fun t => bdR (raceS (raceV F) F L O t) && (decide (L ≤ t + 1) || (bdR (raceV F O (L - (t + 1)) * pwI (F : Int) t) && bdR (pwI (F : Int) (L + O - 1) - raceV F O (L - (t + 1)) * pwI (F : Int) t) && bdR (raceV F O (L - (t + 1)))))
theorem tabS_all : ∀ f, f < 5 → ∀ l, l < 8 → ∀ o, o < 8 → tabS (f + 2) (l + 1) (o + 1) = true := by decide +kernel
theorem win_zero (F L : Nat) : ∀ f, f < 5 → ∀ l, l < 8 → winV (f + 2) (l + 1) 0 (l + 1) = 0 := by decide +kernel
end Go.Proofs.Ytodmaomngpnboaa
