/- Heaps: what the law of heaps asks of values, pure. Nothing of a translation. -/
import Derived.Test.YtodmaomngpnboaaYb
import Derived.Test.YtodmaomngpnboaaYx
set_option linter.unusedVariables false
namespace Go.Proofs.Ytodmaomngpnboaa

theorem mexG_out (l : List Int) : ∀ (f x : Nat), (∀ j : Nat, j < x → l.contains (j : Int) = true) → l.length < x + f → l.contains (mexG l f x : Int) = false
  | 0, x, h, hl => by
    have := all_in x l h
    omega
  | f + 1, x, h, hl => by
    unfold mexG
    by_cases e : l.contains (x : Int) = true
    · rw [if_pos e]
      exact mexG_out l f (x + 1) (fun j hj => by
        by_cases e2 : j = x
        · subst e2; exact e
        · exact h j (by omega)) (by omega)
    · rw [if_neg e]
      simpa using e
theorem mexN_out (l : List Int) : l.contains (mexN l : Int) = false := mexG_out l _ 0 (fun j h => absurd h (by omega)) (by omega)
theorem valT_at (ms : List Int) (k : Nat) : ∀ n, k < n → (valT ms n).getD k 0 = ((mexN (leftT ms (valT ms k) k ms.length) : Nat) : Int)
  | 0, h => absurd h (Nat.not_lt_zero _)
  | n + 1, h => by
    rw [valT, List.getD]
    by_cases e : k = n
    · subst e
      rw [List.getElem?_append_right (by rw [valT_len]; exact Nat.le_refl _), valT_len, Nat.sub_self]; rfl
    · rw [List.getElem?_append_left (by rw [valT_len]; omega)]
      exact valT_at ms k n (by omega)
theorem valS_at (k : Nat) : ∀ n, k < n → (valS n).getD k 0 = ((mexN (leftA (valS k) k) : Nat) : Int)
  | 0, h => absurd h (Nat.not_lt_zero _)
  | n + 1, h => by
    rw [valS, List.getD]
    by_cases e : k = n
    · subst e
      rw [List.getElem?_append_right (by rw [valS_len]; exact Nat.le_refl _), valS_len, Nat.sub_self]; rfl
    · rw [List.getElem?_append_left (by rw [valS_len]; omega)]
      exact valS_at k n (by omega)
/-- what can be left is told by the values below alone -/
theorem leftT_pre (ms : List Int) (k n : Nat) (hk : k < n) (hm : ∀ i, i < ms.length → 1 ≤ ms.getD i 0) : ∀ i, i ≤ ms.length → leftT ms (valT ms n) k i = leftT ms (valT ms k) k i
  | 0, _ => rfl
  | i + 1, h => by
    have ih := leftT_pre ms k n hk hm i (by omega)
    have h1 := hm i (by omega)
    by_cases e : ms.getD i 0 ≤ (k : Int)
    · rw [leftT_yes _ _ _ _ e, leftT_yes _ _ _ _ e, ih, valT_at ms _ n (by omega), valT_at ms _ k (by omega)]
    · rw [leftT_no _ _ _ _ e, leftT_no _ _ _ _ e, ih]
theorem valT_bd (ms : List Int) (h4 : ms.length ≤ 4) (k n : Nat) (h : k < n) : 0 ≤ (valT ms n).getD k 0 ∧ (valT ms n).getD k 0 ≤ 4 := by
  rw [valT_at ms k n h]
  have h1 := mexN_le (leftT ms (valT ms k) k ms.length)
  have h2 := leftT_len ms (valT ms k) k ms.length
  omega
def xr (a b : Int) : Int := bits .xor .i64 a b
def winB (x : Int) (l : List Nat) : Bool := decide (x = 0) || l.any fun a => decide (0 ≤ xr x (a : Int)) && decide (xr x (a : Int) < (a : Int))
theorem nim1 : ∀ a, a < 5 → winB (xr 0 (a : Nat)) [a] = true := by decide +kernel
theorem nim2 : ∀ a, a < 5 → ∀ b, b < 5 → winB (xr (xr 0 (a : Nat)) (b : Nat)) [a, b] = true := by decide +kernel
theorem nim3 : ∀ a, a < 5 → ∀ b, b < 5 → ∀ c, c < 5 → winB (xr (xr (xr 0 (a : Nat)) (b : Nat)) (c : Nat)) [a, b, c] = true := by decide +kernel
theorem nim4 : ∀ a, a < 5 → ∀ b, b < 5 → ∀ c, c < 5 → ∀ d, d < 5 → winB (xr (xr (xr (xr 0 (a : Nat)) (b : Nat)) (c : Nat)) (d : Nat)) [a, b, c, d] = true := by decide +kernel
end Go.Proofs.Ytodmaomngpnboaa
