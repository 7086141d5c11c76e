/- The least number that is not in a list; values of heaps and of rows of pins. Nothing of a translation. -/
import Derived.WalkKit
import Derived.Laws.Entries
set_option linter.unusedVariables false
namespace Go.Proofs.Ytodmaomngpnboaa

def mexG (l : List Int) : Nat → Nat → Nat
  | 0, x => x
  | f + 1, x => if l.contains (x : Int) = true then mexG l f (x + 1) else x
def mexN (l : List Int) : Nat := mexG l (l.length + 1) 0
theorem mexG_eq (l : List Int) : ∀ (f x k : Nat), x ≤ k → k < x + f → (∀ j : Nat, x ≤ j → j < k → l.contains (j : Int) = true) → l.contains (k : Int) = false → mexG l f x = k
  | 0, x, k, h1, h2, _, _ => by omega
  | f + 1, x, k, h1, h2, h3, h4 => by
    unfold mexG
    by_cases e : x = k
    · subst e; rw [if_neg (by rw [h4]; exact Bool.false_ne_true)]
    · rw [if_pos (h3 x (Nat.le_refl _) (by omega))]
      exact mexG_eq l f (x + 1) k (by omega) (by omega) (fun j h5 h6 => h3 j (by omega) h6) h4
theorem all_in (k : Nat) : ∀ (l : List Int), (∀ j : Nat, j < k → l.contains (j : Int) = true) → k ≤ l.length := by
  induction k with
  | zero => intro l h; exact Nat.zero_le _
  | succ k ih =>
    intro l h
    have hk : (k : Int) ∈ l := by simpa using h k (by omega)
    have h2 := ih (l.erase (k : Int)) (fun j hj => by
      have hj' : (j : Int) ∈ l := by simpa using h j (by omega)
      have : (j : Int) ∈ l.erase (k : Int) := (List.mem_erase_of_ne (by omega)).2 hj'
      simpa using this)
    rw [List.length_erase_of_mem hk] at h2
    have := List.length_pos_of_mem hk
    omega
theorem mexN_eq (l : List Int) (k : Nat) (h3 : ∀ j : Nat, j < k → l.contains (j : Int) = true) (h4 : l.contains (k : Int) = false) : mexN l = k :=
  mexG_eq l _ 0 k (Nat.zero_le _) (by have := all_in k l h3; omega) (fun j _ h => h3 j h) h4
theorem mexG_in (l : List Int) : ∀ (f x : Nat), (∀ j : Nat, j < x → l.contains (j : Int) = true) → ∀ j : Nat, j < mexG l f x → l.contains (j : Int) = true
  | 0, x, h => h
  | f + 1, x, h => by
    unfold mexG
    split
    · rename_i hc
      exact mexG_in l f (x + 1) (fun j hj => by
        by_cases e : j = x
        · subst e; exact hc
        · exact h j (by omega))
    · exact h
theorem mexN_in (l : List Int) (j : Nat) (h : j < mexN l) : l.contains (j : Int) = true := mexG_in l _ 0 (fun j h => absurd h (by omega)) j h
theorem mexN_le (l : List Int) : mexN l ≤ l.length := all_in _ l (mexN_in l)

/-- what can be left of n things, by the first i moves -/
def leftT (ms vs : List Int) (n : Nat) : Nat → List Int
  | 0 => []
  | i + 1 => leftT ms vs n i ++ (if ms.getD i 0 ≤ (n : Int) then [vs.getD ((n : Int) - ms.getD i 0).toNat 0] else [])
theorem leftT_len (ms vs : List Int) (n : Nat) : ∀ i, (leftT ms vs n i).length ≤ i
  | 0 => Nat.le_refl _
  | i + 1 => by
    have := leftT_len ms vs n i
    rw [leftT, List.length_append]
    split <;> simp <;> omega
theorem leftT_yes (ms vs : List Int) (n i : Nat) (h : ms.getD i 0 ≤ (n : Int)) : leftT ms vs n (i + 1) = leftT ms vs n i ++ [vs.getD ((n : Int) - ms.getD i 0).toNat 0] := by rw [leftT, if_pos h]
theorem leftT_no (ms vs : List Int) (n i : Nat) (h : ¬ ms.getD i 0 ≤ (n : Int)) : leftT ms vs n (i + 1) = leftT ms vs n i := by rw [leftT, if_neg h, List.append_nil]
/-- the values of heaps of fewer than k things -/
def valT (ms : List Int) : Nat → List Int
  | 0 => []
  | k + 1 => valT ms k ++ [((mexN (leftT ms (valT ms k) k ms.length) : Nat) : Int)]
theorem valT_len (ms : List Int) : ∀ k, (valT ms k).length = k
  | 0 => rfl
  | k + 1 => by rw [valT, List.length_append, valT_len ms k]; rfl
/-- what can be left of n pins by taking t of them, at the first i places, behind acc -/
def leftS (acc vs : List Int) (n t : Nat) : Nat → List Int
  | 0 => acc
  | i + 1 => leftS acc vs n t i ++ [bits .xor .i64 (vs.getD i 0) (vs.getD (n - t - i) 0)]
theorem leftS_len (acc vs : List Int) (n t : Nat) : ∀ i, (leftS acc vs n t i).length = acc.length + i
  | 0 => rfl
  | i + 1 => by rw [leftS, List.length_append, leftS_len acc vs n t i]; rfl
def leftA (vs : List Int) (n : Nat) : List Int := leftS (leftS [] vs n 1 n) vs n 2 (n - 1)
theorem leftA_len (vs : List Int) (n : Nat) : (leftA vs n).length ≤ 2 * n := by unfold leftA; rw [leftS_len, leftS_len]; simp; omega
def valS : Nat → List Int
  | 0 => []
  | k + 1 => valS k ++ [((mexN (leftA (valS k) k) : Nat) : Int)]
theorem valS_len : ∀ k, (valS k).length = k
  | 0 => rfl
  | k + 1 => by rw [valS, List.length_append, valS_len k]; rfl

/-- the list ascends strictly -/
def strB (fs : List Int) : Bool := (List.range (fs.length - 1)).all fun k => decide (fs.getD k 0 < fs.getD (k + 1) 0)
theorem strB_at {fs : List Int} (h : strB fs = true) (k : Nat) (hk : k + 1 < fs.length) : fs.getD k 0 < fs.getD (k + 1) 0 := by
  have := List.all_eq_true.1 h k (List.mem_range.2 (by omega))
  simpa using this
theorem strB_of {fs : List Int} (h : ∀ k, k + 1 < fs.length → fs.getD k 0 < fs.getD (k + 1) 0) : strB fs = true :=
  List.all_eq_true.2 fun k hk => by have := h k (by have := List.mem_range.1 hk; omega); simpa using this
theorem strB_not {fs : List Int} (k : Nat) (hk : k + 1 < fs.length) (h : fs.getD (k + 1) 0 ≤ fs.getD k 0) : strB fs = false := by
  cases e : strB fs
  · rfl
  · have := strB_at e k hk; omega
end Go.Proofs.Ytodmaomngpnboaa
