/- How many of the first places something holds at. Nothing of a translation. -/
import Derived.Test.YtfipcpbibmhjoabCk
set_option linter.unusedVariables false
namespace Go.Proofs.Ytfipcpbibmhjoab
open Go.RowKit
def cntQ (p : Nat → Bool) : Nat → Nat
  | 0 => 0
  | k + 1 => cntQ p k + (if p k = true then 1 else 0)
theorem cntQ_le (p : Nat → Bool) : ∀ k, cntQ p k ≤ k
  | 0 => Nat.le_refl _
  | k + 1 => by have := cntQ_le p k; rw [cntQ]; split <;> omega
theorem cntQ_eq (p : Nat → Bool) : ∀ n, cntQ p n = n → ∀ k, k < n → p k = true
  | 0 => fun _ k hk => absurd hk (by omega)
  | n + 1 => fun h k hk => by
    have h1 := cntQ_le p n
    rw [cntQ] at h
    by_cases hp : p n = true
    · rw [if_pos hp] at h
      by_cases e : k = n
      · subst e; exact hp
      · exact cntQ_eq p n (by omega) k (by omega)
    · rw [if_neg hp] at h; omega
theorem cntQ_of (p : Nat → Bool) : ∀ n, (∀ k, k < n → p k = true) → cntQ p n = n
  | 0 => fun _ => rfl
  | n + 1 => fun h => by rw [cntQ, cntQ_of p n (fun k hk => h k (by omega)), if_pos (h n (by omega))]
theorem cntQ_all (p : Nat → Bool) (n : Nat) : (((cntQ p n : Nat) : Int) == (n : Int)) = (List.range n).all p := by
  cases e : (List.range n).all p with
  | true =>
    rw [cntQ_of p n (fun k hk => List.all_eq_true.1 e k (List.mem_range.2 hk))]; simp
  | false =>
    rw [beq_eq_false_iff_ne]
    intro h
    have h2 := cntQ_eq p n (by omega)
    have : (List.range n).all p = true := List.all_eq_true.2 fun k hk => h2 k (List.mem_range.1 hk)
    rw [e] at this; cases this
theorem cntQ_not (p : Nat → Bool) : ∀ n, cntQ (fun k => !p k) n + cntQ p n = n
  | 0 => rfl
  | n + 1 => by
    have := cntQ_not p n
    rw [cntQ, cntQ]
    cases p n <;> simp <;> omega
theorem cntQ_none (p : Nat → Bool) (n : Nat) : (((cntQ (fun k => !p k) n : Nat) : Int) == 0) = (List.range n).all p := by
  rw [← cntQ_all]
  have := cntQ_not p n
  rw [Bool.eq_iff_iff, beq_iff_eq, beq_iff_eq]
  omega
theorem all_of {p : Nat → Bool} {n : Nat} (h : ∀ k, k < n → p k = true) : (List.range n).all p = true := List.all_eq_true.2 fun k hk => h k (List.mem_range.1 hk)
theorem all_not {p : Nat → Bool} {n : Nat} (k : Nat) (hk : k < n) (h : p k = false) : (List.range n).all p = false := by
  cases e : (List.range n).all p with
  | false => rfl
  | true => have := List.all_eq_true.1 e k (List.mem_range.2 hk); rw [h] at this; cases this
theorem all_at {p : Nat → Bool} {n : Nat} (h : (List.range n).all p = true) (k : Nat) (hk : k < n) : p k = true := List.all_eq_true.1 h k (List.mem_range.2 hk)
end Go.Proofs.Ytfipcpbibmhjoab
