/- Numbers whose binary digits are those of one of two: nothing of a translation; searches for a first pair. -/
import Derived.WalkKit
import Derived.Laws.Entries
import Derived.Laws.Closers25b
set_option linter.unusedVariables false
namespace Go.Proofs.Ytodmaomngpnboaa

theorem xor_zero (x y : Int) (hx : -9223372036854775808 ≤ x ∧ x ≤ 9223372036854775807) (hy : -9223372036854775808 ≤ y ∧ y ≤ 9223372036854775807) : (bits .xor .i64 x y == 0) = (y == x) := by
  have h1 : bits .xor .i64 x y = IntKind.i64.wrap (((BitVec.ofInt 64 x) ^^^ (BitVec.ofInt 64 y)).toNat : Int) := rfl
  have hlt := ((BitVec.ofInt 64 x) ^^^ (BitVec.ofInt 64 y)).isLt
  rw [Bool.eq_iff_iff, beq_iff_eq, beq_iff_eq]
  constructor
  · intro h
    rw [h1, IntKind.wrap_i64] at h
    have h0 : ((BitVec.ofInt 64 x) ^^^ (BitVec.ofInt 64 y)).toNat = 0 := by omega
    have h2 : (BitVec.ofInt 64 x) ^^^ (BitVec.ofInt 64 y) = 0#64 := by
      apply BitVec.eq_of_toNat_eq; rw [h0]; rfl
    have h3 : BitVec.ofInt 64 x = BitVec.ofInt 64 y := BitVec.xor_eq_zero_iff.1 h2
    have h4 := congrArg BitVec.toInt h3
    rw [BitVec.toInt_ofInt, BitVec.toInt_ofInt, Int.bmod_eq_of_le (by omega) (by omega), Int.bmod_eq_of_le (by omega) (by omega)] at h4
    exact h4.symm
  · rintro rfl
    rw [h1, BitVec.xor_self]
    rfl
theorem xor_bd (x y : Int) : -9223372036854775808 ≤ bits .xor .i64 x y ∧ bits .xor .i64 x y ≤ 9223372036854775807 := ⟨bits_lo_i64 _ _ _, bits_hi_i64 _ _ _⟩

def scJ (hit : Nat → Nat → Bool) (i : Nat) : Nat → Nat → Option (Nat × Nat)
  | 0, _ => none
  | f + 1, j => if hit i j = true then some (i, j) else scJ hit i f (j + 1)
def scI (hit : Nat → Nat → Bool) (M : Nat) : Nat → Nat → Option (Nat × Nat)
  | 0, _ => none
  | f + 1, i => match scJ hit i M 0 with
    | some p => some p
    | none => scI hit M f (i + 1)
def scC (hit : Nat → Nat → Bool) (M i f j g : Nat) : Option (Nat × Nat) := match scJ hit i f j with
  | some p => some p
  | none => scI hit M g (i + 1)
theorem scI_step (hit : Nat → Nat → Bool) (M f i : Nat) : scI hit M (f + 1) i = scC hit M i M 0 f := rfl
theorem scC_hit {hit : Nat → Nat → Bool} {M i f j g : Nat} (h : hit i j = true) : scC hit M i (f + 1) j g = some (i, j) := by unfold scC scJ; rw [if_pos h]
theorem scC_miss {hit : Nat → Nat → Bool} {M i f j g : Nat} (h : hit i j = false) : scC hit M i (f + 1) j g = scC hit M i f (j + 1) g := by
  unfold scC
  rw [show scJ hit i (f + 1) j = scJ hit i f (j + 1) by rw [scJ, if_neg (by rw [h]; exact Bool.false_ne_true)]]
theorem scC_end (hit : Nat → Nat → Bool) (M i j g : Nat) : scC hit M i 0 j g = scI hit M g (i + 1) := rfl
/-- all digits of the values of the first k heaps -/
def allX (hs vs : List Int) : Nat → Int
  | 0 => 0
  | k + 1 => bits .xor .i64 (allX hs vs k) (vs.getD (hs.getD k 0).toNat 0)
theorem allX_bd (hs vs : List Int) : ∀ k, -9223372036854775808 ≤ allX hs vs k ∧ allX hs vs k ≤ 9223372036854775807
  | 0 => by unfold allX; omega
  | k + 1 => xor_bd _ _
end Go.Proofs.Ytodmaomngpnboaa
