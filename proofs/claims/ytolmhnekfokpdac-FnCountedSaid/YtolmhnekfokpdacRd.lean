/- Contracts: rings of bits, whole. -/
import Derived.Test.YtolmhnekfokpdacRc
set_option linter.unusedVariables false
namespace Go.Proofs.Ytolmhnekfokpdac
open Go.RowKit

def ok_BitRing (a : Int) : Bool := decide (1 ≤ a ∧ a ≤ 6)
def res_BitRing (a : Int) : List Int := if 1 ≤ a ∧ a ≤ 6 then tab (2 ^ a.toNat) (brG (2 ^ a.toNat)) else []
theorem ring_yes (a : Int) (h : 1 ≤ a ∧ a ≤ 6) : ok_BitRing a = true ∧ res_BitRing a = tab (2 ^ a.toNat) (brG (2 ^ a.toNat)) := ⟨decide_eq_true h, if_pos h⟩
theorem ring_no (a : Int) (h : ¬ (1 ≤ a ∧ a ≤ 6)) : ok_BitRing a = false ∧ res_BitRing a = [] := ⟨decide_eq_false h, if_neg h⟩
theorem pow_half (n : Nat) (h : 1 ≤ n) (h6 : n ≤ 6) : ∃ V, 1 ≤ V ∧ 2 ^ n = 2 * V ∧ V ≤ 32 := by
  obtain rfl | rfl | rfl | rfl | rfl | rfl : n = 1 ∨ n = 2 ∨ n = 3 ∨ n = 4 ∨ n = 5 ∨ n = 6 := by omega
  · exact ⟨1, by decide, by decide, by decide⟩
  · exact ⟨2, by decide, by decide, by decide⟩
  · exact ⟨4, by decide, by decide, by decide⟩
  · exact ⟨8, by decide, by decide, by decide⟩
  · exact ⟨16, by decide, by decide, by decide⟩
  · exact ⟨32, by decide, by decide, by decide⟩
theorem len_BitRing (a : Int) : (res_BitRing a).length ≤ 1048576 := by
  unfold res_BitRing
  split
  · rename_i h
    rw [tab_len]
    obtain ⟨V, -, e, hv⟩ := pow_half a.toNat (by omega) (by omega)
    omega
  · exact Nat.zero_le _
theorem impl_BitRing (a : Int) (al : -9223372036854775808 ≤ a) (au : a ≤ 9223372036854775807) (w : World) : Calls Try.prog 29 #[.int .i64 a] w fun e w' => ∃ r, e = .returned (.tuple #[r, .bool (ok_BitRing a)]) ∧ Sw (Value.int .i64) 0 w' r (res_BitRing a) w.heap.size w'.heap.size ∧ Below w.heap.size w w' := by
  by_cases h : 1 ≤ a ∧ a ≤ 6
  · obtain ⟨e1, e2⟩ := ring_yes a h
    rw [e1, e2]
    obtain ⟨n, rfl⟩ : ∃ n : Nat, a = n := ⟨a.toNat, by omega⟩
    rw [Int.toNat_natCast]
    have n1 : 1 ≤ n := by omega
    have n6 : n ≤ 6 := by omega
    obtain ⟨V, v1, e, v32⟩ := pow_half n n1 n6
    refine ring_impl n (2 ^ n) w n1 n6 rfl (by omega) (by omega) (fun k => ?_) (fun k => ?_)
    · rw [e]; exact brE_lt V v1 _
    · rw [e]; exact brS_ok V v1 k
  · obtain ⟨e1, e2⟩ := ring_no a h
    rw [e1, e2]
    clear e1 e2
    by_cases g0 : 1 ≤ a
    · skip
      have dd0 : decide (a < 1) = false := decide_eq_false (by omega)
      by_cases g1 : a ≤ 6
      · exact absurd (⟨g0, g1⟩) h
      · clear h
        have d1 : decide (6 < a) = true := decide_eq_true (by omega)
        go_enter Try.func29, Try.ntmps29
        go_wp2
        go_ret2
        exact ⟨_, rfl, Sw.nil _ _ _ _ _ _ _, Below.refl _ _⟩
    · clear h
      have d0 : decide (a < 1) = true := decide_eq_true (by omega)
      go_enter Try.func29, Try.ntmps29
      go_wp2
      go_ret2
      exact ⟨_, rfl, Sw.nil _ _ _ _ _ _ _, Below.refl _ _⟩
end Go.Proofs.Ytolmhnekfokpdac
