/- How many rows there are, in both texts' way. -/
import Derived.Test.YticocfoheenmdaaWa
set_option linter.unusedVariables false
namespace Go.Proofs.Yticocfoheenmdaa
open Go.RowKit

def rowsB (d : Int) (p : Nat) : Bool := (List.range p).all fun i => decide (pwI d i ≤ 4000000000000000000 / d)
theorem rowsB_at {d : Int} {p : Nat} (h : rowsB d p = true) (i : Nat) (hi : i < p) : pwI d i ≤ 4000000000000000000 / d := of_decide_eq_true (List.all_eq_true.1 h i (List.mem_range.2 hi))
theorem rowsB_no {d : Int} {p : Nat} (h : rowsB d p = false) : ∃ t, t < p ∧ (∀ j, j < t → pwI d j ≤ 4000000000000000000 / d) ∧ 4000000000000000000 / d < pwI d t := by
  obtain ⟨t, t1, t2, t3⟩ := firstNot _ p h
  exact ⟨t, t1, fun j hj => of_decide_eq_true (t2 j hj), by have := of_decide_eq_false t3; omega⟩
theorem pw_next_bd (d : Int) (k : Nat) (h1 : 1 ≤ d) (h : pwI d k ≤ 4000000000000000000 / d) : 1 ≤ pwI d (k + 1) ∧ pwI d (k + 1) ≤ 4000000000000000000 :=
  ⟨pwI_pos1 d h1 _, (Int.le_ediv_iff_mul_le (by omega)).1 h⟩
theorem pw_upto_bd (d : Int) (p : Nat) (h1 : 1 ≤ d) (h : ∀ j, j < p → pwI d j ≤ 4000000000000000000 / d) (k : Nat) (hk : k ≤ p) : 1 ≤ pwI d k ∧ pwI d k ≤ 4000000000000000000 := by
  cases k with
  | zero => exact ⟨Int.le_refl _, by show (1 : Int) ≤ 4000000000000000000; omega⟩
  | succ k => exact pw_next_bd d k h1 (h k (by omega))
theorem rows_yes (d : Int) (p : Nat) (w : World) (h1 : 1 ≤ d) (h2 : d ≤ 1000) (hp : p ≤ 60) (h : rowsB d p = true) :
    Calls Try.prog 38 #[.int .i64 d, .int .i64 (p : Int)] w fun e w' => e = .returned (.tuple #[.int .i64 (pwI d p), .bool true]) ∧ w = w' := by
  have Hb := Lib.hid (fun k hk => pw_upto_bd d p h1 (fun j hj => rowsB_at h j hj) k hk)
  have Ha := Lib.hid (fun k hk => rowsB_at h k hk)
  have Hst := Lib.hid (fun k => (show pwI d (k + 1) = pwI d k * d from rfl))
  clear h
  go_enter Try.func38, Try.ntmps38
  go_wp2
  go_loop [6, 8] (fun c i => ∃ k : Nat, k ≤ p ∧ i = .int .i64 (k : Int) ∧ c = .int .i64 (pwI d k)) (fun _ i => p - (intOf i).toNat)
  case atStart => exact ⟨0, Nat.zero_le _, rfl, rfl⟩
  case round =>
    obtain ⟨k, hk, rfl, rfl⟩ := hrel
    by_cases hlt : k < p
    · have ha := Ha.out k hlt
      have hb1 := Hb.out k (by omega)
      have hb2 := Hb.out (k + 1) (by omega)
      rw [Hst.out] at hb2
      have Hs := Lib.hid (Hst.out k)
      obtain ⟨m0, m1⟩ := hb1
      obtain ⟨m2, m3⟩ := hb2
      have dd : decide (4000000000000000000 / d < pwI d k) = false := decide_eq_false (by omega)
      have q0 : 0 ≤ 4000000000000000000 / d := Int.ediv_nonneg (by omega) (by omega)
      have q1 : 4000000000000000000 / d ≤ 4000000000000000000 := Int.ediv_le_self _ (by omega)
      clear ha
      generalize pwI d k = X at *
      go_wp2
      go_round
      case rel => exact ⟨k + 1, by omega, by go_num, by rw [Hs.out]⟩
      case measure => simp [intOf]; omega
    · obtain rfl : k = p := by omega
      go_wp2
      go_ret2
      exact ⟨rfl, rfl⟩
theorem rows_no (d : Int) (p : Nat) (w : World) (h1 : 1 ≤ d) (h2 : d ≤ 1000) (hp : p ≤ 60) (h : rowsB d p = false) :
    Calls Try.prog 38 #[.int .i64 d, .int .i64 (p : Int)] w fun e w' => e = .returned (.tuple #[.int .i64 0, .bool false]) ∧ w = w' := by
  obtain ⟨t, t1, t2, t3⟩ := rowsB_no h
  have Hb := Lib.hid (fun k hk => pw_upto_bd d t h1 (fun j hj => t2 j hj) k hk)
  have Ha := Lib.hid t2
  have Ht := Lib.hid t3
  have Hst := Lib.hid (fun k => (show pwI d (k + 1) = pwI d k * d from rfl))
  clear h t2 t3
  go_enter Try.func38, Try.ntmps38
  go_wp2
  go_loop [6, 8] (fun c i => ∃ k : Nat, k ≤ t ∧ i = .int .i64 (k : Int) ∧ c = .int .i64 (pwI d k)) (fun _ i => p - (intOf i).toNat)
  case atStart => exact ⟨0, Nat.zero_le _, rfl, rfl⟩
  case round =>
    obtain ⟨k, hk, rfl, rfl⟩ := hrel
    have q0 : 0 ≤ 4000000000000000000 / d := Int.ediv_nonneg (by omega) (by omega)
    have q1 : 4000000000000000000 / d ≤ 4000000000000000000 := Int.ediv_le_self _ (by omega)
    by_cases hlt : k < t
    · have ha := Ha.out k hlt
      have hb1 := Hb.out k (by omega)
      have hb2 := Hb.out (k + 1) (by omega)
      rw [Hst.out] at hb2
      have Hs := Lib.hid (Hst.out k)
      obtain ⟨m0, m1⟩ := hb1
      obtain ⟨m2, m3⟩ := hb2
      have dd : decide (4000000000000000000 / d < pwI d k) = false := decide_eq_false (by omega)
      clear ha
      generalize pwI d k = X at *
      go_wp2
      go_round
      case rel => exact ⟨k + 1, by omega, by go_num, by rw [Hs.out]⟩
      case measure => simp [intOf]; omega
    · obtain rfl : k = t := by omega
      have hb1 := Hb.out k (by omega)
      have dd : decide (4000000000000000000 / d < pwI d k) = true := decide_eq_true Ht.out
      obtain ⟨m0, m1⟩ := hb1
      clear Ht
      generalize pwI d k = X at *
      go_wp2
      go_ret2
      exact ⟨rfl, rfl⟩
end Go.Proofs.Yticocfoheenmdaa
