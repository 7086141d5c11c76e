/- Contracts: tests of cards, in both texts. -/
import Derived.Test.YtfipcpbibmhjoaaSn
import Derived.Test.YtfipcpbibmhjoaaMb
set_option linter.unusedVariables false
namespace Go.Proofs.Ytfipcpbibmhjoaa
open Go.RowKit
/-- what a test asks of a card -/
def askN (x : Nat) (c : Nat) : Nat := if x = 0 then c % 13 else if x = 1 then c / 13 else c
/-- what it says holds -/
def sayB (y : Nat) (a z : Int) : Bool := if y = 0 then decide (a = z) else if y = 1 then decide (a < z) else decide (z < a)
def holdB (x y z : Int) (c : Nat) : Bool := sayB y.toNat ((askN x.toNat c : Nat) : Int) z
def holdAt (fs : List Int) (c : Nat) (k : Nat) : Bool := holdB (fs.getD (k * 3) 0) (fs.getD (k * 3 + 1) 0) (fs.getD (k * 3 + 2) 0) c
def passB (n : Nat) (fs : List Int) (c : Nat) : Bool := (List.range n).all (holdAt fs c)
/-- how two numbers compare -/
def cmpI (a b : Int) : Int := if a < b then -1 else if b < a then 1 else 0
set_option maxHeartbeats 1000000 in
theorem compare_any (a b : Int) (w : World) : Calls Try.prog 93 #[.int .i64 a, .int .i64 b] w fun e w' => e = .returned (.int .i64 (cmpI a b)) ∧ w = w' := by
  have HA := Lib.hid (fun z => nan_any a z)
  have HB := Lib.hid (fun z => nan_any b z)
  unfold cmpI
  by_cases h1 : a < b
  · rw [if_pos h1]
    have d1 : decide (a < b) = true := decide_eq_true h1
    go_enter Try.func93, Try.ntmps93
    go_wp2_with (first | (go_at_call 100; (with_reducible refine (HA.out _).mono ?_); rintro e w' ⟨rfl, rfl⟩) | (go_at_call 100; (with_reducible refine (HB.out _).mono ?_); rintro e w' ⟨rfl, rfl⟩))
    go_ret
    exact ⟨rfl, rfl⟩
  · rw [if_neg h1]
    have d1 : decide (a < b) = false := decide_eq_false h1
    by_cases h2 : b < a
    · rw [if_pos h2]
      have d2 : decide (b < a) = true := decide_eq_true h2
      go_enter Try.func93, Try.ntmps93
      go_wp2_with (first | (go_at_call 100; (with_reducible refine (HA.out _).mono ?_); rintro e w' ⟨rfl, rfl⟩) | (go_at_call 100; (with_reducible refine (HB.out _).mono ?_); rintro e w' ⟨rfl, rfl⟩))
      go_ret
      exact ⟨rfl, rfl⟩
    · rw [if_neg h2]
      have d2 : decide (b < a) = false := decide_eq_false h2
      go_enter Try.func93, Try.ntmps93
      go_wp2_with (first | (go_at_call 100; (with_reducible refine (HA.out _).mono ?_); rintro e w' ⟨rfl, rfl⟩) | (go_at_call 100; (with_reducible refine (HB.out _).mono ?_); rintro e w' ⟨rfl, rfl⟩))
      go_ret
      exact ⟨rfl, rfl⟩
theorem suit_any (c : Nat) (w : World) (hc : c ≤ 51) : Calls Try.prog 101 #[.int .i64 (c : Int)] w fun e w' => e = .returned (.int .i64 ((c / 13 : Nat) : Int)) ∧ w = w' := by
  go_enter Try.func101, Try.ntmps101
  go_wp2
  go_ret
  exact ⟨ret_int (by omega), rfl⟩
theorem say_eq (y : Nat) (a z : Int) (hy : y ≤ 2) : (cmpI a z == (if y = 0 then 0 else if y = 1 then -1 else 1)) = sayB y a z := by
  unfold cmpI sayB
  rcases (show y = 0 ∨ y = 1 ∨ y = 2 by omega) with rfl | rfl | rfl
  all_goals
    by_cases h1 : a < z
    · have h2 : ¬ z < a := by omega
      have h3 : ¬ a = z := by omega
      simp [h1, h2, h3]
    · by_cases h2 : z < a
      · have h3 : ¬ a = z := by omega
        simp [h1, h2, h3]
      · have h3 : a = z := by omega
        subst h3
        simp
set_option maxRecDepth 100000 in
set_option maxHeartbeats 4000000 in
theorem ask_00 (z : Int) (c : Nat) (w : World) (hc : c ≤ 51) :
    Calls Try.prog 97 #[.agg #[.int .i64 0, .int .i64 0, .int .i64 z], .int .i64 (c : Int)] w fun e w' => e = .returned (.bool (cmpI ((c % 13 : Nat) : Int) z == 0)) ∧ Below w.heap.size w w' := by
  have HS := Lib.hid (fun u => suit_any c u hc)
  have HC := Lib.hid (fun u => compare_any ((c % 13 : Nat) : Int) z u)
  have hmc : (c : Int).tmod 13 = ((c % 13 : Nat) : Int) := rfl
  have hdc : (c : Int) / 13 = ((c / 13 : Nat) : Int) := rfl
  have ha2 : c % 13 ≤ 12 := by omega
  have hd2 : c / 13 ≤ 51 := by omega
  have Hb0 := Lib.hid ((Below.refl _ w).alloc (Nat.le_refl _) (.cells #[.int .i64 0, .int .i64 0, .int .i64 z] 47))
  generalize c % 13 = a at *
  generalize c / 13 = d at *
  generalize cmpI (a : Int) z = C at *
  go_enter Try.func97, Try.ntmps97
  go_wp2
  obtain ⟨k0, k1, k2⟩ := alloc3_cells w (Value.int .i64 0) (Value.int .i64 0) (Value.int .i64 z) 47
  have hu : w.heap.size < (w.alloc (.cells #[Value.int .i64 0, Value.int .i64 0, Value.int .i64 z] 47)).heap.size := by simp
  generalize w.alloc (.cells #[Value.int .i64 0, Value.int .i64 0, Value.int .i64 z] 47) = u at *
  go_region_law (first | (go_simp; go_at_call 101; (with_reducible refine (HS.out _).mono ?_); rintro e w' ⟨rfl, rfl⟩))
  all_goals
    go_wp2_with (refine (HC.out _).mono ?_; rintro e w' ⟨rfl, rfl⟩)
    go_ret
    exact ⟨rfl, (Hb0.out.alloc (by omega) _).drew.alloc (by simp; omega) _⟩
set_option maxRecDepth 100000 in
set_option maxHeartbeats 4000000 in
theorem ask_01 (z : Int) (c : Nat) (w : World) (hc : c ≤ 51) :
    Calls Try.prog 97 #[.agg #[.int .i64 0, .int .i64 1, .int .i64 z], .int .i64 (c : Int)] w fun e w' => e = .returned (.bool (cmpI ((c % 13 : Nat) : Int) z == -1)) ∧ Below w.heap.size w w' := by
  have HS := Lib.hid (fun u => suit_any c u hc)
  have HC := Lib.hid (fun u => compare_any ((c % 13 : Nat) : Int) z u)
  have hmc : (c : Int).tmod 13 = ((c % 13 : Nat) : Int) := rfl
  have hdc : (c : Int) / 13 = ((c / 13 : Nat) : Int) := rfl
  have ha2 : c % 13 ≤ 12 := by omega
  have hd2 : c / 13 ≤ 51 := by omega
  have Hb0 := Lib.hid ((Below.refl _ w).alloc (Nat.le_refl _) (.cells #[.int .i64 0, .int .i64 1, .int .i64 z] 47))
  generalize c % 13 = a at *
  generalize c / 13 = d at *
  generalize cmpI (a : Int) z = C at *
  go_enter Try.func97, Try.ntmps97
  go_wp2
  obtain ⟨k0, k1, k2⟩ := alloc3_cells w (Value.int .i64 0) (Value.int .i64 1) (Value.int .i64 z) 47
  have hu : w.heap.size < (w.alloc (.cells #[Value.int .i64 0, Value.int .i64 1, Value.int .i64 z] 47)).heap.size := by simp
  generalize w.alloc (.cells #[Value.int .i64 0, Value.int .i64 1, Value.int .i64 z] 47) = u at *
  go_region_law (first | (go_simp; go_at_call 101; (with_reducible refine (HS.out _).mono ?_); rintro e w' ⟨rfl, rfl⟩))
  all_goals
    go_wp2_with (refine (HC.out _).mono ?_; rintro e w' ⟨rfl, rfl⟩)
    go_ret
    exact ⟨rfl, (Hb0.out.alloc (by omega) _).drew.alloc (by simp; omega) _⟩
set_option maxRecDepth 100000 in
set_option maxHeartbeats 4000000 in
theorem ask_02 (z : Int) (c : Nat) (w : World) (hc : c ≤ 51) :
    Calls Try.prog 97 #[.agg #[.int .i64 0, .int .i64 2, .int .i64 z], .int .i64 (c : Int)] w fun e w' => e = .returned (.bool (cmpI ((c % 13 : Nat) : Int) z == 1)) ∧ Below w.heap.size w w' := by
  have HS := Lib.hid (fun u => suit_any c u hc)
  have HC := Lib.hid (fun u => compare_any ((c % 13 : Nat) : Int) z u)
  have hmc : (c : Int).tmod 13 = ((c % 13 : Nat) : Int) := rfl
  have hdc : (c : Int) / 13 = ((c / 13 : Nat) : Int) := rfl
  have ha2 : c % 13 ≤ 12 := by omega
  have hd2 : c / 13 ≤ 51 := by omega
  have Hb0 := Lib.hid ((Below.refl _ w).alloc (Nat.le_refl _) (.cells #[.int .i64 0, .int .i64 2, .int .i64 z] 47))
  generalize c % 13 = a at *
  generalize c / 13 = d at *
  generalize cmpI (a : Int) z = C at *
  go_enter Try.func97, Try.ntmps97
  go_wp2
  obtain ⟨k0, k1, k2⟩ := alloc3_cells w (Value.int .i64 0) (Value.int .i64 2) (Value.int .i64 z) 47
  have hu : w.heap.size < (w.alloc (.cells #[Value.int .i64 0, Value.int .i64 2, Value.int .i64 z] 47)).heap.size := by simp
  generalize w.alloc (.cells #[Value.int .i64 0, Value.int .i64 2, Value.int .i64 z] 47) = u at *
  go_region_law (first | (go_simp; go_at_call 101; (with_reducible refine (HS.out _).mono ?_); rintro e w' ⟨rfl, rfl⟩))
  all_goals
    go_wp2_with (refine (HC.out _).mono ?_; rintro e w' ⟨rfl, rfl⟩)
    go_ret
    exact ⟨rfl, (Hb0.out.alloc (by omega) _).drew.alloc (by simp; omega) _⟩
set_option maxRecDepth 100000 in
set_option maxHeartbeats 4000000 in
theorem ask_10 (z : Int) (c : Nat) (w : World) (hc : c ≤ 51) :
    Calls Try.prog 97 #[.agg #[.int .i64 1, .int .i64 0, .int .i64 z], .int .i64 (c : Int)] w fun e w' => e = .returned (.bool (cmpI ((c / 13 : Nat) : Int) z == 0)) ∧ Below w.heap.size w w' := by
  have HS := Lib.hid (fun u => suit_any c u hc)
  have HC := Lib.hid (fun u => compare_any ((c / 13 : Nat) : Int) z u)
  have hmc : (c : Int).tmod 13 = ((c % 13 : Nat) : Int) := rfl
  have hdc : (c : Int) / 13 = ((c / 13 : Nat) : Int) := rfl
  have ha2 : c % 13 ≤ 12 := by omega
  have hd2 : c / 13 ≤ 51 := by omega
  have Hb0 := Lib.hid ((Below.refl _ w).alloc (Nat.le_refl _) (.cells #[.int .i64 1, .int .i64 0, .int .i64 z] 47))
  generalize c % 13 = a at *
  generalize c / 13 = d at *
  generalize cmpI (d : Int) z = C at *
  go_enter Try.func97, Try.ntmps97
  go_wp2
  obtain ⟨k0, k1, k2⟩ := alloc3_cells w (Value.int .i64 1) (Value.int .i64 0) (Value.int .i64 z) 47
  have hu : w.heap.size < (w.alloc (.cells #[Value.int .i64 1, Value.int .i64 0, Value.int .i64 z] 47)).heap.size := by simp
  generalize w.alloc (.cells #[Value.int .i64 1, Value.int .i64 0, Value.int .i64 z] 47) = u at *
  go_region_law (first | (go_simp; go_at_call 101; (with_reducible refine (HS.out _).mono ?_); rintro e w' ⟨rfl, rfl⟩))
  all_goals
    go_wp2_with (refine (HC.out _).mono ?_; rintro e w' ⟨rfl, rfl⟩)
    go_ret
    exact ⟨rfl, (Hb0.out.alloc (by omega) _).drew.alloc (by simp; omega) _⟩
set_option maxRecDepth 100000 in
set_option maxHeartbeats 4000000 in
theorem ask_11 (z : Int) (c : Nat) (w : World) (hc : c ≤ 51) :
    Calls Try.prog 97 #[.agg #[.int .i64 1, .int .i64 1, .int .i64 z], .int .i64 (c : Int)] w fun e w' => e = .returned (.bool (cmpI ((c / 13 : Nat) : Int) z == -1)) ∧ Below w.heap.size w w' := by
  have HS := Lib.hid (fun u => suit_any c u hc)
  have HC := Lib.hid (fun u => compare_any ((c / 13 : Nat) : Int) z u)
  have hmc : (c : Int).tmod 13 = ((c % 13 : Nat) : Int) := rfl
  have hdc : (c : Int) / 13 = ((c / 13 : Nat) : Int) := rfl
  have ha2 : c % 13 ≤ 12 := by omega
  have hd2 : c / 13 ≤ 51 := by omega
  have Hb0 := Lib.hid ((Below.refl _ w).alloc (Nat.le_refl _) (.cells #[.int .i64 1, .int .i64 1, .int .i64 z] 47))
  generalize c % 13 = a at *
  generalize c / 13 = d at *
  generalize cmpI (d : Int) z = C at *
  go_enter Try.func97, Try.ntmps97
  go_wp2
  obtain ⟨k0, k1, k2⟩ := alloc3_cells w (Value.int .i64 1) (Value.int .i64 1) (Value.int .i64 z) 47
  have hu : w.heap.size < (w.alloc (.cells #[Value.int .i64 1, Value.int .i64 1, Value.int .i64 z] 47)).heap.size := by simp
  generalize w.alloc (.cells #[Value.int .i64 1, Value.int .i64 1, Value.int .i64 z] 47) = u at *
  go_region_law (first | (go_simp; go_at_call 101; (with_reducible refine (HS.out _).mono ?_); rintro e w' ⟨rfl, rfl⟩))
  all_goals
    go_wp2_with (refine (HC.out _).mono ?_; rintro e w' ⟨rfl, rfl⟩)
    go_ret
    exact ⟨rfl, (Hb0.out.alloc (by omega) _).drew.alloc (by simp; omega) _⟩
set_option maxRecDepth 100000 in
set_option maxHeartbeats 4000000 in
theorem ask_12 (z : Int) (c : Nat) (w : World) (hc : c ≤ 51) :
    Calls Try.prog 97 #[.agg #[.int .i64 1, .int .i64 2, .int .i64 z], .int .i64 (c : Int)] w fun e w' => e = .returned (.bool (cmpI ((c / 13 : Nat) : Int) z == 1)) ∧ Below w.heap.size w w' := by
  have HS := Lib.hid (fun u => suit_any c u hc)
  have HC := Lib.hid (fun u => compare_any ((c / 13 : Nat) : Int) z u)
  have hmc : (c : Int).tmod 13 = ((c % 13 : Nat) : Int) := rfl
  have hdc : (c : Int) / 13 = ((c / 13 : Nat) : Int) := rfl
  have ha2 : c % 13 ≤ 12 := by omega
  have hd2 : c / 13 ≤ 51 := by omega
  have Hb0 := Lib.hid ((Below.refl _ w).alloc (Nat.le_refl _) (.cells #[.int .i64 1, .int .i64 2, .int .i64 z] 47))
  generalize c % 13 = a at *
  generalize c / 13 = d at *
  generalize cmpI (d : Int) z = C at *
  go_enter Try.func97, Try.ntmps97
  go_wp2
  obtain ⟨k0, k1, k2⟩ := alloc3_cells w (Value.int .i64 1) (Value.int .i64 2) (Value.int .i64 z) 47
  have hu : w.heap.size < (w.alloc (.cells #[Value.int .i64 1, Value.int .i64 2, Value.int .i64 z] 47)).heap.size := by simp
  generalize w.alloc (.cells #[Value.int .i64 1, Value.int .i64 2, Value.int .i64 z] 47) = u at *
  go_region_law (first | (go_simp; go_at_call 101; (with_reducible refine (HS.out _).mono ?_); rintro e w' ⟨rfl, rfl⟩))
  all_goals
    go_wp2_with (refine (HC.out _).mono ?_; rintro e w' ⟨rfl, rfl⟩)
    go_ret
    exact ⟨rfl, (Hb0.out.alloc (by omega) _).drew.alloc (by simp; omega) _⟩
set_option maxRecDepth 100000 in
set_option maxHeartbeats 4000000 in
theorem ask_20 (z : Int) (c : Nat) (w : World) (hc : c ≤ 51) :
    Calls Try.prog 97 #[.agg #[.int .i64 2, .int .i64 0, .int .i64 z], .int .i64 (c : Int)] w fun e w' => e = .returned (.bool (cmpI (c : Int) z == 0)) ∧ Below w.heap.size w w' := by
  have HS := Lib.hid (fun u => suit_any c u hc)
  have HC := Lib.hid (fun u => compare_any (c : Int) z u)
  have hmc : (c : Int).tmod 13 = ((c % 13 : Nat) : Int) := rfl
  have hdc : (c : Int) / 13 = ((c / 13 : Nat) : Int) := rfl
  have ha2 : c % 13 ≤ 12 := by omega
  have hd2 : c / 13 ≤ 51 := by omega
  have Hb0 := Lib.hid ((Below.refl _ w).alloc (Nat.le_refl _) (.cells #[.int .i64 2, .int .i64 0, .int .i64 z] 47))
  generalize c % 13 = a at *
  generalize c / 13 = d at *
  generalize cmpI (c : Int) z = C at *
  go_enter Try.func97, Try.ntmps97
  go_wp2
  obtain ⟨k0, k1, k2⟩ := alloc3_cells w (Value.int .i64 2) (Value.int .i64 0) (Value.int .i64 z) 47
  have hu : w.heap.size < (w.alloc (.cells #[Value.int .i64 2, Value.int .i64 0, Value.int .i64 z] 47)).heap.size := by simp
  generalize w.alloc (.cells #[Value.int .i64 2, Value.int .i64 0, Value.int .i64 z] 47) = u at *
  go_region_law (first | (go_simp; go_at_call 101; (with_reducible refine (HS.out _).mono ?_); rintro e w' ⟨rfl, rfl⟩))
  all_goals
    go_wp2_with (refine (HC.out _).mono ?_; rintro e w' ⟨rfl, rfl⟩)
    go_ret
    exact ⟨rfl, (Hb0.out.alloc (by omega) _).drew.alloc (by simp; omega) _⟩
set_option maxRecDepth 100000 in
set_option maxHeartbeats 4000000 in
theorem ask_21 (z : Int) (c : Nat) (w : World) (hc : c ≤ 51) :
    Calls Try.prog 97 #[.agg #[.int .i64 2, .int .i64 1, .int .i64 z], .int .i64 (c : Int)] w fun e w' => e = .returned (.bool (cmpI (c : Int) z == -1)) ∧ Below w.heap.size w w' := by
  have HS := Lib.hid (fun u => suit_any c u hc)
  have HC := Lib.hid (fun u => compare_any (c : Int) z u)
  have hmc : (c : Int).tmod 13 = ((c % 13 : Nat) : Int) := rfl
  have hdc : (c : Int) / 13 = ((c / 13 : Nat) : Int) := rfl
  have ha2 : c % 13 ≤ 12 := by omega
  have hd2 : c / 13 ≤ 51 := by omega
  have Hb0 := Lib.hid ((Below.refl _ w).alloc (Nat.le_refl _) (.cells #[.int .i64 2, .int .i64 1, .int .i64 z] 47))
  generalize c % 13 = a at *
  generalize c / 13 = d at *
  generalize cmpI (c : Int) z = C at *
  go_enter Try.func97, Try.ntmps97
  go_wp2
  obtain ⟨k0, k1, k2⟩ := alloc3_cells w (Value.int .i64 2) (Value.int .i64 1) (Value.int .i64 z) 47
  have hu : w.heap.size < (w.alloc (.cells #[Value.int .i64 2, Value.int .i64 1, Value.int .i64 z] 47)).heap.size := by simp
  generalize w.alloc (.cells #[Value.int .i64 2, Value.int .i64 1, Value.int .i64 z] 47) = u at *
  go_region_law (first | (go_simp; go_at_call 101; (with_reducible refine (HS.out _).mono ?_); rintro e w' ⟨rfl, rfl⟩))
  all_goals
    go_wp2_with (refine (HC.out _).mono ?_; rintro e w' ⟨rfl, rfl⟩)
    go_ret
    exact ⟨rfl, (Hb0.out.alloc (by omega) _).drew.alloc (by simp; omega) _⟩
set_option maxRecDepth 100000 in
set_option maxHeartbeats 4000000 in
theorem ask_22 (z : Int) (c : Nat) (w : World) (hc : c ≤ 51) :
    Calls Try.prog 97 #[.agg #[.int .i64 2, .int .i64 2, .int .i64 z], .int .i64 (c : Int)] w fun e w' => e = .returned (.bool (cmpI (c : Int) z == 1)) ∧ Below w.heap.size w w' := by
  have HS := Lib.hid (fun u => suit_any c u hc)
  have HC := Lib.hid (fun u => compare_any (c : Int) z u)
  have hmc : (c : Int).tmod 13 = ((c % 13 : Nat) : Int) := rfl
  have hdc : (c : Int) / 13 = ((c / 13 : Nat) : Int) := rfl
  have ha2 : c % 13 ≤ 12 := by omega
  have hd2 : c / 13 ≤ 51 := by omega
  have Hb0 := Lib.hid ((Below.refl _ w).alloc (Nat.le_refl _) (.cells #[.int .i64 2, .int .i64 2, .int .i64 z] 47))
  generalize c % 13 = a at *
  generalize c / 13 = d at *
  generalize cmpI (c : Int) z = C at *
  go_enter Try.func97, Try.ntmps97
  go_wp2
  obtain ⟨k0, k1, k2⟩ := alloc3_cells w (Value.int .i64 2) (Value.int .i64 2) (Value.int .i64 z) 47
  have hu : w.heap.size < (w.alloc (.cells #[Value.int .i64 2, Value.int .i64 2, Value.int .i64 z] 47)).heap.size := by simp
  generalize w.alloc (.cells #[Value.int .i64 2, Value.int .i64 2, Value.int .i64 z] 47) = u at *
  go_region_law (first | (go_simp; go_at_call 101; (with_reducible refine (HS.out _).mono ?_); rintro e w' ⟨rfl, rfl⟩))
  all_goals
    go_wp2_with (refine (HC.out _).mono ?_; rintro e w' ⟨rfl, rfl⟩)
    go_ret
    exact ⟨rfl, (Hb0.out.alloc (by omega) _).drew.alloc (by simp; omega) _⟩
theorem holds_any (x y z : Int) (c : Nat) (w : World) (hc : c ≤ 51) (hx : 0 ≤ x ∧ x ≤ 2) (hy : 0 ≤ y ∧ y ≤ 2) :
    Calls Try.prog 97 #[.agg #[.int .i64 x, .int .i64 y, .int .i64 z], .int .i64 (c : Int)] w fun e w' => e = .returned (.bool (holdB x y z c)) ∧ Below w.heap.size w w' := by
  rcases (show x = 0 ∨ x = 1 ∨ x = 2 by omega) with rfl | rfl | rfl
  · rcases (show y = 0 ∨ y = 1 ∨ y = 2 by omega) with rfl | rfl | rfl
    · exact (ask_00 z c w hc).mono fun e w' ⟨h1, h2⟩ => ⟨h1.trans (ret_bool (say_eq 0 _ z (by omega))), h2⟩
    · exact (ask_01 z c w hc).mono fun e w' ⟨h1, h2⟩ => ⟨h1.trans (ret_bool (say_eq 1 _ z (by omega))), h2⟩
    · exact (ask_02 z c w hc).mono fun e w' ⟨h1, h2⟩ => ⟨h1.trans (ret_bool (say_eq 2 _ z (by omega))), h2⟩
  · rcases (show y = 0 ∨ y = 1 ∨ y = 2 by omega) with rfl | rfl | rfl
    · exact (ask_10 z c w hc).mono fun e w' ⟨h1, h2⟩ => ⟨h1.trans (ret_bool (say_eq 0 _ z (by omega))), h2⟩
    · exact (ask_11 z c w hc).mono fun e w' ⟨h1, h2⟩ => ⟨h1.trans (ret_bool (say_eq 1 _ z (by omega))), h2⟩
    · exact (ask_12 z c w hc).mono fun e w' ⟨h1, h2⟩ => ⟨h1.trans (ret_bool (say_eq 2 _ z (by omega))), h2⟩
  · rcases (show y = 0 ∨ y = 1 ∨ y = 2 by omega) with rfl | rfl | rfl
    · exact (ask_20 z c w hc).mono fun e w' ⟨h1, h2⟩ => ⟨h1.trans (ret_bool (say_eq 0 _ z (by omega))), h2⟩
    · exact (ask_21 z c w hc).mono fun e w' ⟨h1, h2⟩ => ⟨h1.trans (ret_bool (say_eq 1 _ z (by omega))), h2⟩
    · exact (ask_22 z c w hc).mono fun e w' ⟨h1, h2⟩ => ⟨h1.trans (ret_bool (say_eq 2 _ z (by omega))), h2⟩
theorem teAt_at {fs : List Int} {k : Nat} (h : teAt fs k = true) : (0 ≤ fs.getD (k * 3) 0 ∧ fs.getD (k * 3) 0 ≤ 2) ∧ (0 ≤ fs.getD (k * 3 + 1) 0 ∧ fs.getD (k * 3 + 1) 0 ≤ 2) ∧ (0 ≤ fs.getD (k * 3 + 2) 0 ∧ fs.getD (k * 3 + 2) 0 ≤ 51) := by
  unfold teAt teB at h
  rw [Bool.and_eq_true, Bool.and_eq_true] at h
  exact ⟨rB_yes h.1.1, rB_yes h.1.2, rB_yes h.2⟩
theorem testsB_at {n : Nat} {fs : List Int} (h : testsB n fs = true) : (1 ≤ n ∧ n ≤ 6) ∧ ∀ k, k < n → teAt fs k = true := by
  unfold testsB at h
  rw [Bool.and_eq_true] at h
  have h1 := rB_yes h.1
  exact ⟨by omega, all_at h.2⟩
set_option maxHeartbeats 1000000 in
theorem clo_pass (x y z : Int) (c : Nat) (B : Nat) (w : World) (hc : c ≤ 51) (hx : 0 ≤ x ∧ x ≤ 2) (hy : 0 ≤ y ∧ y ≤ 2) (c1 : w.cell? ⟨B, 0, none⟩ = some (.int .i64 (c : Int))) :
    Calls Try.prog 96 #[.agg #[.int .i64 x, .int .i64 y, .int .i64 z], .pointer (some ⟨B, 0, none⟩)] w fun e w' => e = .returned (.bool (!holdB x y z c)) ∧ Below w.heap.size w w' := by
  have hb0 := (Below.refl _ w).alloc (Nat.le_refl _) (.cells #[.int .i64 x, .int .i64 y, .int .i64 z] 47)
  have H := Lib.hid (fun u => holds_any x y z c u hc hx hy)
  have Hb0 := Lib.hid hb0
  have c2 := cell_keep hb0 c1
  clear hb0
  generalize holdB x y z c = R at *
  go_enter Try.func96, Try.ntmps96
  go_wp2_with (refine (H.out _).mono ?_; rintro e w' ⟨rfl, hb⟩; have Hb2 := Lib.hid (below_step Hb0.out hb (Nat.le_refl _)); clear hb)
  go_ret
  exact ⟨rfl, Hb2.out⟩
set_option maxHeartbeats 1000000 in
theorem passes_any (n : Nat) (fs : List Int) (v : Value) (c : Nat) (w : World) (hn : n ≤ 1048576) (h : SlK 3 w v n fs) (hv : testsB n fs = true) (hc : c ≤ 51) :
    Calls Try.prog 82 #[v, .int .i64 (c : Int)] w fun e w' => e = .returned (.bool (passB n fs c)) ∧ Below w.heap.size w w' := by
  have hb0 := (Below.refl _ w).alloc (Nat.le_refl _) (.cells #[.int .i64 (c : Int)] 2)
  have b1 := (Boxed.new w 2 (.int .i64 (c : Int))).cell
  have H := Lib.hid (countTest_any n fs v 96 #[] #[.pointer (some ⟨w.heap.size, 0, none⟩)] (fun k => !holdAt fs c k) _ hn (h.later hb0) (run_enter Try.func96 (by kernel_rfl) (by kernel_rfl)) (fun k w' hk hb => by
    have ht := teAt_at ((testsB_at hv).2 k hk)
    exact clo_pass _ _ _ c w.heap.size w' hc ht.1 ht.2.1 (cell_keep hb b1)))
  have Hb0 := Lib.hid hb0
  have E := Lib.hid (show (((cntQ (fun k => !holdAt fs c k) n : Nat) : Int) == 0) = passB n fs c from cntQ_none (holdAt fs c) n)
  have hle := cntQ_le (fun k => !holdAt fs c k) n
  clear hb0 b1
  obtain ⟨-, p, cap, rfl, -⟩ := h
  generalize passB n fs c = R at *
  generalize cntQ (fun k => !holdAt fs c k) n = C at *
  go_enter Try.func82, Try.ntmps82
  go_wp2_with (refine (H.out).mono ?_; rintro e w' ⟨rfl, hb⟩; have Hb2 := Lib.hid (below_step Hb0.out hb (Nat.le_refl _)); clear hb)
  go_ret
  exact ⟨ret_bool E.out, Hb2.out⟩
set_option maxRecDepth 100000 in
set_option maxHeartbeats 8000000 in
theorem passes_spec (n : Nat) (fs : List Int) (v : Value) (c : Nat) (w : World) (hn : n ≤ 1048576) (h : SlK 3 w v n fs) (hv : testsB n fs = true) (hc : c ≤ 51) :
    Calls Try.prog 80 #[v, .int .i64 (c : Int)] w fun e w' => e = .returned (.bool (passB n fs c)) ∧ Drawn w w' := by
  obtain ⟨-, p, cap, rfl, hf⟩ := h
  have Hf := Lib.hid hf
  clear hf
  have Hno := Lib.hid (fun k (hk : k < n) h => show passB n fs c = false from all_not (p := holdAt fs c) k hk h)
  have Hyes := Lib.hid (fun h => show passB n fs c = true from all_of (p := holdAt fs c) h)
  have Hat := Lib.hid (fun k => show holdAt fs c k = sayB (fs.getD (k * 3 + 1) 0).toNat ((askN (fs.getD (k * 3) 0).toNat c : Nat) : Int) (fs.getD (k * 3 + 2) 0) from rfl)
  have Hte := Lib.hid (fun k hk => teAt_at ((testsB_at hv).2 k hk))
  have hmc : (c : Int).tmod 13 = ((c % 13 : Nat) : Int) := rfl
  have hdc : (c : Int) / 13 = ((c / 13 : Nat) : Int) := rfl
  have ha2 : c % 13 ≤ 12 := by omega
  have hd2 : c / 13 ≤ 51 := by omega
  clear hv
  generalize passB n fs c = R at *
  go_enter Try.func80, Try.ntmps80
  go_wp2
  go_loopw [10] (fun i wr => ∃ k : Nat, k ≤ n ∧ i = .int .i64 (k : Int) ∧ Hid (∀ j, j < k → holdAt fs c j = true) ∧ Drawn w wr) (fun i _ => n - (intOf i).toNat)
  case atStart => exact ⟨0, Nat.zero_le _, rfl, Lib.hid (fun j h => absurd h (by omega)), Drawn.refl _⟩
  case round =>
    obtain ⟨k, hk, rfl, hdn, hw⟩ := hrel
    by_cases hlt : k < n
    · obtain ⟨hcap, b, off, rfl, hbs, hcl⟩ := Hf.out (by omega)
      have c0 := (hw.cell _).trans (hcl (k * 3) (by omega))
      have c1 : wr.cell? ⟨b, off + k * 3 + 1, none⟩ = some (Value.int .i64 (fs.getD (k * 3 + 1) 0)) := (hw.cell _).trans (hcl (k * 3 + 1) (by omega))
      have c2 : wr.cell? ⟨b, off + k * 3 + 2, none⟩ = some (Value.int .i64 (fs.getD (k * 3 + 2) 0)) := (hw.cell _).trans (hcl (k * 3 + 2) (by omega))
      have Hat2 := Lib.hid (Hat.out k)
      have Hno2 := Lib.hid (fun h => Hno.out k hlt h)
      obtain ⟨hx, hy, hz⟩ := Hte.out k hlt
      have HD : Hid (holdAt fs c k = true → ∀ j, j < k + 1 → holdAt fs c j = true) := Lib.hid (fun hg j hj => by
        by_cases e : j = k
        · subst e; exact hg
        · exact hdn.out j (by omega))
      clear hcl Hno Hyes Hat hdn Hte
      generalize fs.getD (k * 3) 0 = X at *
      generalize fs.getD (k * 3 + 1) 0 = Y at *
      generalize fs.getD (k * 3 + 2) 0 = Z at *
      generalize holdAt fs c k = g at *
      generalize ha : c % 13 = a at *
      generalize hd : c / 13 = d at *
      have Ha := Lib.hid ha
      have Hd := Lib.hid hd
      clear ha hd
      rcases (show X = 0 ∨ X = 1 ∨ X = 2 by omega) with rfl | rfl | rfl
      · rcases (show Y = 0 ∨ Y = 1 ∨ Y = 2 by omega) with rfl | rfl | rfl
        · have Hg := Lib.hid (show g = decide ((a : Int) = Z) by rw [Hat2.out, show ((askN (0 : Int).toNat c : Nat) : Int) = (a : Int) by show ((c % 13 : Nat) : Int) = _; rw [Ha.out]]; rfl)
          clear Hat2 Ha Hd hx hy
          by_cases hr : (a : Int) = Z
          · have HD2 := Lib.hid (HD.out (by rw [Hg.out]; exact decide_eq_true hr))
            have ht : ((a : Int) != Z) = false := by simp [hr]
            clear HD Hno2 Hg hr
            go_wp2
            go_roundw
            case rel => exact ⟨k + 1, by omega, by go_num, HD2, hw⟩
            case measure => simp [intOf]; omega
          · have HR := Lib.hid (Hno2.out (by rw [Hg.out]; exact decide_eq_false hr))
            have ht : ((a : Int) != Z) = true := by simp [hr]
            clear HD Hno2 Hg hr
            go_wp2
            go_ret
            exact ⟨ret_bool HR.out.symm, hw⟩
        · have Hg := Lib.hid (show g = decide ((a : Int) < Z) by rw [Hat2.out, show ((askN (0 : Int).toNat c : Nat) : Int) = (a : Int) by show ((c % 13 : Nat) : Int) = _; rw [Ha.out]]; rfl)
          clear Hat2 Ha Hd hx hy
          by_cases hr : (a : Int) < Z
          · have HD2 := Lib.hid (HD.out (by rw [Hg.out]; exact decide_eq_true hr))
            have ht : decide (Z ≤ (a : Int)) = false := by exact decide_eq_false (by omega)
            clear HD Hno2 Hg hr
            go_wp2
            go_roundw
            case rel => exact ⟨k + 1, by omega, by go_num, HD2, hw⟩
            case measure => simp [intOf]; omega
          · have HR := Lib.hid (Hno2.out (by rw [Hg.out]; exact decide_eq_false hr))
            have ht : decide (Z ≤ (a : Int)) = true := by exact decide_eq_true (by omega)
            clear HD Hno2 Hg hr
            go_wp2
            go_ret
            exact ⟨ret_bool HR.out.symm, hw⟩
        · have Hg := Lib.hid (show g = decide (Z < (a : Int)) by rw [Hat2.out, show ((askN (0 : Int).toNat c : Nat) : Int) = (a : Int) by show ((c % 13 : Nat) : Int) = _; rw [Ha.out]]; rfl)
          clear Hat2 Ha Hd hx hy
          by_cases hr : Z < (a : Int)
          · have HD2 := Lib.hid (HD.out (by rw [Hg.out]; exact decide_eq_true hr))
            have ht : decide ((a : Int) ≤ Z) = false := by exact decide_eq_false (by omega)
            clear HD Hno2 Hg hr
            go_wp2
            go_roundw
            case rel => exact ⟨k + 1, by omega, by go_num, HD2, hw⟩
            case measure => simp [intOf]; omega
          · have HR := Lib.hid (Hno2.out (by rw [Hg.out]; exact decide_eq_false hr))
            have ht : decide ((a : Int) ≤ Z) = true := by exact decide_eq_true (by omega)
            clear HD Hno2 Hg hr
            go_wp2
            go_ret
            exact ⟨ret_bool HR.out.symm, hw⟩
      · rcases (show Y = 0 ∨ Y = 1 ∨ Y = 2 by omega) with rfl | rfl | rfl
        · have Hg := Lib.hid (show g = decide ((d : Int) = Z) by rw [Hat2.out, show ((askN (1 : Int).toNat c : Nat) : Int) = (d : Int) by show ((c / 13 : Nat) : Int) = _; rw [Hd.out]]; rfl)
          clear Hat2 Ha Hd hx hy
          by_cases hr : (d : Int) = Z
          · have HD2 := Lib.hid (HD.out (by rw [Hg.out]; exact decide_eq_true hr))
            have ht : ((d : Int) != Z) = false := by simp [hr]
            clear HD Hno2 Hg hr
            go_wp2
            go_roundw
            case rel => exact ⟨k + 1, by omega, by go_num, HD2, hw⟩
            case measure => simp [intOf]; omega
          · have HR := Lib.hid (Hno2.out (by rw [Hg.out]; exact decide_eq_false hr))
            have ht : ((d : Int) != Z) = true := by simp [hr]
            clear HD Hno2 Hg hr
            go_wp2
            go_ret
            exact ⟨ret_bool HR.out.symm, hw⟩
        · have Hg := Lib.hid (show g = decide ((d : Int) < Z) by rw [Hat2.out, show ((askN (1 : Int).toNat c : Nat) : Int) = (d : Int) by show ((c / 13 : Nat) : Int) = _; rw [Hd.out]]; rfl)
          clear Hat2 Ha Hd hx hy
          by_cases hr : (d : Int) < Z
          · have HD2 := Lib.hid (HD.out (by rw [Hg.out]; exact decide_eq_true hr))
            have ht : decide (Z ≤ (d : Int)) = false := by exact decide_eq_false (by omega)
            clear HD Hno2 Hg hr
            go_wp2
            go_roundw
            case rel => exact ⟨k + 1, by omega, by go_num, HD2, hw⟩
            case measure => simp [intOf]; omega
          · have HR := Lib.hid (Hno2.out (by rw [Hg.out]; exact decide_eq_false hr))
            have ht : decide (Z ≤ (d : Int)) = true := by exact decide_eq_true (by omega)
            clear HD Hno2 Hg hr
            go_wp2
            go_ret
            exact ⟨ret_bool HR.out.symm, hw⟩
        · have Hg := Lib.hid (show g = decide (Z < (d : Int)) by rw [Hat2.out, show ((askN (1 : Int).toNat c : Nat) : Int) = (d : Int) by show ((c / 13 : Nat) : Int) = _; rw [Hd.out]]; rfl)
          clear Hat2 Ha Hd hx hy
          by_cases hr : Z < (d : Int)
          · have HD2 := Lib.hid (HD.out (by rw [Hg.out]; exact decide_eq_true hr))
            have ht : decide ((d : Int) ≤ Z) = false := by exact decide_eq_false (by omega)
            clear HD Hno2 Hg hr
            go_wp2
            go_roundw
            case rel => exact ⟨k + 1, by omega, by go_num, HD2, hw⟩
            case measure => simp [intOf]; omega
          · have HR := Lib.hid (Hno2.out (by rw [Hg.out]; exact decide_eq_false hr))
            have ht : decide ((d : Int) ≤ Z) = true := by exact decide_eq_true (by omega)
            clear HD Hno2 Hg hr
            go_wp2
            go_ret
            exact ⟨ret_bool HR.out.symm, hw⟩
      · rcases (show Y = 0 ∨ Y = 1 ∨ Y = 2 by omega) with rfl | rfl | rfl
        · have Hg := Lib.hid (show g = decide ((c : Int) = Z) by rw [Hat2.out, show ((askN (2 : Int).toNat c : Nat) : Int) = (c : Int) from rfl]; rfl)
          clear Hat2 Ha Hd hx hy
          by_cases hr : (c : Int) = Z
          · have HD2 := Lib.hid (HD.out (by rw [Hg.out]; exact decide_eq_true hr))
            have ht : ((c : Int) != Z) = false := by simp [hr]
            clear HD Hno2 Hg hr
            go_wp2
            go_roundw
            case rel => exact ⟨k + 1, by omega, by go_num, HD2, hw⟩
            case measure => simp [intOf]; omega
          · have HR := Lib.hid (Hno2.out (by rw [Hg.out]; exact decide_eq_false hr))
            have ht : ((c : Int) != Z) = true := by simp [hr]
            clear HD Hno2 Hg hr
            go_wp2
            go_ret
            exact ⟨ret_bool HR.out.symm, hw⟩
        · have Hg := Lib.hid (show g = decide ((c : Int) < Z) by rw [Hat2.out, show ((askN (2 : Int).toNat c : Nat) : Int) = (c : Int) from rfl]; rfl)
          clear Hat2 Ha Hd hx hy
          by_cases hr : (c : Int) < Z
          · have HD2 := Lib.hid (HD.out (by rw [Hg.out]; exact decide_eq_true hr))
            have ht : decide (Z ≤ (c : Int)) = false := by exact decide_eq_false (by omega)
            clear HD Hno2 Hg hr
            go_wp2
            go_roundw
            case rel => exact ⟨k + 1, by omega, by go_num, HD2, hw⟩
            case measure => simp [intOf]; omega
          · have HR := Lib.hid (Hno2.out (by rw [Hg.out]; exact decide_eq_false hr))
            have ht : decide (Z ≤ (c : Int)) = true := by exact decide_eq_true (by omega)
            clear HD Hno2 Hg hr
            go_wp2
            go_ret
            exact ⟨ret_bool HR.out.symm, hw⟩
        · have Hg := Lib.hid (show g = decide (Z < (c : Int)) by rw [Hat2.out, show ((askN (2 : Int).toNat c : Nat) : Int) = (c : Int) from rfl]; rfl)
          clear Hat2 Ha Hd hx hy
          by_cases hr : Z < (c : Int)
          · have HD2 := Lib.hid (HD.out (by rw [Hg.out]; exact decide_eq_true hr))
            have ht : decide ((c : Int) ≤ Z) = false := by exact decide_eq_false (by omega)
            clear HD Hno2 Hg hr
            go_wp2
            go_roundw
            case rel => exact ⟨k + 1, by omega, by go_num, HD2, hw⟩
            case measure => simp [intOf]; omega
          · have HR := Lib.hid (Hno2.out (by rw [Hg.out]; exact decide_eq_false hr))
            have ht : decide ((c : Int) ≤ Z) = true := by exact decide_eq_true (by omega)
            clear HD Hno2 Hg hr
            go_wp2
            go_ret
            exact ⟨ret_bool HR.out.symm, hw⟩
    · obtain rfl : k = n := by omega
      have HR := Lib.hid (Hyes.out hdn.out)
      clear Hno Hyes Hat hdn Hte
      go_wp2
      go_ret
      exact ⟨ret_bool HR.out.symm, hw⟩
end Go.Proofs.Ytfipcpbibmhjoaa
