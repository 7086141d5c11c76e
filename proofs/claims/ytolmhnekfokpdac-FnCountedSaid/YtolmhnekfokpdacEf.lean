/- Contracts: ways of riffles, in both texts. -/
import Derived.Test.YtolmhnekfokpdacEe
set_option linter.unusedVariables false
namespace Go.Proofs.Ytolmhnekfokpdac
open Go.RowKit

theorem parts_any (t : Nat) (w : World) (h1 : 1 ≤ t) (h4 : t ≤ 4) :
    Calls Try.prog 82 #[.int .i64 (t : Int)] w fun e w' => e = .returned (.int .i64 ((2 ^ t : Nat) : Int)) ∧ w = w' := by
  obtain rfl | rfl | rfl | rfl : t = 1 ∨ t = 2 ∨ t = 3 ∨ t = 4 := by omega
  · show Calls Try.prog 82 #[.int .i64 1] w fun e w' => e = .returned (.int .i64 2) ∧ w = w'
    go_enter Try.func82, Try.ntmps82
    go_wp2
    go_ret
    exact ⟨rfl, rfl⟩
  · show Calls Try.prog 82 #[.int .i64 2] w fun e w' => e = .returned (.int .i64 4) ∧ w = w'
    go_enter Try.func82, Try.ntmps82
    go_wp2
    go_ret
    exact ⟨rfl, rfl⟩
  · show Calls Try.prog 82 #[.int .i64 3] w fun e w' => e = .returned (.int .i64 8) ∧ w = w'
    go_enter Try.func82, Try.ntmps82
    go_wp2
    go_ret
    exact ⟨rfl, rfl⟩
  · show Calls Try.prog 82 #[.int .i64 4] w fun e w' => e = .returned (.int .i64 16) ∧ w = w'
    go_enter Try.func82, Try.ntmps82
    go_wp2
    go_ret
    exact ⟨rfl, rfl⟩

theorem pow_bd (t : Nat) (h1 : 1 ≤ t) (h4 : t ≤ 4) : 2 ≤ 2 ^ t ∧ 2 ^ t ≤ 16 := by
  obtain rfl | rfl | rfl | rfl : t = 1 ∨ t = 2 ∨ t = 3 ∨ t = 4 := by omega
  all_goals decide
theorem ways_impl (n r t : Nat) (w : World) (hn : n ≤ 12) (h1 : 1 ≤ t) (h4 : t ≤ 4) (hr1 : 1 ≤ r) (hr : r ≤ n) :
    Calls Try.prog 83 #[.int .i64 (n : Int), .int .i64 (r : Int), .int .i64 (t : Int)] w fun e w' => e = .returned (.int .i64 ((setsR (2 ^ t + n - r) n : Nat) : Int)) ∧ w = w' := by
  obtain ⟨p1, p2⟩ := pow_bd t h1 h4
  have Hp := Lib.hid (fun z => parts_any t z h1 h4)
  have Hc := Lib.hid (fun z => countSets_any (2 ^ t + n - r) n z (by omega) (by omega))
  generalize 2 ^ t = q at *
  have hc : (q : Int) + (n : Int) - (r : Int) = ((q + n - r : Nat) : Int) := by omega
  have Hcast := Lib.hid hc
  clear hc
  go_enter Try.func83, Try.ntmps83
  go_wp2_with fail
  refine (Hp.out _).mono ?_
  rintro e w' ⟨rfl, rfl⟩
  go_wp2_with fail
  rw [Hcast.out]
  refine (Hc.out _).mono ?_
  rintro e w' ⟨rfl, rfl⟩
  go_wp2
  go_ret
  exact ⟨rfl, rfl⟩

abbrev okW (a b c : Int) : Prop := (1 ≤ a ∧ a ≤ 12) ∧ (1 ≤ b ∧ b ≤ a) ∧ (1 ≤ c ∧ c ≤ 4)
def ok_RiffleWays (a b c : Int) : Bool := decide (okW a b c)
def res_RiffleWays (a b c : Int) : Int := if okW a b c then ((setsR (2 ^ c.toNat + a.toNat - b.toNat) a.toNat : Nat) : Int) else 0
theorem rways_yes (a b c : Int) (h : okW a b c) : ok_RiffleWays a b c = true ∧ res_RiffleWays a b c = ((setsR (2 ^ c.toNat + a.toNat - b.toNat) a.toNat : Nat) : Int) := ⟨decide_eq_true h, if_pos h⟩
theorem rways_no (a b c : Int) (h : ¬ okW a b c) : ok_RiffleWays a b c = false ∧ res_RiffleWays a b c = 0 := ⟨decide_eq_false h, if_neg h⟩
theorem times_yes (n : Int) (w : World) (h1 : 1 ≤ n) (h2 : n ≤ 4) : Calls Try.prog 81 #[.int .i64 n] w fun e w' => e = .returned (.bool true) ∧ w = w' := by
  go_enter Try.func81, Try.ntmps81
  go_wp2
  go_ret
  exact ⟨rfl, rfl⟩
theorem times_no (n : Int) (w : World) (h : n < 1 ∨ 4 < n) : Calls Try.prog 81 #[.int .i64 n] w fun e w' => e = .returned (.bool false) ∧ w = w' := by
  by_cases h1 : n < 1
  · clear h
    have d : decide (1 ≤ n) = false := decide_eq_false (by omega)
    go_enter Try.func81, Try.ntmps81
    go_wp2
    go_ret
    exact ⟨rfl, rfl⟩
  · have h2 : 4 < n := by omega
    have h1' : 1 ≤ n := by omega
    clear h
    have d : decide (n ≤ 4) = false := decide_eq_false (by omega)
    go_enter Try.func81, Try.ntmps81
    go_wp2
    go_ret
    exact ⟨rfl, rfl⟩
theorem impl_RiffleWays (a : Int) (al : -9223372036854775808 ≤ a) (au : a ≤ 9223372036854775807) (b : Int) (bl : -9223372036854775808 ≤ b) (bu : b ≤ 9223372036854775807) (c : Int) (cl : -9223372036854775808 ≤ c) (cu : c ≤ 9223372036854775807) (w : World) :
    Calls Try.prog 27 #[.int .i64 a, .int .i64 b, .int .i64 c] w fun e w' => e = .returned (.tuple #[.int .i64 (res_RiffleWays a b c), .bool (ok_RiffleWays a b c)]) ∧ Below w.heap.size w w' := by
  by_cases h : okW a b c
  · obtain ⟨e1, e2⟩ := rways_yes a b c h
    rw [e1, e2]
    obtain ⟨⟨a1, a2⟩, ⟨b1, b2⟩, c1, c2⟩ := h
    obtain ⟨n, rfl⟩ : ∃ n : Nat, a = n := ⟨a.toNat, by omega⟩
    obtain ⟨r, rfl⟩ : ∃ n : Nat, b = n := ⟨b.toNat, by omega⟩
    obtain ⟨t, rfl⟩ : ∃ n : Nat, c = n := ⟨c.toNat, by omega⟩
    rw [Int.toNat_natCast, Int.toNat_natCast, Int.toNat_natCast]
    have Hw := Lib.hid (ways_impl n r t w (by omega) (by omega) (by omega) (by omega) (by omega))
    have Ht := Lib.hid (times_yes (t : Int) w c1 c2)
    have d1 : decide ((n : Int) < 1) = false := decide_eq_false (by omega)
    have d2 : decide (12 < (n : Int)) = false := decide_eq_false (by omega)
    have d3 : decide ((r : Int) < 1) = false := decide_eq_false (by omega)
    have d4 : decide ((n : Int) < (r : Int)) = false := decide_eq_false (by omega)
    clear e1 e2
    go_enter Try.func27, Try.ntmps27
    go_wp2_with fail
    refine Ht.out.mono ?_
    rintro e w' ⟨rfl, rfl⟩
    go_wp2_with fail
    refine Hw.out.mono ?_
    rintro e w' ⟨rfl, rfl⟩
    go_wp2
    go_ret2
    exact ⟨rfl, Below.refl _ _⟩
  · obtain ⟨e1, e2⟩ := rways_no a b c h
    rw [e1, e2]
    clear e1 e2
    by_cases g1 : a < 1
    · have d1 : decide (a < 1) = true := decide_eq_true g1
      clear h
      go_enter Try.func27, Try.ntmps27
      go_wp2
      go_ret2
      exact ⟨rfl, Below.refl _ _⟩
    · have d1 : decide (a < 1) = false := decide_eq_false g1
      by_cases g2 : 12 < a
      · have d2 : decide (12 < a) = true := decide_eq_true g2
        clear h
        go_enter Try.func27, Try.ntmps27
        go_wp2
        go_ret2
        exact ⟨rfl, Below.refl _ _⟩
      · have d2 : decide (12 < a) = false := decide_eq_false g2
        by_cases g3 : b < 1
        · have d3 : decide (b < 1) = true := decide_eq_true g3
          clear h
          go_enter Try.func27, Try.ntmps27
          go_wp2
          go_ret2
          exact ⟨rfl, Below.refl _ _⟩
        · have d3 : decide (b < 1) = false := decide_eq_false g3
          by_cases g4 : a < b
          · have d4 : decide (a < b) = true := decide_eq_true g4
            clear h
            go_enter Try.func27, Try.ntmps27
            go_wp2
            go_ret2
            exact ⟨rfl, Below.refl _ _⟩
          · have d4 : decide (a < b) = false := decide_eq_false g4
            have h5 : c < 1 ∨ 4 < c := by
              by_cases h6 : 1 ≤ c ∧ c ≤ 4
              · exact absurd ⟨⟨by omega, by omega⟩, ⟨by omega, by omega⟩, h6⟩ h
              · omega
            have Ht := Lib.hid (times_no c w h5)
            clear h h5
            go_enter Try.func27, Try.ntmps27
            go_wp2_with fail
            refine Ht.out.mono ?_
            rintro e w' ⟨rfl, rfl⟩
            go_wp2
            go_ret2
            exact ⟨rfl, Below.refl _ _⟩
