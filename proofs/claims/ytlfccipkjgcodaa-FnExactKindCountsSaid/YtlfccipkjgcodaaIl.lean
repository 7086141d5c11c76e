/- Contracts: kinds of hands counted, whole. -/
import Derived.Test.YtlfccipkjgcodaaIk
set_option linter.unusedVariables false
namespace Go.Proofs.Ytlfccipkjgcodaa
open Go.RowKit

theorem spec_KindCounts (a : Int) (al : -9223372036854775808 ≤ a) (au : a ≤ 9223372036854775807) (b : Int) (bl : -9223372036854775808 ≤ b) (bu : b ≤ 9223372036854775807) (w : World) : Calls Try.prog 26 #[.int .i64 a, .int .i64 b] w fun e w' => ∃ r, e = .returned (.tuple #[r, .bool (ok_KindCounts a b)]) ∧ Sw (Value.int .i64) 0 w' r (res_KindCounts a b) w.heap.size w'.heap.size ∧ Below w.heap.size w w' := by
  by_cases h : okK a b
  · obtain ⟨e1, e2⟩ := kc_yes a b h
    rw [e1, e2]
    obtain ⟨⟨a1, a2⟩, b1, b2⟩ := h
    obtain ⟨n, rfl⟩ : ∃ n : Nat, a = n := ⟨a.toNat, by omega⟩
    obtain ⟨m, rfl⟩ : ∃ n : Nat, b = n := ⟨b.toNat, by omega⟩
    rw [Int.toNat_natCast, Int.toNat_natCast]
    exact kc_spec_yes n m w (by omega) (by omega) (by omega) (by omega)
  · obtain ⟨e1, e2⟩ := kc_no a b h
    rw [e1, e2]
    clear e1 e2
    by_cases g0 : 5 ≤ a ∧ a ≤ 13
    · have H0 := Lib.hid (in_yes a 5 13 w g0.1 g0.2)
      by_cases g1 : 1 ≤ b ∧ b ≤ 4
      · exact absurd (⟨g0, g1⟩) h
      · clear h
        have N1 := Lib.hid (in_no b 1 4 w (by omega))
        go_enter Try.func26, Try.ntmps26
        go_wp2_with fail
        refine H0.out.mono ?_
        rintro e w' ⟨rfl, rfl⟩
        go_wp2_with fail
        refine N1.out.mono ?_
        rintro e w' ⟨rfl, rfl⟩
        go_wp2
        go_ret2
        exact ⟨_, rfl, Sw.nil _ _ _ _ _ _ _, Below.refl _ _⟩
    · clear h
      have N0 := Lib.hid (in_no a 5 13 w (by omega))
      go_enter Try.func26, Try.ntmps26
      go_wp2_with fail
      refine N0.out.mono ?_
      rintro e w' ⟨rfl, rfl⟩
      go_wp2
      go_ret2
      exact ⟨_, rfl, Sw.nil _ _ _ _ _ _ _, Below.refl _ _⟩
theorem impl_KindCounts (a : Int) (al : -9223372036854775808 ≤ a) (au : a ≤ 9223372036854775807) (b : Int) (bl : -9223372036854775808 ≤ b) (bu : b ≤ 9223372036854775807) (w : World) : Calls Try.prog 27 #[.int .i64 a, .int .i64 b] w fun e w' => ∃ r, e = .returned (.tuple #[r, .bool (ok_KindCounts a b)]) ∧ Sw (Value.int .i64) 0 w' r (res_KindCounts a b) w.heap.size w'.heap.size ∧ Below w.heap.size w w' := by
  by_cases h : okK a b
  · obtain ⟨e1, e2⟩ := kc_yes a b h
    rw [e1, e2]
    obtain ⟨⟨a1, a2⟩, b1, b2⟩ := h
    obtain ⟨n, rfl⟩ : ∃ n : Nat, a = n := ⟨a.toNat, by omega⟩
    obtain ⟨m, rfl⟩ : ∃ n : Nat, b = n := ⟨b.toNat, by omega⟩
    rw [Int.toNat_natCast, Int.toNat_natCast]
    exact kc_impl_yes n m w (by omega) (by omega) (by omega) (by omega)
  · obtain ⟨e1, e2⟩ := kc_no a b h
    rw [e1, e2]
    clear e1 e2
    by_cases g0 : 5 ≤ a
    · skip
      have dd0 : decide (a < 5) = false := decide_eq_false (by omega)
      by_cases g1 : a ≤ 13
      · skip
        have dd1 : decide (13 < a) = false := decide_eq_false (by omega)
        by_cases g2 : 1 ≤ b
        · skip
          have dd2 : decide (b < 1) = false := decide_eq_false (by omega)
          by_cases g3 : b ≤ 4
          · exact absurd (⟨⟨g0, g1⟩, g2, g3⟩) h
          · clear h
            have d3 : decide (4 < b) = true := decide_eq_true (by omega)
            go_enter Try.func27, Try.ntmps27
            go_wp2
            go_ret2
            exact ⟨_, rfl, Sw.nil _ _ _ _ _ _ _, Below.refl _ _⟩
        · clear h
          have d2 : decide (b < 1) = true := decide_eq_true (by omega)
          go_enter Try.func27, Try.ntmps27
          go_wp2
          go_ret2
          exact ⟨_, rfl, Sw.nil _ _ _ _ _ _ _, Below.refl _ _⟩
      · clear h
        have d1 : decide (13 < a) = true := decide_eq_true (by omega)
        go_enter Try.func27, Try.ntmps27
        go_wp2
        go_ret2
        exact ⟨_, rfl, Sw.nil _ _ _ _ _ _ _, Below.refl _ _⟩
    · clear h
      have d0 : decide (a < 5) = true := decide_eq_true (by omega)
      go_enter Try.func27, Try.ntmps27
      go_wp2
      go_ret2
      exact ⟨_, rfl, Sw.nil _ _ _ _ _ _ _, Below.refl _ _⟩
end Go.Proofs.Ytlfccipkjgcodaa
