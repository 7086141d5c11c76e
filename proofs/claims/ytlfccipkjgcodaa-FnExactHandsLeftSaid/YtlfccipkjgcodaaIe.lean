/- Contracts: hands that a stack pays, whole. -/
import Derived.Test.YtlfccipkjgcodaaId
set_option linter.unusedVariables false
namespace Go.Proofs.Ytlfccipkjgcodaa
open Go.RowKit

theorem hl_spec_no (a : Int) (al : -9223372036854775808 ≤ a) (au : a ≤ 9223372036854775807) (b : Int) (bl : -9223372036854775808 ≤ b) (bu : b ≤ 9223372036854775807) (c : Int) (cl : -9223372036854775808 ≤ c) (cu : c ≤ 9223372036854775807) (d : Int) (dl : -9223372036854775808 ≤ d) (du : d ≤ 9223372036854775807) (s : Int) (sl : -9223372036854775808 ≤ s) (su : s ≤ 9223372036854775807) (w : World) (h : ¬ okH a b c d s) : Calls Try.prog 24 #[.int .i64 a, .int .i64 b, .int .i64 c, .int .i64 d, .int .i64 s] w fun e w' => e = .returned (.tuple #[.int .i64 0, .bool false]) ∧ Below w.heap.size w w' := by
    by_cases g0 : 0 ≤ a ∧ a ≤ 1000000
    · have H0 := Lib.hid (in_yes a 0 1000000 w g0.1 g0.2)
      by_cases g1 : 0 ≤ b ∧ b ≤ 1000000
      · have H1 := Lib.hid (in_yes b 0 1000000 w g1.1 g1.2)
        by_cases g2 : 0 ≤ c ∧ c ≤ 1000000
        · have H2 := Lib.hid (in_yes c 0 1000000 w g2.1 g2.2)
          by_cases g3 : 0 ≤ d ∧ d ≤ 1000000
          · have H3 := Lib.hid (in_yes d 0 1000000 w g3.1 g3.2)
            by_cases g4 : 2 ≤ s ∧ s ≤ 6
            · have H4 := Lib.hid (in_yes s 2 6 w g4.1 g4.2)
              by_cases g5 : 1 ≤ b + c + d
              · exact absurd (⟨⟨g0, g1, g2, g3⟩, g4, g5⟩) h
              · clear h
                obtain rfl : b = 0 := by omega
                obtain rfl : c = 0 := by omega
                obtain rfl : d = 0 := by omega
                go_enter Try.func24, Try.ntmps24
                go_wp2_with fail
                refine H0.out.mono ?_
                rintro e w' ⟨rfl, rfl⟩
                go_wp2_with fail
                refine H1.out.mono ?_
                rintro e w' ⟨rfl, rfl⟩
                go_wp2_with fail
                refine H2.out.mono ?_
                rintro e w' ⟨rfl, rfl⟩
                go_wp2_with fail
                refine H3.out.mono ?_
                rintro e w' ⟨rfl, rfl⟩
                go_wp2_with fail
                refine H4.out.mono ?_
                rintro e w' ⟨rfl, rfl⟩
                go_wp2
                go_ret2
                exact ⟨rfl, Below.refl _ _⟩
            · clear h
              have N4 := Lib.hid (in_no s 2 6 w (by omega))
              go_enter Try.func24, Try.ntmps24
              go_wp2_with fail
              refine H0.out.mono ?_
              rintro e w' ⟨rfl, rfl⟩
              go_wp2_with fail
              refine H1.out.mono ?_
              rintro e w' ⟨rfl, rfl⟩
              go_wp2_with fail
              refine H2.out.mono ?_
              rintro e w' ⟨rfl, rfl⟩
              go_wp2_with fail
              refine H3.out.mono ?_
              rintro e w' ⟨rfl, rfl⟩
              go_wp2_with fail
              refine N4.out.mono ?_
              rintro e w' ⟨rfl, rfl⟩
              go_wp2
              go_ret2
              exact ⟨rfl, Below.refl _ _⟩
          · clear h
            have N3 := Lib.hid (in_no d 0 1000000 w (by omega))
            go_enter Try.func24, Try.ntmps24
            go_wp2_with fail
            refine H0.out.mono ?_
            rintro e w' ⟨rfl, rfl⟩
            go_wp2_with fail
            refine H1.out.mono ?_
            rintro e w' ⟨rfl, rfl⟩
            go_wp2_with fail
            refine H2.out.mono ?_
            rintro e w' ⟨rfl, rfl⟩
            go_wp2_with fail
            refine N3.out.mono ?_
            rintro e w' ⟨rfl, rfl⟩
            go_wp2
            go_ret2
            exact ⟨rfl, Below.refl _ _⟩
        · clear h
          have N2 := Lib.hid (in_no c 0 1000000 w (by omega))
          go_enter Try.func24, Try.ntmps24
          go_wp2_with fail
          refine H0.out.mono ?_
          rintro e w' ⟨rfl, rfl⟩
          go_wp2_with fail
          refine H1.out.mono ?_
          rintro e w' ⟨rfl, rfl⟩
          go_wp2_with fail
          refine N2.out.mono ?_
          rintro e w' ⟨rfl, rfl⟩
          go_wp2
          go_ret2
          exact ⟨rfl, Below.refl _ _⟩
      · clear h
        have N1 := Lib.hid (in_no b 0 1000000 w (by omega))
        go_enter Try.func24, Try.ntmps24
        go_wp2_with fail
        refine H0.out.mono ?_
        rintro e w' ⟨rfl, rfl⟩
        go_wp2_with fail
        refine N1.out.mono ?_
        rintro e w' ⟨rfl, rfl⟩
        go_wp2
        go_ret2
        exact ⟨rfl, Below.refl _ _⟩
    · clear h
      have N0 := Lib.hid (in_no a 0 1000000 w (by omega))
      go_enter Try.func24, Try.ntmps24
      go_wp2_with fail
      refine N0.out.mono ?_
      rintro e w' ⟨rfl, rfl⟩
      go_wp2
      go_ret2
      exact ⟨rfl, Below.refl _ _⟩
theorem hl_impl_no (a : Int) (al : -9223372036854775808 ≤ a) (au : a ≤ 9223372036854775807) (b : Int) (bl : -9223372036854775808 ≤ b) (bu : b ≤ 9223372036854775807) (c : Int) (cl : -9223372036854775808 ≤ c) (cu : c ≤ 9223372036854775807) (d : Int) (dl : -9223372036854775808 ≤ d) (du : d ≤ 9223372036854775807) (s : Int) (sl : -9223372036854775808 ≤ s) (su : s ≤ 9223372036854775807) (w : World) (h : ¬ okH a b c d s) : Calls Try.prog 25 #[.int .i64 a, .int .i64 b, .int .i64 c, .int .i64 d, .int .i64 s] w fun e w' => e = .returned (.tuple #[.int .i64 0, .bool false]) ∧ Below w.heap.size w w' := by
  have Hk := Lib.hid (fun z => stakes_any [a, b, c, d] _ (z.alloc (.cells #[.int .i64 a, .int .i64 b, .int .i64 c, .int .i64 d] 2)) (by simp) (four a b c d z 2))
  by_cases g0 : (0 ≤ a ∧ a ≤ 1000000) ∧ (0 ≤ b ∧ b ≤ 1000000) ∧ (0 ≤ c ∧ c ≤ 1000000) ∧ (0 ≤ d ∧ d ≤ 1000000)
  · have hB : stakesB [a, b, c, d] = true := by simp [stakesB]; omega
    rw [hB] at Hk
    clear hB
    by_cases g1 : s < 2
    · clear h g0
      have d1 : decide (s < 2) = true := decide_eq_true g1
      go_enter Try.func25, Try.ntmps25
      go_wp2_with (go_at_call 56; refine (Hk.out _).mono ?_; rintro e w' ⟨rfl, rfl⟩)
      go_ret2
      exact ⟨rfl, (Below.refl _ _).alloc (Nat.le_refl _) _⟩
    · have d1 : decide (s < 2) = false := decide_eq_false g1
      by_cases g2 : 6 < s
      · clear h g0
        have d2 : decide (6 < s) = true := decide_eq_true g2
        go_enter Try.func25, Try.ntmps25
        go_wp2_with (go_at_call 56; refine (Hk.out _).mono ?_; rintro e w' ⟨rfl, rfl⟩)
        go_ret2
        exact ⟨rfl, (Below.refl _ _).alloc (Nat.le_refl _) _⟩
      · have d2 : decide (6 < s) = false := decide_eq_false g2
        have g3 : b = 0 ∧ c = 0 ∧ d = 0 := by
          by_cases g4 : 1 ≤ b + c + d
          · exact absurd ⟨g0, ⟨by omega, by omega⟩, g4⟩ h
          · omega
        obtain ⟨rfl, rfl, rfl⟩ := g3
        clear h g0
        have m0 : s * 0 = 0 := Int.mul_zero s
        go_enter Try.func25, Try.ntmps25
        go_wp2_with (go_at_call 56; refine (Hk.out _).mono ?_; rintro e w' ⟨rfl, rfl⟩)
        go_ret2
        exact ⟨rfl, (Below.refl _ _).alloc (Nat.le_refl _) _⟩
  · have hB : stakesB [a, b, c, d] = false := by
      rw [Bool.eq_false_iff]; intro h'; simp [stakesB] at h'; exact g0 ⟨h'.1, h'.2.1, h'.2.2.1, h'.2.2.2⟩
    rw [hB] at Hk
    clear hB h g0
    go_enter Try.func25, Try.ntmps25
    go_wp2_with (go_at_call 56; refine (Hk.out _).mono ?_; rintro e w' ⟨rfl, rfl⟩)
    go_ret2
    exact ⟨rfl, (Below.refl _ _).alloc (Nat.le_refl _) _⟩
theorem both_HandsLeft (a : Int) (al : -9223372036854775808 ≤ a) (au : a ≤ 9223372036854775807) (b : Int) (bl : -9223372036854775808 ≤ b) (bu : b ≤ 9223372036854775807) (c : Int) (cl : -9223372036854775808 ≤ c) (cu : c ≤ 9223372036854775807) (d : Int) (dl : -9223372036854775808 ≤ d) (du : d ≤ 9223372036854775807) (s : Int) (sl : -9223372036854775808 ≤ s) (su : s ≤ 9223372036854775807) : ∃ (R0 : Int) (R1 : Bool), Hid (∀ (w : World), Calls Try.prog 24 #[.int .i64 a, .int .i64 b, .int .i64 c, .int .i64 d, .int .i64 s] w fun e w' => e = .returned (.tuple #[.int .i64 R0, .bool R1]) ∧ Below w.heap.size w w') ∧ Hid (∀ (w : World), Calls Try.prog 25 #[.int .i64 a, .int .i64 b, .int .i64 c, .int .i64 d, .int .i64 s] w fun e w' => e = .returned (.tuple #[.int .i64 R0, .bool R1]) ∧ Below w.heap.size w w') := by
  by_cases h : okH a b c d s
  · obtain ⟨⟨ha, hb, hc, hd⟩, hs, h1⟩ := h
    obtain ⟨S, rfl⟩ : ∃ n : Nat, s = n := ⟨s.toNat, by omega⟩
    have hm : 0 ≤ (S : Int) * d ∧ (S : Int) * d ≤ 6000000 ∧ d ≤ (S : Int) * d := by
      obtain rfl | rfl | rfl | rfl | rfl : S = 2 ∨ S = 3 ∨ S = 4 ∨ S = 5 ∨ S = 6 := by omega
      all_goals refine ⟨?_, ?_, ?_⟩ <;> simp <;> omega
    have hR0 : 1 ≤ (S : Int) * d + c + b := by omega
    have hq0 : 0 ≤ a / ((S : Int) * d + c + b) := Int.ediv_nonneg ha.1 (by omega)
    have hq1 : a / ((S : Int) * d + c + b) ≤ a := Int.ediv_le_self _ ha.1
    have hL0 : 0 ≤ a % ((S : Int) * d + c + b) := Int.emod_nonneg _ (by omega)
    have hL1 : a % ((S : Int) * d + c + b) ≤ a := by
      have h1 := Int.mul_ediv_add_emod a ((S : Int) * d + c + b)
      have h2 := Int.mul_nonneg (show 0 ≤ (S : Int) * d + c + b by omega) hq0
      omega
    obtain ⟨t, t1, t2, t3, t4, t5⟩ := pays c b d a S hc.1 hb.1 hd.1 (by omega) (by omega) ha.1 (a / ((S : Int) * d + c + b)).toNat _ _ rfl hR0 (Int.toNat_of_nonneg hq0) rfl
    refine ⟨_, true, Lib.hid fun w => hl_spec_yes a b c d S ((a / ((S : Int) * d + c + b)).toNat * S + t) w ha hb hc hd ⟨by omega, by omega⟩ h1 ?_ t4 t5, Lib.hid fun w => ?_⟩
    · have : (a / ((S : Int) * d + c + b)).toNat * S ≤ 1000000 * 6 := Nat.mul_le_mul (by omega) (by omega)
      omega
    · have hh := hl_impl_yes a b c d S (a / ((S : Int) * d + c + b)).toNat t _ _ w ha hb hc hd ⟨by omega, by omega⟩ rfl hR0 (by omega) (Int.toNat_of_nonneg hq0) (by omega) rfl hL0 (by omega) t1 t2 t3
      rw [show (((a / ((S : Int) * d + c + b)).toNat * S + t : Nat) : Int) = ((a / ((S : Int) * d + c + b)).toNat : Int) * (S : Int) + (t : Int) by push_cast; rfl]
      exact hh
  · exact ⟨0, false, Lib.hid fun w => hl_spec_no a al au b bl bu c cl cu d dl du s sl su w h, Lib.hid fun w => hl_impl_no a al au b bl bu c cl cu d dl du s sl su w h⟩
end Go.Proofs.Ytlfccipkjgcodaa
