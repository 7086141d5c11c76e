/- Contracts: fair games, votes, urns, in both texts. -/
import Derived.Test.YtfihnnhgegdjkaaQb
set_option linter.unusedVariables false
namespace Go.Proofs.Ytfihnnhgegdjkaa
open Go.RowKit

def purse_P (a b m : Int) : Prop := (1 ≤ b ∧ b ≤ m) ∧ (0 ≤ a ∧ a ≤ b)
instance (a b m : Int) : Decidable (purse_P a b m) := by unfold purse_P; infer_instance
def urn_P (a b : Int) : Prop := (0 ≤ a ∧ a ≤ 40) ∧ (0 ≤ b ∧ b ≤ 40) ∧ (1 ≤ a + b ∧ a + b ≤ 40)
instance (a b : Int) : Decidable (urn_P a b) := by unfold urn_P; infer_instance
theorem urn_yes (a b : Int) (w : World) (h : urn_P a b) : Calls Try.prog 20 #[.int .i64 a, .int .i64 b] w fun e w' => e = .returned (.bool true) ∧ w = w' := by
  obtain ⟨⟨x0, y0⟩, ⟨x1, y1⟩, ⟨x2, y2⟩⟩ := h
  have H0 := Lib.hid (within_yes (a) (0) (40) w x0 y0)
  have H1 := Lib.hid (within_yes (b) (0) (40) w x1 y1)
  have H2 := Lib.hid (within_yes (a + b) (1) (40) w x2 y2)
  go_enter Try.func20, Try.ntmps20
  go_wp2_with fail
  refine H0.out.mono ?_
  rintro e w' ⟨rfl, rfl⟩
  go_wp2_with fail
  refine H1.out.mono ?_
  rintro e w' ⟨rfl, rfl⟩
  go_wp2_with fail
  refine H2.out.mono ?_
  rintro e w' ⟨rfl, rfl⟩
  go_wp2
  go_ret
  exact ⟨rfl, rfl⟩
theorem urn_no (a b : Int) (w : World) (h : ¬ urn_P a b) : Calls Try.prog 20 #[.int .i64 a, .int .i64 b] w fun e w' => e = .returned (.bool false) ∧ w = w' := by
  unfold urn_P at h
  by_cases g0 : (0 ≤ a ∧ a ≤ 40)
  · obtain ⟨x0, y0⟩ := g0
    have H0 := Lib.hid (within_yes (a) (0) (40) w x0 y0)
    by_cases g1 : (0 ≤ b ∧ b ≤ 40)
    · obtain ⟨x1, y1⟩ := g1
      have H1 := Lib.hid (within_yes (b) (0) (40) w x1 y1)
      by_cases g2 : (1 ≤ a + b ∧ a + b ≤ 40)
      · exact absurd ⟨⟨x0, y0⟩, ⟨x1, y1⟩, g2⟩ h
      · have N2 := Lib.hid (within_no (a + b) (1) (40) w (by omega))
        clear h g2
        go_enter Try.func20, Try.ntmps20
        go_wp2_with fail
        refine H0.out.mono ?_
        rintro e w' ⟨rfl, rfl⟩
        go_wp2_with fail
        refine H1.out.mono ?_
        rintro e w' ⟨rfl, rfl⟩
        go_wp2_with fail
        refine N2.out.mono ?_
        rintro e w' ⟨rfl, rfl⟩
        go_wp2
        go_ret
        exact ⟨rfl, rfl⟩
    · have N1 := Lib.hid (within_no (b) (0) (40) w (by omega))
      clear h g1
      go_enter Try.func20, Try.ntmps20
      go_wp2_with fail
      refine H0.out.mono ?_
      rintro e w' ⟨rfl, rfl⟩
      go_wp2_with fail
      refine N1.out.mono ?_
      rintro e w' ⟨rfl, rfl⟩
      go_wp2
      go_ret
      exact ⟨rfl, rfl⟩
  · have N0 := Lib.hid (within_no (a) (0) (40) w (by omega))
    clear h g0
    go_enter Try.func20, Try.ntmps20
    go_wp2_with fail
    refine N0.out.mono ?_
    rintro e w' ⟨rfl, rfl⟩
    go_wp2
    go_ret
    exact ⟨rfl, rfl⟩
def draws_P (a b m : Int) : Prop := (0 ≤ a ∧ a ≤ m) ∧ (0 ≤ b ∧ b ≤ a)
instance (a b m : Int) : Decidable (draws_P a b m) := by unfold draws_P; infer_instance
theorem draws_yes (a b m : Int) (w : World) (h : draws_P a b m) : Calls Try.prog 21 #[.int .i64 a, .int .i64 b, .int .i64 m] w fun e w' => e = .returned (.bool true) ∧ w = w' := by
  obtain ⟨⟨x0, y0⟩, ⟨x1, y1⟩⟩ := h
  have H0 := Lib.hid (within_yes (a) (0) (m) w x0 y0)
  have H1 := Lib.hid (within_yes (b) (0) (a) w x1 y1)
  go_enter Try.func21, Try.ntmps21
  go_wp2_with fail
  refine H0.out.mono ?_
  rintro e w' ⟨rfl, rfl⟩
  go_wp2_with fail
  refine H1.out.mono ?_
  rintro e w' ⟨rfl, rfl⟩
  go_wp2
  go_ret
  exact ⟨rfl, rfl⟩
theorem draws_no (a b m : Int) (w : World) (h : ¬ draws_P a b m) : Calls Try.prog 21 #[.int .i64 a, .int .i64 b, .int .i64 m] w fun e w' => e = .returned (.bool false) ∧ w = w' := by
  unfold draws_P at h
  by_cases g0 : (0 ≤ a ∧ a ≤ m)
  · obtain ⟨x0, y0⟩ := g0
    have H0 := Lib.hid (within_yes (a) (0) (m) w x0 y0)
    by_cases g1 : (0 ≤ b ∧ b ≤ a)
    · exact absurd ⟨⟨x0, y0⟩, g1⟩ h
    · have N1 := Lib.hid (within_no (b) (0) (a) w (by omega))
      clear h g1
      go_enter Try.func21, Try.ntmps21
      go_wp2_with fail
      refine H0.out.mono ?_
      rintro e w' ⟨rfl, rfl⟩
      go_wp2_with fail
      refine N1.out.mono ?_
      rintro e w' ⟨rfl, rfl⟩
      go_wp2
      go_ret
      exact ⟨rfl, rfl⟩
  · have N0 := Lib.hid (within_no (a) (0) (m) w (by omega))
    clear h g0
    go_enter Try.func21, Try.ntmps21
    go_wp2_with fail
    refine N0.out.mono ?_
    rintro e w' ⟨rfl, rfl⟩
    go_wp2
    go_ret
    exact ⟨rfl, rfl⟩
def votes_P (a b m : Int) : Prop := (0 ≤ a ∧ a ≤ m) ∧ (0 ≤ b ∧ b ≤ m) ∧ (0 < a + b)
instance (a b m : Int) : Decidable (votes_P a b m) := by unfold votes_P; infer_instance
theorem votes_yes (a b m : Int) (w : World) (hm : m ≤ 1000000) (h : votes_P a b m) : Calls Try.prog 26 #[.int .i64 a, .int .i64 b, .int .i64 m] w fun e w' => e = .returned (.bool true) ∧ w = w' := by
  obtain ⟨⟨x0, y0⟩, ⟨x1, y1⟩, g2⟩ := h
  have H0 := Lib.hid (within_yes (a) (0) (m) w x0 y0)
  have H1 := Lib.hid (within_yes (b) (0) (m) w x1 y1)
  have d2 : decide (0 < a + b) = true := decide_eq_true (by omega)
  clear g2
  go_enter Try.func26, Try.ntmps26
  go_wp2_with fail
  refine H0.out.mono ?_
  rintro e w' ⟨rfl, rfl⟩
  go_wp2_with fail
  refine H1.out.mono ?_
  rintro e w' ⟨rfl, rfl⟩
  go_wp2
  go_ret
  exact ⟨rfl, rfl⟩
theorem votes_no (a b m : Int) (w : World) (hm : m ≤ 1000000) (h : ¬ votes_P a b m) : Calls Try.prog 26 #[.int .i64 a, .int .i64 b, .int .i64 m] w fun e w' => e = .returned (.bool false) ∧ w = w' := by
  unfold votes_P at h
  by_cases g0 : (0 ≤ a ∧ a ≤ m)
  · obtain ⟨x0, y0⟩ := g0
    have H0 := Lib.hid (within_yes (a) (0) (m) w x0 y0)
    by_cases g1 : (0 ≤ b ∧ b ≤ m)
    · obtain ⟨x1, y1⟩ := g1
      have H1 := Lib.hid (within_yes (b) (0) (m) w x1 y1)
      by_cases g2 : (0 < a + b)
      · exact absurd ⟨⟨x0, y0⟩, ⟨x1, y1⟩, g2⟩ h
      · skip
        have d2 : decide (0 < a + b) = false := decide_eq_false (by omega)
        clear h g2
        go_enter Try.func26, Try.ntmps26
        go_wp2_with fail
        refine H0.out.mono ?_
        rintro e w' ⟨rfl, rfl⟩
        go_wp2_with fail
        refine H1.out.mono ?_
        rintro e w' ⟨rfl, rfl⟩
        go_wp2
        go_ret
        exact ⟨rfl, rfl⟩
    · have N1 := Lib.hid (within_no (b) (0) (m) w (by omega))
      clear h g1
      go_enter Try.func26, Try.ntmps26
      go_wp2_with fail
      refine H0.out.mono ?_
      rintro e w' ⟨rfl, rfl⟩
      go_wp2_with fail
      refine N1.out.mono ?_
      rintro e w' ⟨rfl, rfl⟩
      go_wp2
      go_ret
      exact ⟨rfl, rfl⟩
  · have N0 := Lib.hid (within_no (a) (0) (m) w (by omega))
    clear h g0
    go_enter Try.func26, Try.ntmps26
    go_wp2_with fail
    refine N0.out.mono ?_
    rintro e w' ⟨rfl, rfl⟩
    go_wp2
    go_ret
    exact ⟨rfl, rfl⟩
def urnS_P (a b c m d : Int) : Prop := (0 ≤ a ∧ a ≤ 40) ∧ (0 ≤ b ∧ b ≤ 40 - a) ∧ (0 < a + b) ∧ (0 ≤ c ∧ c ≤ m) ∧ (0 ≤ d ∧ d ≤ c)
instance (a b c m d : Int) : Decidable (urnS_P a b c m d) := by unfold urnS_P; infer_instance
def okFT (a b : Int) : Prop := (1 ≤ b ∧ b ≤ 1000) ∧ (0 ≤ a ∧ a ≤ b)
instance (a b : Int) : Decidable (okFT a b) := by unfold okFT; infer_instance
def ok_FairTime (a b : Int) : Bool := decide (okFT a b)
def res_FairTime (a b : Int) : Int := if okFT a b then a * (b - a) else 0
def okUM (a b : Int) : Prop := ((0 ≤ a ∧ a ≤ 40) ∧ (0 ≤ b ∧ b ≤ 40) ∧ (1 ≤ a + b ∧ a + b ≤ 40)) ∧ a ≠ 0
instance (a b : Int) : Decidable (okUM a b) := by unfold okUM; infer_instance
def ok_UrnMean (a b : Int) : Bool := decide (okUM a b)
def res_UrnMean (a b : Int) : Int := if okUM a b then (a + b + 1) / gcdI (a + b + 1) (a + 1) else 0
def res2_UrnMean (a b : Int) : Int := if okUM a b then (a + 1) / gcdI (a + b + 1) (a + 1) else 0
set_option maxHeartbeats 1000000 in
theorem impl_UrnMean (a : Int) (al : -9223372036854775808 ≤ a) (au : a ≤ 9223372036854775807) (b : Int) (bl : -9223372036854775808 ≤ b) (bu : b ≤ 9223372036854775807) (w : World) :
    Calls Try.prog 13 #[.int .i64 a, .int .i64 b] w fun e w' => e = .returned (.tuple #[.int .i64 (res_UrnMean a b), .int .i64 (res2_UrnMean a b), .bool (ok_UrnMean a b)]) ∧ Below w.heap.size w w' := by
  unfold res_UrnMean res2_UrnMean ok_UrnMean
  by_cases h : okUM a b
  · rw [if_pos h, if_pos h, decide_eq_true h]
    clear al au bl bu
    have H0 := Lib.hid (urn_yes a b w h.1)
    obtain ⟨⟨⟨x0, y0⟩, ⟨x1, y1⟩, ⟨x2, y2⟩⟩, g1⟩ := h
    have HF := Lib.hid (fracQ_any (a + b + 1) (a + 1) w (by omega) (by omega) (by omega) (by omega))
    have d1 : decide (a = 0) = false := decide_eq_false g1
    have d2 : (a == 0) = false := by simpa using g1
    clear g1
    go_enter Try.func13, Try.ntmps13
    go_wp2_with fail
    refine H0.out.mono ?_
    rintro e w' ⟨rfl, rfl⟩
    go_wp2_with fail
    refine HF.out.mono ?_
    rintro e w2 ⟨rfl, hd⟩
    have Hd := Lib.hid hd
    clear hd
    go_wp2
    go_ret3
    exact ⟨rfl, Hd.out.below _⟩
  · rw [if_neg h, if_neg h, decide_eq_false h]
    unfold okUM at h
    by_cases g0 : (urn_P a b)
    · skip
      have H0 := Lib.hid (urn_yes a b w g0)
      by_cases g1 : (a ≠ 0)
      · exact absurd ⟨g0, g1⟩ h
      · skip
        obtain rfl : a = 0 := by omega
        clear h g0 g1
        go_enter Try.func13, Try.ntmps13
        go_wp2_with fail
        refine H0.out.mono ?_
        rintro e w' ⟨rfl, rfl⟩
        go_wp2
        go_ret3
        exact ⟨rfl, Below.refl _ _⟩
    · have N0 := Lib.hid (urn_no a b w g0)
      clear h g0
      go_enter Try.func13, Try.ntmps13
      go_wp2_with fail
      refine N0.out.mono ?_
      rintro e w' ⟨rfl, rfl⟩
      go_wp2
      go_ret3
      exact ⟨rfl, Below.refl _ _⟩
def okBC (a b : Int) : Prop := (0 ≤ a ∧ a ≤ 1000000) ∧ (0 ≤ b ∧ b ≤ 1000000) ∧ 0 < a + b
instance (a b : Int) : Decidable (okBC a b) := by unfold okBC; infer_instance
def ok_BallotChance (a b : Int) : Bool := decide (okBC a b)
def res_BallotChance (a b : Int) : Int := if okBC a b then (max (a - b) 0) / gcdI (max (a - b) 0) (a + b) else 0
def res2_BallotChance (a b : Int) : Int := if okBC a b then (a + b) / gcdI (max (a - b) 0) (a + b) else 0
set_option maxHeartbeats 1000000 in
theorem impl_BallotChance (a : Int) (al : -9223372036854775808 ≤ a) (au : a ≤ 9223372036854775807) (b : Int) (bl : -9223372036854775808 ≤ b) (bu : b ≤ 9223372036854775807) (w : World) :
    Calls Try.prog 15 #[.int .i64 a, .int .i64 b] w fun e w' => e = .returned (.tuple #[.int .i64 (res_BallotChance a b), .int .i64 (res2_BallotChance a b), .bool (ok_BallotChance a b)]) ∧ Below w.heap.size w w' := by
  unfold res_BallotChance res2_BallotChance ok_BallotChance
  by_cases h : okBC a b
  · rw [if_pos h, if_pos h, decide_eq_true h]
    clear al au bl bu
    have H0 := Lib.hid (votes_yes a b 1000000 w (by omega) h)
    obtain ⟨⟨x0, y0⟩, ⟨x1, y1⟩, g1⟩ := h
    have q0 : 0 ≤ max (a - b) 0 := Int.le_max_right _ _
    have q1 : max (a - b) 0 ≤ 1000000 := Int.max_le.2 ⟨by omega, by omega⟩
    have HF := Lib.hid (fracQ_any (max (a - b) 0) (a + b) w (by omega) (by omega) (by omega) (by omega))
    go_enter Try.func15, Try.ntmps15
    go_wp2_with fail
    refine H0.out.mono ?_
    rintro e w' ⟨rfl, rfl⟩
    go_wp2_with fail
    refine HF.out.mono ?_
    rintro e w2 ⟨rfl, hd⟩
    have Hd := Lib.hid hd
    clear hd
    go_wp2
    go_ret3
    exact ⟨rfl, Hd.out.below _⟩
  · rw [if_neg h, if_neg h, decide_eq_false h]
    unfold okBC at h
    by_cases g0 : (votes_P a b 1000000)
    · exact absurd g0 h
    · have N0 := Lib.hid (votes_no a b 1000000 w (by omega) g0)
      clear h g0
      go_enter Try.func15, Try.ntmps15
      go_wp2_with fail
      refine N0.out.mono ?_
      rintro e w' ⟨rfl, rfl⟩
      go_wp2
      go_ret3
      exact ⟨rfl, Below.refl _ _⟩
