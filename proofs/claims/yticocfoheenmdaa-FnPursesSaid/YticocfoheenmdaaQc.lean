/- Contracts: fair games, votes, urns, in both texts. -/
import Derived.Test.YticocfoheenmdaaQb
set_option linter.unusedVariables false
namespace Go.Proofs.Yticocfoheenmdaa
open Go.RowKit

def purse_P (a b m : Int) : Prop := (1 ≤ b ∧ b ≤ m) ∧ (0 ≤ a ∧ a ≤ b)
instance (a b m : Int) : Decidable (purse_P a b m) := by unfold purse_P; infer_instance
theorem purse_yes (a b m : Int) (w : World) (h : purse_P a b m) : Calls Try.prog 27 #[.int .i64 a, .int .i64 b, .int .i64 m] w fun e w' => e = .returned (.bool true) ∧ w = w' := by
  obtain ⟨⟨x0, y0⟩, ⟨x1, y1⟩⟩ := h
  have H0 := Lib.hid (within_yes (b) (1) (m) w x0 y0)
  have H1 := Lib.hid (within_yes (a) (0) (b) w x1 y1)
  go_enter Try.func27, Try.ntmps27
  go_wp2_with fail
  refine H0.out.mono ?_
  rintro e w' ⟨rfl, rfl⟩
  go_wp2_with fail
  refine H1.out.mono ?_
  rintro e w' ⟨rfl, rfl⟩
  go_wp2
  go_ret
  exact ⟨rfl, rfl⟩
theorem purse_no (a b m : Int) (w : World) (h : ¬ purse_P a b m) : Calls Try.prog 27 #[.int .i64 a, .int .i64 b, .int .i64 m] w fun e w' => e = .returned (.bool false) ∧ w = w' := by
  unfold purse_P at h
  by_cases g0 : (1 ≤ b ∧ b ≤ m)
  · obtain ⟨x0, y0⟩ := g0
    have H0 := Lib.hid (within_yes (b) (1) (m) w x0 y0)
    by_cases g1 : (0 ≤ a ∧ a ≤ b)
    · exact absurd ⟨⟨x0, y0⟩, g1⟩ h
    · have N1 := Lib.hid (within_no (a) (0) (b) w (by omega))
      clear h g1
      go_enter Try.func27, Try.ntmps27
      go_wp2_with fail
      refine H0.out.mono ?_
      rintro e w' ⟨rfl, rfl⟩
      go_wp2_with fail
      refine N1.out.mono ?_
      rintro e w' ⟨rfl, rfl⟩
      go_wp2
      go_ret
      exact ⟨rfl, rfl⟩
  · have N0 := Lib.hid (within_no (b) (1) (m) w (by omega))
    clear h g0
    go_enter Try.func27, Try.ntmps27
    go_wp2_with fail
    refine N0.out.mono ?_
    rintro e w' ⟨rfl, rfl⟩
    go_wp2
    go_ret
    exact ⟨rfl, rfl⟩
def urn_P (a b : Int) : Prop := (0 ≤ a ∧ a ≤ 40) ∧ (0 ≤ b ∧ b ≤ 40) ∧ (1 ≤ a + b ∧ a + b ≤ 40)
instance (a b : Int) : Decidable (urn_P a b) := by unfold urn_P; infer_instance
def draws_P (a b m : Int) : Prop := (0 ≤ a ∧ a ≤ m) ∧ (0 ≤ b ∧ b ≤ a)
instance (a b m : Int) : Decidable (draws_P a b m) := by unfold draws_P; infer_instance
def votes_P (a b m : Int) : Prop := (0 ≤ a ∧ a ≤ m) ∧ (0 ≤ b ∧ b ≤ m) ∧ (0 < a + b)
instance (a b m : Int) : Decidable (votes_P a b m) := by unfold votes_P; infer_instance
def urnS_P (a b c m d : Int) : Prop := (0 ≤ a ∧ a ≤ 40) ∧ (0 ≤ b ∧ b ≤ 40 - a) ∧ (0 < a + b) ∧ (0 ≤ c ∧ c ≤ m) ∧ (0 ≤ d ∧ d ≤ c)
instance (a b c m d : Int) : Decidable (urnS_P a b c m d) := by unfold urnS_P; infer_instance
def okFT (a b : Int) : Prop := (1 ≤ b ∧ b ≤ 1000) ∧ (0 ≤ a ∧ a ≤ b)
instance (a b : Int) : Decidable (okFT a b) := by unfold okFT; infer_instance
def ok_FairTime (a b : Int) : Bool := decide (okFT a b)
def res_FairTime (a b : Int) : Int := if okFT a b then a * (b - a) else 0
set_option maxHeartbeats 1000000 in
theorem impl_FairTime (a : Int) (al : -9223372036854775808 ≤ a) (au : a ≤ 9223372036854775807) (b : Int) (bl : -9223372036854775808 ≤ b) (bu : b ≤ 9223372036854775807) (w : World) :
    Calls Try.prog 14 #[.int .i64 a, .int .i64 b] w fun e w' => e = .returned (.tuple #[.int .i64 (res_FairTime a b), .bool (ok_FairTime a b)]) ∧ Below w.heap.size w w' := by
  unfold res_FairTime ok_FairTime
  by_cases h : okFT a b
  · rw [if_pos h, decide_eq_true h]
    clear al au bl bu
    have H0 := Lib.hid (purse_yes a b 1000 w h)
    obtain ⟨⟨x0, y0⟩, x1, y1⟩ := h
    have m0 : 0 ≤ a * (b - a) := Int.mul_nonneg x1 (by omega)
    have m1 : a * (b - a) ≤ 1000 * 1000 := Int.mul_le_mul (by omega) (by omega) (by omega) (by omega)
    go_enter Try.func14, Try.ntmps14
    go_wp2_with fail
    refine H0.out.mono ?_
    rintro e w' ⟨rfl, rfl⟩
    go_wp2
    go_ret2
    exact ⟨rfl, Below.refl _ _⟩
  · rw [if_neg h, decide_eq_false h]
    unfold okFT at h
    by_cases g0 : (purse_P a b 1000)
    · exact absurd g0 h
    · have N0 := Lib.hid (purse_no a b 1000 w g0)
      clear h g0
      go_enter Try.func14, Try.ntmps14
      go_wp2_with fail
      refine N0.out.mono ?_
      rintro e w' ⟨rfl, rfl⟩
      go_wp2
      go_ret2
      exact ⟨rfl, Below.refl _ _⟩
def okUM (a b : Int) : Prop := ((0 ≤ a ∧ a ≤ 40) ∧ (0 ≤ b ∧ b ≤ 40) ∧ (1 ≤ a + b ∧ a + b ≤ 40)) ∧ a ≠ 0
instance (a b : Int) : Decidable (okUM a b) := by unfold okUM; infer_instance
def ok_UrnMean (a b : Int) : Bool := decide (okUM a b)
def res_UrnMean (a b : Int) : Int := if okUM a b then (a + b + 1) / gcdI (a + b + 1) (a + 1) else 0
def res2_UrnMean (a b : Int) : Int := if okUM a b then (a + 1) / gcdI (a + b + 1) (a + 1) else 0
def okBC (a b : Int) : Prop := (0 ≤ a ∧ a ≤ 1000000) ∧ (0 ≤ b ∧ b ≤ 1000000) ∧ 0 < a + b
instance (a b : Int) : Decidable (okBC a b) := by unfold okBC; infer_instance
def ok_BallotChance (a b : Int) : Bool := decide (okBC a b)
def res_BallotChance (a b : Int) : Int := if okBC a b then (max (a - b) 0) / gcdI (max (a - b) 0) (a + b) else 0
def res2_BallotChance (a b : Int) : Int := if okBC a b then (a + b) / gcdI (max (a - b) 0) (a + b) else 0
