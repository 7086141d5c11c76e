/- Contracts: chances of ruin, in both texts. -/
import Derived.Test.YtpidkedcnhohdabQd
set_option linter.unusedVariables false
namespace Go.Proofs.Ytpidkedcnhohdab
open Go.RowKit

def sumI (g : Nat → Int) : Nat → Int
  | 0 => 0
  | k + 1 => sumI g k + g k
theorem pwI_mono (x y : Int) (h0 : 0 ≤ x) (h : x ≤ y) (k : Nat) : 0 ≤ pwI x k ∧ pwI x k ≤ pwI y k := by
  induction k with
  | zero => exact ⟨by show (0 : Int) ≤ 1; omega, Int.le_refl _⟩
  | succ k ih => exact ⟨Int.mul_nonneg ih.1 h0, Int.mul_le_mul ih.2 h h0 (Int.le_trans ih.1 ih.2)⟩
theorem pwI_pos (x : Int) (h : 1 ≤ x) (k : Nat) : 1 ≤ pwI x k := by
  induction k with
  | zero => exact Int.le_refl _
  | succ k ih =>
    have := Int.mul_le_mul ih h (by omega) (by omega)
    show 1 ≤ pwI x k * x
    omega
theorem pwI_nine : ∀ k, k < 10 → pwI 9 k ≤ 387420489 := by decide +kernel
theorem pwI_bd9 (x : Int) (h : 1 ≤ x) (h9 : x ≤ 9) (k : Nat) (hk : k < 10) : 1 ≤ pwI x k ∧ pwI x k ≤ 387420489 :=
  ⟨pwI_pos x h k, Int.le_trans (pwI_mono x 9 (by omega) h9 k).2 (pwI_nine k hk)⟩
def ruG (c d : Int) (n i : Nat) : Int := pwI (d - c) i * pwI c (n - 1 - i)
theorem ruG_bd (c d : Int) (n i : Nat) (c1 : 1 ≤ c) (c2 : c ≤ d - 1) (d2 : d ≤ 10) (hn : n ≤ 10) (hi : i < n) : 1 ≤ ruG c d n i ∧ ruG c d n i ≤ 150094635296999121 := by
  have h1 := pwI_bd9 (d - c) (by omega) (by omega) i (by omega)
  have h2 := pwI_bd9 c (by omega) (by omega) (n - 1 - i) (by omega)
  unfold ruG
  have h3 := Int.mul_le_mul h1.2 h2.2 (by omega) (by omega)
  have h4 := Int.mul_le_mul h1.1 h2.1 (by omega) (by omega)
  omega
theorem sumI_bd (g : Nat → Int) (M : Int) (n : Nat) (h : ∀ i, i < n → 1 ≤ g i ∧ g i ≤ M) (k : Nat) (hk : k ≤ n) : (k : Int) ≤ sumI g k ∧ sumI g k ≤ k * M := by
  induction k with
  | zero => simp [sumI]
  | succ k ih =>
    have h1 := ih (by omega)
    have h2 := h k (by omega)
    have h3 : ((k + 1 : Nat) : Int) * M = k * M + M := by rw [show ((k + 1 : Nat) : Int) = (k : Int) + 1 from rfl, Int.add_mul, Int.one_mul]
    rw [h3]
    show _ ≤ sumI g k + g k ∧ sumI g k + g k ≤ _
    omega
theorem ruS_bd (c d : Int) (n : Nat) (c1 : 1 ≤ c) (c2 : c ≤ d - 1) (d2 : d ≤ 10) (hn : n ≤ 10) (k : Nat) (hk : k ≤ n) : (k : Int) ≤ sumI (ruG c d n) k ∧ sumI (ruG c d n) k ≤ 1500946352969991210 := by
  have h := sumI_bd (ruG c d n) 150094635296999121 n (fun i hi => ruG_bd c d n i c1 c2 d2 hn hi) k hk
  omega
def parts_P (a b : Int) : Prop := (2 ≤ b ∧ b ≤ 10) ∧ (1 ≤ a ∧ a ≤ b - 1)
instance (a b : Int) : Decidable (parts_P a b) := by unfold parts_P; infer_instance
theorem parts_yes (a b : Int) (w : World) (h : parts_P a b) : Calls Try.prog 61 #[.int .i64 a, .int .i64 b] w fun e w' => e = .returned (.bool true) ∧ w = w' := by
  obtain ⟨⟨x0, y0⟩, ⟨x1, y1⟩⟩ := h
  have H0 := Lib.hid (within_yes (b) (2) (10) w x0 y0)
  have H1 := Lib.hid (within_yes (a) (1) (b - 1) w x1 y1)
  go_enter Try.func61, Try.ntmps61
  go_wp2_with fail
  refine H0.out.mono ?_
  rintro e w' ⟨rfl, rfl⟩
  go_wp2_with fail
  refine H1.out.mono ?_
  rintro e w' ⟨rfl, rfl⟩
  go_wp2
  go_ret
  exact ⟨rfl, rfl⟩
theorem parts_no (a b : Int) (w : World) (h : ¬ parts_P a b) : Calls Try.prog 61 #[.int .i64 a, .int .i64 b] w fun e w' => e = .returned (.bool false) ∧ w = w' := by
  unfold parts_P at h
  by_cases g0 : (2 ≤ b ∧ b ≤ 10)
  · obtain ⟨x0, y0⟩ := g0
    have H0 := Lib.hid (within_yes (b) (2) (10) w x0 y0)
    by_cases g1 : (1 ≤ a ∧ a ≤ b - 1)
    · exact absurd ⟨⟨x0, y0⟩, g1⟩ h
    · have N1 := Lib.hid (within_no (a) (1) (b - 1) w (by omega))
      clear h g1
      go_enter Try.func61, Try.ntmps61
      go_wp2_with fail
      refine H0.out.mono ?_
      rintro e w' ⟨rfl, rfl⟩
      go_wp2_with fail
      refine N1.out.mono ?_
      rintro e w' ⟨rfl, rfl⟩
      go_wp2
      go_ret
      exact ⟨rfl, rfl⟩
  · have N0 := Lib.hid (within_no (b) (2) (10) w (by omega))
    clear h g0
    go_enter Try.func61, Try.ntmps61
    go_wp2_with fail
    refine N0.out.mono ?_
    rintro e w' ⟨rfl, rfl⟩
    go_wp2
    go_ret
    exact ⟨rfl, rfl⟩
def purseS_P (a b c d : Int) : Prop := (1 ≤ b ∧ b ≤ 10) ∧ (0 ≤ a ∧ a ≤ b) ∧ (2 ≤ d ∧ d ≤ 10) ∧ (1 ≤ c ∧ c ≤ d - 1)
instance (a b c d : Int) : Decidable (purseS_P a b c d) := by unfold purseS_P; infer_instance
theorem purseS_yes (a b c d : Int) (w : World) (h : purseS_P a b c d) : Calls Try.prog 58 #[.int .i64 a, .int .i64 b, .int .i64 c, .int .i64 d] w fun e w' => e = .returned (.bool true) ∧ w = w' := by
  obtain ⟨⟨x0, y0⟩, ⟨x1, y1⟩, ⟨x2, y2⟩, ⟨x3, y3⟩⟩ := h
  have H0 := Lib.hid (in_yes (b) (1) (10) w x0 y0)
  have H1 := Lib.hid (in_yes (a) (0) (b) w x1 y1)
  have H2 := Lib.hid (in_yes (d) (2) (10) w x2 y2)
  have H3 := Lib.hid (in_yes (c) (1) (d - 1) w x3 y3)
  go_enter Try.func58, Try.ntmps58
  go_wp2_with fail
  refine H0.out.mono ?_
  rintro e w' ⟨rfl, rfl⟩
  go_wp2_with fail
  refine H1.out.mono ?_
  rintro e w' ⟨rfl, rfl⟩
  go_wp2_with fail
  refine H2.out.mono ?_
  rintro e w' ⟨rfl, rfl⟩
  go_wp2_with fail
  refine H3.out.mono ?_
  rintro e w' ⟨rfl, rfl⟩
  go_wp2
  go_ret
  exact ⟨rfl, rfl⟩
theorem purseS_no (a b c d : Int) (w : World) (h : ¬ purseS_P a b c d) : Calls Try.prog 58 #[.int .i64 a, .int .i64 b, .int .i64 c, .int .i64 d] w fun e w' => e = .returned (.bool false) ∧ w = w' := by
  unfold purseS_P at h
  by_cases g0 : (1 ≤ b ∧ b ≤ 10)
  · obtain ⟨x0, y0⟩ := g0
    have H0 := Lib.hid (in_yes (b) (1) (10) w x0 y0)
    by_cases g1 : (0 ≤ a ∧ a ≤ b)
    · obtain ⟨x1, y1⟩ := g1
      have H1 := Lib.hid (in_yes (a) (0) (b) w x1 y1)
      by_cases g2 : (2 ≤ d ∧ d ≤ 10)
      · obtain ⟨x2, y2⟩ := g2
        have H2 := Lib.hid (in_yes (d) (2) (10) w x2 y2)
        by_cases g3 : (1 ≤ c ∧ c ≤ d - 1)
        · exact absurd ⟨⟨x0, y0⟩, ⟨x1, y1⟩, ⟨x2, y2⟩, g3⟩ h
        · have N3 := Lib.hid (in_no (c) (1) (d - 1) w (by omega))
          clear h g3
          go_enter Try.func58, Try.ntmps58
          go_wp2_with fail
          refine H0.out.mono ?_
          rintro e w' ⟨rfl, rfl⟩
          go_wp2_with fail
          refine H1.out.mono ?_
          rintro e w' ⟨rfl, rfl⟩
          go_wp2_with fail
          refine H2.out.mono ?_
          rintro e w' ⟨rfl, rfl⟩
          go_wp2_with fail
          refine N3.out.mono ?_
          rintro e w' ⟨rfl, rfl⟩
          go_wp2
          go_ret
          exact ⟨rfl, rfl⟩
      · have N2 := Lib.hid (in_no (d) (2) (10) w (by omega))
        clear h g2
        go_enter Try.func58, Try.ntmps58
        go_wp2_with fail
        refine H0.out.mono ?_
        rintro e w' ⟨rfl, rfl⟩
        go_wp2_with fail
        refine H1.out.mono ?_
        rintro e w' ⟨rfl, rfl⟩
        go_wp2_with fail
        refine N2.out.mono ?_
        rintro e w' ⟨rfl, rfl⟩
        go_wp2
        go_ret
        exact ⟨rfl, rfl⟩
    · have N1 := Lib.hid (in_no (a) (0) (b) w (by omega))
      clear h g1
      go_enter Try.func58, Try.ntmps58
      go_wp2_with fail
      refine H0.out.mono ?_
      rintro e w' ⟨rfl, rfl⟩
      go_wp2_with fail
      refine N1.out.mono ?_
      rintro e w' ⟨rfl, rfl⟩
      go_wp2
      go_ret
      exact ⟨rfl, rfl⟩
  · have N0 := Lib.hid (in_no (b) (1) (10) w (by omega))
    clear h g0
    go_enter Try.func58, Try.ntmps58
    go_wp2_with fail
    refine N0.out.mono ?_
    rintro e w' ⟨rfl, rfl⟩
    go_wp2
    go_ret
    exact ⟨rfl, rfl⟩
def okRC (a b c d : Int) : Prop := ((1 ≤ b ∧ b ≤ 10) ∧ (0 ≤ a ∧ a ≤ b)) ∧ ((2 ≤ d ∧ d ≤ 10) ∧ (1 ≤ c ∧ c ≤ d - 1))
instance (a b c d : Int) : Decidable (okRC a b c d) := by unfold okRC; infer_instance
def ok_RuinChance (a b c d : Int) : Bool := decide (okRC a b c d)
def res_RuinChance (a b c d : Int) : Int := if okRC a b c d then (sumI (ruG c d b.toNat) a.toNat) / gcdI (sumI (ruG c d b.toNat) a.toNat) (sumI (ruG c d b.toNat) b.toNat) else 0
def res2_RuinChance (a b c d : Int) : Int := if okRC a b c d then (sumI (ruG c d b.toNat) b.toNat) / gcdI (sumI (ruG c d b.toNat) a.toNat) (sumI (ruG c d b.toNat) b.toNat) else 0
