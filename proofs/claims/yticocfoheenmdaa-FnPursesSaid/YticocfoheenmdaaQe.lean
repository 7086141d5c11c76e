/- Contracts: chances of ruin, in both texts. -/
import Derived.Test.YticocfoheenmdaaQd
set_option linter.unusedVariables false
namespace Go.Proofs.Yticocfoheenmdaa
open Go.RowKit

def sumI (g : Nat → Int) : Nat → Int
  | 0 => 0
  | k + 1 => sumI g k + g k
theorem pwI_mono (x y : Int) (h0 : 0 ≤ x) (h : x ≤ y) (k : Nat) : 0 ≤ pwI x k ∧ pwI x k ≤ pwI y k := by
  induction k with
  | zero => exact ⟨by show (0 : Int) ≤ 1; omega, Int.le_refl _⟩
  | succ k ih => exact ⟨Int.mul_nonneg ih.1 h0, Int.mul_le_mul ih.2 h h0 (Int.le_trans ih.1 ih.2)⟩
theorem pwI_pos (x : Int) (h : 1 ≤ x) (k : Nat) : 1 ≤ pwI x k := by
  induction k with
  | zero => exact Int.le_refl _
  | succ k ih =>
    have := Int.mul_le_mul ih h (by omega) (by omega)
    show 1 ≤ pwI x k * x
    omega
theorem pwI_nine : ∀ k, k < 10 → pwI 9 k ≤ 387420489 := by decide +kernel
theorem pwI_bd9 (x : Int) (h : 1 ≤ x) (h9 : x ≤ 9) (k : Nat) (hk : k < 10) : 1 ≤ pwI x k ∧ pwI x k ≤ 387420489 :=
  ⟨pwI_pos x h k, Int.le_trans (pwI_mono x 9 (by omega) h9 k).2 (pwI_nine k hk)⟩
def ruG (c d : Int) (n i : Nat) : Int := pwI (d - c) i * pwI c (n - 1 - i)
theorem ruG_bd (c d : Int) (n i : Nat) (c1 : 1 ≤ c) (c2 : c ≤ d - 1) (d2 : d ≤ 10) (hn : n ≤ 10) (hi : i < n) : 1 ≤ ruG c d n i ∧ ruG c d n i ≤ 150094635296999121 := by
  have h1 := pwI_bd9 (d - c) (by omega) (by omega) i (by omega)
  have h2 := pwI_bd9 c (by omega) (by omega) (n - 1 - i) (by omega)
  unfold ruG
  have h3 := Int.mul_le_mul h1.2 h2.2 (by omega) (by omega)
  have h4 := Int.mul_le_mul h1.1 h2.1 (by omega) (by omega)
  omega
theorem sumI_bd (g : Nat → Int) (M : Int) (n : Nat) (h : ∀ i, i < n → 1 ≤ g i ∧ g i ≤ M) (k : Nat) (hk : k ≤ n) : (k : Int) ≤ sumI g k ∧ sumI g k ≤ k * M := by
  induction k with
  | zero => simp [sumI]
  | succ k ih =>
    have h1 := ih (by omega)
    have h2 := h k (by omega)
    have h3 : ((k + 1 : Nat) : Int) * M = k * M + M := by rw [show ((k + 1 : Nat) : Int) = (k : Int) + 1 from rfl, Int.add_mul, Int.one_mul]
    rw [h3]
    show _ ≤ sumI g k + g k ∧ sumI g k + g k ≤ _
    omega
theorem ruS_bd (c d : Int) (n : Nat) (c1 : 1 ≤ c) (c2 : c ≤ d - 1) (d2 : d ≤ 10) (hn : n ≤ 10) (k : Nat) (hk : k ≤ n) : (k : Int) ≤ sumI (ruG c d n) k ∧ sumI (ruG c d n) k ≤ 1500946352969991210 := by
  have h := sumI_bd (ruG c d n) 150094635296999121 n (fun i hi => ruG_bd c d n i c1 c2 d2 hn hi) k hk
  omega
def parts_P (a b : Int) : Prop := (2 ≤ b ∧ b ≤ 10) ∧ (1 ≤ a ∧ a ≤ b - 1)
instance (a b : Int) : Decidable (parts_P a b) := by unfold parts_P; infer_instance
theorem parts_yes (a b : Int) (w : World) (h : parts_P a b) : Calls Try.prog 28 #[.int .i64 a, .int .i64 b] w fun e w' => e = .returned (.bool true) ∧ w = w' := by
  obtain ⟨⟨x0, y0⟩, ⟨x1, y1⟩⟩ := h
  have H0 := Lib.hid (within_yes (b) (2) (10) w x0 y0)
  have H1 := Lib.hid (within_yes (a) (1) (b - 1) w x1 y1)
  go_enter Try.func28, Try.ntmps28
  go_wp2_with fail
  refine H0.out.mono ?_
  rintro e w' ⟨rfl, rfl⟩
  go_wp2_with fail
  refine H1.out.mono ?_
  rintro e w' ⟨rfl, rfl⟩
  go_wp2
  go_ret
  exact ⟨rfl, rfl⟩
theorem parts_no (a b : Int) (w : World) (h : ¬ parts_P a b) : Calls Try.prog 28 #[.int .i64 a, .int .i64 b] w fun e w' => e = .returned (.bool false) ∧ w = w' := by
  unfold parts_P at h
  by_cases g0 : (2 ≤ b ∧ b ≤ 10)
  · obtain ⟨x0, y0⟩ := g0
    have H0 := Lib.hid (within_yes (b) (2) (10) w x0 y0)
    by_cases g1 : (1 ≤ a ∧ a ≤ b - 1)
    · exact absurd ⟨⟨x0, y0⟩, g1⟩ h
    · have N1 := Lib.hid (within_no (a) (1) (b - 1) w (by omega))
      clear h g1
      go_enter Try.func28, Try.ntmps28
      go_wp2_with fail
      refine H0.out.mono ?_
      rintro e w' ⟨rfl, rfl⟩
      go_wp2_with fail
      refine N1.out.mono ?_
      rintro e w' ⟨rfl, rfl⟩
      go_wp2
      go_ret
      exact ⟨rfl, rfl⟩
  · have N0 := Lib.hid (within_no (b) (2) (10) w (by omega))
    clear h g0
    go_enter Try.func28, Try.ntmps28
    go_wp2_with fail
    refine N0.out.mono ?_
    rintro e w' ⟨rfl, rfl⟩
    go_wp2
    go_ret
    exact ⟨rfl, rfl⟩
def purseS_P (a b c d : Int) : Prop := (1 ≤ b ∧ b ≤ 10) ∧ (0 ≤ a ∧ a ≤ b) ∧ (2 ≤ d ∧ d ≤ 10) ∧ (1 ≤ c ∧ c ≤ d - 1)
instance (a b c d : Int) : Decidable (purseS_P a b c d) := by unfold purseS_P; infer_instance
def okRC (a b c d : Int) : Prop := ((1 ≤ b ∧ b ≤ 10) ∧ (0 ≤ a ∧ a ≤ b)) ∧ ((2 ≤ d ∧ d ≤ 10) ∧ (1 ≤ c ∧ c ≤ d - 1))
instance (a b c d : Int) : Decidable (okRC a b c d) := by unfold okRC; infer_instance
def ok_RuinChance (a b c d : Int) : Bool := decide (okRC a b c d)
def res_RuinChance (a b c d : Int) : Int := if okRC a b c d then (sumI (ruG c d b.toNat) a.toNat) / gcdI (sumI (ruG c d b.toNat) a.toNat) (sumI (ruG c d b.toNat) b.toNat) else 0
def res2_RuinChance (a b c d : Int) : Int := if okRC a b c d then (sumI (ruG c d b.toNat) b.toNat) / gcdI (sumI (ruG c d b.toNat) a.toNat) (sumI (ruG c d b.toNat) b.toNat) else 0
set_option maxRecDepth 100000 in
set_option maxHeartbeats 1000000 in
theorem ruin_impl (A B : Nat) (c d : Int) (w : World) (b1 : 1 ≤ B) (b2 : B ≤ 10) (ha : A ≤ B) (d0 : 2 ≤ d) (d1 : d ≤ 10) (c0 : 1 ≤ c) (c1 : c ≤ d - 1) :
    Calls Try.prog 12 #[.int .i64 (A : Int), .int .i64 (B : Int), .int .i64 c, .int .i64 d] w fun e w' => e = .returned (.tuple #[.int .i64 (sumI (ruG c d B) A / gcdI (sumI (ruG c d B) A) (sumI (ruG c d B) B)), .int .i64 (sumI (ruG c d B) B / gcdI (sumI (ruG c d B) A) (sumI (ruG c d B) B)), .bool true]) ∧ Below w.heap.size w w' := by
  have H0 := Lib.hid (purse_yes A B 10 w (by unfold purse_P; omega))
  have H1 := Lib.hid (parts_yes c d w (by unfold parts_P; omega))
  have Hs := Lib.hid (fun k hk => ruS_bd c d B c0 c1 d1 b2 k hk)
  have Hg := Lib.hid (fun i hi => ruG_bd c d B i c0 c1 d1 b2 hi)
  have hsA := Hs.out A ha
  have hsB := Hs.out B (Nat.le_refl _)
  have HF := Lib.hid (fun z => fracQ_any (sumI (ruG c d B) A) (sumI (ruG c d B) B) z (by omega) (by omega) (by omega) (by omega))
  have Hp := Lib.hid (fun x (h1 : 1 ≤ x) (h9 : x ≤ 9) k (hk : k < 10) z => powerQ_any x k z (by omega) (fun j hj => by have := pwI_bd9 x h1 h9 j (by omega); omega))
  have Hst := Lib.hid (fun k => (show sumI (ruG c d B) (k + 1) = sumI (ruG c d B) k + ruG c d B k from rfl))
  have Hm := Lib.hid (fun i => (show ruG c d B i = pwI (d - c) i * pwI c (B - 1 - i) from rfl))
  have Hpb := Lib.hid (fun x (h1 : 1 ≤ x) (h9 : x ≤ 9) k (hk : k < 10) => pwI_bd9 x h1 h9 k hk)
  clear hsA hsB
  go_enter Try.func12, Try.ntmps12
  go_wp2_with fail
  refine H0.out.mono ?_
  rintro e w' ⟨rfl, rfl⟩
  go_wp2_with fail
  refine H1.out.mono ?_
  rintro e w' ⟨rfl, rfl⟩
  go_wp2
  go_loopw [11, 12, 26] (fun x y i wr => ∃ k : Nat, k ≤ B ∧ i = .int .i64 (k : Int) ∧ x = .int .i64 (sumI (ruG c d B) (min k A)) ∧ y = .int .i64 (sumI (ruG c d B) k) ∧ Below w.heap.size w wr) (fun _ _ i _ => B - (intOf i).toNat)
  case atStart => exact ⟨0, Nat.zero_le _, rfl, by rw [Nat.zero_min]; rfl, rfl, Below.refl _ _⟩
  case round =>
    obtain ⟨k, hk, rfl, rfl, rfl, hb⟩ := hrel
    have Hb := Lib.hid hb
    have hsz := hb.size
    clear hb
    by_cases hlt : k < B
    · have P1 := Lib.hid (fun z => Hp.out (d - c) (by omega) (by omega) k (by omega) z)
      have P2 := Lib.hid (fun z => Hp.out c (by omega) (by omega) (B - 1 - k) (by omega) z)
      rw [show ((B - 1 - k : Nat) : Int) = (B : Int) - 1 - (k : Int) by omega] at P2
      have hg := Hg.out k hlt
      rw [Hm.out k] at hg
      obtain ⟨g0, g1⟩ := hg
      obtain ⟨p0, p1⟩ := Hpb.out (d - c) (by omega) (by omega) k (by omega)
      obtain ⟨q0, q1⟩ := Hpb.out c (by omega) (by omega) (B - 1 - k) (by omega)
      have hs1 := Hs.out k (by omega)
      have hs2 := Hs.out (k + 1) (by omega)
      have hn := Hst.out k
      rw [Hm.out k] at hn
      rw [hn] at hs2
      obtain ⟨s0, s1⟩ := hs1
      obtain ⟨s2, s3⟩ := hs2
      have hs4 := Hs.out (min k A) (by omega)
      have hk1 : ((k + 1 : Nat) : Int) = (k : Int) + 1 := rfl
      by_cases hlA : k < A
      · rw [Nat.min_eq_left (by omega)] at hs4 ⊢
        have dA : decide ((k : Int) < (A : Int)) = true := decide_eq_true (by omega)
        have Hx := Lib.hid (show sumI (ruG c d B) (min (k + 1) A) = sumI (ruG c d B) k + pwI (d - c) k * pwI c (B - 1 - k) by rw [Nat.min_eq_left (by omega)]; exact hn)
        have Hy := Lib.hid hn
        clear hn hs4
        generalize sumI (ruG c d B) k = S at *
        generalize pwI (d - c) k = U at *
        generalize pwI c (B - 1 - k) = V at *
        go_wp2_with fail
        refine (P1.out _).mono ?_
        rintro e w1 ⟨rfl, hb1⟩
        have Hb1 := Lib.hid hb1
        have hz1 := hb1.size
        clear hb1
        go_wp2_with fail
        refine (P2.out _).mono ?_
        rintro e w2 ⟨rfl, hb2⟩
        have Hb2 := Lib.hid hb2
        clear hb2
        go_wp2
        go_roundw
        case rel => exact ⟨k + 1, by omega, by go_num, by rw [Hx.out], by rw [Hy.out], (Hb.out.trans (Hb1.out.mono hsz)).trans (Hb2.out.mono (by omega))⟩
        case measure => simp [intOf]; omega
      · rw [Nat.min_eq_right (by omega)] at hs4 ⊢
        obtain ⟨s4, s5⟩ := hs4
        have dA : decide ((k : Int) < (A : Int)) = false := decide_eq_false (by omega)
        have Hx := Lib.hid (show sumI (ruG c d B) (min (k + 1) A) = sumI (ruG c d B) A by rw [Nat.min_eq_right (by omega)])
        have Hy := Lib.hid hn
        clear hn
        generalize sumI (ruG c d B) k = S at *
        generalize sumI (ruG c d B) A = T at *
        generalize pwI (d - c) k = U at *
        generalize pwI c (B - 1 - k) = V at *
        go_wp2_with fail
        refine (P1.out _).mono ?_
        rintro e w1 ⟨rfl, hb1⟩
        have Hb1 := Lib.hid hb1
        have hz1 := hb1.size
        clear hb1
        go_wp2_with fail
        refine (P2.out _).mono ?_
        rintro e w2 ⟨rfl, hb2⟩
        have Hb2 := Lib.hid hb2
        clear hb2
        go_wp2
        go_roundw
        case rel => exact ⟨k + 1, by omega, by go_num, by rw [Hx.out], by rw [Hy.out], (Hb.out.trans (Hb1.out.mono hsz)).trans (Hb2.out.mono (by omega))⟩
        case measure => simp [intOf]; omega
    · obtain rfl : k = B := by omega
      rw [Nat.min_eq_right ha]
      go_wp2_with fail
      refine (HF.out _).mono ?_
      rintro e w2 ⟨rfl, hd⟩
      have Hd := Lib.hid hd
      clear hd
      go_wp2
      go_ret3
      exact ⟨rfl, Hb.out.trans (Hd.out.below _)⟩
set_option maxRecDepth 100000 in
set_option maxHeartbeats 1000000 in
theorem impl_RuinChance (a : Int) (al : -9223372036854775808 ≤ a) (au : a ≤ 9223372036854775807) (b : Int) (bl : -9223372036854775808 ≤ b) (bu : b ≤ 9223372036854775807) (c : Int) (cl : -9223372036854775808 ≤ c) (cu : c ≤ 9223372036854775807) (d : Int) (dl : -9223372036854775808 ≤ d) (du : d ≤ 9223372036854775807) (w : World) :
    Calls Try.prog 12 #[.int .i64 a, .int .i64 b, .int .i64 c, .int .i64 d] w fun e w' => e = .returned (.tuple #[.int .i64 (res_RuinChance a b c d), .int .i64 (res2_RuinChance a b c d), .bool (ok_RuinChance a b c d)]) ∧ Below w.heap.size w w' := by
  unfold res_RuinChance res2_RuinChance ok_RuinChance
  by_cases h : okRC a b c d
  · rw [if_pos h, if_pos h, decide_eq_true h]
    clear al au bl bu cl cu dl du
    obtain ⟨⟨⟨x0, y0⟩, ⟨x1, y1⟩⟩, ⟨x2, y2⟩, ⟨x3, y3⟩⟩ := h
    obtain ⟨A, rfl⟩ : ∃ n : Nat, a = n := ⟨a.toNat, by omega⟩
    obtain ⟨B, rfl⟩ : ∃ n : Nat, b = n := ⟨b.toNat, by omega⟩
    rw [Int.toNat_natCast, Int.toNat_natCast]
    exact ruin_impl A B c d w (by omega) (by omega) (by omega) x2 y2 x3 y3
  · rw [if_neg h, if_neg h, decide_eq_false h]
    unfold okRC at h
    by_cases g0 : (purse_P a b 10)
    · skip
      have H0 := Lib.hid (purse_yes a b 10 w g0)
      by_cases g1 : (parts_P c d)
      · exact absurd ⟨g0, g1⟩ h
      · have N1 := Lib.hid (parts_no c d w g1)
        clear h g0 g1
        go_enter Try.func12, Try.ntmps12
        go_wp2_with fail
        refine H0.out.mono ?_
        rintro e w' ⟨rfl, rfl⟩
        go_wp2_with fail
        refine N1.out.mono ?_
        rintro e w' ⟨rfl, rfl⟩
        go_wp2
        go_ret3
        exact ⟨rfl, Below.refl _ _⟩
    · have N0 := Lib.hid (purse_no a b 10 w g0)
      clear h g0
      go_enter Try.func12, Try.ntmps12
      go_wp2_with fail
      refine N0.out.mono ?_
      rintro e w' ⟨rfl, rfl⟩
      go_wp2
      go_ret3
      exact ⟨rfl, Below.refl _ _⟩
