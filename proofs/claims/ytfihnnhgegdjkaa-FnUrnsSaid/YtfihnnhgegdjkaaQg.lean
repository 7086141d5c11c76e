/- Contracts: balls that are put back, urns that grow: the functions, in both texts. -/
import Derived.Test.YtfihnnhgegdjkaaQf
set_option linter.unusedVariables false
namespace Go.Proofs.Ytfihnnhgegdjkaa
open Go.RowKit

theorem redG_zero (r : Int) (k : Nat) : prodR (redG r 0) k = pwI r k := by
  induction k with
  | zero => rfl
  | succ k ih => rw [prodR, pwI, ih]; unfold redG; rw [Int.mul_zero, Int.add_zero]
theorem redG_bounds (r a : Int) (n : Nat) (r0 : 0 ≤ r) (r1 : r ≤ 40) (a0 : 0 ≤ a) (a1 : a ≤ 10) (hn : n ≤ 8) (ha : a = 0 ∨ n ≤ 6) (i : Nat) (hi : i < n) : r ≤ redG r a i ∧ redG r a i ≤ 90 := by
  rcases ha with rfl | hn6
  · unfold redG; rw [Int.mul_zero]; omega
  · exact redG_bd r a i r0 r1 a0 a1 (by omega)
theorem prodG_bd (r a : Int) (n : Nat) (r0 : 0 ≤ r) (r1 : r ≤ 40) (a0 : 0 ≤ a) (a1 : a ≤ 10) (hn : n ≤ 8) (ha : a = 0 ∨ n ≤ 6) (k : Nat) (hk : k ≤ n) : 0 ≤ prodR (redG r a) k ∧ prodR (redG r a) k ≤ pwI 90 k :=
  prodR_bd (redG r a) 90 n (by omega) (fun i hi => by have := redG_bounds r a n r0 r1 a0 a1 hn ha i hi; omega) k hk
theorem prodG_big (r a : Int) (n : Nat) (r0 : 0 ≤ r) (r1 : r ≤ 40) (a0 : 0 ≤ a) (a1 : a ≤ 10) (hn : n ≤ 8) (ha : a = 0 ∨ n ≤ 6) (k : Nat) (hk : k ≤ n) : 0 ≤ prodR (redG r a) k ∧ prodR (redG r a) k ≤ 4304672100000000 := by
  have h := prodG_bd r a n r0 r1 a0 a1 hn ha k hk
  exact ⟨h.1, Int.le_trans h.2 (pwI_90 k (by omega))⟩
theorem prodG_two (r b a : Int) (n : Nat) (r0 : 0 ≤ r) (r1 : r ≤ 40) (b0 : 0 ≤ b) (b1 : b ≤ 40) (a0 : 0 ≤ a) (a1 : a ≤ 10) (hn : n ≤ 8) (ha : a = 0 ∨ n ≤ 6) (j k : Nat) (hk : j + k ≤ n) :
    0 ≤ prodR (redG r a) j * prodR (redG b a) k ∧ prodR (redG r a) j * prodR (redG b a) k ≤ 4304672100000000 := by
  have h1 := prodG_bd r a n r0 r1 a0 a1 hn ha j (by omega)
  have h2 := prodG_bd b a n b0 b1 a0 a1 hn ha k (by omega)
  have h3 := Int.mul_le_mul h1.2 h2.2 h2.1 (Int.le_trans h1.1 h1.2)
  rw [← pwI_add] at h3
  exact ⟨Int.mul_nonneg h1.1 h2.1, Int.le_trans h3 (pwI_90 _ (by omega))⟩
theorem setsR_256 (n k : Nat) (hn : n ≤ 8) (hk : k ≤ n) : 0 ≤ ((setsR n k : Nat) : Int) ∧ ((setsR n k : Nat) : Int) ≤ 256 := by
  have := setsQ_two n k (by omega) (by omega)
  have h2 := Nat.pow_le_pow_right (show 0 < 2 by omega) hn
  omega
theorem prodU_pos (r b a : Int) (n : Nat) (r0 : 0 ≤ r) (b0 : 0 ≤ b) (hrb : 1 ≤ r + b) (hrb2 : r + b ≤ 40) (a0 : 0 ≤ a) (a1 : a ≤ 10) (hn : n ≤ 8) (ha : a = 0 ∨ n ≤ 6) (k : Nat) (hk : k ≤ n) : 1 ≤ prodR (redG (r + b) a) k :=
  prodR_pos (redG (r + b) a) n (fun i hi => by have := redG_bounds (r + b) a n (by omega) (by omega) a0 a1 hn ha i hi; omega) k hk
/-- over the line, behind j draws -/
def overJ (r b a : Int) (n k j : Nat) : Int := ((setsR n k : Nat) : Int) * prodR (redG r a) (min j k) * prodR (redG b a) (j - k)
theorem overJ_done (r b a : Int) (n k : Nat) (h : k ≤ n) : overJ r b a n k n = overU r b a n k := by unfold overJ overU; rw [Nat.min_eq_right h]
theorem overJ_bd (r b a : Int) (n k j : Nat) (r0 : 0 ≤ r) (r1 : r ≤ 40) (b0 : 0 ≤ b) (b1 : b ≤ 40) (a0 : 0 ≤ a) (a1 : a ≤ 10) (hn : n ≤ 8) (ha : a = 0 ∨ n ≤ 6) (hk : k ≤ n) (hj : j ≤ n) : 0 ≤ overJ r b a n k j ∧ overJ r b a n k j ≤ 1101996057600000000 := by
  have h1 := prodG_two r b a n r0 r1 b0 b1 a0 a1 hn ha (min j k) (j - k) (by omega)
  have h2 := setsR_256 n k hn hk
  have h3 := Int.mul_le_mul h2.2 h1.2 h1.1 (by omega)
  unfold overJ
  rw [Int.mul_assoc]
  exact ⟨Int.mul_nonneg h2.1 h1.1, by omega⟩
theorem overJ_red (r b a : Int) (n k j : Nat) (h : j < k) : overJ r b a n k (j + 1) = overJ r b a n k j * redG r a j := by
  unfold overJ
  rw [show min (j + 1) k = j + 1 by omega, show min j k = j by omega, show j + 1 - k = 0 by omega, show j - k = 0 by omega]
  show _ * (prodR (redG r a) j * redG r a j) * 1 = _ * _ * 1 * _
  rw [Int.mul_one, Int.mul_one, Int.mul_assoc]
theorem overJ_blue (r b a : Int) (n k j : Nat) (h : ¬ j < k) : overJ r b a n k (j + 1) = overJ r b a n k j * redG b a (j - k) := by
  unfold overJ
  rw [show min (j + 1) k = k by omega, show min j k = k by omega, show j + 1 - k = (j - k) + 1 by omega]
  show _ * (prodR (redG b a) (j - k) * redG b a (j - k)) = _
  rw [← Int.mul_assoc]
def okUB (a b c d : Int) : Prop := ((0 ≤ a ∧ a ≤ 40) ∧ (0 ≤ b ∧ b ≤ 40) ∧ (1 ≤ a + b ∧ a + b ≤ 40)) ∧ ((0 ≤ c ∧ c ≤ 8) ∧ (0 ≤ d ∧ d ≤ c))
instance (a b c d : Int) : Decidable (okUB a b c d) := by unfold okUB; infer_instance
def ok_UrnBack (a b c d : Int) : Bool := decide (okUB a b c d)
def res_UrnBack (a b c d : Int) : Int := if okUB a b c d then (overU a b 0 c.toNat d.toNat) / gcdI (overU a b 0 c.toNat d.toNat) (underU a b 0 c.toNat) else 0
def res2_UrnBack (a b c d : Int) : Int := if okUB a b c d then (underU a b 0 c.toNat) / gcdI (overU a b 0 c.toNat d.toNat) (underU a b 0 c.toNat) else 0
set_option maxHeartbeats 1000000 in
theorem impl_UrnBack (a : Int) (al : -9223372036854775808 ≤ a) (au : a ≤ 9223372036854775807) (b : Int) (bl : -9223372036854775808 ≤ b) (bu : b ≤ 9223372036854775807) (c : Int) (cl : -9223372036854775808 ≤ c) (cu : c ≤ 9223372036854775807) (d : Int) (dl : -9223372036854775808 ≤ d) (du : d ≤ 9223372036854775807) (w : World) :
    Calls Try.prog 9 #[.int .i64 a, .int .i64 b, .int .i64 c, .int .i64 d] w fun e w' => e = .returned (.tuple #[.int .i64 (res_UrnBack a b c d), .int .i64 (res2_UrnBack a b c d), .bool (ok_UrnBack a b c d)]) ∧ Below w.heap.size w w' := by
  unfold res_UrnBack res2_UrnBack ok_UrnBack
  by_cases h : okUB a b c d
  · rw [if_pos h, if_pos h, decide_eq_true h]
    clear al au bl bu cl cu dl du
    obtain ⟨⟨⟨x0, y0⟩, ⟨x1, y1⟩, ⟨x2, y2⟩⟩, ⟨⟨x3, y3⟩, ⟨x4, y4⟩⟩⟩ := h
    obtain ⟨n, rfl⟩ : ∃ m : Nat, c = m := ⟨c.toNat, by omega⟩
    obtain ⟨k, rfl⟩ : ∃ m : Nat, d = m := ⟨d.toNat, by omega⟩
    rw [Int.toNat_natCast, Int.toNat_natCast]
    have H0 := Lib.hid (urn_yes a b w (by unfold urn_P; omega))
    have H1 := Lib.hid (draws_yes n k 8 w (by unfold draws_P; omega))
    have HC := Lib.hid (chance_any a b 0 n k w x0 x1 x2 y2 (by omega) (by omega) (by omega) (by omega) (.inl rfl))
    go_enter Try.func9, Try.ntmps9
    go_wp2_with fail
    refine H0.out.mono ?_
    rintro e w' ⟨rfl, rfl⟩
    go_wp2_with fail
    refine H1.out.mono ?_
    rintro e w' ⟨rfl, rfl⟩
    go_wp2_with fail
    refine HC.out.mono ?_
    rintro e w2 ⟨rfl, hb⟩
    have Hb := Lib.hid hb
    clear hb
    go_wp2
    go_ret3
    exact ⟨rfl, Hb.out⟩
  · rw [if_neg h, if_neg h, decide_eq_false h]
    unfold okUB at h
    by_cases g0 : (urn_P a b)
    · skip
      have H0 := Lib.hid (urn_yes a b w g0)
      by_cases g1 : (draws_P c d 8)
      · exact absurd ⟨g0, g1⟩ h
      · have N1 := Lib.hid (draws_no c d 8 w g1)
        clear h g0 g1
        go_enter Try.func9, Try.ntmps9
        go_wp2_with fail
        refine H0.out.mono ?_
        rintro e w' ⟨rfl, rfl⟩
        go_wp2_with fail
        refine N1.out.mono ?_
        rintro e w' ⟨rfl, rfl⟩
        go_wp2
        go_ret3
        exact ⟨rfl, Below.refl _ _⟩
    · have N0 := Lib.hid (urn_no a b w g0)
      clear h g0
      go_enter Try.func9, Try.ntmps9
      go_wp2_with fail
      refine N0.out.mono ?_
      rintro e w' ⟨rfl, rfl⟩
      go_wp2
      go_ret3
      exact ⟨rfl, Below.refl _ _⟩
theorem back_over (r b : Int) (n k : Nat) : overU r b 0 n k = ((setsR n k : Nat) : Int) * pwI r k * pwI b (n - k) := by unfold overU; rw [redG_zero, redG_zero]
theorem back_under (r b : Int) (n : Nat) : underU r b 0 n = pwI (r + b) n := by unfold underU; rw [redG_zero]
def okUG (a b e c d : Int) : Prop := ((0 ≤ a ∧ a ≤ 40) ∧ (0 ≤ b ∧ b ≤ 40) ∧ (1 ≤ a + b ∧ a + b ≤ 40)) ∧ (0 ≤ e ∧ e ≤ 10) ∧ ((0 ≤ c ∧ c ≤ 6) ∧ (0 ≤ d ∧ d ≤ c))
instance (a b e c d : Int) : Decidable (okUG a b e c d) := by unfold okUG; infer_instance
def ok_UrnGrows (a b e c d : Int) : Bool := decide (okUG a b e c d)
def res_UrnGrows (a b e c d : Int) : Int := if okUG a b e c d then (overU a b e c.toNat d.toNat) / gcdI (overU a b e c.toNat d.toNat) (underU a b e c.toNat) else 0
def res2_UrnGrows (a b e c d : Int) : Int := if okUG a b e c d then (underU a b e c.toNat) / gcdI (overU a b e c.toNat d.toNat) (underU a b e c.toNat) else 0
set_option maxHeartbeats 1000000 in
theorem impl_UrnGrows (a : Int) (al : -9223372036854775808 ≤ a) (au : a ≤ 9223372036854775807) (b : Int) (bl : -9223372036854775808 ≤ b) (bu : b ≤ 9223372036854775807) (e : Int) (el : -9223372036854775808 ≤ e) (eu : e ≤ 9223372036854775807) (c : Int) (cl : -9223372036854775808 ≤ c) (cu : c ≤ 9223372036854775807) (d : Int) (dl : -9223372036854775808 ≤ d) (du : d ≤ 9223372036854775807) (w : World) :
    Calls Try.prog 10 #[.int .i64 a, .int .i64 b, .int .i64 e, .int .i64 c, .int .i64 d] w fun e' w' => e' = .returned (.tuple #[.int .i64 (res_UrnGrows a b e c d), .int .i64 (res2_UrnGrows a b e c d), .bool (ok_UrnGrows a b e c d)]) ∧ Below w.heap.size w w' := by
  unfold res_UrnGrows res2_UrnGrows ok_UrnGrows
  by_cases h : okUG a b e c d
  · rw [if_pos h, if_pos h, decide_eq_true h]
    clear al au bl bu el eu cl cu dl du
    obtain ⟨⟨⟨x0, y0⟩, ⟨x1, y1⟩, ⟨x2, y2⟩⟩, ⟨x5, y5⟩, ⟨⟨x3, y3⟩, ⟨x4, y4⟩⟩⟩ := h
    obtain ⟨n, rfl⟩ : ∃ m : Nat, c = m := ⟨c.toNat, by omega⟩
    obtain ⟨k, rfl⟩ : ∃ m : Nat, d = m := ⟨d.toNat, by omega⟩
    rw [Int.toNat_natCast, Int.toNat_natCast]
    have H0 := Lib.hid (urn_yes a b w (by unfold urn_P; omega))
    have H1 := Lib.hid (within_yes e 0 10 w x5 y5)
    have H2 := Lib.hid (draws_yes n k 6 w (by unfold draws_P; omega))
    have HC := Lib.hid (chance_any a b e n k w x0 x1 x2 y2 x5 y5 (by omega) (by omega) (.inr (by omega)))
    go_enter Try.func10, Try.ntmps10
    go_wp2_with fail
    refine H0.out.mono ?_
    rintro e w' ⟨rfl, rfl⟩
    go_wp2_with fail
    refine H1.out.mono ?_
    rintro e w' ⟨rfl, rfl⟩
    go_wp2_with fail
    refine H2.out.mono ?_
    rintro e w' ⟨rfl, rfl⟩
    go_wp2_with fail
    refine HC.out.mono ?_
    rintro e w2 ⟨rfl, hb⟩
    have Hb := Lib.hid hb
    clear hb
    go_wp2
    go_ret3
    exact ⟨rfl, Hb.out⟩
  · rw [if_neg h, if_neg h, decide_eq_false h]
    unfold okUG at h
    by_cases g0 : (urn_P a b)
    · skip
      have H0 := Lib.hid (urn_yes a b w g0)
      by_cases g1 : (0 ≤ e ∧ e ≤ 10)
      · obtain ⟨x1, y1⟩ := g1
        have H1 := Lib.hid (within_yes (e) (0) (10) w x1 y1)
        by_cases g2 : (draws_P c d 6)
        · exact absurd ⟨g0, ⟨x1, y1⟩, g2⟩ h
        · have N2 := Lib.hid (draws_no c d 6 w g2)
          clear h g0 g2
          go_enter Try.func10, Try.ntmps10
          go_wp2_with fail
          refine H0.out.mono ?_
          rintro e w' ⟨rfl, rfl⟩
          go_wp2_with fail
          refine H1.out.mono ?_
          rintro e w' ⟨rfl, rfl⟩
          go_wp2_with fail
          refine N2.out.mono ?_
          rintro e w' ⟨rfl, rfl⟩
          go_wp2
          go_ret3
          exact ⟨rfl, Below.refl _ _⟩
      · have N1 := Lib.hid (within_no (e) (0) (10) w (by omega))
        clear h g0 g1
        go_enter Try.func10, Try.ntmps10
        go_wp2_with fail
        refine H0.out.mono ?_
        rintro e w' ⟨rfl, rfl⟩
        go_wp2_with fail
        refine N1.out.mono ?_
        rintro e w' ⟨rfl, rfl⟩
        go_wp2
        go_ret3
        exact ⟨rfl, Below.refl _ _⟩
    · have N0 := Lib.hid (urn_no a b w g0)
      clear h g0
      go_enter Try.func10, Try.ntmps10
      go_wp2_with fail
      refine N0.out.mono ?_
      rintro e w' ⟨rfl, rfl⟩
      go_wp2
      go_ret3
      exact ⟨rfl, Below.refl _ _⟩
