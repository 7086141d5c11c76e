/- Contracts: urns, runs of bits, in both texts. -/
import Derived.Test.YtfihnnhgegdjkaaQc
set_option linter.unusedVariables false
namespace Go.Proofs.Ytfihnnhgegdjkaa
open Go.RowKit

def okUC (a b c d : Int) : Prop := ((0 ≤ a ∧ a ≤ 40) ∧ (0 ≤ b ∧ b ≤ 40) ∧ (1 ≤ a + b ∧ a + b ≤ 40)) ∧ ((0 ≤ c ∧ c ≤ a + b) ∧ (0 ≤ d ∧ d ≤ c))
instance (a b c d : Int) : Decidable (okUC a b c d) := by unfold okUC; infer_instance
def ok_UrnChance (a b c d : Int) : Bool := decide (okUC a b c d)
def res_UrnChance (a b c d : Int) : Int := if okUC a b c d then (((setsR a.toNat d.toNat * setsR b.toNat (c - d).toNat : Nat) : Int)) / gcdI (((setsR a.toNat d.toNat * setsR b.toNat (c - d).toNat : Nat) : Int)) (((setsR (a + b).toNat c.toNat : Nat) : Int)) else 0
def res2_UrnChance (a b c d : Int) : Int := if okUC a b c d then (((setsR (a + b).toNat c.toNat : Nat) : Int)) / gcdI (((setsR a.toNat d.toNat * setsR b.toNat (c - d).toNat : Nat) : Int)) (((setsR (a + b).toNat c.toNat : Nat) : Int)) else 0
set_option maxHeartbeats 1000000 in
theorem impl_UrnChance (a : Int) (al : -9223372036854775808 ≤ a) (au : a ≤ 9223372036854775807) (b : Int) (bl : -9223372036854775808 ≤ b) (bu : b ≤ 9223372036854775807) (c : Int) (cl : -9223372036854775808 ≤ c) (cu : c ≤ 9223372036854775807) (d : Int) (dl : -9223372036854775808 ≤ d) (du : d ≤ 9223372036854775807) (w : World) :
    Calls Try.prog 11 #[.int .i64 a, .int .i64 b, .int .i64 c, .int .i64 d] w fun e w' => e = .returned (.tuple #[.int .i64 (res_UrnChance a b c d), .int .i64 (res2_UrnChance a b c d), .bool (ok_UrnChance a b c d)]) ∧ Below w.heap.size w w' := by
  unfold res_UrnChance res2_UrnChance ok_UrnChance
  by_cases h : okUC a b c d
  · rw [if_pos h, if_pos h, decide_eq_true h]
    clear al au bl bu cl cu dl du
    have H0 := Lib.hid (urn_yes a b w h.1)
    have H1 := Lib.hid (draws_yes c d (a + b) w h.2)
    obtain ⟨⟨⟨x0, y0⟩, ⟨x1, y1⟩, ⟨x2, y2⟩⟩, ⟨⟨x3, y3⟩, ⟨x4, y4⟩⟩⟩ := h
    have q0 := setsQ_prod a.toNat b.toNat d.toNat (c - d).toNat (by omega) (by omega) (by omega)
    have q1 := two_pow_60 (a.toNat + b.toNat) (by omega)
    have q2 := setsQ_pos (a + b).toNat c.toNat (by omega) (by omega)
    have q3 := setsQ_two (a + b).toNat c.toNat (by omega) (by omega)
    have q4 := two_pow_60 (a + b).toNat (by omega)
    have q5 : setsR a.toNat d.toNat ≤ 1152921504606846976 := Nat.le_trans (setsQ_two _ _ (by omega) (by omega)) (two_pow_60 _ (by omega))
    have q6 : setsR b.toNat (c - d).toNat ≤ 1152921504606846976 := Nat.le_trans (setsQ_two _ _ (by omega) (by omega)) (two_pow_60 _ (by omega))
    have C1 := countQ_any a.toNat d.toNat w (by omega) (by omega)
    have C2 := countQ_any b.toNat (c - d).toNat w (by omega) (by omega)
    have C3 := countQ_any (a + b).toNat c.toNat w (by omega) (by omega)
    rw [Int.toNat_of_nonneg (by omega), Int.toNat_of_nonneg (by omega)] at C1 C2 C3
    have C1 := Lib.hid C1
    have C2 := Lib.hid C2
    have C3 := Lib.hid C3
    rw [Int.natCast_mul]
    have m0 : 0 ≤ ((setsR a.toNat d.toNat : Nat) : Int) * ((setsR b.toNat (c - d).toNat : Nat) : Int) := by rw [← Int.natCast_mul]; omega
    have m1 : ((setsR a.toNat d.toNat : Nat) : Int) * ((setsR b.toNat (c - d).toNat : Nat) : Int) ≤ 1152921504606846976 := by rw [← Int.natCast_mul]; omega
    have HF := Lib.hid (fracQ_any (((setsR a.toNat d.toNat : Nat) : Int) * ((setsR b.toNat (c - d).toNat : Nat) : Int)) ((setsR (a + b).toNat c.toNat : Nat) : Int) w m0 (by omega) (by omega) (by omega))
    have r1 : 0 ≤ ((setsR a.toNat d.toNat : Nat) : Int) := by omega
    have r2 : ((setsR a.toNat d.toNat : Nat) : Int) ≤ 1152921504606846976 := by omega
    have r3 : 0 ≤ ((setsR b.toNat (c - d).toNat : Nat) : Int) := by omega
    have r4 : ((setsR b.toNat (c - d).toNat : Nat) : Int) ≤ 1152921504606846976 := by omega
    have r5 : 0 ≤ ((setsR (a + b).toNat c.toNat : Nat) : Int) := by omega
    have r6 : ((setsR (a + b).toNat c.toNat : Nat) : Int) ≤ 1152921504606846976 := by omega
    clear q0 q1 q2 q3 q4 q5 q6
    generalize ((setsR a.toNat d.toNat : Nat) : Int) = A at *
    generalize ((setsR b.toNat (c - d).toNat : Nat) : Int) = B at *
    generalize ((setsR (a + b).toNat c.toNat : Nat) : Int) = C at *
    go_enter Try.func11, Try.ntmps11
    go_wp2_with fail
    refine H0.out.mono ?_
    rintro e w' ⟨rfl, rfl⟩
    go_wp2_with fail
    refine H1.out.mono ?_
    rintro e w' ⟨rfl, rfl⟩
    go_wp2_with fail
    refine C1.out.mono ?_
    rintro e w' ⟨rfl, rfl⟩
    go_wp2_with fail
    refine C2.out.mono ?_
    rintro e w' ⟨rfl, rfl⟩
    go_wp2_with fail
    refine C3.out.mono ?_
    rintro e w' ⟨rfl, rfl⟩
    go_wp2_with fail
    refine HF.out.mono ?_
    rintro e w2 ⟨rfl, hd⟩
    have Hd := Lib.hid hd
    clear hd
    go_wp2
    go_ret3
    exact ⟨rfl, Hd.out.below _⟩
  · rw [if_neg h, if_neg h, decide_eq_false h]
    unfold okUC at h
    by_cases g0 : (urn_P a b)
    · skip
      have H0 := Lib.hid (urn_yes a b w g0)
      have ub : 0 ≤ a + b ∧ a + b ≤ 40 := by unfold urn_P at g0; omega
      obtain ⟨ub1, ub2⟩ := ub
      have ua : 0 ≤ a ∧ a ≤ 40 ∧ 0 ≤ b ∧ b ≤ 40 := by unfold urn_P at g0; omega
      obtain ⟨ua1, ua2, ua3, ua4⟩ := ua
      by_cases g1 : (draws_P c d (a + b))
      · exact absurd ⟨g0, g1⟩ h
      · have N1 := Lib.hid (draws_no c d (a + b) w g1)
        clear h g0 g1
        go_enter Try.func11, Try.ntmps11
        go_wp2_with fail
        refine H0.out.mono ?_
        rintro e w' ⟨rfl, rfl⟩
        go_wp2_with fail
        refine N1.out.mono ?_
        rintro e w' ⟨rfl, rfl⟩
        go_wp2
        go_ret3
        exact ⟨rfl, Below.refl _ _⟩
    · have N0 := Lib.hid (urn_no a b w g0)
      clear h g0
      go_enter Try.func11, Try.ntmps11
      go_wp2_with fail
      refine N0.out.mono ?_
      rintro e w' ⟨rfl, rfl⟩
      go_wp2
      go_ret3
      exact ⟨rfl, Below.refl _ _⟩
def partN (b r : Nat) : Nat := if b = 0 ∨ r = 0 then (if b = r then 1 else 0) else setsR (b - 1) (r - 1)
theorem partN_two (b r : Nat) (hb : b < 61) (hr : r < 61) : partN b r ≤ 2 ^ b := by
  unfold partN
  split
  · split
    · exact Nat.one_le_two_pow
    · exact Nat.zero_le _
  · exact Nat.le_trans (setsQ_two _ _ (by omega) (by omega)) (Nat.pow_le_pow_right (by omega) (by omega))
theorem partN_prod (a b r s : Nat) (h : a + b < 61) (hr : r < 61) (hs : s < 61) : partN a r * partN b s ≤ 1152921504606846976 := by
  refine Nat.le_trans (Nat.mul_le_mul (partN_two a r (by omega) hr) (partN_two b s (by omega) hs)) ?_
  rw [← Nat.pow_add]
  exact two_pow_60 _ (by omega)
theorem parting_any (b r : Nat) (w : World) (hb : b < 61) (hr : r < 61) : Calls Try.prog 27 #[.int .i64 (b : Int), .int .i64 (r : Int)] w fun e w' => e = .returned (.int .i64 ((partN b r : Nat) : Int)) ∧ w = w' := by
  unfold partN
  by_cases h : b = 0 ∨ r = 0
  · rw [if_pos h]
    by_cases hb0 : b = 0
    · subst hb0
      by_cases hr0 : r = 0
      · subst hr0
        go_enter Try.func27, Try.ntmps27
        go_wp2
        go_ret
        exact ⟨rfl, rfl⟩
      · rw [if_neg (fun e => hr0 e.symm)]
        have d0 : ((0 : Int) == (r : Int)) = false := by rw [beq_eq_false_iff_ne]; omega
        have d1 : ((0 : Int) = (r : Int)) = False := eq_false (by omega)
        clear h
        go_enter Try.func27, Try.ntmps27
        go_wp2
        go_ret
        exact ⟨rfl, rfl⟩
    · obtain rfl : r = 0 := by omega
      rw [if_neg hb0]
      have d0 : ((b : Int) == 0) = false := by rw [beq_eq_false_iff_ne]; omega
      have d1 : ((b : Int) = 0) = False := eq_false (by omega)
      clear h
      go_enter Try.func27, Try.ntmps27
      go_wp2
      go_ret
      exact ⟨rfl, rfl⟩
  · rw [if_neg h]
    have d0 : ((b : Int) == 0) = false := by rw [beq_eq_false_iff_ne]; omega
    have d1 : ((b : Int) = 0) = False := eq_false (by omega)
    have d2 : ((r : Int) == 0) = false := by rw [beq_eq_false_iff_ne]; omega
    have d3 : ((r : Int) = 0) = False := eq_false (by omega)
    have C := countQ_any (b - 1) (r - 1) w (by omega) (by omega)
    rw [show ((b - 1 : Nat) : Int) = (b : Int) - 1 by omega, show ((r - 1 : Nat) : Int) = (r : Int) - 1 by omega] at C
    have C := Lib.hid C
    clear h
    go_enter Try.func27, Try.ntmps27
    go_wp2_with fail
    refine C.out.mono ?_
    rintro e w' ⟨rfl, rfl⟩
    go_wp2
    go_ret
    exact ⟨rfl, rfl⟩
def runR (a b r : Int) : Int := if 1 ≤ r ∧ r ≤ a + b then ((partN a.toNat (r - r / 2).toNat : Nat) : Int) * ((partN b.toNat (r / 2).toNat : Nat) : Int) + ((partN b.toNat (r - r / 2).toNat : Nat) : Int) * ((partN a.toNat (r / 2).toNat : Nat) : Int) else 0
def okRW (a b c : Int) : Prop := ((0 ≤ a ∧ a ≤ 60) ∧ (0 ≤ b ∧ b ≤ 60) ∧ 0 < a + b) ∧ a + b ≤ 60
instance (a b c : Int) : Decidable (okRW a b c) := by unfold okRW; infer_instance
def ok_RunWays (a b c : Int) : Bool := decide (okRW a b c)
def res_RunWays (a b c : Int) : Int := if okRW a b c then runR a b c else 0
set_option maxHeartbeats 1000000 in
theorem run_impl_in (A B r : Nat) (w : World) (h : A + B ≤ 60) (h0 : 0 < A + B) (r1 : 1 ≤ r) (r2 : r ≤ A + B) :
    Calls Try.prog 14 #[.int .i64 (A : Int), .int .i64 (B : Int), .int .i64 (r : Int)] w fun e w' => e = .returned (.tuple #[.int .i64 (runR A B r), .bool true]) ∧ Below w.heap.size w w' := by
  have H0 := Lib.hid (votes_yes A B 60 w (by omega) (by unfold votes_P; omega))
  have H1 := Lib.hid (within_yes r 1 ((A : Int) + (B : Int)) w (by omega) (by omega))
  have e2 : (r : Int) / 2 = ((r / 2 : Nat) : Int) := by omega
  have e3 : (r : Int) - ((r / 2 : Nat) : Int) = ((r - r / 2 : Nat) : Int) := by omega
  have C1 := Lib.hid (parting_any A (r - r / 2) w (by omega) (by omega))
  have C2 := Lib.hid (parting_any B (r / 2) w (by omega) (by omega))
  have C3 := Lib.hid (parting_any B (r - r / 2) w (by omega) (by omega))
  have C4 := Lib.hid (parting_any A (r / 2) w (by omega) (by omega))
  have q1 := partN_prod A B (r - r / 2) (r / 2) (by omega) (by omega) (by omega)
  have q2 := partN_prod B A (r - r / 2) (r / 2) (by omega) (by omega) (by omega)
  have t1 := Nat.le_trans (partN_two A (r - r / 2) (by omega) (by omega)) (two_pow_60 A (by omega))
  have t2 := Nat.le_trans (partN_two B (r / 2) (by omega) (by omega)) (two_pow_60 B (by omega))
  have t3 := Nat.le_trans (partN_two B (r - r / 2) (by omega) (by omega)) (two_pow_60 B (by omega))
  have t4 := Nat.le_trans (partN_two A (r / 2) (by omega) (by omega)) (two_pow_60 A (by omega))
  have p1 : ((partN A (r - r / 2) : Nat) : Int) * ((partN B (r / 2) : Nat) : Int) ≤ 1152921504606846976 := by rw [← Int.natCast_mul]; omega
  have p2 : ((partN B (r - r / 2) : Nat) : Int) * ((partN A (r / 2) : Nat) : Int) ≤ 1152921504606846976 := by rw [← Int.natCast_mul]; omega
  have p3 : 0 ≤ ((partN A (r - r / 2) : Nat) : Int) * ((partN B (r / 2) : Nat) : Int) := by rw [← Int.natCast_mul]; omega
  have p4 : 0 ≤ ((partN B (r - r / 2) : Nat) : Int) * ((partN A (r / 2) : Nat) : Int) := by rw [← Int.natCast_mul]; omega
  have s1 : ((partN A (r - r / 2) : Nat) : Int) ≤ 1152921504606846976 := by omega
  have s2 : ((partN B (r / 2) : Nat) : Int) ≤ 1152921504606846976 := by omega
  have s3 : ((partN B (r - r / 2) : Nat) : Int) ≤ 1152921504606846976 := by omega
  have s4 : ((partN A (r / 2) : Nat) : Int) ≤ 1152921504606846976 := by omega
  have u1 : 0 ≤ ((partN A (r - r / 2) : Nat) : Int) := by omega
  have u2 : 0 ≤ ((partN B (r / 2) : Nat) : Int) := by omega
  have u3 : 0 ≤ ((partN B (r - r / 2) : Nat) : Int) := by omega
  have u4 : 0 ≤ ((partN A (r / 2) : Nat) : Int) := by omega
  unfold runR
  rw [if_pos (by omega), e2, e3, Int.toNat_natCast, Int.toNat_natCast, Int.toNat_natCast, Int.toNat_natCast]
  have d0 : decide ((60 : Int) < (A : Int) + (B : Int)) = false := decide_eq_false (by omega)
  clear q1 q2 t1 t2 t3 t4
  have E2 := Lib.hid e2
  have E3 := Lib.hid e3
  clear e2 e3
  generalize ((partN A (r - r / 2) : Nat) : Int) = x1 at *
  generalize ((partN B (r / 2) : Nat) : Int) = x2 at *
  generalize ((partN B (r - r / 2) : Nat) : Int) = x3 at *
  generalize ((partN A (r / 2) : Nat) : Int) = x4 at *
  rw [← E3.out, ← E2.out] at C1 C3
  rw [← E2.out] at C2 C4
  clear E2 E3
  go_enter Try.func14, Try.ntmps14
  go_wp2_with fail
  refine H0.out.mono ?_
  rintro e w' ⟨rfl, rfl⟩
  go_wp2_with fail
  refine H1.out.mono ?_
  rintro e w' ⟨rfl, rfl⟩
  go_wp2_with fail
  refine C1.out.mono ?_
  rintro e w' ⟨rfl, rfl⟩
  go_wp2_with fail
  refine C2.out.mono ?_
  rintro e w' ⟨rfl, rfl⟩
  go_wp2_with fail
  refine C3.out.mono ?_
  rintro e w' ⟨rfl, rfl⟩
  go_wp2_with fail
  refine C4.out.mono ?_
  rintro e w' ⟨rfl, rfl⟩
  go_wp2
  go_ret2
  exact ⟨rfl, Below.refl _ _⟩
theorem run_impl_out (a b r : Int) (w : World) (h : votes_P a b 60) (h1 : a + b ≤ 60) (hr : r < 1 ∨ a + b < r) :
    Calls Try.prog 14 #[.int .i64 a, .int .i64 b, .int .i64 r] w fun e w' => e = .returned (.tuple #[.int .i64 0, .bool true]) ∧ Below w.heap.size w w' := by
  have H0 := Lib.hid (votes_yes a b 60 w (by omega) h)
  have H1 := Lib.hid (within_no r 1 (a + b) w hr)
  have d0 : decide (60 < a + b) = false := decide_eq_false (by omega)
  have ha : 0 ≤ a + b := by unfold votes_P at h; omega
  clear h hr
  go_enter Try.func14, Try.ntmps14
  go_wp2_with fail
  refine H0.out.mono ?_
  rintro e w' ⟨rfl, rfl⟩
  go_wp2_with fail
  refine H1.out.mono ?_
  rintro e w' ⟨rfl, rfl⟩
  go_wp2
  go_ret2
  exact ⟨rfl, Below.refl _ _⟩
set_option maxHeartbeats 1000000 in
theorem impl_RunWays (a : Int) (al : -9223372036854775808 ≤ a) (au : a ≤ 9223372036854775807) (b : Int) (bl : -9223372036854775808 ≤ b) (bu : b ≤ 9223372036854775807) (c : Int) (cl : -9223372036854775808 ≤ c) (cu : c ≤ 9223372036854775807) (w : World) :
    Calls Try.prog 14 #[.int .i64 a, .int .i64 b, .int .i64 c] w fun e w' => e = .returned (.tuple #[.int .i64 (res_RunWays a b c), .bool (ok_RunWays a b c)]) ∧ Below w.heap.size w w' := by
  unfold res_RunWays ok_RunWays
  by_cases h : okRW a b c
  · rw [if_pos h, decide_eq_true h]
    clear al au bl bu cl cu
    obtain ⟨h1, h2⟩ := h
    by_cases hr : 1 ≤ c ∧ c ≤ a + b
    · obtain ⟨⟨x0, y0⟩, ⟨x1, y1⟩, z⟩ := h1
      obtain ⟨A, rfl⟩ : ∃ n : Nat, a = n := ⟨a.toNat, by omega⟩
      obtain ⟨B, rfl⟩ : ∃ n : Nat, b = n := ⟨b.toNat, by omega⟩
      obtain ⟨r, rfl⟩ : ∃ n : Nat, c = n := ⟨c.toNat, by omega⟩
      exact run_impl_in A B r w (by omega) (by omega) (by omega) (by omega)
    · rw [show runR a b c = 0 from if_neg hr]
      exact run_impl_out a b c w h1 h2 (by omega)
  · rw [if_neg h, decide_eq_false h]
    unfold okRW at h
    by_cases g0 : (votes_P a b 60)
    · skip
      have H0 := Lib.hid (votes_yes a b 60 w (by omega) g0)
      have ua : 0 ≤ a ∧ a ≤ 60 ∧ 0 ≤ b ∧ b ≤ 60 := by unfold votes_P at g0; omega
      obtain ⟨ua1, ua2, ua3, ua4⟩ := ua
      by_cases g1 : (a + b ≤ 60)
      · exact absurd ⟨g0, g1⟩ h
      · skip
        have d1 : decide (60 < a + b) = true := decide_eq_true (by omega)
        clear h g0 g1
        go_enter Try.func14, Try.ntmps14
        go_wp2_with fail
        refine H0.out.mono ?_
        rintro e w' ⟨rfl, rfl⟩
        go_wp2
        go_ret2
        exact ⟨rfl, Below.refl _ _⟩
    · have N0 := Lib.hid (votes_no a b 60 w (by omega) g0)
      clear h g0
      go_enter Try.func14, Try.ntmps14
      go_wp2_with fail
      refine N0.out.mono ?_
      rintro e w' ⟨rfl, rfl⟩
      go_wp2
      go_ret2
      exact ⟨rfl, Below.refl _ _⟩
theorem runR_none (A B r : Nat) (hz : A = 0 ∨ B = 0) (h0 : 0 < A + B) (r1 : 1 ≤ r) (r2 : r ≤ A + B) : runR A B r = if r = 1 then 1 else 0 := by
  unfold runR
  have e2 : (r : Int) / 2 = ((r / 2 : Nat) : Int) := by omega
  have e3 : (r : Int) - ((r / 2 : Nat) : Int) = ((r - r / 2 : Nat) : Int) := by omega
  rw [if_pos (by omega), e2, e3, Int.toNat_natCast, Int.toNat_natCast, Int.toNat_natCast, Int.toNat_natCast]
  by_cases hr : r = 1
  · subst hr
    rw [if_pos rfl]
    rcases hz with rfl | rfl
    · simp [partN, setsR]
      simp [show ¬ B = 0 by omega]
    · simp [partN, setsR]
      simp [show ¬ A = 0 by omega]
  · rw [if_neg hr]
    have h1 : ∀ k, 1 ≤ k → partN 0 k = 0 := fun k hk => by unfold partN; rw [if_pos (.inl rfl), if_neg (by omega)]
    rcases hz with rfl | rfl
    · rw [h1 _ (by omega), h1 (r / 2) (by omega)]; simp
    · rw [h1 (r - r / 2) (by omega), h1 (r / 2) (by omega)]; simp
