/- Contracts: birthdays that differ, coupons, in both texts. -/
import Derived.Test.YticocfoheenmdaaQe
set_option linter.unusedVariables false
namespace Go.Proofs.Yticocfoheenmdaa
open Go.RowKit

theorem firstNotQ (f : Nat → Bool) : ∀ p, ((List.range p).all f) = false → ∃ t, t < p ∧ (∀ j, j < t → f j = true) ∧ f t = false
  | 0, h => by simp at h
  | p + 1, h => by
    by_cases g : ((List.range p).all f) = true
    · refine ⟨p, by omega, fun j hj => List.all_eq_true.1 g j (List.mem_range.2 hj), ?_⟩
      rw [List.range_succ, List.all_append, g, Bool.true_and] at h
      simpa using h
    · obtain ⟨t, t1, t2, t3⟩ := firstNotQ f p (by simpa using g)
      exact ⟨t, by omega, t2, t3⟩
def rowsBQ (d : Int) (p : Nat) : Bool := (List.range p).all fun i => decide (pwI d i ≤ 4000000000000000000 / d)
theorem rowsB_atQ {d : Int} {p : Nat} (h : rowsBQ d p = true) (i : Nat) (hi : i < p) : pwI d i ≤ 4000000000000000000 / d := of_decide_eq_true (List.all_eq_true.1 h i (List.mem_range.2 hi))
theorem rowsB_noQ {d : Int} {p : Nat} (h : rowsBQ d p = false) : ∃ t, t < p ∧ (∀ j, j < t → pwI d j ≤ 4000000000000000000 / d) ∧ 4000000000000000000 / d < pwI d t := by
  obtain ⟨t, t1, t2, t3⟩ := firstNotQ _ p h
  exact ⟨t, t1, fun j hj => of_decide_eq_true (t2 j hj), by have := of_decide_eq_false t3; omega⟩
theorem pw_next_bdQ (d : Int) (k : Nat) (h1 : 1 ≤ d) (h : pwI d k ≤ 4000000000000000000 / d) : 1 ≤ pwI d (k + 1) ∧ pwI d (k + 1) ≤ 4000000000000000000 :=
  ⟨pwI_pos d h1 _, (Int.le_ediv_iff_mul_le (by omega)).1 h⟩
theorem pw_upto_bdQ (d : Int) (p : Nat) (h1 : 1 ≤ d) (h : ∀ j, j < p → pwI d j ≤ 4000000000000000000 / d) (k : Nat) (hk : k ≤ p) : 1 ≤ pwI d k ∧ pwI d k ≤ 4000000000000000000 := by
  cases k with
  | zero => exact ⟨Int.le_refl _, by show (1 : Int) ≤ 4000000000000000000; omega⟩
  | succ k => exact pw_next_bdQ d k h1 (h k (by omega))
def missG (d : Int) (i : Nat) : Int := d - (i : Int)
theorem miss_bd (d : Int) (h1 : 1 ≤ d) (k : Nat) : (0 ≤ prodR (missG d) k ∧ prodR (missG d) k ≤ pwI d k) ∧ (d < k → prodR (missG d) k = 0) := by
  induction k with
  | zero => exact ⟨⟨by show (0 : Int) ≤ 1; omega, Int.le_refl _⟩, fun h => by omega⟩
  | succ k ih =>
    obtain ⟨⟨i0, i1⟩, i2⟩ := ih
    have hp := pwI_pos d h1 (k + 1)
    have e : prodR (missG d) (k + 1) = prodR (missG d) k * (d - (k : Int)) := rfl
    by_cases hk : d ≤ k
    · have z : prodR (missG d) (k + 1) = 0 := by
        by_cases hk2 : d = k
        · rw [e, hk2, Int.sub_self, Int.mul_zero]
        · rw [e, i2 (by omega), Int.zero_mul]
      rw [z]
      exact ⟨⟨Int.le_refl _, by omega⟩, fun _ => rfl⟩
    · rw [e]
      exact ⟨⟨Int.mul_nonneg i0 (by omega), Int.mul_le_mul i1 (by omega) (by omega) (by omega)⟩, fun h => by omega⟩
theorem miss_max (d : Int) (h1 : 1 ≤ d) (k : Nat) : prodR (missG d) (k + 1) = prodR (missG d) k * max 0 (d - (k : Int)) := by
  have e : prodR (missG d) (k + 1) = prodR (missG d) k * (d - (k : Int)) := rfl
  by_cases hk : (k : Int) ≤ d
  · rw [Int.max_eq_right (by omega), e]
  · rw [e, (miss_bd d h1 k).2 (by omega), Int.zero_mul, Int.zero_mul]
theorem rows_yesQ (d : Int) (p : Nat) (w : World) (h1 : 1 ≤ d) (h2 : d ≤ 1000) (hp : p ≤ 60) (h : rowsBQ d p = true) :
    Calls Try.prog 38 #[.int .i64 d, .int .i64 (p : Int)] w fun e w' => e = .returned (.tuple #[.int .i64 (pwI d p), .bool true]) ∧ w = w' := by
  have Hb := Lib.hid (fun k hk => pw_upto_bdQ d p h1 (fun j hj => rowsB_atQ h j hj) k hk)
  have Ha := Lib.hid (fun k hk => rowsB_atQ h k hk)
  have Hst := Lib.hid (fun k => (show pwI d (k + 1) = pwI d k * d from rfl))
  clear h
  go_enter Try.func38, Try.ntmps38
  go_wp2
  go_loop [6, 8] (fun c i => ∃ k : Nat, k ≤ p ∧ i = .int .i64 (k : Int) ∧ c = .int .i64 (pwI d k)) (fun _ i => p - (intOf i).toNat)
  case atStart => exact ⟨0, Nat.zero_le _, rfl, rfl⟩
  case round =>
    obtain ⟨k, hk, rfl, rfl⟩ := hrel
    by_cases hlt : k < p
    · have ha := Ha.out k hlt
      have hb1 := Hb.out k (by omega)
      have hb2 := Hb.out (k + 1) (by omega)
      rw [Hst.out] at hb2
      have Hs := Lib.hid (Hst.out k)
      obtain ⟨m0, m1⟩ := hb1
      obtain ⟨m2, m3⟩ := hb2
      have dd : decide (4000000000000000000 / d < pwI d k) = false := decide_eq_false (by omega)
      have q0 : 0 ≤ 4000000000000000000 / d := Int.ediv_nonneg (by omega) (by omega)
      have q1 : 4000000000000000000 / d ≤ 4000000000000000000 := Int.ediv_le_self _ (by omega)
      clear ha
      generalize pwI d k = X at *
      go_wp2
      go_round
      case rel => exact ⟨k + 1, by omega, by go_num, by rw [Hs.out]⟩
      case measure => simp [intOf]; omega
    · obtain rfl : k = p := by omega
      go_wp2
      go_ret2
      exact ⟨rfl, rfl⟩
theorem rows_noQ (d : Int) (p : Nat) (w : World) (h1 : 1 ≤ d) (h2 : d ≤ 1000) (hp : p ≤ 60) (h : rowsBQ d p = false) :
    Calls Try.prog 38 #[.int .i64 d, .int .i64 (p : Int)] w fun e w' => e = .returned (.tuple #[.int .i64 0, .bool false]) ∧ w = w' := by
  obtain ⟨t, t1, t2, t3⟩ := rowsB_noQ h
  have Hb := Lib.hid (fun k hk => pw_upto_bdQ d t h1 (fun j hj => t2 j hj) k hk)
  have Ha := Lib.hid t2
  have Ht := Lib.hid t3
  have Hst := Lib.hid (fun k => (show pwI d (k + 1) = pwI d k * d from rfl))
  clear h t2 t3
  go_enter Try.func38, Try.ntmps38
  go_wp2
  go_loop [6, 8] (fun c i => ∃ k : Nat, k ≤ t ∧ i = .int .i64 (k : Int) ∧ c = .int .i64 (pwI d k)) (fun _ i => p - (intOf i).toNat)
  case atStart => exact ⟨0, Nat.zero_le _, rfl, rfl⟩
  case round =>
    obtain ⟨k, hk, rfl, rfl⟩ := hrel
    have q0 : 0 ≤ 4000000000000000000 / d := Int.ediv_nonneg (by omega) (by omega)
    have q1 : 4000000000000000000 / d ≤ 4000000000000000000 := Int.ediv_le_self _ (by omega)
    by_cases hlt : k < t
    · have ha := Ha.out k hlt
      have hb1 := Hb.out k (by omega)
      have hb2 := Hb.out (k + 1) (by omega)
      rw [Hst.out] at hb2
      have Hs := Lib.hid (Hst.out k)
      obtain ⟨m0, m1⟩ := hb1
      obtain ⟨m2, m3⟩ := hb2
      have dd : decide (4000000000000000000 / d < pwI d k) = false := decide_eq_false (by omega)
      clear ha
      generalize pwI d k = X at *
      go_wp2
      go_round
      case rel => exact ⟨k + 1, by omega, by go_num, by rw [Hs.out]⟩
      case measure => simp [intOf]; omega
    · obtain rfl : k = t := by omega
      have hb1 := Hb.out k (by omega)
      have dd : decide (4000000000000000000 / d < pwI d k) = true := decide_eq_true Ht.out
      obtain ⟨m0, m1⟩ := hb1
      clear Ht
      generalize pwI d k = X at *
      go_wp2
      go_ret2
      exact ⟨rfl, rfl⟩
theorem clo_miss (d : Int) (B : Nat) (k : Nat) (w : World) (h1 : 1 ≤ d) (h2 : d ≤ 1000) (hk : k ≤ 60) (c1 : w.cell? ⟨B, 0, none⟩ = some (.int .i64 d)) :
    Calls Try.prog 40 #[.int .i64 (k : Int), .pointer (some ⟨B, 0, none⟩)] w fun e w' => e = .returned (.int .i64 (missG d k)) ∧ Drawn w w' := by
  unfold missG
  go_enter Try.func40, Try.ntmps40
  go_wp2
  go_ret
  exact ⟨rfl, Drawn.refl _⟩
def okBM (a b : Int) : Prop := (1 ≤ a ∧ a ≤ 1000) ∧ (0 ≤ b ∧ b ≤ 12) ∧ rowsBQ a b.toNat = true
instance (a b : Int) : Decidable (okBM a b) := by unfold okBM; infer_instance
def ok_BirthdayMiss (a b : Int) : Bool := decide (okBM a b)
def res_BirthdayMiss (a b : Int) : Int := if okBM a b then (prodR (missG a) b.toNat) / gcdI (prodR (missG a) b.toNat) (pwI a b.toNat) else 0
def res2_BirthdayMiss (a b : Int) : Int := if okBM a b then (pwI a b.toNat) / gcdI (prodR (missG a) b.toNat) (pwI a b.toNat) else 0
theorem birth_impl_yes (a : Int) (p : Nat) (w : World) (h1 : 1 ≤ a) (h2 : a ≤ 1000) (hp : p ≤ 12) (h : rowsBQ a p = true) :
    Calls Try.prog 19 #[.int .i64 a, .int .i64 (p : Int)] w fun e w' => e = .returned (.tuple #[.int .i64 (prodR (missG a) p / gcdI (prodR (missG a) p) (pwI a p)), .int .i64 (pwI a p / gcdI (prodR (missG a) p) (pwI a p)), .bool true]) ∧ Below w.heap.size w w' := by
  have H0 := Lib.hid (fun z => within_yes a 1 1000 z h1 h2)
  have H1 := Lib.hid (fun z => within_yes (p : Int) 0 12 z (by omega) (by omega))
  have H2 := Lib.hid (fun z => rows_yesQ a p z h1 h2 (by omega) h)
  have hb := fun k hk => pw_upto_bdQ a p h1 (fun j hj => rowsB_atQ h j hj) k hk
  have hm := fun k => miss_bd a h1 k
  have HP := Lib.hid (prodF_any p 40 #[] #[.pointer (some ⟨w.heap.size, 0, none⟩)] (missG a) (w.alloc (.cells #[.int .i64 a] 2)) (by omega) (fun k hk => by have := hb k hk; have := hm k; omega)
    (run_enter Try.func40 (by kernel_rfl) (by kernel_rfl))
    (fun k w' hk hd => (clo_miss a w.heap.size k w' h1 h2 (by omega) (cell_keep hd (World.cell?_alloc_at _ _ _ _ rfl))).mono fun e w'' ⟨h1, h2⟩ => ⟨h1, h2.below _⟩))
  have HF := Lib.hid (fun z => fracQ_any (prodR (missG a) p) (pwI a p) z (hm p).1.1 (by have := hb p (Nat.le_refl _); have := hm p; omega) (hb p (Nat.le_refl _)).1 (by have := hb p (Nat.le_refl _); omega))
  clear hb hm h
  go_enter Try.func19, Try.ntmps19
  go_wp2_with fail
  refine (H0.out _).mono ?_
  rintro e w' ⟨rfl, rfl⟩
  go_wp2_with fail
  refine (H1.out _).mono ?_
  rintro e w' ⟨rfl, rfl⟩
  go_wp2_with fail
  refine (H2.out _).mono ?_
  rintro e w' ⟨rfl, rfl⟩
  go_wp2_with (go_at_call 39; refine HP.out.mono ?_; rintro e w2 ⟨rfl, hb⟩; have Hb := Lib.hid hb; clear hb)
  refine (HF.out _).mono ?_
  rintro e w3 ⟨rfl, m, rfl⟩
  go_wp2
  go_ret3
  exact ⟨rfl, below_drewN (((Below.refl _ w).alloc (Nat.le_refl _) _).trans (Hb.out.mono (by simp))) _⟩
theorem birth_impl_no3 (a : Int) (p : Nat) (w : World) (h1 : 1 ≤ a) (h2 : a ≤ 1000) (hp : p ≤ 12) (h : rowsBQ a p = false) :
    Calls Try.prog 19 #[.int .i64 a, .int .i64 (p : Int)] w fun e w' => e = .returned (.tuple #[.int .i64 0, .int .i64 0, .bool false]) ∧ Below w.heap.size w w' := by
  have H0 := Lib.hid (fun z => within_yes a 1 1000 z h1 h2)
  have H1 := Lib.hid (fun z => within_yes (p : Int) 0 12 z (by omega) (by omega))
  have H2 := Lib.hid (fun z => rows_noQ a p z h1 h2 (by omega) h)
  clear h
  go_enter Try.func19, Try.ntmps19
  go_wp2_with fail
  refine (H0.out _).mono ?_
  rintro e w' ⟨rfl, rfl⟩
  go_wp2_with fail
  refine (H1.out _).mono ?_
  rintro e w' ⟨rfl, rfl⟩
  go_wp2_with fail
  refine (H2.out _).mono ?_
  rintro e w' ⟨rfl, rfl⟩
  go_wp2
  go_ret3
  exact ⟨rfl, (Below.refl _ w).alloc (Nat.le_refl _) _⟩
theorem birth_impl_no (a b : Int) (w : World) (h : ¬ ((1 ≤ a ∧ a ≤ 1000) ∧ 0 ≤ b ∧ b ≤ 12)) :
    Calls Try.prog 19 #[.int .i64 a, .int .i64 b] w fun e w' => e = .returned (.tuple #[.int .i64 0, .int .i64 0, .bool false]) ∧ Below w.heap.size w w' := by
  by_cases g : 1 ≤ a ∧ a ≤ 1000
  · have H0 := Lib.hid (fun z => within_yes a 1 1000 z g.1 g.2)
    have H1 := Lib.hid (fun z => within_no b 0 12 z (by
      by_cases g2 : 0 ≤ b ∧ b ≤ 12
      · exact absurd ⟨g, g2⟩ h
      · omega))
    clear h g
    go_enter Try.func19, Try.ntmps19
    go_wp2_with fail
    refine (H0.out _).mono ?_
    rintro e w' ⟨rfl, rfl⟩
    go_wp2_with fail
    refine (H1.out _).mono ?_
    rintro e w' ⟨rfl, rfl⟩
    go_wp2
    go_ret3
    exact ⟨rfl, (Below.refl _ w).alloc (Nat.le_refl _) _⟩
  · have H0 := Lib.hid (fun z => within_no a 1 1000 z (by omega))
    clear h g
    go_enter Try.func19, Try.ntmps19
    go_wp2_with fail
    refine (H0.out _).mono ?_
    rintro e w' ⟨rfl, rfl⟩
    go_wp2
    go_ret3
    exact ⟨rfl, (Below.refl _ w).alloc (Nat.le_refl _) _⟩
theorem impl_BirthdayMiss (a : Int) (al : -9223372036854775808 ≤ a) (au : a ≤ 9223372036854775807) (b : Int) (bl : -9223372036854775808 ≤ b) (bu : b ≤ 9223372036854775807) (w : World) :
    Calls Try.prog 19 #[.int .i64 a, .int .i64 b] w fun e w' => e = .returned (.tuple #[.int .i64 (res_BirthdayMiss a b), .int .i64 (res2_BirthdayMiss a b), .bool (ok_BirthdayMiss a b)]) ∧ Below w.heap.size w w' := by
  unfold res_BirthdayMiss res2_BirthdayMiss ok_BirthdayMiss
  by_cases h : okBM a b
  · rw [if_pos h, if_pos h, decide_eq_true h]
    obtain ⟨⟨x0, y0⟩, ⟨x1, y1⟩, g⟩ := h
    obtain ⟨p, rfl⟩ : ∃ m : Nat, b = m := ⟨b.toNat, by omega⟩
    rw [Int.toNat_natCast] at g ⊢
    exact birth_impl_yes a p w x0 y0 (by omega) g
  · rw [if_neg h, if_neg h, decide_eq_false h]
    unfold okBM at h
    by_cases h1 : (1 ≤ a ∧ a ≤ 1000) ∧ 0 ≤ b ∧ b ≤ 12
    · obtain ⟨⟨x0, y0⟩, x1, y1⟩ := h1
      obtain ⟨p, rfl⟩ : ∃ m : Nat, b = m := ⟨b.toNat, by omega⟩
      rw [Int.toNat_natCast] at h
      exact birth_impl_no3 a p w x0 y0 (by omega) (by
        rw [Bool.eq_false_iff]; intro h'; exact h ⟨⟨x0, y0⟩, ⟨x1, y1⟩, h'⟩)
    · exact birth_impl_no a b w h1
def hmN : Nat → Int × Int
  | 0 => (0, 1)
  | k + 1 => (((hmN k).1 * ((k : Int) + 1) + (hmN k).2) / gcdI ((hmN k).1 * ((k : Int) + 1) + (hmN k).2) ((hmN k).2 * ((k : Int) + 1)), ((hmN k).2 * ((k : Int) + 1)) / gcdI ((hmN k).1 * ((k : Int) + 1) + (hmN k).2) ((hmN k).2 * ((k : Int) + 1)))
theorem hmN_bd : ∀ k, k < 21 → (0 ≤ (hmN k).1 ∧ (hmN k).1 ≤ 1000000000) ∧ (1 ≤ (hmN k).2 ∧ (hmN k).2 ≤ 1000000000) := by decide +kernel
def okCM (a : Int) : Prop := 1 ≤ a ∧ a ≤ 20
instance (a : Int) : Decidable (okCM a) := by unfold okCM; infer_instance
def ok_CouponMean (a : Int) : Bool := decide (okCM a)
def res_CouponMean (a : Int) : Int := if okCM a then (a * (hmN a.toNat).1) / gcdI (a * (hmN a.toNat).1) ((hmN a.toNat).2) else 0
def res2_CouponMean (a : Int) : Int := if okCM a then ((hmN a.toNat).2) / gcdI (a * (hmN a.toNat).1) ((hmN a.toNat).2) else 0
set_option maxHeartbeats 1000000 in
theorem coupon_impl (n : Nat) (w : World) (h1 : 1 ≤ n) (h2 : n ≤ 20) :
    Calls Try.prog 18 #[.int .i64 (n : Int)] w fun e w' => e = .returned (.tuple #[.int .i64 ((n : Int) * (hmN n).1 / gcdI ((n : Int) * (hmN n).1) (hmN n).2), .int .i64 ((hmN n).2 / gcdI ((n : Int) * (hmN n).1) (hmN n).2), .bool true]) ∧ Below w.heap.size w w' := by
  have H0 := Lib.hid (within_yes (n : Int) 1 20 w (by omega) (by omega))
  have Hb := Lib.hid (fun k (hk : k < 21) => hmN_bd k hk)
  have HL := Lib.hid (fun f wh z a b c d => lowQ_any f wh z a b c d)
  have H1 := Lib.hid (fun k => (show (hmN (k + 1)).1 = ((hmN k).1 * ((k : Int) + 1) + (hmN k).2) / gcdI ((hmN k).1 * ((k : Int) + 1) + (hmN k).2) ((hmN k).2 * ((k : Int) + 1)) from rfl))
  have H2 := Lib.hid (fun k => (show (hmN (k + 1)).2 = ((hmN k).2 * ((k : Int) + 1)) / gcdI ((hmN k).1 * ((k : Int) + 1) + (hmN k).2) ((hmN k).2 * ((k : Int) + 1)) from rfl))
  have b0 := hmN_bd n (by omega)
  have m0 : 0 ≤ (n : Int) * (hmN n).1 := Int.mul_nonneg (by omega) b0.1.1
  have m1 : (n : Int) * (hmN n).1 ≤ 20 * 1000000000 := Int.mul_le_mul (by omega) b0.1.2 b0.1.1 (by omega)
  have HF := Lib.hid (fun z => fracQ_any ((n : Int) * (hmN n).1) (hmN n).2 z m0 (by omega) b0.2.1 (by omega))
  have Hm0 := Lib.hid m0
  have Hm1 := Lib.hid m1
  clear b0 m0 m1
  go_enter Try.func18, Try.ntmps18
  go_wp2_with fail
  refine H0.out.mono ?_
  rintro e w' ⟨rfl, rfl⟩
  go_wp2
  go_loopw [5, 6, 7] (fun x y i wr => ∃ k : Nat, k ≤ n ∧ i = .int .i64 ((k : Int) + 1) ∧ x = .int .i64 (hmN k).1 ∧ y = .int .i64 (hmN k).2 ∧ Drawn w wr) (fun _ _ i _ => n + 1 - (intOf i).toNat)
  case atStart => exact ⟨0, Nat.zero_le _, by go_num, rfl, rfl, Drawn.refl _⟩
  case round =>
    obtain ⟨k, hk, rfl, rfl, rfl, hd⟩ := hrel
    have Hd := Lib.hid hd
    clear hd
    by_cases hlt : k < n
    · have hb := Hb.out k (by omega)
      obtain ⟨⟨b1, b2⟩, b3, b4⟩ := hb
      have n1 : 0 ≤ (hmN k).1 * ((k : Int) + 1) := Int.mul_nonneg b1 (by omega)
      have n2 : (hmN k).1 * ((k : Int) + 1) ≤ 1000000000 * 20 := Int.mul_le_mul b2 (by omega) (by omega) (by omega)
      have n3 : 1 * 1 ≤ (hmN k).2 * ((k : Int) + 1) := Int.mul_le_mul b3 (by omega) (by omega) (by omega)
      have n4 : (hmN k).2 * ((k : Int) + 1) ≤ 1000000000 * 20 := Int.mul_le_mul b4 (by omega) (by omega) (by omega)
      have HC := Lib.hid (fun z => HL.out ((hmN k).1 * ((k : Int) + 1) + (hmN k).2) ((hmN k).2 * ((k : Int) + 1)) z (by omega) (by omega) (by omega) (by omega))
      rw [← H1.out k, ← H2.out k] at HC
      generalize (hmN k).1 = X at *
      generalize (hmN k).2 = Y at *
      go_wp2_with fail
      refine (HC.out _).mono ?_
      rintro e w2 ⟨rfl, hd2⟩
      have Hd2 := Lib.hid (Hd.out.trans hd2)
      clear hd2
      go_wp2
      go_roundw
      case rel => exact ⟨k + 1, by omega, by go_num, rfl, rfl, Hd2.out⟩
      case measure => simp [intOf]; omega
    · obtain rfl : k = n := by omega
      have hb := Hb.out k (by omega)
      obtain ⟨⟨b1, b2⟩, b3, b4⟩ := hb
      have n1 := Hm0.out
      have n2 := Hm1.out
      skip
      go_wp2_with fail
      refine (HF.out _).mono ?_
      rintro e w2 ⟨rfl, hd2⟩
      have Hd2 := Lib.hid (Hd.out.trans hd2)
      clear hd2
      go_wp2
      go_ret3
      exact ⟨rfl, Hd2.out.below _⟩
set_option maxHeartbeats 1000000 in
theorem impl_CouponMean (a : Int) (al : -9223372036854775808 ≤ a) (au : a ≤ 9223372036854775807) (w : World) :
    Calls Try.prog 18 #[.int .i64 a] w fun e w' => e = .returned (.tuple #[.int .i64 (res_CouponMean a), .int .i64 (res2_CouponMean a), .bool (ok_CouponMean a)]) ∧ Below w.heap.size w w' := by
  unfold res_CouponMean res2_CouponMean ok_CouponMean
  by_cases h : okCM a
  · rw [if_pos h, if_pos h, decide_eq_true h]
    clear al au
    obtain ⟨x0, y0⟩ := h
    obtain ⟨n, rfl⟩ : ∃ m : Nat, a = m := ⟨a.toNat, by omega⟩
    rw [Int.toNat_natCast]
    exact coupon_impl n w (by omega) (by omega)
  · rw [if_neg h, if_neg h, decide_eq_false h]
    unfold okCM at h
    by_cases g0 : (1 ≤ a ∧ a ≤ 20)
    · exact absurd g0 h
    · have N0 := Lib.hid (within_no (a) (1) (20) w (by omega))
      clear h g0
      go_enter Try.func18, Try.ntmps18
      go_wp2_with fail
      refine N0.out.mono ?_
      rintro e w' ⟨rfl, rfl⟩
      go_wp2
      go_ret3
      exact ⟨rfl, Below.refl _ _⟩
