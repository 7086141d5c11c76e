/- Contracts: rows of purses, the model; both. -/
import Derived.Test.YticocfoheenmdaaVf
set_option linter.unusedVariables false
namespace Go.Proofs.Yticocfoheenmdaa
open Go.RowKit Go.Maps

/-- the next row, behind k places of the elder one -/
def nxP (u a p q : Int) (t k : Nat) (j : Int) : Int := sumA (fun s => puF u a p q t (s : Int) * puM a p q s j) k
theorem nxP_step (u a p q : Int) (t k : Nat) (j : Int) : nxP u a p q t (k + 1) j = nxP u a p q t k j + puF u a p q t (k : Int) * puM a p q k j := rfl
theorem nxP_edge (u a p q : Int) (t k : Nat) (h : (k : Int) = 0 ∨ (k : Int) = a) (j : Nat) : nxP u a p q t (k + 1) (j : Int) = if j = k then nxP u a p q t k (k : Int) + q * puF u a p q t (k : Int) else nxP u a p q t k (j : Int) := by
  rw [nxP_step]
  unfold puM
  rw [if_pos h]
  unfold upd
  by_cases e : j = k
  · subst e; rw [if_pos rfl, if_pos rfl, Int.mul_comm]
  · rw [if_neg (by omega), if_neg e, Int.mul_zero, Int.add_zero]
theorem nxP_mid (u a p q : Int) (t k : Nat) (h : ¬ ((k : Int) = 0 ∨ (k : Int) = a)) (j : Nat) : nxP u a p q t (k + 1) (j : Int) = if j = k - 1 then nxP u a p q t k ((k - 1 : Nat) : Int) + (q - p) * puF u a p q t (k : Int) else if j = k + 1 then nxP u a p q t k ((k + 1 : Nat) : Int) + p * puF u a p q t (k : Int) else nxP u a p q t k (j : Int) := by
  rw [nxP_step]
  unfold puM
  rw [if_neg h]
  unfold upd
  by_cases e : j = k + 1
  · subst e; rw [if_pos (by omega), if_neg (by omega), if_pos rfl, Int.mul_comm]
  · by_cases e2 : j = k - 1
    · rw [if_neg (by omega), if_pos (by omega), if_pos e2, e2, Int.mul_comm]
    · rw [if_neg (by omega), if_neg (by omega), if_neg e2, if_neg e, Int.mul_zero, Int.add_zero]
theorem nxP_bd (u p q : Int) (a t k : Nat) (hp : 1 ≤ p) (hq : p < q) (h10 : q ≤ 10) (ha : 1 ≤ a) (ht : t < 13) (hk : k ≤ a + 1) (j : Int) : 0 ≤ nxP u a p q t k j ∧ nxP u a p q t k j ≤ 81920000000000000 := by
  have h0 : ∀ s : Nat, 0 ≤ puF u a p q t (s : Int) * puM a p q s j := fun s => pu_term u a p q hp hq t s j
  have h1 : ∀ m n : Nat, sumA (fun s => puF u a p q t (s : Int) * puM a p q s j) m ≤ sumA (fun s => puF u a p q t (s : Int) * puM a p q s j) (m + n) := by
    intro m n
    induction n with
    | zero => exact Int.le_refl _
    | succ n ih =>
      have := h0 (m + n)
      show _ ≤ sumA (fun s => puF u a p q t (s : Int) * puM a p q s j) (m + n) + puF u a p q t ((m + n : Nat) : Int) * puM a p q (m + n) j
      omega
  have h2 := h1 0 k
  have h3 := h1 k (a + 1 - k)
  rw [show k + (a + 1 - k) = a + 1 by omega, pu_step u a p q t (a + 1) rfl (by omega)] at h3
  have h4 := pu_big u a p q hp hq h10 (t + 1) (by omega) j
  rw [Nat.zero_add] at h2
  have h5 : sumA (fun s => puF u a p q t (s : Int) * puM a p q s j) 0 = 0 := rfl
  unfold nxP
  omega
theorem purser_impl_no (a b c d e : Int) (w : World) (h : ¬ okPR a b c d e) :
    Calls Try.prog 13 #[.int .i64 a, .int .i64 b, .int .i64 c, .int .i64 d, .int .i64 e] w fun e' w' => e' = .returned (.tuple #[.slice none 0 0, .int .i64 0, .bool false]) ∧ Below w.heap.size w w' := by
  unfold okPR at h
  by_cases g0 : purse_P a b 10
  · have H0 := Lib.hid (fun z => purse_yes a b 10 z g0)
    by_cases g1 : parts_P c d
    · have H1 := Lib.hid (fun z => parts_yes c d z g1)
      by_cases g2 : 0 ≤ e ∧ e ≤ 12
      · exact absurd ⟨g0, g1, g2⟩ h
      · have H2 := Lib.hid (fun z => within_no e 0 12 z (by omega))
        clear h g0 g1 g2
        go_enter Try.func13, Try.ntmps13
        go_wp2_with fail
        refine (H0.out _).mono ?_
        rintro e1 w' ⟨rfl, rfl⟩
        go_wp2_with fail
        refine (H1.out _).mono ?_
        rintro e1 w' ⟨rfl, rfl⟩
        go_wp2_with fail
        refine (H2.out _).mono ?_
        rintro e1 w' ⟨rfl, rfl⟩
        go_wp2
        go_ret3
        exact ⟨rfl, ((((Below.refl _ w).alloc (Nat.le_refl _) _).alloc (by simp) _).alloc (by simp; omega) _)⟩
    · have H1 := Lib.hid (fun z => parts_no c d z g1)
      · clear h g0 g1
        go_enter Try.func13, Try.ntmps13
        go_wp2_with fail
        refine (H0.out _).mono ?_
        rintro e1 w' ⟨rfl, rfl⟩
        go_wp2_with fail
        refine (H1.out _).mono ?_
        rintro e1 w' ⟨rfl, rfl⟩
        go_wp2
        go_ret3
        exact ⟨rfl, ((((Below.refl _ w).alloc (Nat.le_refl _) _).alloc (by simp) _).alloc (by simp; omega) _)⟩
  · have H0 := Lib.hid (fun z => purse_no a b 10 z g0)
    · · clear h g0
        go_enter Try.func13, Try.ntmps13
        go_wp2_with fail
        refine (H0.out _).mono ?_
        rintro e1 w' ⟨rfl, rfl⟩
        go_wp2
        go_ret3
        exact ⟨rfl, ((((Below.refl _ w).alloc (Nat.le_refl _) _).alloc (by simp) _).alloc (by simp; omega) _)⟩
set_option maxHeartbeats 1000000 in
theorem impl_PurseRow (a : Int) (al : -9223372036854775808 ≤ a) (au : a ≤ 9223372036854775807) (b : Int) (bl : -9223372036854775808 ≤ b) (bu : b ≤ 9223372036854775807) (c : Int) (cl : -9223372036854775808 ≤ c) (cu : c ≤ 9223372036854775807) (d : Int) (dl : -9223372036854775808 ≤ d) (du : d ≤ 9223372036854775807) (e : Int) (el : -9223372036854775808 ≤ e) (eu : e ≤ 9223372036854775807) (w : World) :
    Calls Try.prog 13 #[.int .i64 a, .int .i64 b, .int .i64 c, .int .i64 d, .int .i64 e] w fun e' w' => ∃ r, e' = .returned (.tuple #[r, .int .i64 (res2_PurseRow a b c d e), .bool (ok_PurseRow a b c d e)]) ∧ Sw (Value.int .i64) 0 w' r (res_PurseRow a b c d e) w.heap.size w'.heap.size ∧ Below w.heap.size w w' := by
  unfold ok_PurseRow res_PurseRow res2_PurseRow
  by_cases h : okPR a b c d e
  · rw [if_pos h, if_pos h, decide_eq_true h]
    obtain ⟨⟨⟨x0, y0⟩, x1, y1⟩, ⟨⟨x2, y2⟩, x3, y3⟩, x4, y4⟩ := h
    obtain ⟨u, rfl⟩ : ∃ m : Nat, a = m := ⟨a.toNat, by omega⟩
    obtain ⟨m, rfl⟩ : ∃ m : Nat, b = m := ⟨b.toNat, by omega⟩
    obtain ⟨T, rfl⟩ : ∃ m : Nat, e = m := ⟨e.toNat, by omega⟩
    rw [Int.toNat_natCast, Int.toNat_natCast]
    exact purse_impl_yes u m c d T w (by omega) (by omega) (by omega) x2 y2 x3 y3 (by omega)
  · rw [if_neg h, if_neg h, decide_eq_false h]
    exact (purser_impl_no a b c d e w h).mono fun e' w' ⟨he, hb⟩ => ⟨_, he, Sw.nil _ _ _ _ _ _ _, hb⟩
