/- Contracts: kinds among rows of coupons, the model; both. -/
import Derived.Test.YticocfoheenmdaaVc
set_option linter.unusedVariables false
namespace Go.Proofs.Yticocfoheenmdaa
open Go.RowKit Go.Maps

theorem zeros_tab (n : Nat) : (madeCells (Value.int .i64 0).cells (n * 1)).toList = (tab n fun _ => 0).map (Value.int .i64) := by
  rw [Nat.mul_one]
  refine (made1 _ n).trans ?_
  unfold tab
  rw [List.map_map]
  apply List.ext_getElem
  · simp
  · intro i h1 h2; simp
/-- the next row, behind k places of the elder one -/
def nxF (K : Int) (t k j : Nat) : Int := (if j < k then (j : Int) * cpF K t (j : Int) else 0) + (if 1 ≤ j ∧ j ≤ k then (K - ((j : Int) - 1)) * cpF K t ((j : Int) - 1) else 0)
theorem nx_zero (K : Int) (t j : Nat) : nxF K t 0 j = 0 := by unfold nxF; rw [if_neg (by omega), if_neg (by omega)]; rfl
theorem nx_at (K : Int) (t k : Nat) : nxF K t k k = if 1 ≤ k then (K - ((k : Int) - 1)) * cpF K t ((k : Int) - 1) else 0 := by
  unfold nxF
  rw [if_neg (by omega), Int.zero_add]
  by_cases e : 1 ≤ k
  · rw [if_pos ⟨e, Nat.le_refl _⟩, if_pos e]
  · rw [if_neg (by omega), if_neg e]
theorem nx_over (K : Int) (t k : Nat) : nxF K t k (k + 1) = 0 := by unfold nxF; rw [if_neg (by omega), if_neg (by omega)]; rfl
theorem nx_step (K : Int) (t k j : Nat) : nxF K t (k + 1) j = if j = k + 1 then (K - (k : Int)) * cpF K t (k : Int) else if j = k then nxF K t k k + (k : Int) * cpF K t (k : Int) else nxF K t k j := by
  by_cases e1 : j = k + 1
  · subst e1
    rw [if_pos rfl]
    unfold nxF
    rw [if_neg (by omega), if_pos (by omega), Int.zero_add]
    rw [show (((k + 1 : Nat) : Int) - 1) = (k : Int) by omega]
  · rw [if_neg e1]
    by_cases e2 : j = k
    · subst e2
      rw [if_pos rfl, nx_at]
      unfold nxF
      rw [if_pos (by omega)]
      by_cases e3 : 1 ≤ j
      · rw [if_pos (by omega), if_pos e3]; omega
      · rw [if_neg (by omega), if_neg e3]; omega
    · rw [if_neg e2]
      unfold nxF
      by_cases e3 : j < k
      · rw [if_pos (by omega), if_pos e3]
        by_cases e4 : 1 ≤ j
        · rw [if_pos (by omega), if_pos (by omega)]
        · rw [if_neg (by omega), if_neg (by omega)]
      · rw [if_neg (by omega), if_neg e3, if_neg (by omega), if_neg (by omega)]
theorem nx_done (K : Nat) (h : 1 ≤ K) (t j : Nat) (hj : j < K + 1) : nxF K t (K + 1) j = cpF K (t + 1) (j : Int) := by
  unfold nxF
  show _ = (j : Int) * cpF K t (j : Int) + ((K : Int) - ((j : Int) - 1)) * cpF K t ((j : Int) - 1)
  rw [if_pos hj]
  by_cases e : 1 ≤ j
  · rw [if_pos (by omega)]
  · obtain rfl : j = 0 := by omega
    have z : cpF (K : Int) t (((0 : Nat) : Int) - 1) = 0 := cp_zero K (by omega) t _ (by omega)
    rw [if_neg (by omega), z, Int.mul_zero]
theorem nx_bd (K t k j : Nat) (h1 : 1 ≤ K) (h2 : K ≤ 10) (ht : t < 16) (hj : j ≤ 10) (hk : k ≤ 11) : 0 ≤ nxF K t k j ∧ nxF K t k j ≤ 918994597271443220 := by
  have a := cp_big K (by omega) (by omega) t (by omega) (j : Int)
  have b := cp_big K (by omega) (by omega) t (by omega) ((j : Int) - 1)
  have m1 := Int.mul_nonneg (show 0 ≤ (j : Int) by omega) a.1
  have m2 := Int.mul_le_mul (show (j : Int) ≤ 10 by omega) a.2 a.1 (by omega)
  by_cases e : 1 ≤ j ∧ (j : Int) - 1 ≤ K
  · have m3 := Int.mul_nonneg (show 0 ≤ (K : Int) - ((j : Int) - 1) by omega) b.1
    have m4 := Int.mul_le_mul (show (K : Int) - ((j : Int) - 1) ≤ 10 by omega) b.2 b.1 (by omega)
    unfold nxF
    split <;> split <;> omega
  · have z : cpF K t ((j : Int) - 1) = 0 := cp_zero K (by omega) t _ (by omega)
    unfold nxF
    rw [z, Int.mul_zero]
    split <;> split <;> omega
theorem coup_impl_no (a b : Int) (w : World) (h : ¬ okCC a b) :
    Calls Try.prog 17 #[.int .i64 a, .int .i64 b] w fun e w' => e = .returned (.tuple #[.slice none 0 0, .bool false]) ∧ Below w.heap.size w w' := by
  unfold okCC at h
  by_cases g : 1 ≤ a ∧ a ≤ 10
  · have H0 := Lib.hid (fun z => within_yes a 1 10 z g.1 g.2)
    have H1 := Lib.hid (fun z => within_no b 0 15 z (by
      by_cases g2 : 0 ≤ b ∧ b ≤ 15
      · exact absurd ⟨g, g2⟩ h
      · omega))
    clear h g
    go_enter Try.func17, Try.ntmps17
    go_wp2_with fail
    refine (H0.out _).mono ?_
    rintro e w' ⟨rfl, rfl⟩
    go_wp2_with fail
    refine (H1.out _).mono ?_
    rintro e w' ⟨rfl, rfl⟩
    go_wp2
    go_ret2
    exact ⟨rfl, (Below.refl _ w).alloc (Nat.le_refl _) _⟩
  · have H0 := Lib.hid (fun z => within_no a 1 10 z (by omega))
    clear h g
    go_enter Try.func17, Try.ntmps17
    go_wp2_with fail
    refine (H0.out _).mono ?_
    rintro e w' ⟨rfl, rfl⟩
    go_wp2
    go_ret2
    exact ⟨rfl, (Below.refl _ w).alloc (Nat.le_refl _) _⟩
theorem impl_CouponCounts (a : Int) (al : -9223372036854775808 ≤ a) (au : a ≤ 9223372036854775807) (b : Int) (bl : -9223372036854775808 ≤ b) (bu : b ≤ 9223372036854775807) (w : World) :
    Calls Try.prog 17 #[.int .i64 a, .int .i64 b] w fun e w' => ∃ r, e = .returned (.tuple #[r, .bool (ok_CouponCounts a b)]) ∧ Sw (Value.int .i64) 0 w' r (res_CouponCounts a b) w.heap.size w'.heap.size ∧ Below w.heap.size w w' := by
  unfold ok_CouponCounts res_CouponCounts
  by_cases h : okCC a b
  · rw [if_pos h, decide_eq_true h]
    obtain ⟨⟨x0, y0⟩, x1, y1⟩ := h
    obtain ⟨K, rfl⟩ : ∃ m : Nat, a = m := ⟨a.toNat, by omega⟩
    obtain ⟨T, rfl⟩ : ∃ m : Nat, b = m := ⟨b.toNat, by omega⟩
    rw [Int.toNat_natCast, Int.toNat_natCast]
    exact coup_impl_yes K T w (by omega) (by omega) (by omega)
  · rw [if_neg h, decide_eq_false h]
    exact (coup_impl_no a b w h).mono fun e w' ⟨he, hb⟩ => ⟨_, he, Sw.nil _ _ _ _ _ _ _, hb⟩
