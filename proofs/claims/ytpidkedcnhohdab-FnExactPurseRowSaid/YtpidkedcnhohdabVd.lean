/- Contracts: kinds among rows of coupons, the model; both. -/
import Derived.Test.YtpidkedcnhohdabVc
set_option linter.unusedVariables false
namespace Go.Proofs.Ytpidkedcnhohdab
open Go.RowKit Go.Maps

theorem zeros_tab (n : Nat) : (madeCells (Value.int .i64 0).cells (n * 1)).toList = (tab n fun _ => 0).map (Value.int .i64) := by
  rw [Nat.mul_one]
  refine (made1 _ n).trans ?_
  unfold tab
  rw [List.map_map]
  apply List.ext_getElem
  · simp
  · intro i h1 h2; simp
/-- the next row, behind k places of the elder one -/
def nxF (K : Int) (t k j : Nat) : Int := (if j < k then (j : Int) * cpF K t (j : Int) else 0) + (if 1 ≤ j ∧ j ≤ k then (K - ((j : Int) - 1)) * cpF K t ((j : Int) - 1) else 0)
theorem nx_zero (K : Int) (t j : Nat) : nxF K t 0 j = 0 := by unfold nxF; rw [if_neg (by omega), if_neg (by omega)]; rfl
theorem nx_at (K : Int) (t k : Nat) : nxF K t k k = if 1 ≤ k then (K - ((k : Int) - 1)) * cpF K t ((k : Int) - 1) else 0 := by
  unfold nxF
  rw [if_neg (by omega), Int.zero_add]
  by_cases e : 1 ≤ k
  · rw [if_pos ⟨e, Nat.le_refl _⟩, if_pos e]
  · rw [if_neg (by omega), if_neg e]
theorem nx_over (K : Int) (t k : Nat) : nxF K t k (k + 1) = 0 := by unfold nxF; rw [if_neg (by omega), if_neg (by omega)]; rfl
theorem nx_step (K : Int) (t k j : Nat) : nxF K t (k + 1) j = if j = k + 1 then (K - (k : Int)) * cpF K t (k : Int) else if j = k then nxF K t k k + (k : Int) * cpF K t (k : Int) else nxF K t k j := by
  by_cases e1 : j = k + 1
  · subst e1
    rw [if_pos rfl]
    unfold nxF
    rw [if_neg (by omega), if_pos (by omega), Int.zero_add]
    rw [show (((k + 1 : Nat) : Int) - 1) = (k : Int) by omega]
  · rw [if_neg e1]
    by_cases e2 : j = k
    · subst e2
      rw [if_pos rfl, nx_at]
      unfold nxF
      rw [if_pos (by omega)]
      by_cases e3 : 1 ≤ j
      · rw [if_pos (by omega), if_pos e3]; omega
      · rw [if_neg (by omega), if_neg e3]; omega
    · rw [if_neg e2]
      unfold nxF
      by_cases e3 : j < k
      · rw [if_pos (by omega), if_pos e3]
        by_cases e4 : 1 ≤ j
        · rw [if_pos (by omega), if_pos (by omega)]
        · rw [if_neg (by omega), if_neg (by omega)]
      · rw [if_neg (by omega), if_neg e3, if_neg (by omega), if_neg (by omega)]
theorem nx_done (K : Nat) (h : 1 ≤ K) (t j : Nat) (hj : j < K + 1) : nxF K t (K + 1) j = cpF K (t + 1) (j : Int) := by
  unfold nxF
  show _ = (j : Int) * cpF K t (j : Int) + ((K : Int) - ((j : Int) - 1)) * cpF K t ((j : Int) - 1)
  rw [if_pos hj]
  by_cases e : 1 ≤ j
  · rw [if_pos (by omega)]
  · obtain rfl : j = 0 := by omega
    have z : cpF (K : Int) t (((0 : Nat) : Int) - 1) = 0 := cp_zero K (by omega) t _ (by omega)
    rw [if_neg (by omega), z, Int.mul_zero]
theorem nx_bd (K t k j : Nat) (h1 : 1 ≤ K) (h2 : K ≤ 10) (ht : t < 16) (hj : j ≤ 10) (hk : k ≤ 11) : 0 ≤ nxF K t k j ∧ nxF K t k j ≤ 918994597271443220 := by
  have a := cp_big K (by omega) (by omega) t (by omega) (j : Int)
  have b := cp_big K (by omega) (by omega) t (by omega) ((j : Int) - 1)
  have m1 := Int.mul_nonneg (show 0 ≤ (j : Int) by omega) a.1
  have m2 := Int.mul_le_mul (show (j : Int) ≤ 10 by omega) a.2 a.1 (by omega)
  by_cases e : 1 ≤ j ∧ (j : Int) - 1 ≤ K
  · have m3 := Int.mul_nonneg (show 0 ≤ (K : Int) - ((j : Int) - 1) by omega) b.1
    have m4 := Int.mul_le_mul (show (K : Int) - ((j : Int) - 1) ≤ 10 by omega) b.2 b.1 (by omega)
    unfold nxF
    split <;> split <;> omega
  · have z : cpF K t ((j : Int) - 1) = 0 := cp_zero K (by omega) t _ (by omega)
    unfold nxF
    rw [z, Int.mul_zero]
    split <;> split <;> omega
set_option maxRecDepth 100000 in
set_option maxHeartbeats 2000000 in
theorem coup_spec_yes (K T : Nat) (w : World) (k1 : 1 ≤ K) (k2 : K ≤ 10) (t2 : T ≤ 15) :
    Calls Try.prog 31 #[.int .i64 (K : Int), .int .i64 (T : Int)] w fun e w' => ∃ r, e = .returned (.tuple #[r, .bool true]) ∧ Sw (Value.int .i64) 0 w' r (tab (K + 1) (fun k => cpF K T (k : Int))) w.heap.size w'.heap.size ∧ Below w.heap.size w w' := by
  have H0 := Lib.hid (in_yes (K : Int) 1 10 w (by omega) (by omega))
  have H1 := Lib.hid (in_yes (T : Int) 0 15 w (by omega) (by omega))
  obtain ⟨i0, hi, hz0, hz1, hz2⟩ := info_parts (show (Try.prog.info? 2).map (fun i => (i.zero, i.size, i.bytes)) = some (some (.int .i64 0), 1, 8) by kernel_rfl)
  obtain ⟨n, hn⟩ : ∃ n, n = K + 1 := ⟨_, rfl⟩
  have hn1 : (K : Int) + 1 = (n : Int) := by omega
  have Hn := Lib.hid hn
  rw [← hn]
  clear hn
  have Hcp := Lib.hid (fun t (ht : t < 16) k => cp_big (K : Int) (by omega) (by omega) t (by omega) k)
  have Hnx := Lib.hid (fun t k j (ht : t < 16) (hj : j ≤ 10) (hk : k ≤ 11) => nx_bd K t k j k1 k2 ht hj hk)
  have Hstep := Lib.hid (fun t k j => nx_step (K : Int) t k j)
  have hK11 : n ≤ 11 := by have := Hn.out; omega
  go_enter Try.func31, Try.ntmps31
  go_wp2_with fail
  refine H0.out.mono ?_
  rintro e w' ⟨rfl, rfl⟩
  go_wp2_with fail
  refine H1.out.mono ?_
  rintro e w' ⟨rfl, rfl⟩
  go_wp2_with (at_make; refine wpList_make_full _ rfl _ _ 22 rfl w.heap.size 2 i0 (.int .i64 0) 1 (by kernel_rfl) hi hz0 hz1 .i64 .i64 n n n rfl rfl rfl rfl (by rw [hz2]; omega) (by unfold maxLen; omega) (Nat.le_refl _) ?_; intro w1 hrow hgrow; have c0 : w1.cell? ⟨w.heap.size, 0, none⟩ = some (.int .i64 0) := (by rw [hrow.cellAt 0 (by omega), zeros_tab, List.getElem?_map, tab, List.getElem?_map, List.getElem?_range (by omega)]; rfl); have f0 := hrow.frozenAt 0)
  have hbel : Below w.heap.size w w1 := (Below.refl _ w).grown hgrow (Nat.le_refl _) (by simp)
  rw [zeros_tab] at hrow
  have hs0 := (Sw.of_owns (d := 0) hrow (tab_len _ _)).store 0 (by rw [tab_len]; omega) 1
  rw [tab_set] at hs0
  have Hs0 := Lib.hid hs0
  have Hbel := Lib.hid hbel
  clear hrow hbel hgrow hs0
  have Hrow0 : Hid (∀ z, Sw (Value.int .i64) 0 z (.slice (some ⟨w.heap.size, 0, none⟩) n n) (tab n fun j => if j = 0 then 1 else 0) w.heap.size w1.heap.size → Sw (Value.int .i64) 0 z (.slice (some ⟨w.heap.size, 0, none⟩) n n) (tab n fun j => cpF (K : Int) 0 (j : Int)) w.heap.size w1.heap.size) := Lib.hid (fun z h => by
    rw [tab_congr (h := fun j => cpF (K : Int) 0 (j : Int)) (fun j _ => by unfold cpF; by_cases e : j = 0 <;> simp [e])] at h; exact h)
  go_loopw [6, 7] (fun x i wr => ∃ t b lo hi : Nat, t ≤ T ∧ i = .int .i64 (t : Int) ∧ x = .slice (some ⟨b, 0, none⟩) n n ∧ Hid (Sw (Value.int .i64) 0 wr (.slice (some ⟨b, 0, none⟩) n n) (tab n fun j => cpF (K : Int) t (j : Int)) lo hi) ∧ w.heap.size ≤ lo ∧ hi ≤ wr.heap.size ∧ Hid (Below w.heap.size w wr)) (fun _ i _ => T - (intOf i).toNat)
  case atStart => exact ⟨0, w.heap.size, w.heap.size, w1.heap.size, Nat.zero_le _, rfl, rfl, Lib.hid (Hrow0.out _ Hs0.out), Nat.le_refl _, by simp, Lib.hid (Hbel.out.setCell (Nat.le_refl _) _)⟩
  case round =>
    obtain ⟨wo, rfl⟩ : ∃ z, z = wr := ⟨_, rfl⟩
    obtain ⟨t, b, lo, hi', ht, rfl, rfl, hR, hlo, hhi, hb⟩ := hrel
    have hsz := hb.out.size
    by_cases hlt : t < T
    · go_wp2_with (at_make; refine wpList_make_full _ rfl _ _ 22 rfl wo.heap.size 2 i0 (.int .i64 0) 1 (by kernel_rfl) hi hz0 hz1 .i64 .i64 n n n rfl rfl rfl rfl (by rw [hz2]; omega) (by unfold maxLen; omega) (Nat.le_refl _) ?_; intro w2 hrow hgrow)
      have hz2' := hgrow.size
      have hb2 : Below w.heap.size w w2 := hb.out.grown hgrow hsz (fun j hj => by cases hj)
      rw [zeros_tab] at hrow
      have hN0 := Sw.of_owns (d := 0) hrow (tab_len _ _)
      have hR0 := hR.out.later (w' := w2) ⟨hgrow.os, hgrow.tape, hgrow.output, hgrow.size, fun i hi => hgrow.block i hi (by simp)⟩
      have HN0 := Lib.hid hN0
      have HR0 := Lib.hid hR0
      have Hb2 := Lib.hid hb2
      clear hrow hgrow hN0 hR0 hb2
      go_loopw [9] (fun i wi => ∃ k : Nat, k ≤ n ∧ i = .int .i64 (k : Int) ∧ Hid (Sw (Value.int .i64) 0 wi (.slice (some ⟨b, 0, none⟩) n n) (tab n fun j => cpF (K : Int) t (j : Int)) lo hi') ∧ Hid (Sw (Value.int .i64) 0 wi (.slice (some ⟨wo.heap.size, 0, none⟩) n n) (tab n (nxF (K : Int) t k)) wo.heap.size w2.heap.size) ∧ w2.heap.size ≤ wi.heap.size ∧ Hid (Below w.heap.size w wi)) (fun i _ => n - (intOf i).toNat)
      case atStart => exact ⟨0, Nat.zero_le _, rfl, HR0, Lib.hid (by have := HN0.out; rwa [tab_congr (h := nxF (K : Int) t 0) (fun j _ => (nx_zero _ _ _).symm)] at this), Nat.le_refl _, Hb2⟩
      case round =>
        obtain ⟨k, hk, rfl, hRi, hNi, hwi, hbi⟩ := hrel
        by_cases hlk : k < n
        · obtain ⟨b1, o1, e1, -, -, cR, -⟩ := hRi.out.open' k (by rw [tab_len]; exact hlk)
          obtain ⟨b2, o2, e2, -, -, cN, fN⟩ := hNi.out.open' k (by rw [tab_len]; exact hlk)
          cases e1
          cases e2
          rw [tab_get _ _ _ hlk, Nat.zero_add] at cR cN
          rw [Nat.zero_add] at fN
          obtain ⟨x0, x1⟩ := Hnx.out t k k (by omega) (by omega) (by omega)
          obtain ⟨r0, r1⟩ := Hcp.out t (by omega) (k : Int)
          have m0 := Int.mul_nonneg (show 0 ≤ (k : Int) by omega) r0
          have m1 := Int.mul_le_mul (show (k : Int) ≤ 10 by omega) r1 r0 (by omega)
          have HX := Lib.hid (show ∀ j, nxF (K : Int) t (k + 1) j = _ from fun j => Hstep.out t k j)
          by_cases hkK : k < K
          · obtain ⟨b3, o3, e3, -, -, cN2, fN2⟩ := hNi.out.open' (k + 1) (by rw [tab_len]; omega)
            cases e3
            rw [tab_get _ _ _ (by omega), Nat.zero_add, nx_over] at cN2
            rw [Nat.zero_add] at fN2
            have m2 := Int.mul_nonneg (show 0 ≤ (K : Int) - (k : Int) by omega) r0
            have m3 := Int.mul_le_mul (show (K : Int) - (k : Int) ≤ 10 by omega) r1 r0 (by omega)
            have dk : decide (k < K) = true := decide_eq_true hkK
            have hbk := hNi.out.block (by rw [tab_len]; omega)
            have HN2 : Hid (Sw (Value.int .i64) 0 ((wr.setCell ⟨wo.heap.size, k, none⟩ (.int .i64 (nxF (K : Int) t k k + (k : Int) * cpF (K : Int) t (k : Int)))).setCell ⟨wo.heap.size, k + 1, none⟩ (.int .i64 (((K : Int) - (k : Int)) * cpF (K : Int) t (k : Int)))) (.slice (some ⟨wo.heap.size, 0, none⟩) n n) (tab n (nxF (K : Int) t (k + 1))) wo.heap.size w2.heap.size) := Lib.hid (by
              have h1 := hNi.out.store k (by rw [tab_len]; omega) (nxF (K : Int) t k k + (k : Int) * cpF (K : Int) t (k : Int))
              have h2 := h1.store (k + 1) (by rw [List.length_set, tab_len]; omega) (((K : Int) - (k : Int)) * cpF (K : Int) t (k : Int))
              rw [tab_set, tab_set, Nat.zero_add, Nat.zero_add, tab_congr (h := nxF (K : Int) t (k + 1)) (fun j _ => (HX.out j).symm)] at h2
              exact h2)
            have HR2 : Hid (Sw (Value.int .i64) 0 ((wr.setCell ⟨wo.heap.size, k, none⟩ (.int .i64 (nxF (K : Int) t k k + (k : Int) * cpF (K : Int) t (k : Int)))).setCell ⟨wo.heap.size, k + 1, none⟩ (.int .i64 (((K : Int) - (k : Int)) * cpF (K : Int) t (k : Int)))) (.slice (some ⟨b, 0, none⟩) n n) (tab n fun j => cpF (K : Int) t (j : Int)) lo hi') := Lib.hid (hRi.out.apart (((Only.refl wo.heap.size w2.heap.size wr).step' _ _ (Nat.le_refl _) hbk.2).step' _ _ (Nat.le_refl _) hbk.2) (.inl hhi))
            generalize nxF (K : Int) t k k = X at *
            generalize cpF (K : Int) t (k : Int) = R at *
            have hbb : b < wo.heap.size := by have := hR.out.block (by rw [tab_len]; omega); omega
            have hw1 : IntKind.i64.wrap ((k : Int) + 1) = (k : Int) + 1 := IntWalk.i64_in _ (by omega)
            have hw2 : IntKind.i64.wrap ((K : Int) - (k : Int)) = (K : Int) - (k : Int) := IntWalk.i64_in _ (by omega)
            have hw3 : IntKind.i64.wrap (0 + ((K : Int) - (k : Int)) * R) = ((K : Int) - (k : Int)) * R := by rw [Int.zero_add]; exact IntWalk.i64_in _ (by omega)
            have cR2 : (wr.setCell ⟨wo.heap.size, k, none⟩ (.int .i64 (X + (k : Int) * R))).cell? ⟨b, k, none⟩ = some (.int .i64 R) := (World.cell?_setCell_other _ _ _ _ (fun h => by injection h with h1; omega)).trans cR
            have cN3 : (wr.setCell ⟨wo.heap.size, k, none⟩ (.int .i64 (X + (k : Int) * R))).cell? ⟨wo.heap.size, k + 1, none⟩ = some (.int .i64 0) := (World.cell?_setCell_other _ _ _ _ (fun h => by injection h with _ h1; omega)).trans cN2
            go_wp2
            go_region
            all_goals
              go_wp2
              go_region
            all_goals
              go_wp2
              go_roundw
              case rel => exact ⟨k + 1, by omega, by go_num, Lib.hid HR2.out, Lib.hid HN2.out, by simpa using hwi, Lib.hid (below_drewN ((hbi.out.setCell (by have := hb.out.size; exact this) _).setCell (by have := hb.out.size; exact this) _) 2)⟩
              case measure => simp [intOf]; omega
          · have dk : decide (k < K) = false := decide_eq_false hkK
            have hbk := hNi.out.block (by rw [tab_len]; omega)
            have HN2 : Hid (Sw (Value.int .i64) 0 (wr.setCell ⟨wo.heap.size, k, none⟩ (.int .i64 (nxF (K : Int) t k k + (k : Int) * cpF (K : Int) t (k : Int)))) (.slice (some ⟨wo.heap.size, 0, none⟩) n n) (tab n (nxF (K : Int) t (k + 1))) wo.heap.size w2.heap.size) := Lib.hid (by
              have h1 := hNi.out.store k (by rw [tab_len]; omega) (nxF (K : Int) t k k + (k : Int) * cpF (K : Int) t (k : Int))
              rw [tab_set, Nat.zero_add, tab_congr (h := nxF (K : Int) t (k + 1)) (fun j hj => by rw [HX.out j, if_neg (show ¬ j = k + 1 by omega)])] at h1
              exact h1)
            have HR2 : Hid (Sw (Value.int .i64) 0 (wr.setCell ⟨wo.heap.size, k, none⟩ (.int .i64 (nxF (K : Int) t k k + (k : Int) * cpF (K : Int) t (k : Int)))) (.slice (some ⟨b, 0, none⟩) n n) (tab n fun j => cpF (K : Int) t (j : Int)) lo hi') := Lib.hid (hRi.out.apart ((Only.refl wo.heap.size w2.heap.size wr).step' _ _ (Nat.le_refl _) hbk.2) (.inl hhi))
            generalize nxF (K : Int) t k k = X at *
            generalize cpF (K : Int) t (k : Int) = R at *
            go_wp2
            go_region
            all_goals
              go_wp2
              go_roundw
              case rel => exact ⟨k + 1, by omega, by go_num, Lib.hid HR2.out, Lib.hid HN2.out, by simpa using hwi, Lib.hid (below_drewN (hbi.out.setCell (by have := hb.out.size; exact this) _) 1)⟩
              case measure => simp [intOf]; omega
        · obtain rfl : k = n := by omega
          have dk : decide (k ≤ K) = false := decide_eq_false (by have := Hn.out; omega)
          go_wp2
          go_roundw
          case rel => exact ⟨t + 1, wo.heap.size, wo.heap.size, w2.heap.size, by omega, by go_num, rfl, Lib.hid (by have := hNi.out; rwa [tab_congr (h := fun j => cpF (K : Int) (t + 1) (j : Int)) (fun j hj => by rw [Hn.out] at hj ⊢; exact nx_done K k1 t j hj)] at this), by omega, hwi, hbi⟩
          case measure => simp [intOf]; omega
    · obtain rfl : t = T := by omega
      go_wp2
      go_ret2
      exact ⟨_, rfl, hR.out.mono hlo hhi (Nat.le_refl _), hb.out⟩
theorem coup_impl_no (a b : Int) (w : World) (h : ¬ okCC a b) :
    Calls Try.prog 32 #[.int .i64 a, .int .i64 b] w fun e w' => e = .returned (.tuple #[.slice none 0 0, .bool false]) ∧ Below w.heap.size w w' := by
  unfold okCC at h
  by_cases g : 1 ≤ a ∧ a ≤ 10
  · have H0 := Lib.hid (fun z => within_yes a 1 10 z g.1 g.2)
    have H1 := Lib.hid (fun z => within_no b 0 15 z (by
      by_cases g2 : 0 ≤ b ∧ b ≤ 15
      · exact absurd ⟨g, g2⟩ h
      · omega))
    clear h g
    go_enter Try.func32, Try.ntmps32
    go_wp2_with fail
    refine (H0.out _).mono ?_
    rintro e w' ⟨rfl, rfl⟩
    go_wp2_with fail
    refine (H1.out _).mono ?_
    rintro e w' ⟨rfl, rfl⟩
    go_wp2
    go_ret2
    exact ⟨rfl, (Below.refl _ w).alloc (Nat.le_refl _) _⟩
  · have H0 := Lib.hid (fun z => within_no a 1 10 z (by omega))
    clear h g
    go_enter Try.func32, Try.ntmps32
    go_wp2_with fail
    refine (H0.out _).mono ?_
    rintro e w' ⟨rfl, rfl⟩
    go_wp2
    go_ret2
    exact ⟨rfl, (Below.refl _ w).alloc (Nat.le_refl _) _⟩
theorem impl_CouponCounts (a : Int) (al : -9223372036854775808 ≤ a) (au : a ≤ 9223372036854775807) (b : Int) (bl : -9223372036854775808 ≤ b) (bu : b ≤ 9223372036854775807) (w : World) :
    Calls Try.prog 32 #[.int .i64 a, .int .i64 b] w fun e w' => ∃ r, e = .returned (.tuple #[r, .bool (ok_CouponCounts a b)]) ∧ Sw (Value.int .i64) 0 w' r (res_CouponCounts a b) w.heap.size w'.heap.size ∧ Below w.heap.size w w' := by
  unfold ok_CouponCounts res_CouponCounts
  by_cases h : okCC a b
  · rw [if_pos h, decide_eq_true h]
    obtain ⟨⟨x0, y0⟩, x1, y1⟩ := h
    obtain ⟨K, rfl⟩ : ∃ m : Nat, a = m := ⟨a.toNat, by omega⟩
    obtain ⟨T, rfl⟩ : ∃ m : Nat, b = m := ⟨b.toNat, by omega⟩
    rw [Int.toNat_natCast, Int.toNat_natCast]
    exact coup_impl_yes K T w (by omega) (by omega) (by omega)
  · rw [if_neg h, decide_eq_false h]
    exact (coup_impl_no a b w h).mono fun e w' ⟨he, hb⟩ => ⟨_, he, Sw.nil _ _ _ _ _ _ _, hb⟩
theorem coup_spec_no (a b : Int) (w : World) (h : ¬ okCC a b) :
    Calls Try.prog 31 #[.int .i64 a, .int .i64 b] w fun e w' => e = .returned (.tuple #[.slice none 0 0, .bool false]) ∧ Below w.heap.size w w' := by
  unfold okCC at h
  by_cases g : 1 ≤ a ∧ a ≤ 10
  · have H0 := Lib.hid (fun z => in_yes a 1 10 z g.1 g.2)
    have H1 := Lib.hid (fun z => in_no b 0 15 z (by
      by_cases g2 : 0 ≤ b ∧ b ≤ 15
      · exact absurd ⟨g, g2⟩ h
      · omega))
    clear h g
    go_enter Try.func31, Try.ntmps31
    go_wp2_with fail
    refine (H0.out _).mono ?_
    rintro e w' ⟨rfl, rfl⟩
    go_wp2_with fail
    refine (H1.out _).mono ?_
    rintro e w' ⟨rfl, rfl⟩
    go_wp2
    go_ret2
    exact ⟨rfl, Below.refl _ _⟩
  · have H0 := Lib.hid (fun z => in_no a 1 10 z (by omega))
    clear h g
    go_enter Try.func31, Try.ntmps31
    go_wp2_with fail
    refine (H0.out _).mono ?_
    rintro e w' ⟨rfl, rfl⟩
    go_wp2
    go_ret2
    exact ⟨rfl, Below.refl _ _⟩
theorem spec_CouponCounts (a : Int) (al : -9223372036854775808 ≤ a) (au : a ≤ 9223372036854775807) (b : Int) (bl : -9223372036854775808 ≤ b) (bu : b ≤ 9223372036854775807) (w : World) :
    Calls Try.prog 31 #[.int .i64 a, .int .i64 b] w fun e w' => ∃ r, e = .returned (.tuple #[r, .bool (ok_CouponCounts a b)]) ∧ Sw (Value.int .i64) 0 w' r (res_CouponCounts a b) w.heap.size w'.heap.size ∧ Below w.heap.size w w' := by
  unfold ok_CouponCounts res_CouponCounts
  by_cases h : okCC a b
  · rw [if_pos h, decide_eq_true h]
    obtain ⟨⟨x0, y0⟩, x1, y1⟩ := h
    obtain ⟨K, rfl⟩ : ∃ m : Nat, a = m := ⟨a.toNat, by omega⟩
    obtain ⟨T, rfl⟩ : ∃ m : Nat, b = m := ⟨b.toNat, by omega⟩
    rw [Int.toNat_natCast, Int.toNat_natCast]
    exact coup_spec_yes K T w (by omega) (by omega) (by omega)
  · rw [if_neg h, decide_eq_false h]
    exact (coup_spec_no a b w h).mono fun e w' ⟨he, hb⟩ => ⟨_, he, Sw.nil _ _ _ _ _ _ _, hb⟩
end Go.Proofs.Ytpidkedcnhohdab
