/- Contracts: streaks, the model. -/
import Derived.Test.YtolmhnekfokpdaaWk
import Derived.Test.YtolmhnekfokpdaaWj
set_option linter.unusedVariables false
namespace Go.Proofs.Ytolmhnekfokpdaa
open Go.RowKit Go.Maps

set_option maxRecDepth 100000 in
set_option maxHeartbeats 4000000 in
theorem fewer_any (T n : Nat) (w : World) (n1 : 1 ≤ n) (n2 : n ≤ 61) (hT : T ≤ 60) :
    Calls Try.prog 75 #[.int .i64 (T : Int), .int .i64 (n : Int)] w fun e w' => e = .returned (.int .i64 (fewer T n)) ∧ Below w.heap.size w w' := by
  obtain ⟨i0, hi, hz0, hz1, hz2⟩ := info_parts (show (Try.prog.info? 2).map (fun i => (i.zero, i.size, i.bytes)) = some (some (.int .i64 0), 1, 8) by kernel_rfl)
  have Hp := Lib.hid (fun k (hk : k ≤ T) => (pw2_bd (k + 1) (by omega)).2)
  have Hp0 := Lib.hid (fun k (hk : k ≤ T) => (pw2_bd k (by omega)).2)
  have Hst := Lib.hid (fun i k (hk : k < n) t => nxS_step n i k hk t)
  have Hbd := Lib.hid (fun i k t (hi : i < T) (hk : k ≤ n) => nxS_bd n i k t hk 2305843009213693952 (Hp.out i (by omega)))
  have Hrw := Lib.hid (fun i k (hi : i ≤ T) (hk : k < n) => rw_each (onesL n) 2 n i k hk 2305843009213693952 (Hp0.out i hi))
  have Hfin : Hid (sumA (fun k => rwI (onesL n) 2 n T (k : Int)) n = fewer T n) := Lib.hid rfl
  go_enter Try.func75, Try.ntmps75
  go_wp2_with (at_make; refine wpList_make_full _ rfl _ _ 22 rfl w.heap.size 2 i0 (.int .i64 0) 1 (by kernel_rfl) hi hz0 hz1 .i64 .i64 n n n rfl rfl rfl rfl (by rw [hz2]; omega) (by unfold maxLen; omega) (Nat.le_refl _) ?_; intro w2 hrow hgrow; have c0 : w2.cell? ⟨w.heap.size, 0, none⟩ = some (.int .i64 0) := (by rw [hrow.cellAt 0 (by omega), zeros_tabW, List.getElem?_map, tab, List.getElem?_map, List.getElem?_range (by omega)]; rfl); have f0 := hrow.frozenAt 0)
  have hbel : Below w.heap.size w w2 := (Below.refl _ w).grown hgrow (Nat.le_refl _) (by simp)
  rw [zeros_tabW] at hrow
  have hs0 := (Sw.of_owns (d := 0) hrow (tab_len _ _)).store 0 (by rw [tab_len]; omega) 1
  rw [tab_setW, tab_congr (h := fun j => rwI (onesL n) 2 n 0 (j : Int)) (fun j _ => by unfold rwI; by_cases e : j = 0 <;> simp [e])] at hs0
  have Hs0 := Lib.hid hs0
  have hzz := hgrow.size
  have Hbel := Lib.hid (hbel.setCell (p := ⟨w.heap.size, 0, none⟩) (Nat.le_refl _) (.int .i64 1))
  clear hrow hbel hgrow hs0
  go_loopw [5, 6] (fun r i wr => ∃ t b lo hi : Nat, t ≤ T ∧ i = .int .i64 (t : Int) ∧ r = .slice (some ⟨b, 0, none⟩) n n ∧ Hid (Sw (Value.int .i64) 0 wr (.slice (some ⟨b, 0, none⟩) n n) (tab n fun j => rwI (onesL n) 2 n t (j : Int)) lo hi) ∧ w.heap.size ≤ lo ∧ hi ≤ wr.heap.size ∧ Hid (Below w.heap.size w wr)) (fun _ i _ => T - (intOf i).toNat)
  case atStart => exact ⟨0, w.heap.size, w.heap.size, w2.heap.size, Nat.zero_le _, rfl, rfl, Hs0, Nat.le_refl _, by simp, Hbel⟩
  case round =>
    obtain ⟨wo, rfl⟩ : ∃ z, z = wr := ⟨_, rfl⟩
    obtain ⟨t, bR, lo, hi', ht, rfl, rfl, hR, hlo, hhi, hb⟩ := hrel
    have hsz := hb.out.size
    by_cases hlt : t < T
    · go_wp2_with (at_make; refine wpList_make_full _ rfl _ _ 22 rfl wo.heap.size 2 i0 (.int .i64 0) 1 (by kernel_rfl) hi hz0 hz1 .i64 .i64 n n n rfl rfl rfl rfl (by rw [hz2]; omega) (by unfold maxLen; omega) (Nat.le_refl _) ?_; intro w3 hrow hgrow)
      have hz3 := hgrow.size
      have hb3 : Below wo.heap.size wo w3 := (Below.refl _ wo).grown hgrow (Nat.le_refl _) (by simp)
      rw [zeros_tabW] at hrow
      have hN0 := Sw.of_owns (d := 0) hrow (tab_len _ _)
      rw [tab_congr (h := fun j => nxS n t 0 (j : Int)) (fun j _ => (nxS_zero n t (j : Int)).symm)] at hN0
      have HN0 := Lib.hid hN0
      have HR0 := Lib.hid (hR.out.later hb3)
      have Hb3 := Lib.hid (hb.out.trans (hb3.mono hsz))
      clear hrow hgrow hN0 hb3
      go_wp2
      go_loopw [8] (fun i wi => ∃ k : Nat, k ≤ n ∧ i = .int .i64 (k : Int) ∧ Hid (Sw (Value.int .i64) 0 wi (.slice (some ⟨bR, 0, none⟩) n n) (tab n fun j => rwI (onesL n) 2 n t (j : Int)) lo hi') ∧ Hid (Sw (Value.int .i64) 0 wi (.slice (some ⟨wo.heap.size, 0, none⟩) n n) (tab n fun j => nxS n t k (j : Int)) wo.heap.size w3.heap.size) ∧ w3.heap.size ≤ wi.heap.size ∧ Hid (Below w.heap.size w wi)) (fun i _ => n - (intOf i).toNat)
      case atStart => exact ⟨0, Nat.zero_le _, rfl, HR0, HN0, Nat.le_refl _, Hb3⟩
      case round =>
        obtain ⟨k, hk, rfl, hRi, hNi, hwi, hbi⟩ := hrel
        by_cases hlk : k < n
        · obtain ⟨b1, o1, e1, -, -, cR, -⟩ := hRi.out.open' k (by rw [tab_len]; exact hlk)
          obtain ⟨b2, o2, e2, -, -, cN, fN⟩ := hNi.out.open' 0 (by rw [tab_len]; omega)
          cases e1
          cases e2
          rw [tab_get _ _ _ hlk, Nat.zero_add] at cR
          rw [tab_get _ _ _ (by omega), Nat.zero_add] at cN
          rw [Nat.zero_add] at fN
          have hbk := hNi.out.block (by rw [tab_len]; omega)
          have hbR := hRi.out.block (by rw [tab_len]; omega)
          have hbb : bR < wo.heap.size := by omega
          obtain ⟨x0, x1⟩ := Hbd.out t k 0 hlt (by omega)
          obtain ⟨y0, y1⟩ := Hbd.out t (k + 1) 0 hlt (by omega)
          rw [Hst.out t k hlk 0, if_pos rfl, if_neg (by omega), Int.add_zero] at y0 y1
          obtain ⟨r0, r1⟩ := Hrw.out t k (by omega) hlk
          have HX := Lib.hid (fun j => Hst.out t k hlk j)
          have c0' : wr.cell? ⟨wo.heap.size, 0, none⟩ = some (.int .i64 (nxS n t k 0)) := cN
          by_cases hkK : k + 1 < n
          · obtain ⟨b3, o3, e3, -, -, cN2, fN2⟩ := hNi.out.open' (k + 1) (by rw [tab_len]; omega)
            cases e3
            rw [tab_get _ _ _ (by omega), Nat.zero_add] at cN2
            rw [Nat.zero_add] at fN2
            obtain ⟨u0, u1⟩ := Hbd.out t k ((k + 1 : Nat) : Int) hlt (by omega)
            obtain ⟨v0, v1⟩ := Hbd.out t (k + 1) ((k + 1 : Nat) : Int) hlt (by omega)
            rw [Hst.out t k hlk, if_neg (by omega), if_pos (by omega), Int.zero_add] at v0 v1
            have dk : decide ((k : Int) + 1 < (n : Int)) = true := decide_eq_true (by omega)
            have HN2 : Hid (Sw (Value.int .i64) 0 ((wr.setCell ⟨wo.heap.size, 0, none⟩ (.int .i64 (nxS n t k 0 + rwI (onesL n) 2 n t (k : Int)))).setCell ⟨wo.heap.size, k + 1, none⟩ (.int .i64 (nxS n t k ((k + 1 : Nat) : Int) + rwI (onesL n) 2 n t (k : Int)))) (.slice (some ⟨wo.heap.size, 0, none⟩) n n) (tab n fun j => nxS n t (k + 1) (j : Int)) wo.heap.size w3.heap.size) := Lib.hid (by
              have h1 := hNi.out.store 0 (by rw [tab_len]; omega) (nxS n t k 0 + rwI (onesL n) 2 n t (k : Int))
              have h2 := h1.store (k + 1) (by rw [List.length_set, tab_len]; omega) (nxS n t k ((k + 1 : Nat) : Int) + rwI (onesL n) 2 n t (k : Int))
              rw [tab_setW, tab_setW, Nat.zero_add, Nat.zero_add, tab_congr (h := fun j => nxS n t (k + 1) (j : Int)) (fun j _ => by
                rw [HX.out]
                by_cases e1 : j = k + 1
                · subst e1; rw [if_pos rfl, if_neg (by omega), if_pos (by omega), Int.zero_add]
                · rw [if_neg e1]
                  by_cases e2 : j = 0
                  · subst e2; rw [if_pos rfl, if_pos (show ((0 : Nat) : Int) = 0 from rfl), if_neg (by omega), Int.add_zero]; rfl
                  · rw [if_neg e2, if_neg (by omega), if_neg (by omega), Int.add_zero, Int.add_zero])] at h2
              exact h2)
            have HR2 : Hid (Sw (Value.int .i64) 0 ((wr.setCell ⟨wo.heap.size, 0, none⟩ (.int .i64 (nxS n t k 0 + rwI (onesL n) 2 n t (k : Int)))).setCell ⟨wo.heap.size, k + 1, none⟩ (.int .i64 (nxS n t k ((k + 1 : Nat) : Int) + rwI (onesL n) 2 n t (k : Int)))) (.slice (some ⟨bR, 0, none⟩) n n) (tab n fun j => rwI (onesL n) 2 n t (j : Int)) lo hi') := Lib.hid (hRi.out.apart (((Only.refl wo.heap.size w3.heap.size wr).step' _ _ (Nat.le_refl _) hbk.2).step' _ _ (Nat.le_refl _) hbk.2) (.inl hhi))
            generalize nxS n t k 0 = X at *
            generalize nxS n t k ((k + 1 : Nat) : Int) = Y at *
            generalize rwI (onesL n) 2 n t (k : Int) = R at *
            have hw1 : IntKind.i64.wrap ((k : Int) + 1) = (k : Int) + 1 := IntWalk.i64_in _ (by omega)
            have hw2 : IntKind.i64.wrap (X + R) = X + R := IntWalk.i64_in _ (by omega)
            have hw3 : IntKind.i64.wrap (Y + R) = Y + R := IntWalk.i64_in _ (by omega)
            have cR2 : (wr.setCell ⟨wo.heap.size, 0, none⟩ (.int .i64 (X + R))).cell? ⟨bR, k, none⟩ = some (.int .i64 R) := (World.cell?_setCell_other _ _ _ _ (fun h => by injection h with h1; omega)).trans cR
            have cN3 : (wr.setCell ⟨wo.heap.size, 0, none⟩ (.int .i64 (X + R))).cell? ⟨wo.heap.size, k + 1, none⟩ = some (.int .i64 Y) := (World.cell?_setCell_other _ _ _ _ (fun h => by injection h with _ h1; omega)).trans cN2
            clear HX
            go_wp2
            go_region
            all_goals
              go_wp2
              go_region
            all_goals
              go_wp2
              go_roundw
              case rel => exact ⟨k + 1, by omega, by go_num, Lib.hid HR2.out, Lib.hid HN2.out, by simpa using hwi, Lib.hid (below_drewN ((hbi.out.setCell hsz _).setCell hsz _) 2)⟩
              case measure => simp [intOf]; omega
          · have dk : decide ((k : Int) + 1 < (n : Int)) = false := decide_eq_false (by omega)
            have HN2 : Hid (Sw (Value.int .i64) 0 (wr.setCell ⟨wo.heap.size, 0, none⟩ (.int .i64 (nxS n t k 0 + rwI (onesL n) 2 n t (k : Int)))) (.slice (some ⟨wo.heap.size, 0, none⟩) n n) (tab n fun j => nxS n t (k + 1) (j : Int)) wo.heap.size w3.heap.size) := Lib.hid (by
              have h1 := hNi.out.store 0 (by rw [tab_len]; omega) (nxS n t k 0 + rwI (onesL n) 2 n t (k : Int))
              rw [tab_setW, Nat.zero_add, tab_congr (h := fun j => nxS n t (k + 1) (j : Int)) (fun j hj => by
                rw [HX.out]
                by_cases e2 : j = 0
                · subst e2; rw [if_pos rfl, if_pos (show ((0 : Nat) : Int) = 0 from rfl), if_neg (by omega), Int.add_zero]; rfl
                · rw [if_neg e2, if_neg (by omega), if_neg (by omega), Int.add_zero, Int.add_zero])] at h1
              exact h1)
            have HR2 : Hid (Sw (Value.int .i64) 0 (wr.setCell ⟨wo.heap.size, 0, none⟩ (.int .i64 (nxS n t k 0 + rwI (onesL n) 2 n t (k : Int)))) (.slice (some ⟨bR, 0, none⟩) n n) (tab n fun j => rwI (onesL n) 2 n t (j : Int)) lo hi') := Lib.hid (hRi.out.apart ((Only.refl wo.heap.size w3.heap.size wr).step' _ _ (Nat.le_refl _) hbk.2) (.inl hhi))
            generalize nxS n t k 0 = X at *
            generalize rwI (onesL n) 2 n t (k : Int) = R at *
            have hw2 : IntKind.i64.wrap (X + R) = X + R := IntWalk.i64_in _ (by omega)
            clear HX
            go_wp2
            go_region
            all_goals
              go_wp2
              go_roundw
              case rel => exact ⟨k + 1, by omega, by go_num, Lib.hid HR2.out, Lib.hid HN2.out, by simpa using hwi, Lib.hid (below_drewN (hbi.out.setCell hsz _) 1)⟩
              case measure => simp [intOf]; omega
        · obtain rfl : n = k := by omega
          go_wp2
          go_roundw
          case rel => exact ⟨t + 1, wo.heap.size, wo.heap.size, w3.heap.size, by omega, by go_num, rfl, Lib.hid (by have h1 := hNi.out; rwa [tab_congr (h := fun j => rwI (onesL n) 2 n (t + 1) (j : Int)) (fun j hj => nxS_all n t j hj)] at h1), by omega, hwi, hbi⟩
          case measure => simp [intOf]; omega
    · obtain rfl : T = t := by omega
      go_wp2
      go_loop [9, 10] (fun c i => ∃ k : Nat, k ≤ n ∧ i = .int .i64 (k : Int) ∧ c = .int .i64 (sumA (fun j => rwI (onesL n) 2 n T (j : Int)) k)) (fun _ i => n - (intOf i).toNat)
      case atStart => exact ⟨0, Nat.zero_le _, rfl, rfl⟩
      case round =>
        obtain ⟨k, hk, rfl, rfl⟩ := hrel
        by_cases hlk : k < n
        · obtain ⟨b1, o1, e1, -, -, cR, -⟩ := hR.out.open' k (by rw [tab_len]; exact hlk)
          cases e1
          rw [tab_get _ _ _ hlk, Nat.zero_add] at cR
          have HE := Lib.hid (sA_succ (fun j => rwI (onesL n) 2 n T (j : Int)) k)
          have h1 := sA_nonneg (g := fun j => rwI (onesL n) 2 n T (j : Int)) k (fun j _ => rw_nonneg _ 2 n T _)
          have h2 := sA_part (g := fun j => rwI (onesL n) 2 n T (j : Int)) n (fun j _ => rw_nonneg _ 2 n T _) (k + 1) (by omega)
          have h3 : _ ≤ pwI 2 T := rw_total (onesL n) 2 n T
          have h4 := Hp0.out T (Nat.le_refl _)
          have h5 := rw_nonneg (onesL n) 2 n T (k : Int)
          rw [HE.out] at h2
          have h6 := Int.le_trans h2 (Int.le_trans h3 h4)
          clear h2 h3 h4
          generalize rwI (onesL n) 2 n T (k : Int) = R at *
          generalize sumA (fun j => rwI (onesL n) 2 n T (j : Int)) k = S at *
          go_wp2
          go_round
          case rel => exact ⟨k + 1, by omega, by go_num, by rw [HE.out]⟩
          case measure => simp [intOf]; omega
        · obtain rfl : n = k := by omega
          go_wp2
          go_ret
          exact ⟨ret_int Hfin.out, hb.out⟩
end Go.Proofs.Ytolmhnekfokpdaa
