/- Contracts: rows of purses, the model; both. -/
import Derived.Test.YtpidkedcnhohdabVf
set_option linter.unusedVariables false
namespace Go.Proofs.Ytpidkedcnhohdab
open Go.RowKit Go.Maps

/-- the next row, behind k places of the elder one -/
def nxP (u a p q : Int) (t k : Nat) (j : Int) : Int := sumA (fun s => puF u a p q t (s : Int) * puM a p q s j) k
theorem nxP_step (u a p q : Int) (t k : Nat) (j : Int) : nxP u a p q t (k + 1) j = nxP u a p q t k j + puF u a p q t (k : Int) * puM a p q k j := rfl
theorem nxP_edge (u a p q : Int) (t k : Nat) (h : (k : Int) = 0 ∨ (k : Int) = a) (j : Nat) : nxP u a p q t (k + 1) (j : Int) = if j = k then nxP u a p q t k (k : Int) + q * puF u a p q t (k : Int) else nxP u a p q t k (j : Int) := by
  rw [nxP_step]
  unfold puM
  rw [if_pos h]
  unfold upd
  by_cases e : j = k
  · subst e; rw [if_pos rfl, if_pos rfl, Int.mul_comm]
  · rw [if_neg (by omega), if_neg e, Int.mul_zero, Int.add_zero]
theorem nxP_mid (u a p q : Int) (t k : Nat) (h : ¬ ((k : Int) = 0 ∨ (k : Int) = a)) (j : Nat) : nxP u a p q t (k + 1) (j : Int) = if j = k - 1 then nxP u a p q t k ((k - 1 : Nat) : Int) + (q - p) * puF u a p q t (k : Int) else if j = k + 1 then nxP u a p q t k ((k + 1 : Nat) : Int) + p * puF u a p q t (k : Int) else nxP u a p q t k (j : Int) := by
  rw [nxP_step]
  unfold puM
  rw [if_neg h]
  unfold upd
  by_cases e : j = k + 1
  · subst e; rw [if_pos (by omega), if_neg (by omega), if_pos rfl, Int.mul_comm]
  · by_cases e2 : j = k - 1
    · rw [if_neg (by omega), if_pos (by omega), if_pos e2, e2, Int.mul_comm]
    · rw [if_neg (by omega), if_neg (by omega), if_neg e2, if_neg e, Int.mul_zero, Int.add_zero]
theorem nxP_bd (u p q : Int) (a t k : Nat) (hp : 1 ≤ p) (hq : p < q) (h10 : q ≤ 10) (ha : 1 ≤ a) (ht : t < 13) (hk : k ≤ a + 1) (j : Int) : 0 ≤ nxP u a p q t k j ∧ nxP u a p q t k j ≤ 81920000000000000 := by
  have h0 : ∀ s : Nat, 0 ≤ puF u a p q t (s : Int) * puM a p q s j := fun s => pu_term u a p q hp hq t s j
  have h1 : ∀ m n : Nat, sumA (fun s => puF u a p q t (s : Int) * puM a p q s j) m ≤ sumA (fun s => puF u a p q t (s : Int) * puM a p q s j) (m + n) := by
    intro m n
    induction n with
    | zero => exact Int.le_refl _
    | succ n ih =>
      have := h0 (m + n)
      show _ ≤ sumA (fun s => puF u a p q t (s : Int) * puM a p q s j) (m + n) + puF u a p q t ((m + n : Nat) : Int) * puM a p q (m + n) j
      omega
  have h2 := h1 0 k
  have h3 := h1 k (a + 1 - k)
  rw [show k + (a + 1 - k) = a + 1 by omega, pu_step u a p q t (a + 1) rfl (by omega)] at h3
  have h4 := pu_big u a p q hp hq h10 (t + 1) (by omega) j
  rw [Nat.zero_add] at h2
  have h5 : sumA (fun s => puF u a p q t (s : Int) * puM a p q s j) 0 = 0 := rfl
  unfold nxP
  omega
set_option maxRecDepth 100000 in
set_option maxHeartbeats 4000000 in
theorem purse_spec_yes (u a : Nat) (p q : Int) (T : Nat) (w : World) (a1 : 1 ≤ a) (a2 : a ≤ 10) (hu : u ≤ a) (q1 : 2 ≤ q) (q2 : q ≤ 10) (p1 : 1 ≤ p) (p2 : p ≤ q - 1) (t2 : T ≤ 12) :
    Calls Try.prog 29 #[.int .i64 (u : Int), .int .i64 (a : Int), .int .i64 p, .int .i64 q, .int .i64 (T : Int)] w fun e w' => ∃ r, e = .returned (.tuple #[r, .int .i64 (pwI q T), .bool true]) ∧ Sw (Value.int .i64) 0 w' r (tab (a + 1) (fun k => puF u a p q T (k : Int))) w.heap.size w'.heap.size ∧ Below w.heap.size w w' := by
  have H0 := Lib.hid (purseS_yes (u : Int) (a : Int) p q w (by unfold purseS_P; omega))
  have H1 := Lib.hid (in_yes (T : Int) 0 12 w (by omega) (by omega))
  obtain ⟨i0, hi, hz0, hz1, hz2⟩ := info_parts (show (Try.prog.info? 2).map (fun i => (i.zero, i.size, i.bytes)) = some (some (.int .i64 0), 1, 8) by kernel_rfl)
  obtain ⟨n, hn⟩ : ∃ n, n = a + 1 := ⟨_, rfl⟩
  have hn1 : (a : Int) + 1 = (n : Int) := by omega
  have Hn := Lib.hid hn
  rw [← hn]
  clear hn
  have Hpu := Lib.hid (fun t (ht : t < 14) k => pu_big (u : Int) (a : Int) p q p1 (by omega) q2 t ht k)
  have Hnx := Lib.hid (fun t k (j : Int) (ht : t < 13) (hk : k ≤ a + 1) => nxP_bd (u : Int) p q a t k p1 (by omega) q2 a1 ht hk j)
  have He := Lib.hid (fun t k h j => nxP_edge (u : Int) (a : Int) p q t k h j)
  have Hm := Lib.hid (fun t k h j => nxP_mid (u : Int) (a : Int) p q t k h j)
  have HP := Lib.hid (fun z => powerS_any q T z (by omega) (fun k hk => by have := pw_small q q1 q2 k (by omega); omega))
  have hK11 : n ≤ 11 := by have := Hn.out; omega
  have hun : u < n := by have := Hn.out; omega
  go_enter Try.func29, Try.ntmps29
  go_wp2_with fail
  refine H0.out.mono ?_
  rintro e w' ⟨rfl, rfl⟩
  go_wp2_with fail
  refine H1.out.mono ?_
  rintro e w' ⟨rfl, rfl⟩
  go_wp2_with (at_make; refine wpList_make_full _ rfl _ _ 22 rfl w.heap.size 2 i0 (.int .i64 0) 1 (by kernel_rfl) hi hz0 hz1 .i64 .i64 n n n rfl rfl rfl rfl (by rw [hz2]; omega) (by unfold maxLen; omega) (Nat.le_refl _) ?_; intro w1 hrow hgrow; have c0 : w1.cell? ⟨w.heap.size, u, none⟩ = some (.int .i64 0) := (by rw [hrow.cellAt u (by omega), zeros_tab, List.getElem?_map, tab, List.getElem?_map, List.getElem?_range (by omega)]; rfl); have f0 := hrow.frozenAt u)
  have hbel : Below w.heap.size w w1 := (Below.refl _ w).grown hgrow (Nat.le_refl _) (by simp)
  rw [zeros_tab] at hrow
  have hs0 := (Sw.of_owns (d := 0) hrow (tab_len _ _)).store u (by rw [tab_len]; omega) 1
  rw [tab_set, Nat.zero_add] at hs0
  have Hs0 := Lib.hid hs0
  have Hbel := Lib.hid hbel
  clear hrow hbel hgrow hs0
  have Hrow0 : Hid (∀ z, Sw (Value.int .i64) 0 z (.slice (some ⟨w.heap.size, 0, none⟩) n n) (tab n fun j => if j = u then 1 else 0) w.heap.size w1.heap.size → Sw (Value.int .i64) 0 z (.slice (some ⟨w.heap.size, 0, none⟩) n n) (tab n fun j => puF (u : Int) (a : Int) p q 0 (j : Int)) w.heap.size w1.heap.size) := Lib.hid (fun z h => by
    rw [tab_congr (h := fun j => puF (u : Int) (a : Int) p q 0 (j : Int)) (fun j _ => by
      unfold puF
      by_cases e : j = u
      · rw [if_pos e, if_pos (by omega)]
      · rw [if_neg e, if_neg (by omega)])] at h; exact h)
  go_loopw [13, 14] (fun x i wr => ∃ t b lo hi : Nat, t ≤ T ∧ i = .int .i64 (t : Int) ∧ x = .slice (some ⟨b, 0, none⟩) n n ∧ Hid (Sw (Value.int .i64) 0 wr (.slice (some ⟨b, 0, none⟩) n n) (tab n fun j => puF (u : Int) (a : Int) p q t (j : Int)) lo hi) ∧ w.heap.size ≤ lo ∧ hi ≤ wr.heap.size ∧ Hid (Below w.heap.size w wr)) (fun _ i _ => T - (intOf i).toNat)
  case atStart => exact ⟨0, w.heap.size, w.heap.size, w1.heap.size, Nat.zero_le _, rfl, rfl, Lib.hid (Hrow0.out _ Hs0.out), Nat.le_refl _, by simp, Lib.hid (Hbel.out.setCell (Nat.le_refl _) _)⟩
  case round =>
    obtain ⟨wo, rfl⟩ : ∃ z, z = wr := ⟨_, rfl⟩
    obtain ⟨t, b, lo, hi', ht, rfl, rfl, hR, hlo, hhi, hb⟩ := hrel
    have hsz := hb.out.size
    by_cases hlt : t < T
    · go_wp2_with (at_make; refine wpList_make_full _ rfl _ _ 22 rfl wo.heap.size 2 i0 (.int .i64 0) 1 (by kernel_rfl) hi hz0 hz1 .i64 .i64 n n n rfl rfl rfl rfl (by rw [hz2]; omega) (by unfold maxLen; omega) (Nat.le_refl _) ?_; intro w2 hrow hgrow)
      have hz2' := hgrow.size
      have hb2 : Below w.heap.size w w2 := hb.out.grown hgrow hsz (fun j hj => by cases hj)
      rw [zeros_tab] at hrow
      have hN0 := Sw.of_owns (d := 0) hrow (tab_len _ _)
      have hR0 := hR.out.later (w' := w2) ⟨hgrow.os, hgrow.tape, hgrow.output, hgrow.size, fun i hi => hgrow.block i hi (by simp)⟩
      have HN0 := Lib.hid hN0
      have HR0 := Lib.hid hR0
      have Hb2 := Lib.hid hb2
      clear hrow hgrow hN0 hR0 hb2
      go_loopw [16] (fun i wi => ∃ k : Nat, k ≤ n ∧ i = .int .i64 (k : Int) ∧ Hid (Sw (Value.int .i64) 0 wi (.slice (some ⟨b, 0, none⟩) n n) (tab n fun j => puF (u : Int) (a : Int) p q t (j : Int)) lo hi') ∧ Hid (Sw (Value.int .i64) 0 wi (.slice (some ⟨wo.heap.size, 0, none⟩) n n) (tab n fun j => nxP (u : Int) (a : Int) p q t k (j : Int)) wo.heap.size w2.heap.size) ∧ w2.heap.size ≤ wi.heap.size ∧ Hid (Below w.heap.size w wi)) (fun i _ => n - (intOf i).toNat)
      case atStart => exact ⟨0, Nat.zero_le _, rfl, HR0, HN0, Nat.le_refl _, Hb2⟩
      case round =>
        obtain ⟨k, hk, rfl, hRi, hNi, hwi, hbi⟩ := hrel
        have hbb : b < wo.heap.size := by have := hR.out.block (by rw [tab_len]; omega); omega
        by_cases hlk : k < n
        · obtain ⟨b1, o1, e1, -, -, cR, -⟩ := hRi.out.open' k (by rw [tab_len]; exact hlk)
          cases e1
          rw [tab_get _ _ _ hlk, Nat.zero_add] at cR
          have hbk := hNi.out.block (by rw [tab_len]; omega)
          obtain ⟨r0, r1⟩ := Hpu.out t (by omega) (k : Int)
          have dk : decide (k ≤ a) = true := decide_eq_true (by have := Hn.out; omega)
          by_cases hedge : (k : Int) = 0 ∨ (k : Int) = (a : Int)
          · obtain ⟨b2, o2, e2, -, -, cN, fN⟩ := hNi.out.open' k (by rw [tab_len]; exact hlk)
            cases e2
            rw [tab_get _ _ _ hlk, Nat.zero_add] at cN
            rw [Nat.zero_add] at fN
            obtain ⟨x0, x1⟩ := Hnx.out t k (k : Int) (by omega) (by have := Hn.out; omega)
            have m0 := Int.mul_nonneg (show 0 ≤ q by omega) r0
            have m1 := Int.mul_le_mul q2 r1 r0 (by omega)
            have HN2 : Hid (Sw (Value.int .i64) 0 (wr.setCell ⟨wo.heap.size, k, none⟩ (.int .i64 (nxP (u : Int) (a : Int) p q t k (k : Int) + q * puF (u : Int) (a : Int) p q t (k : Int)))) (.slice (some ⟨wo.heap.size, 0, none⟩) n n) (tab n fun j => nxP (u : Int) (a : Int) p q t (k + 1) (j : Int)) wo.heap.size w2.heap.size) := Lib.hid (by
              have h1 := hNi.out.store k (by rw [tab_len]; omega) (nxP (u : Int) (a : Int) p q t k (k : Int) + q * puF (u : Int) (a : Int) p q t (k : Int))
              rw [tab_set, Nat.zero_add, tab_congr (h := fun j => nxP (u : Int) (a : Int) p q t (k + 1) (j : Int)) (fun j hj => (He.out t k hedge j).symm)] at h1
              exact h1)
            have HR2 : Hid (Sw (Value.int .i64) 0 (wr.setCell ⟨wo.heap.size, k, none⟩ (.int .i64 (nxP (u : Int) (a : Int) p q t k (k : Int) + q * puF (u : Int) (a : Int) p q t (k : Int)))) (.slice (some ⟨b, 0, none⟩) n n) (tab n fun j => puF (u : Int) (a : Int) p q t (j : Int)) lo hi') := Lib.hid (hRi.out.apart ((Only.refl wo.heap.size w2.heap.size wr).step' _ _ (Nat.le_refl _) hbk.2) (.inl hhi))
            generalize nxP (u : Int) (a : Int) p q t k (k : Int) = X at *
            generalize puF (u : Int) (a : Int) p q t (k : Int) = R at *
            by_cases hk0 : k = 0
            · subst hk0
              go_wp2
              go_region
              all_goals
                go_wp2
                go_roundw
                case rel => exact ⟨1, by omega, by go_num, Lib.hid HR2.out, Lib.hid HN2.out, by simpa using hwi, Lib.hid (below_drewN (hbi.out.setCell (by have := hb.out.size; exact this) _) 1)⟩
                case measure => simp [intOf]; omega
            · obtain rfl : k = a := by omega
              have d0 : ((k : Int) == 0) = false := by rw [beq_eq_false_iff_ne]; omega
              have d0' : ((k : Int) = 0) = False := eq_false (by omega)
              clear hedge hk0
              go_wp2
              go_region
              all_goals
                go_wp2
                go_roundw
                case rel => exact ⟨k + 1, by omega, by go_num, Lib.hid HR2.out, Lib.hid HN2.out, by simpa using hwi, Lib.hid (below_drewN (hbi.out.setCell (by have := hb.out.size; exact this) _) 1)⟩
                case measure => simp [intOf]; omega
          · have hk1 : 1 ≤ k := by omega
            have hka : k + 1 < n := by have := Hn.out; omega
            obtain ⟨b2, o2, e2, -, -, cN, fN⟩ := hNi.out.open' (k - 1) (by rw [tab_len]; omega)
            obtain ⟨b3, o3, e3, -, -, cN2, fN2⟩ := hNi.out.open' (k + 1) (by rw [tab_len]; omega)
            cases e2
            cases e3
            rw [tab_get _ _ _ (by omega), Nat.zero_add] at cN cN2
            rw [Nat.zero_add] at fN fN2
            obtain ⟨x0, x1⟩ := Hnx.out t k ((k - 1 : Nat) : Int) (by omega) (by have := Hn.out; omega)
            obtain ⟨y0, y1⟩ := Hnx.out t k ((k + 1 : Nat) : Int) (by omega) (by have := Hn.out; omega)
            have m0 := Int.mul_nonneg (show 0 ≤ p by omega) r0
            have m1 := Int.mul_le_mul (show p ≤ 10 by omega) r1 r0 (by omega)
            have m2 := Int.mul_nonneg (show 0 ≤ q - p by omega) r0
            have m3 := Int.mul_le_mul (show q - p ≤ 10 by omega) r1 r0 (by omega)
            have HN2 : Hid (Sw (Value.int .i64) 0 ((wr.setCell ⟨wo.heap.size, k + 1, none⟩ (.int .i64 (nxP (u : Int) (a : Int) p q t k ((k + 1 : Nat) : Int) + p * puF (u : Int) (a : Int) p q t (k : Int)))).setCell ⟨wo.heap.size, k - 1, none⟩ (.int .i64 (nxP (u : Int) (a : Int) p q t k ((k - 1 : Nat) : Int) + (q - p) * puF (u : Int) (a : Int) p q t (k : Int)))) (.slice (some ⟨wo.heap.size, 0, none⟩) n n) (tab n fun j => nxP (u : Int) (a : Int) p q t (k + 1) (j : Int)) wo.heap.size w2.heap.size) := Lib.hid (by
              have h1 := hNi.out.store (k + 1) (by rw [tab_len]; omega) (nxP (u : Int) (a : Int) p q t k ((k + 1 : Nat) : Int) + p * puF (u : Int) (a : Int) p q t (k : Int))
              have h2 := h1.store (k - 1) (by rw [List.length_set, tab_len]; omega) (nxP (u : Int) (a : Int) p q t k ((k - 1 : Nat) : Int) + (q - p) * puF (u : Int) (a : Int) p q t (k : Int))
              rw [tab_set, tab_set, Nat.zero_add, Nat.zero_add, tab_congr (h := fun j => nxP (u : Int) (a : Int) p q t (k + 1) (j : Int)) (fun j hj => (Hm.out t k hedge j).symm)] at h2
              exact h2)
            have HR2 : Hid (Sw (Value.int .i64) 0 ((wr.setCell ⟨wo.heap.size, k + 1, none⟩ (.int .i64 (nxP (u : Int) (a : Int) p q t k ((k + 1 : Nat) : Int) + p * puF (u : Int) (a : Int) p q t (k : Int)))).setCell ⟨wo.heap.size, k - 1, none⟩ (.int .i64 (nxP (u : Int) (a : Int) p q t k ((k - 1 : Nat) : Int) + (q - p) * puF (u : Int) (a : Int) p q t (k : Int)))) (.slice (some ⟨b, 0, none⟩) n n) (tab n fun j => puF (u : Int) (a : Int) p q t (j : Int)) lo hi') := Lib.hid (hRi.out.apart (((Only.refl wo.heap.size w2.heap.size wr).step' _ _ (Nat.le_refl _) hbk.2).step' _ _ (Nat.le_refl _) hbk.2) (.inl hhi))
            generalize nxP (u : Int) (a : Int) p q t k ((k - 1 : Nat) : Int) = X at *
            generalize nxP (u : Int) (a : Int) p q t k ((k + 1 : Nat) : Int) = Y at *
            generalize puF (u : Int) (a : Int) p q t (k : Int) = R at *
            have cR2 : (wr.setCell ⟨wo.heap.size, k + 1, none⟩ (.int .i64 (Y + p * R))).cell? ⟨b, k, none⟩ = some (.int .i64 R) := (World.cell?_setCell_other _ _ _ _ (fun h => by injection h with h1; omega)).trans cR
            have cN3 : (wr.setCell ⟨wo.heap.size, k + 1, none⟩ (.int .i64 (Y + p * R))).cell? ⟨wo.heap.size, k - 1, none⟩ = some (.int .i64 X) := (World.cell?_setCell_other _ _ _ _ (fun h => by injection h with _ h1; omega)).trans cN
            have d0 : ((k : Int) == 0) = false := by rw [beq_eq_false_iff_ne]; omega
            have d0' : ((k : Int) = 0) = False := eq_false (by omega)
            have d1 : ((k : Int) == (a : Int)) = false := by rw [beq_eq_false_iff_ne]; omega
            have d1' : ((k : Int) = (a : Int)) = False := eq_false (by omega)
            have d2 : (k == a) = false := by rw [beq_eq_false_iff_ne]; omega
            have d2' : (k = a) = False := eq_false (by omega)
            have d3 : (k = 0) = False := eq_false (by omega)
            have hw1 : IntKind.i64.wrap ((k : Int) + 1) = (k : Int) + 1 := IntWalk.i64_in _ (by omega)
            have hw2 : IntKind.i64.wrap ((k : Int) - 1) = ((k - 1 : Nat) : Int) := by rw [IntWalk.i64_in _ (by omega)]; omega
            have hw3 : IntKind.i64.wrap (q - p) = q - p := IntWalk.i64_in _ (by omega)
            clear hedge
            go_wp2
            go_region
            all_goals
              go_wp2
              go_region
            all_goals
              go_wp2
              go_roundw
              case rel => exact ⟨k + 1, by omega, by go_num, Lib.hid HR2.out, Lib.hid HN2.out, by simpa using hwi, Lib.hid (below_drewN ((hbi.out.setCell (by have := hb.out.size; exact this) _).setCell (by have := hb.out.size; exact this) _) 2)⟩
              case measure => simp [intOf]; omega
        · obtain rfl : k = n := by omega
          have dk : decide (k ≤ a) = false := decide_eq_false (by have := Hn.out; omega)
          go_wp2
          go_roundw
          case rel => exact ⟨t + 1, wo.heap.size, wo.heap.size, w2.heap.size, by omega, by go_num, rfl, Lib.hid (by have := hNi.out; rwa [tab_congr (h := fun j => puF (u : Int) (a : Int) p q (t + 1) (j : Int)) (fun j hj => by unfold nxP; exact pu_step u a p q t k (by have := Hn.out; omega) (by omega) (j : Int))] at this), by omega, hwi, hbi⟩
          case measure => simp [intOf]; omega
    · obtain rfl : t = T := by omega
      go_wp2_with fail
      refine (HP.out _).mono ?_
      rintro e w' ⟨rfl, rfl⟩
      go_wp2
      go_ret3
      exact ⟨_, rfl, hR.out.mono hlo hhi (Nat.le_refl _), hb.out⟩
theorem purser_impl_no (a b c d e : Int) (w : World) (h : ¬ okPR a b c d e) :
    Calls Try.prog 30 #[.int .i64 a, .int .i64 b, .int .i64 c, .int .i64 d, .int .i64 e] w fun e' w' => e' = .returned (.tuple #[.slice none 0 0, .int .i64 0, .bool false]) ∧ Below w.heap.size w w' := by
  unfold okPR at h
  by_cases g0 : purse_P a b 10
  · have H0 := Lib.hid (fun z => purse_yes a b 10 z g0)
    by_cases g1 : parts_P c d
    · have H1 := Lib.hid (fun z => parts_yes c d z g1)
      by_cases g2 : 0 ≤ e ∧ e ≤ 12
      · exact absurd ⟨g0, g1, g2⟩ h
      · have H2 := Lib.hid (fun z => within_no e 0 12 z (by omega))
        clear h g0 g1 g2
        go_enter Try.func30, Try.ntmps30
        go_wp2_with fail
        refine (H0.out _).mono ?_
        rintro e1 w' ⟨rfl, rfl⟩
        go_wp2_with fail
        refine (H1.out _).mono ?_
        rintro e1 w' ⟨rfl, rfl⟩
        go_wp2_with fail
        refine (H2.out _).mono ?_
        rintro e1 w' ⟨rfl, rfl⟩
        go_wp2
        go_ret3
        exact ⟨rfl, ((((Below.refl _ w).alloc (Nat.le_refl _) _).alloc (by simp) _).alloc (by simp; omega) _)⟩
    · have H1 := Lib.hid (fun z => parts_no c d z g1)
      · clear h g0 g1
        go_enter Try.func30, Try.ntmps30
        go_wp2_with fail
        refine (H0.out _).mono ?_
        rintro e1 w' ⟨rfl, rfl⟩
        go_wp2_with fail
        refine (H1.out _).mono ?_
        rintro e1 w' ⟨rfl, rfl⟩
        go_wp2
        go_ret3
        exact ⟨rfl, ((((Below.refl _ w).alloc (Nat.le_refl _) _).alloc (by simp) _).alloc (by simp; omega) _)⟩
  · have H0 := Lib.hid (fun z => purse_no a b 10 z g0)
    · · clear h g0
        go_enter Try.func30, Try.ntmps30
        go_wp2_with fail
        refine (H0.out _).mono ?_
        rintro e1 w' ⟨rfl, rfl⟩
        go_wp2
        go_ret3
        exact ⟨rfl, ((((Below.refl _ w).alloc (Nat.le_refl _) _).alloc (by simp) _).alloc (by simp; omega) _)⟩
theorem purser_spec_no (a b c d e : Int) (w : World) (h : ¬ okPR a b c d e) :
    Calls Try.prog 29 #[.int .i64 a, .int .i64 b, .int .i64 c, .int .i64 d, .int .i64 e] w fun e' w' => e' = .returned (.tuple #[.slice none 0 0, .int .i64 0, .bool false]) ∧ Below w.heap.size w w' := by
  unfold okPR at h
  by_cases g0 : purseS_P a b c d
  · have H0 := Lib.hid (fun z => purseS_yes a b c d z g0)
    by_cases g2 : 0 ≤ e ∧ e ≤ 12
    · exact absurd (by unfold purseS_P at g0; omega) h
    · have H2 := Lib.hid (fun z => in_no e 0 12 z (by omega))
      · clear h g0 g2
        go_enter Try.func29, Try.ntmps29
        go_wp2_with fail
        refine (H0.out _).mono ?_
        rintro e1 w' ⟨rfl, rfl⟩
        go_wp2_with fail
        refine (H2.out _).mono ?_
        rintro e1 w' ⟨rfl, rfl⟩
        go_wp2
        go_ret3
        exact ⟨rfl, Below.refl _ _⟩
  · have H0 := Lib.hid (fun z => purseS_no a b c d z g0)
    · · clear h g0
        go_enter Try.func29, Try.ntmps29
        go_wp2_with fail
        refine (H0.out _).mono ?_
        rintro e1 w' ⟨rfl, rfl⟩
        go_wp2
        go_ret3
        exact ⟨rfl, Below.refl _ _⟩
set_option maxHeartbeats 1000000 in
theorem impl_PurseRow (a : Int) (al : -9223372036854775808 ≤ a) (au : a ≤ 9223372036854775807) (b : Int) (bl : -9223372036854775808 ≤ b) (bu : b ≤ 9223372036854775807) (c : Int) (cl : -9223372036854775808 ≤ c) (cu : c ≤ 9223372036854775807) (d : Int) (dl : -9223372036854775808 ≤ d) (du : d ≤ 9223372036854775807) (e : Int) (el : -9223372036854775808 ≤ e) (eu : e ≤ 9223372036854775807) (w : World) :
    Calls Try.prog 30 #[.int .i64 a, .int .i64 b, .int .i64 c, .int .i64 d, .int .i64 e] w fun e' w' => ∃ r, e' = .returned (.tuple #[r, .int .i64 (res2_PurseRow a b c d e), .bool (ok_PurseRow a b c d e)]) ∧ Sw (Value.int .i64) 0 w' r (res_PurseRow a b c d e) w.heap.size w'.heap.size ∧ Below w.heap.size w w' := by
  unfold ok_PurseRow res_PurseRow res2_PurseRow
  by_cases h : okPR a b c d e
  · rw [if_pos h, if_pos h, decide_eq_true h]
    obtain ⟨⟨⟨x0, y0⟩, x1, y1⟩, ⟨⟨x2, y2⟩, x3, y3⟩, x4, y4⟩ := h
    obtain ⟨u, rfl⟩ : ∃ m : Nat, a = m := ⟨a.toNat, by omega⟩
    obtain ⟨m, rfl⟩ : ∃ m : Nat, b = m := ⟨b.toNat, by omega⟩
    obtain ⟨T, rfl⟩ : ∃ m : Nat, e = m := ⟨e.toNat, by omega⟩
    rw [Int.toNat_natCast, Int.toNat_natCast]
    exact purse_impl_yes u m c d T w (by omega) (by omega) (by omega) x2 y2 x3 y3 (by omega)
  · rw [if_neg h, if_neg h, decide_eq_false h]
    exact (purser_impl_no a b c d e w h).mono fun e' w' ⟨he, hb⟩ => ⟨_, he, Sw.nil _ _ _ _ _ _ _, hb⟩
set_option maxHeartbeats 1000000 in
theorem spec_PurseRow (a : Int) (al : -9223372036854775808 ≤ a) (au : a ≤ 9223372036854775807) (b : Int) (bl : -9223372036854775808 ≤ b) (bu : b ≤ 9223372036854775807) (c : Int) (cl : -9223372036854775808 ≤ c) (cu : c ≤ 9223372036854775807) (d : Int) (dl : -9223372036854775808 ≤ d) (du : d ≤ 9223372036854775807) (e : Int) (el : -9223372036854775808 ≤ e) (eu : e ≤ 9223372036854775807) (w : World) :
    Calls Try.prog 29 #[.int .i64 a, .int .i64 b, .int .i64 c, .int .i64 d, .int .i64 e] w fun e' w' => ∃ r, e' = .returned (.tuple #[r, .int .i64 (res2_PurseRow a b c d e), .bool (ok_PurseRow a b c d e)]) ∧ Sw (Value.int .i64) 0 w' r (res_PurseRow a b c d e) w.heap.size w'.heap.size ∧ Below w.heap.size w w' := by
  unfold ok_PurseRow res_PurseRow res2_PurseRow
  by_cases h : okPR a b c d e
  · rw [if_pos h, if_pos h, decide_eq_true h]
    obtain ⟨⟨⟨x0, y0⟩, x1, y1⟩, ⟨⟨x2, y2⟩, x3, y3⟩, x4, y4⟩ := h
    obtain ⟨u, rfl⟩ : ∃ m : Nat, a = m := ⟨a.toNat, by omega⟩
    obtain ⟨m, rfl⟩ : ∃ m : Nat, b = m := ⟨b.toNat, by omega⟩
    obtain ⟨T, rfl⟩ : ∃ m : Nat, e = m := ⟨e.toNat, by omega⟩
    rw [Int.toNat_natCast, Int.toNat_natCast]
    exact purse_spec_yes u m c d T w (by omega) (by omega) (by omega) x2 y2 x3 y3 (by omega)
  · rw [if_neg h, if_neg h, decide_eq_false h]
    exact (purser_spec_no a b c d e w h).mono fun e' w' ⟨he, hb⟩ => ⟨_, he, Sw.nil _ _ _ _ _ _ _, hb⟩
end Go.Proofs.Ytpidkedcnhohdab
