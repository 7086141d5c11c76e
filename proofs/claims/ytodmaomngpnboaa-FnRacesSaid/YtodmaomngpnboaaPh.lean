/- Contracts: races of two, the program. -/
import Derived.Test.YtodmaomngpnboaaPi
set_option linter.unusedVariables false
namespace Go.Proofs.Ytodmaomngpnboaa
open Go.RowKit Go.Maps

theorem tabW_at (F L O b : Nat) (h2 : 2 ≤ F) (h6 : F ≤ 6) (l1 : 1 ≤ L) (l8 : L ≤ 8) (o8 : O ≤ 8) (hb : b < L) :
    (0 ≤ cntR F L b * (F : Int) ∧ cntR F L b * (F : Int) ≤ 4611686018427387904) ∧ (0 ≤ cntR F L b * (F : Int) - cntR F L (b + 1) ∧ cntR F L b * (F : Int) - cntR F L (b + 1) ≤ 4611686018427387904) ∧
    (0 ≤ (cntR F L b * (F : Int) - cntR F L (b + 1)) * cntR F O b ∧ (cntR F L b * (F : Int) - cntR F L (b + 1)) * cntR F O b ≤ 4611686018427387904) ∧
    (0 ≤ (cntR F L b * (F : Int) - cntR F L (b + 1)) * cntR F O b * pwI (F : Int) (2 * (L - b - 1)) ∧ (cntR F L b * (F : Int) - cntR F L (b + 1)) * cntR F O b * pwI (F : Int) (2 * (L - b - 1)) ≤ 4611686018427387904) ∧
    (0 ≤ winF F L O b ∧ winF F L O b ≤ 4611686018427387904) ∧ (0 ≤ winF F L O (b + 1) ∧ winF F L O (b + 1) ≤ 4611686018427387904) ∧ (0 ≤ cntR F L b ∧ cntR F L b ≤ 4611686018427387904) ∧ (0 ≤ cntR F L (b + 1) ∧ cntR F L (b + 1) ≤ 4611686018427387904) ∧ 0 ≤ cntR F O b ∧ cntR F O b ≤ 4611686018427387904 := by
  obtain ⟨f, rfl⟩ : ∃ f, F = f + 2 := ⟨F - 2, by omega⟩
  obtain ⟨l, rfl⟩ : ∃ l, L = l + 1 := ⟨L - 1, by omega⟩
  have h := tabW_all f (by omega) l (by omega) O (by omega)
  unfold tabW at h
  rw [List.all_eq_true] at h
  have g := h b (List.mem_range.2 hb)
  simp only [Bool.and_eq_true] at g
  rw [winV_eq, winV_eq, cntW_eq, cntW_eq, cntW_eq]
  obtain ⟨⟨⟨⟨⟨⟨⟨⟨g1, g2⟩, g3⟩, g4⟩, g5⟩, g6⟩, g7⟩, g8⟩, g9⟩ := g
  exact ⟨bdR_at g1, bdR_at g2, bdR_at g3, bdR_at g4, bdR_at g5, bdR_at g6, bdR_at g7, bdR_at g8, bdR_at g9⟩
set_option maxRecDepth 100000 in
set_option maxHeartbeats 1000000 in
theorem chance_impl (F L O : Nat) (w : World) (h2 : 2 ≤ F) (h6 : F ≤ 6) (l1 : 1 ≤ L) (l8 : L ≤ 8) (o8 : O ≤ 8) :
    Calls Try.prog 26 #[.int .i64 (L : Int), .int .i64 (O : Int), .int .i64 (F : Int)] w fun e w' => e = .returned (.tuple #[.int .i64 (winF F L O L / gcdI (winF F L O L) (pwI (F : Int) (2 * L - 1))), .int .i64 (pwI (F : Int) (2 * L - 1) / gcdI (winF F L O L) (pwI (F : Int) (2 * L - 1))), .bool true]) ∧ Below w.heap.size w w' := by
  have HI := Lib.hid (fun z => within_yes (L : Int) 0 8 z (by omega) (by omega))
  have HO := Lib.hid (fun z => within_yes (O : Int) 0 8 z (by omega) (by omega))
  have hr := rdie_any (F : Int)
  rw [decide_eq_true (show (2 : Int) ≤ (F : Int) by omega), decide_eq_true (show (F : Int) ≤ 6 by omega)] at hr
  have HR := Lib.hid hr
  have HW1 := Lib.hid (rows_any L F L (L + 1) w (by omega) h6 rfl (by omega))
  have HW2 := Lib.hid (fun z => rows_any O F L (L + 1) z (by omega) h6 rfl (by omega))
  have HB := Lib.hid (fun b hb => tabW_at F L O b h2 h6 l1 l8 o8 hb)
  have HP := Lib.hid (fun k (hk : k ≤ 16) z => powerQ_any (F : Int) k z (by omega) (fun j hj => by have := pwFb F j h6 h2 (by omega); omega))
  have HPb := Lib.hid (fun k (hk : k ≤ 16) => pwFb F k h6 h2 hk)
  have HF := Lib.hid (fun x y z a b c d => fracQ_any x y z a b c d)
  have HN := Lib.hid (fun k => (show winF F L O (k + 1) = winF F L O k + (cntR F L k * (F : Int) - cntR F L (k + 1)) * cntR F O k * pwI (F : Int) (2 * (L - k - 1)) from rfl))
  have H0 : Hid (winF F L O 0 = 0) := Lib.hid rfl
  have lne : ((L : Int) == 0) = false := by rw [beq_eq_false_iff_ne]; omega
  have lne2 : ((L : Int) = 0) = False := eq_false (by omega)
  clear hr
  go_enter Try.func26, Try.ntmps26
  go_wp2_with fail
  refine (HI.out _).mono ?_
  rintro e w' ⟨rfl, rfl⟩
  go_wp2_with fail
  refine (HO.out _).mono ?_
  rintro e w' ⟨rfl, rfl⟩
  go_wp2_with fail
  refine (HR.out _).mono ?_
  rintro e w' ⟨rfl, rfl⟩
  go_wp2_with fail
  refine (HW1.out).mono ?_
  rintro e w1 ⟨r, rfl, hs, hb⟩
  obtain ⟨p, cap, rfl, hf⟩ := hs
  rw [tab_len] at hf
  rw [tab_len]
  obtain ⟨hcap, bb, off, rfl, hlo, hhi, -, hcell⟩ := hf (by omega)
  have Hc1 : Hid (∀ k, k < L + 1 → w1.cell? ⟨bb, off + k, none⟩ = some (.int .i64 (cntR F L k))) := Lib.hid (fun k hk => by
    have := (hcell k hk).1
    rw [tab_get _ _ _ hk] at this
    exact this)
  have Hb1 := Lib.hid hb
  clear hf hcell hb HW1
  go_wp2_with fail
  refine (HW2.out _).mono ?_
  rintro e w2 ⟨r, rfl, hs, hb⟩
  obtain ⟨p, cap2, rfl, hf⟩ := hs
  rw [tab_len] at hf
  rw [tab_len]
  obtain ⟨hcap2, bb2, off2, rfl, hlo2, hhi2, -, hcell⟩ := hf (by omega)
  have Hc2 : Hid (∀ k, k < L + 1 → w2.cell? ⟨bb2, off2 + k, none⟩ = some (.int .i64 (cntR F O k))) := Lib.hid (fun k hk => by
    have := (hcell k hk).1
    rw [tab_get _ _ _ hk] at this
    exact this)
  have Hc1b : Hid (∀ k, k < L + 1 → w2.cell? ⟨bb, off + k, none⟩ = some (.int .i64 (cntR F L k))) := Lib.hid (fun k hk => (hb.cell (by show bb < _; omega)).trans (Hc1.out k hk))
  have hsz2 := hb.size
  have Hb2 := Lib.hid (below_step Hb1.out hb (Nat.le_refl _))
  clear hf hcell hb HW2 Hc1
  go_wp2
  go_loopw [11, 39] (fun x i wr => ∃ k : Nat, k ≤ L ∧ i = .int .i64 (k : Int) ∧ x = .int .i64 (winF F L O k) ∧ Hid (Below w2.heap.size w2 wr)) (fun _ i _ => L - (intOf i).toNat)
  case atStart => exact ⟨0, Nat.zero_le _, rfl, by rw [H0.out], Lib.hid (Below.refl _ _)⟩
  case round =>
    obtain ⟨k, hk, rfl, rfl, hbw⟩ := hrel
    by_cases hlt : k < L
    · have c1 := (hbw.out.cell (by show bb < _; omega)).trans (Hc1b.out k (by omega))
      have c2 := (hbw.out.cell (by show bb < _; omega)).trans (Hc1b.out (k + 1) (by omega))
      have c3 := (hbw.out.cell (by show bb2 < _; omega)).trans (Hc2.out k (by omega))
      obtain ⟨⟨a1, a2⟩, ⟨b1, b2⟩, ⟨d1, d2⟩, ⟨e1, e2⟩, ⟨f1, f2⟩, ⟨g1, g2⟩, ⟨m1, m2⟩, ⟨q1, q2⟩, ⟨r1, r2⟩⟩ := HB.out k hlt
      have hN := HN.out k
      rw [hN] at g1 g2
      have HN2 := Lib.hid hN
      obtain ⟨p1, p2⟩ := HPb.out (2 * (L - k - 1)) (by omega)
      have hp := fun z => HP.out (2 * (L - k - 1)) (by omega) z
      rw [show ((2 * (L - k - 1) : Nat) : Int) = 2 * ((L : Int) - (k : Int) - 1) by omega] at hp
      have HPk := Lib.hid hp
      have HB3 := Lib.hid (fun n => below_drewN hbw.out n)
      clear hN hp
      generalize cntR F L k = C1 at *
      generalize cntR F L (k + 1) = C2 at *
      generalize cntR F O k = C3 at *
      generalize winF F L O k = N at *
      generalize pwI (F : Int) (2 * (L - k - 1)) = P at *
      go_wp2
      go_quiet (fail)
      go_wp2_with fail
      refine (HPk.out _).mono ?_
      rintro e w3 ⟨rfl, hb3⟩
      have c3b : w3.cell? ⟨bb2, off2 + k, none⟩ = some (.int .i64 C3) := cell_keep hb3 c3
      have Hb3 := Lib.hid (below_step (HB3.out _) hb3 (Nat.le_refl _))
      clear hb3
      go_wp2
      go_roundw
      case rel => exact ⟨k + 1, by omega, by go_num, by rw [HN2.out], Hb3⟩
      case measure => simp [intOf]; omega
    · obtain rfl : k = L := by omega
      have hbk := HB.out (k - 1) (by omega)
      rw [show k - 1 + 1 = k by omega] at hbk
      obtain ⟨-, -, -, -, -, ⟨a1, a2⟩, -⟩ := hbk
      obtain ⟨p1, p2⟩ := HPb.out (2 * k - 1) (by omega)
      have hp := fun z => HP.out (2 * k - 1) (by omega) z
      rw [show ((2 * k - 1 : Nat) : Int) = 2 * (k : Int) - 1 by omega] at hp
      have HPk := Lib.hid hp
      have HFk := Lib.hid (fun z => HF.out (winF F k O k) (pwI (F : Int) (2 * k - 1)) z a1 (by omega) p1 (by omega))
      clear hp
      generalize hG : gcdI (winF F k O k) (pwI (F : Int) (2 * k - 1)) = G at *
      generalize hN1 : winF F k O k = N at *
      generalize hP1 : pwI (F : Int) (2 * k - 1) = P at *
      have HG := Lib.hid hG
      have HN1 := Lib.hid hN1
      have HP1 := Lib.hid hP1
      clear hG hN1 hP1
      go_wp2_with fail
      refine (HPk.out _).mono ?_
      rintro e w3 ⟨rfl, hb3⟩
      have Hb3 := Lib.hid (below_step hbw.out hb3 (Nat.le_refl _))
      clear hb3
      go_wp2_with fail
      refine (HFk.out _).mono ?_
      rintro e w4 ⟨rfl, hd4⟩
      have Hd4 := Lib.hid (Hb2.out.trans ((Hb3.out.mono (Hb2.out.size)).trans (hd4.below _)))
      clear hd4
      go_wp2
      go_ret3
      exact ⟨by rw [HN1.out, HP1.out, HG.out]; rfl, Hd4.out⟩
theorem gcd_zero_pw (P : Int) (h : 1 ≤ P) : gcdI 0 P = P := by
  unfold gcdI
  rw [show (0 : Int).toNat = 0 from rfl, Nat.gcd_zero_left, Int.toNat_of_nonneg (by omega)]
theorem frac_int (a b c d : Int) (a0 : 0 ≤ a) (b0 : 1 ≤ b) (c0 : 0 ≤ c) (d0 : 1 ≤ d) (h : a * d = c * b) : a / gcdI a b = c / gcdI c d ∧ b / gcdI a b = d / gcdI c d := by
  obtain ⟨A, rfl⟩ : ∃ A : Nat, a = A := ⟨a.toNat, by omega⟩
  obtain ⟨B, rfl⟩ : ∃ B : Nat, b = B := ⟨b.toNat, by omega⟩
  obtain ⟨C, rfl⟩ : ∃ C : Nat, c = C := ⟨c.toNat, by omega⟩
  obtain ⟨D, rfl⟩ : ∃ D : Nat, d = D := ⟨d.toNat, by omega⟩
  have h2 : A * D = C * B := by rw [← Int.natCast_mul, ← Int.natCast_mul] at h; omega
  obtain ⟨e1, e2⟩ := frac_same A B C D (by omega) (by omega) h2
  unfold gcdI
  rw [Int.toNat_natCast, Int.toNat_natCast, Int.toNat_natCast, Int.toNat_natCast, ← Int.natCast_ediv, ← Int.natCast_ediv, ← Int.natCast_ediv, ← Int.natCast_ediv, e1, e2]
  exact ⟨rfl, rfl⟩
theorem chance_same (F L O : Nat) (h2 : 2 ≤ F) (h6 : F ≤ 6) (l1 : 1 ≤ L) (l8 : L ≤ 8) (o8 : O ≤ 8) :
    winF F L O L / gcdI (winF F L O L) (pwI (F : Int) (2 * L - 1)) = raceX (L : Int) (O : Int) (F : Int) ∧ pwI (F : Int) (2 * L - 1) / gcdI (winF F L O L) (pwI (F : Int) (2 * L - 1)) = raceY (L : Int) (O : Int) (F : Int) := by
  unfold raceX raceY
  have p := pwFb F (2 * L - 1) h6 h2 (by omega)
  rw [if_neg (show ¬ (L : Int) = 0 by omega), if_neg (show ¬ (L : Int) = 0 by omega)]
  by_cases o0 : O = 0
  · subst o0
    rw [if_pos (show ((0 : Nat) : Int) = 0 from rfl), if_pos (show ((0 : Nat) : Int) = 0 from rfl)]
    have hz : winF F L 0 L = 0 := by
      rw [winV_eq]
      obtain ⟨f, rfl⟩ : ∃ f, F = f + 2 := ⟨F - 2, by omega⟩
      obtain ⟨l, rfl⟩ : ∃ l, L = l + 1 := ⟨L - 1, by omega⟩
      exact win_zero 0 0 f (by omega) l (by omega)
    rw [hz, gcd_zero_pw _ p.1]
    exact ⟨Int.zero_ediv _, Int.ediv_self (by omega)⟩
  · rw [if_neg (show ¬ (O : Int) = 0 by omega), if_neg (show ¬ (O : Int) = 0 by omega), Int.toNat_natCast, Int.toNat_natCast, Int.toNat_natCast]
    have q := pwFb F (L + O) h6 h2 (by omega)
    have v := raceV_bd F L O h2 h6 l1 l8 (by omega) o8
    have wb := (tabW_at F L O (L - 1) h2 h6 l1 l8 o8 (by omega)).2.2.2.2.2.1
    rw [show L - 1 + 1 = L by omega] at wb
    refine frac_int _ _ _ _ wb.1 p.1 v.1 q.1 ?_
    rw [winV_eq]
    obtain ⟨f, rfl⟩ : ∃ f, F = f + 2 := ⟨F - 2, by omega⟩
    obtain ⟨l, rfl⟩ : ∃ l, L = l + 1 := ⟨L - 1, by omega⟩
    obtain ⟨o, rfl⟩ : ∃ o, O = o + 1 := ⟨O - 1, by omega⟩
    exact of_decide_eq_true (chk_all f (by omega) l (by omega) o (by omega))
set_option maxRecDepth 100000 in
set_option maxHeartbeats 1000000 in
theorem impl_RaceChance (a : Int) (al : -9223372036854775808 ≤ a) (au : a ≤ 9223372036854775807) (b : Int) (bl : -9223372036854775808 ≤ b) (bu : b ≤ 9223372036854775807) (c : Int) (cl : -9223372036854775808 ≤ c) (cu : c ≤ 9223372036854775807) (w : World) :
    Calls Try.prog 26 #[.int .i64 a, .int .i64 b, .int .i64 c] w fun e w' => e = .returned (.tuple #[.int .i64 (res_RaceChance a b c), .int .i64 (res2_RaceChance a b c), .bool (ok_RaceChance a b c)]) ∧ Below w.heap.size w w' := by
  have E : okRace a b c = (((decide (0 ≤ a) && decide (a ≤ 8)) && (decide (0 ≤ b) && decide (b ≤ 8))) && (decide (2 ≤ c) && decide (c ≤ 6))) := rfl
  have HA := Lib.hid (fun z => withinB_any a 0 8 z)
  have HB := Lib.hid (fun z => withinB_any b 0 8 z)
  have HC := Lib.hid (fun z => rdie_any c z)
  by_cases ha : 0 ≤ a ∧ a ≤ 8
  · rw [decide_eq_true ha.1, decide_eq_true ha.2] at E HA
    by_cases hb : 0 ≤ b ∧ b ≤ 8
    · rw [decide_eq_true hb.1, decide_eq_true hb.2] at E HB
      by_cases hc : 2 ≤ c ∧ c ≤ 6
      · rw [decide_eq_true hc.1, decide_eq_true hc.2] at E HC
        unfold ok_RaceChance res_RaceChance res2_RaceChance
        rw [E, if_pos (by rfl), if_pos (by rfl)]
        clear E
        by_cases a0 : a = 0
        · subst a0
          unfold raceX raceY
          rw [if_pos rfl, if_pos rfl]
          go_enter Try.func26, Try.ntmps26
          go_wp2_with fail
          refine (HA.out _).mono ?_
          rintro e w' ⟨rfl, rfl⟩
          go_wp2_with fail
          refine (HB.out _).mono ?_
          rintro e w' ⟨rfl, rfl⟩
          go_wp2_with fail
          refine (HC.out _).mono ?_
          rintro e w' ⟨rfl, rfl⟩
          go_wp2
          go_ret3
          exact ⟨rfl, Below.refl _ _⟩
        · obtain ⟨L, rfl⟩ : ∃ L : Nat, a = L := ⟨a.toNat, by omega⟩
          obtain ⟨O, rfl⟩ : ∃ O : Nat, b = O := ⟨b.toNat, by omega⟩
          obtain ⟨F, rfl⟩ : ∃ F : Nat, c = F := ⟨c.toNat, by omega⟩
          obtain ⟨e1, e2⟩ := chance_same F L O (by omega) (by omega) (by omega) (by omega) (by omega)
          rw [← e1, ← e2]
          exact chance_impl F L O w (by omega) (by omega) (by omega) (by omega) (by omega)
      · have hc2 : (decide (2 ≤ c) && decide (c ≤ 6)) = false := by simpa using hc
        rw [hc2] at E HC
        obtain ⟨e0, e1, e2⟩ := race_no (E.trans (Bool.and_false _))
        rw [e0, e1, e2]
        clear e0 e1 e2 E hc hc2
        go_enter Try.func26, Try.ntmps26
        go_wp2_with fail
        refine (HA.out _).mono ?_
        rintro e w' ⟨rfl, rfl⟩
        go_wp2_with fail
        refine (HB.out _).mono ?_
        rintro e w' ⟨rfl, rfl⟩
        go_wp2_with fail
        refine (HC.out _).mono ?_
        rintro e w' ⟨rfl, rfl⟩
        go_wp2
        go_ret3
        exact ⟨rfl, Below.refl _ _⟩
    · have hb2 : (decide (0 ≤ b) && decide (b ≤ 8)) = false := by simpa using hb
      rw [hb2] at E HB
      obtain ⟨e0, e1, e2⟩ := race_no (E.trans (by rw [Bool.and_false, Bool.false_and]))
      rw [e0, e1, e2]
      clear e0 e1 e2 E hb hb2
      go_enter Try.func26, Try.ntmps26
      go_wp2_with fail
      refine (HA.out _).mono ?_
      rintro e w' ⟨rfl, rfl⟩
      go_wp2_with fail
      refine (HB.out _).mono ?_
      rintro e w' ⟨rfl, rfl⟩
      go_wp2
      go_ret3
      exact ⟨rfl, Below.refl _ _⟩
  · have ha2 : (decide (0 ≤ a) && decide (a ≤ 8)) = false := by simpa using ha
    rw [ha2] at E HA
    obtain ⟨e0, e1, e2⟩ := race_no (E.trans (by rw [Bool.false_and, Bool.false_and]))
    rw [e0, e1, e2]
    clear e0 e1 e2 E ha ha2
    go_enter Try.func26, Try.ntmps26
    go_wp2_with fail
    refine (HA.out _).mono ?_
    rintro e w' ⟨rfl, rfl⟩
    go_wp2
    go_ret3
    exact ⟨rfl, Below.refl _ _⟩
end Go.Proofs.Ytodmaomngpnboaa
