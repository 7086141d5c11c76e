/- Contracts: throws that a race needs, the program. -/
import Derived.Test.YtodmaomngpnboaaPd
set_option linter.unusedVariables false
namespace Go.Proofs.Ytodmaomngpnboaa
open Go.RowKit Go.Maps

theorem pw6 : ∀ k, k < 13 → pwI 6 k ≤ 2176782336 := by decide +kernel
theorem pwF (F k : Nat) (hF : F ≤ 6) (h2 : 2 ≤ F) (hk : k ≤ 12) : 1 ≤ pwI (F : Int) k ∧ pwI (F : Int) k ≤ 2176782336 := by
  have h1 := pwI_mono5 (F : Int) 6 (by omega) (by omega) k
  have h3 := pw6 k (by omega)
  have h4 := pwI_one (F : Int) (by omega) k
  omega
theorem rolls_bd (F L : Nat) (h2 : 2 ≤ F) (h6 : F ≤ 6) (hL : L ≤ 12) : needF F L (L + 1) = (toldL F L).getD L 0 ∧ ∀ b, b < L + 2 → (0 ≤ needF F L b ∧ needF F L b ≤ 4611686018427387904) ∧ (0 ≤ cntR F L b * pwI (F : Int) (L - b) ∧ cntR F L b * pwI (F : Int) (L - b) ≤ 4611686018427387904) ∧ 0 ≤ cntR F L b ∧ cntR F L b ≤ 4611686018427387904 := by
  obtain ⟨f, rfl⟩ : ∃ f, F = f + 2 := ⟨F - 2, by omega⟩
  have h := told_all f (by omega) L (by omega)
  unfold toldOk at h
  rw [Bool.and_eq_true, List.all_eq_true] at h
  refine ⟨by rw [needV_eq]; exact of_decide_eq_true h.1, fun b hb => ?_⟩
  have g := h.2 b (List.mem_range.2 hb)
  simp only [Bool.and_eq_true, decide_eq_true_eq] at g
  rw [needV_eq, cntW_eq]
  obtain ⟨⟨⟨⟨⟨g1, g2⟩, g3⟩, g4⟩, g5⟩, g6⟩ := g
  exact ⟨⟨g1, g2⟩, ⟨g3, g4⟩, g5, g6⟩
def okRolls (a b : Int) : Bool := (decide (0 ≤ a) && decide (a ≤ 12)) && (decide (2 ≤ b) && decide (b ≤ 6))
def ok_RaceRolls (a b : Int) : Bool := okRolls a b
def numR (a b : Int) : Int := (toldL b.toNat a.toNat).getD a.toNat 0
def res_RaceRolls (a b : Int) : Int := if okRolls a b = true then numR a b / gcdI (numR a b) (pwI b a.toNat) else 0
def res2_RaceRolls (a b : Int) : Int := if okRolls a b = true then pwI b a.toNat / gcdI (numR a b) (pwI b a.toNat) else 0
theorem rolls_no {a b : Int} (h : okRolls a b = false) : ok_RaceRolls a b = false ∧ res_RaceRolls a b = 0 ∧ res2_RaceRolls a b = 0 := by
  unfold ok_RaceRolls res_RaceRolls res2_RaceRolls
  rw [h]
  exact ⟨rfl, rfl, rfl⟩
theorem rdie_any (b : Int) (w : World) : Calls Try.prog 76 #[.int .i64 b] w fun e w' => e = .returned (.bool (decide (2 ≤ b) && decide (b ≤ 6))) ∧ w = w' := by
  have H := Lib.hid (fun z => withinB_any b 2 6 z)
  generalize (decide (2 ≤ b) && decide (b ≤ 6)) = R at *
  go_enter Try.func76, Try.ntmps76
  go_wp2_with (refine (H.out _).mono ?_; rintro e w' ⟨rfl, rfl⟩)
  go_ret
  exact ⟨rfl, rfl⟩
set_option maxRecDepth 100000 in
set_option maxHeartbeats 1000000 in
theorem rolls_impl (F L : Nat) (w : World) (h2 : 2 ≤ F) (h6 : F ≤ 6) (hL : L ≤ 12) :
    Calls Try.prog 28 #[.int .i64 (L : Int), .int .i64 (F : Int)] w fun e w' => e = .returned (.tuple #[.int .i64 (needF F L (L + 1) / gcdI (needF F L (L + 1)) (pwI (F : Int) L)), .int .i64 (pwI (F : Int) L / gcdI (needF F L (L + 1)) (pwI (F : Int) L)), .bool true]) ∧ Below w.heap.size w w' := by
  have HI := Lib.hid (fun z => within_yes (L : Int) 0 12 z (by omega) (by omega))
  have hr := rdie_any (F : Int)
  rw [decide_eq_true (show (2 : Int) ≤ (F : Int) by omega), decide_eq_true (show (F : Int) ≤ 6 by omega)] at hr
  have HR := Lib.hid hr
  have HW := Lib.hid (rows_any L F L (L + 1) w hL h6 rfl hL)
  have HB := Lib.hid (rolls_bd F L h2 h6 hL).2
  have HP := Lib.hid (fun k (hk : k ≤ 12) z => powerQ_any (F : Int) k z (by omega) (fun j hj => by have := pwF F j h6 h2 (by omega); omega))
  have HPb := Lib.hid (fun k (hk : k ≤ 12) => pwF F k h6 h2 hk)
  have HF := Lib.hid (fun x y z a b c d => fracQ_any x y z a b c d)
  have HN := Lib.hid (fun k => (show needF F L (k + 1) = needF F L k + cntR F L k * pwI (F : Int) (L - k) from rfl))
  have H0 : Hid (needF F L 0 = 0) := Lib.hid rfl
  clear hr
  go_enter Try.func28, Try.ntmps28
  go_wp2_with fail
  refine (HI.out _).mono ?_
  rintro e w' ⟨rfl, rfl⟩
  go_wp2_with fail
  refine (HR.out _).mono ?_
  rintro e w' ⟨rfl, rfl⟩
  go_wp2_with fail
  refine (HW.out).mono ?_
  rintro e w1 ⟨r, rfl, hs, hb⟩
  obtain ⟨p, cap, rfl, hf⟩ := hs
  rw [tab_len] at hf
  rw [tab_len]
  obtain ⟨hcap, bb, off, rfl, hlo, hhi, hsz, hcell⟩ := hf (by omega)
  have Hc : Hid (∀ k, k < L + 1 → w1.cell? ⟨bb, off + k, none⟩ = some (.int .i64 (cntR F L k))) := Lib.hid (fun k hk => by
    have := (hcell k hk).1
    rw [tab_get _ _ _ hk] at this
    exact this)
  have Hb1 := Lib.hid hb
  clear hf hcell hb HW
  generalize hn : L + 1 = n at *
  have HNN := Lib.hid hn
  clear hn
  go_wp2
  go_loopw [7, 23] (fun x i wr => ∃ k : Nat, k ≤ n ∧ i = .int .i64 (k : Int) ∧ x = .int .i64 (needF F L k) ∧ Hid (Below w1.heap.size w1 wr)) (fun _ i _ => n - (intOf i).toNat)
  case atStart => exact ⟨0, Nat.zero_le _, rfl, by rw [H0.out], Lib.hid (Below.refl _ _)⟩
  case round =>
    obtain ⟨k, hk, rfl, rfl, hbw⟩ := hrel
    have hnn := HNN.out
    by_cases hlt : k < n
    · have c1 := (hbw.out.cell (by show bb < _; omega)).trans (Hc.out k hlt)
      obtain ⟨⟨a1, a2⟩, ⟨m1, m2⟩, ⟨e1, e2⟩⟩ := HB.out k (by omega)
      obtain ⟨⟨b1, b2⟩, -, -⟩ := HB.out (k + 1) (by omega)
      have hN := HN.out k
      rw [hN] at b1 b2
      have HN2 := Lib.hid hN
      obtain ⟨p1, p2⟩ := HPb.out (L - k) (by omega)
      have hsub : (L : Int) - (k : Int) = ((L - k : Nat) : Int) := by omega
      have HPk := Lib.hid (HP.out (L - k) (by omega))
      clear hN
      generalize cntR F L k = C at *
      generalize needF F L k = N at *
      generalize pwI (F : Int) (L - k) = P at *
      generalize L - k = D at *
      go_wp2_with (go_at_call 78; refine (HPk.out _).mono ?_; rintro e w3 ⟨rfl, hb3⟩; have Hb3 := Lib.hid (below_step hbw.out hb3 (Nat.le_refl _)); clear hb3)
      go_roundw
      case rel => exact ⟨k + 1, by omega, by go_num, by rw [HN2.out], Hb3⟩
      case measure => simp [intOf]; omega
    · obtain rfl : k = n := by omega
      obtain ⟨⟨a1, a2⟩, -, -⟩ := HB.out k (by omega)
      obtain ⟨p1, p2⟩ := HPb.out L hL
      have HPk := Lib.hid (HP.out L hL)
      have HFk := Lib.hid (fun z => HF.out (needF F L k) (pwI (F : Int) L) z a1 (by omega) p1 (by omega))
      generalize hG : gcdI (needF F L k) (pwI (F : Int) L) = G at *
      generalize hN1 : needF F L k = N at *
      generalize hP1 : pwI (F : Int) L = P at *
      have HG := Lib.hid hG
      have HN1 := Lib.hid hN1
      have HP1 := Lib.hid hP1
      clear hG hN1 hP1
      go_wp2_with fail
      refine (HPk.out _).mono ?_
      rintro e w3 ⟨rfl, hb3⟩
      have Hb3 := Lib.hid (below_step hbw.out hb3 (Nat.le_refl _))
      clear hb3
      go_wp2_with fail
      refine (HFk.out _).mono ?_
      rintro e w4 ⟨rfl, hd4⟩
      have Hd4 := Lib.hid (Hb1.out.trans ((Hb3.out.mono (Hb1.out.size)).trans (hd4.below _)))
      clear hd4
      go_wp2
      go_ret3
      exact ⟨by rw [HNN.out, HN1.out, HP1.out, HG.out]; rfl, Hd4.out⟩
theorem impl_RaceRolls (a : Int) (al : -9223372036854775808 ≤ a) (au : a ≤ 9223372036854775807) (b : Int) (bl : -9223372036854775808 ≤ b) (bu : b ≤ 9223372036854775807) (w : World) :
    Calls Try.prog 28 #[.int .i64 a, .int .i64 b] w fun e w' => e = .returned (.tuple #[.int .i64 (res_RaceRolls a b), .int .i64 (res2_RaceRolls a b), .bool (ok_RaceRolls a b)]) ∧ Below w.heap.size w w' := by
  have E : okRolls a b = ((decide (0 ≤ a) && decide (a ≤ 12)) && (decide (2 ≤ b) && decide (b ≤ 6))) := rfl
  by_cases ha : 0 ≤ a ∧ a ≤ 12
  · by_cases hb : 2 ≤ b ∧ b ≤ 6
    · rw [decide_eq_true ha.1, decide_eq_true ha.2, decide_eq_true hb.1, decide_eq_true hb.2] at E
      unfold ok_RaceRolls res_RaceRolls res2_RaceRolls
      rw [E, if_pos (by rfl), if_pos (by rfl)]
      unfold numR
      obtain ⟨L, rfl⟩ : ∃ L : Nat, a = L := ⟨a.toNat, by omega⟩
      obtain ⟨F, rfl⟩ : ∃ F : Nat, b = F := ⟨b.toNat, by omega⟩
      rw [Int.toNat_natCast, Int.toNat_natCast, ← (rolls_bd F L (by omega) (by omega) (by omega)).1]
      exact rolls_impl F L w (by omega) (by omega) (by omega)
    · have E2 : okRolls a b = false := by rw [E, show (decide (2 ≤ b) && decide (b ≤ 6)) = false by simpa using hb, Bool.and_false]
      obtain ⟨e0, e1, e2⟩ := rolls_no E2
      rw [e0, e1, e2]
      have HI := Lib.hid (fun z => within_yes a 0 12 z ha.1 ha.2)
      have hr := rdie_any b
      rw [show (decide (2 ≤ b) && decide (b ≤ 6)) = false by simpa using hb] at hr
      have HR := Lib.hid hr
      clear e0 e1 e2 E E2 hb hr
      go_enter Try.func28, Try.ntmps28
      go_wp2_with fail
      refine (HI.out _).mono ?_
      rintro e w' ⟨rfl, rfl⟩
      go_wp2_with fail
      refine (HR.out _).mono ?_
      rintro e w' ⟨rfl, rfl⟩
      go_wp2
      go_ret3
      exact ⟨rfl, Below.refl _ _⟩
  · have E2 : okRolls a b = false := by rw [E, show (decide (0 ≤ a) && decide (a ≤ 12)) = false by simpa using ha, Bool.false_and]
    obtain ⟨e0, e1, e2⟩ := rolls_no E2
    rw [e0, e1, e2]
    have HI := Lib.hid (fun z => within_no a 0 12 z (by omega))
    clear e0 e1 e2 E E2 ha
    go_enter Try.func28, Try.ntmps28
    go_wp2_with fail
    refine (HI.out _).mono ?_
    rintro e w' ⟨rfl, rfl⟩
    go_wp2
    go_ret3
    exact ⟨rfl, Below.refl _ _⟩
end Go.Proofs.Ytodmaomngpnboaa
