/- Contracts: WeighCoins, in both texts. -/
import Derived.Test.YtodmaomngpnboaaCwE
set_option linter.unusedVariables false
namespace Go.Proofs.Ytodmaomngpnboaa
open Go.RowKit

def goodW (fs : List Int) (c : Int) : Prop := okPans fs c ∧ goodP fs c.toNat (fs.length / c.toNat) = true
instance (fs : List Int) (c : Int) : Decidable (goodW fs c) := by unfold goodW; infer_instance
def cntWw (fs : List Int) (c : Int) : Nat := fs.length / c.toNat
theorem goodW_nat {fs : List Int} {c : Int} (h : okPans fs c) : ∃ k : Nat, c = (k : Int) ∧ 1 ≤ k ∧ k ≤ 27 ∧ cntWw fs c ≤ 4 ∧ fs.length = cntWw fs c * k := by
  obtain ⟨⟨h1, h2⟩, h3, h4⟩ := h
  obtain ⟨k, rfl⟩ : ∃ k : Nat, c = k := ⟨c.toNat, by omega⟩
  rw [Int.toNat_natCast] at h3 h4
  refine ⟨k, rfl, by omega, by omega, ?_, ?_⟩
  · unfold cntWw; rw [Int.toNat_natCast]; exact h4
  · unfold cntWw; rw [Int.toNat_natCast]; exact (Nat.div_mul_cancel (Nat.dvd_of_mod_eq_zero h3)).symm
theorem weighI_any (fs : List Int) (v : Value) (c : Int) (w : World) (hn : fs.length ≤ 1048576) (h : Sl (Value.int .i64) 0 w v fs) :
    Calls Try.prog 83 #[.int .i64 c, v] w fun e w' => ∃ r, e = .returned (.tuple #[r, .bool (decide (goodW fs c))]) ∧ (goodW fs c → ∃ p L cap, v = .slice p L cap ∧ Sw (partV p c.toNat) 0 w' r (List.range (cntWw fs c)) w.heap.size w'.heap.size) ∧ Below w.heap.size w w' := by
  by_cases g : okPans fs c
  · obtain ⟨k, rfl, hk, hk2, hc, hf⟩ := goodW_nat g
    refine (weigh_yes fs v k (cntWw fs (k : Int)) w hk hk2 hc hf h).mono ?_
    rintro e w' ⟨r, p, L, cap, rfl, rfl, hs, hb⟩
    have e1 : decide (goodW fs (k : Int)) = goodP fs k (cntWw fs (k : Int)) := by
      cases hg : goodP fs k (cntWw fs (k : Int))
      · exact decide_eq_false (fun h => by
          have h2 : goodP fs k (cntWw fs (k : Int)) = true := h.2
          rw [hg] at h2; cases h2)
      · exact decide_eq_true ⟨g, hg⟩
    refine ⟨r, by rw [e1], fun hg => ⟨p, L, cap, rfl, ?_⟩, hb⟩
    rw [Int.toNat_natCast]
    exact hs (by rw [← e1]; exact decide_eq_true hg)
  · refine (weigh_no fs v c w hn h g).mono ?_
    rintro e w' ⟨rfl, hb⟩
    have e1 : decide (goodW fs c) = false := decide_eq_false (fun h => g h.1)
    exact ⟨_, by rw [e1], fun hg => absurd hg.1 g, hb⟩
theorem pansS_any (fs : List Int) (v : Value) (c : Int) (w : World) (hn : fs.length ≤ 1048576) (h : Sl (Value.int .i64) 0 w v fs) :
    Calls Try.prog 87 #[.int .i64 c, v] w fun e w' => e = .returned (.bool (decide (goodW fs c))) ∧ w = w' := by
  by_cases g : okPans fs c
  · obtain ⟨k, rfl, hk, hk2, hc, hf⟩ := goodW_nat g
    refine (pansS_yes fs v k (cntWw fs (k : Int)) w hk hk2 hc hf h).mono ?_
    rintro e w' ⟨rfl, rfl⟩
    have e1 : decide (goodW fs (k : Int)) = goodP fs k (cntWw fs (k : Int)) := by
      cases hg : goodP fs k (cntWw fs (k : Int))
      · exact decide_eq_false (fun h => by
          have h2 : goodP fs k (cntWw fs (k : Int)) = true := h.2
          rw [hg] at h2; cases h2)
      · exact decide_eq_true ⟨g, hg⟩
    exact ⟨by rw [e1], rfl⟩
  · have e1 : decide (goodW fs c) = false := decide_eq_false (fun h => g h.1)
    rw [e1]
    exact pansS_no fs v c w hn h g
def okWC (a : Int) (fs : List Int) (h : Int) : Prop := goodW fs a ∧ -1 ≤ h ∧ h ≤ a - 1
instance (a : Int) (fs : List Int) (h : Int) : Decidable (okWC a fs h) := by unfold okWC; infer_instance
def ok_WeighCoins (a : Int) (fs : List Int) (h : Int) : Bool := decide (okWC a fs h)
def res_WeighCoins (a : Int) (fs : List Int) (h : Int) : List Int := if okWC a fs h then wghL fs a.toNat (cntWw fs a) h else []
theorem len_WeighCoins (a : Int) (fs : List Int) (h : Int) : (res_WeighCoins a fs h).length ≤ 1048576 := by
  unfold res_WeighCoins
  split
  · next g => obtain ⟨k, _, _, _, h4, _⟩ := goodW_nat g.1.1; rw [wghL_len]; omega
  · simp
theorem impl_WeighCoins (a : Int) (al : -9223372036854775808 ≤ a) (au : a ≤ 9223372036854775807) (fs : List Int) (v : Value) (b : Int) (bl : -9223372036854775808 ≤ b) (bu : b ≤ 9223372036854775807) (w : World) (hn : fs.length ≤ 1048576) (h : Sl (Value.int .i64) 0 w v fs) :
    Calls Try.prog 30 #[.int .i64 a, v, .int .i64 b] w fun e w' => ∃ r, e = .returned (.tuple #[r, .bool (ok_WeighCoins a fs b)]) ∧ Sw (Value.int .i64) 0 w' r (res_WeighCoins a fs b) w.heap.size w'.heap.size ∧ Below w.heap.size w w' := by
  have HW := weighI_any fs v a w hn h
  by_cases g : goodW fs a
  · obtain ⟨k, rfl, hk, hk2, hc, hf⟩ := goodW_nat g.1
    rw [decide_eq_true g] at HW
    by_cases hb : -1 ≤ b ∧ b ≤ (k : Int) - 1
    · have e1 : ok_WeighCoins (k : Int) fs b = true := decide_eq_true ⟨g, hb⟩
      have e2 : res_WeighCoins (k : Int) fs b = wghL fs k (cntWw fs (k : Int)) b := if_pos ⟨g, hb⟩
      rw [e1, e2]
      have HW := Lib.hid HW
      have HG := Lib.hid g
      have HS := Lib.hid h
      have H1 := Lib.hid (fun z => within_yes b (-1) ((k : Int) - 1) z hb.1 hb.2)
      have HSh := Lib.hid (fun p L cap r z (h1 : Sl (Value.int .i64) 0 z (.slice p L cap) fs) (h2 : Sl (partV p k) 0 z r (List.range (cntWw fs (k : Int)))) => shown_any fs k (cntWw fs (k : Int)) L cap p r b z hk hk2 hc hf hb.1 (by omega) h1 h2)
      obtain ⟨p, cap, rfl, hcl⟩ := h
      clear hcl g e1 e2 hf
      generalize cntWw fs (k : Int) = cnt at *
      go_enter Try.func30, Try.ntmps30
      go_wp2_with fail
      refine HW.out.mono ?_
      rintro e w1 ⟨r, rfl, hs, hb1⟩
      obtain ⟨p', L', cap', e', hr⟩ := hs HG.out
      cases e'
      rw [Int.toNat_natCast] at hr
      have Hr := Lib.hid hr
      have Hb1 := Lib.hid hb1
      clear hs hr hb1 HW
      have HC := Lib.hid (HSh.out p _ cap r w1 (HS.out.later Hb1.out) Hr.out.sl)
      obtain ⟨q, capr, rfl, -⟩ := id Hr.out
      rw [List.length_range] at HC ⊢
      go_wp2_with fail
      refine (H1.out _).mono ?_
      rintro e w' ⟨rfl, rfl⟩
      go_wp2_with fail
      refine HC.out.mono ?_
      rintro e w2 ⟨o, rfl, ho, hb2⟩
      have Ho := Lib.hid ho
      have Hb2 := Lib.hid (Hb1.out.trans (hb2.mono Hb1.out.size))
      have hz1 := Hb1.out.size
      clear ho hb2
      go_wp2
      go_ret2
      exact ⟨o, rfl, Ho.out.mono hz1 (Nat.le_refl _) (Nat.le_refl _), Hb2.out⟩
    · have e1 : ok_WeighCoins (k : Int) fs b = false := decide_eq_false (fun h => hb h.2)
      have e2 : res_WeighCoins (k : Int) fs b = [] := if_neg (fun h => hb h.2)
      rw [e1, e2]
      have HW := Lib.hid HW
      have H1 := Lib.hid (fun z => within_no b (-1) ((k : Int) - 1) z (by omega))
      obtain ⟨p, cap, rfl, hcl⟩ := h
      clear hcl g e1 e2 hf hb
      go_enter Try.func30, Try.ntmps30
      go_wp2_with fail
      refine HW.out.mono ?_
      rintro e w1 ⟨r, rfl, hs, hb1⟩
      have Hb1 := Lib.hid hb1
      clear hs hb1 HW
      go_wp2_with fail
      refine (H1.out _).mono ?_
      rintro e w' ⟨rfl, rfl⟩
      go_wp2
      go_ret2
      exact ⟨_, rfl, Sw.nil _ _ _ _ _ _ _, Hb1.out⟩
  · have e1 : ok_WeighCoins a fs b = false := decide_eq_false (fun h => g h.1)
    have e2 : res_WeighCoins a fs b = [] := if_neg (fun h => g h.1)
    rw [e1, e2]
    rw [decide_eq_false g] at HW
    have HW := Lib.hid HW
    obtain ⟨p, cap, rfl, hcl⟩ := h
    clear hcl g e1 e2
    go_enter Try.func30, Try.ntmps30
    go_wp2_with fail
    refine HW.out.mono ?_
    rintro e w1 ⟨r, rfl, hs, hb1⟩
    have Hb1 := Lib.hid hb1
    clear hs hb1 HW
    go_wp2
    go_ret2
    exact ⟨_, rfl, Sw.nil _ _ _ _ _ _ _, Hb1.out⟩
theorem spec_WeighCoins (a : Int) (al : -9223372036854775808 ≤ a) (au : a ≤ 9223372036854775807) (fs : List Int) (v : Value) (b : Int) (bl : -9223372036854775808 ≤ b) (bu : b ≤ 9223372036854775807) (w : World) (hn : fs.length ≤ 1048576) (h : Sl (Value.int .i64) 0 w v fs) :
    Calls Try.prog 35 #[.int .i64 a, v, .int .i64 b] w fun e w' => ∃ r, e = .returned (.tuple #[r, .bool (ok_WeighCoins a fs b)]) ∧ Sw (Value.int .i64) 0 w' r (res_WeighCoins a fs b) w.heap.size w'.heap.size ∧ Below w.heap.size w w' := by
  have HW := pansS_any fs v a w hn h
  by_cases g : goodW fs a
  · obtain ⟨k, rfl, hk, hk2, hc, hf⟩ := goodW_nat g.1
    rw [decide_eq_true g] at HW
    by_cases hb : -1 ≤ b ∧ b ≤ (k : Int) - 1
    · have e1 : ok_WeighCoins (k : Int) fs b = true := decide_eq_true ⟨g, hb⟩
      have e2 : res_WeighCoins (k : Int) fs b = wghL fs k (cntWw fs (k : Int)) b := if_pos ⟨g, hb⟩
      rw [e1, e2]
      have HW := Lib.hid HW
      have H1 := Lib.hid (fun z => in_yes b (-1) ((k : Int) - 1) z hb.1 hb.2)
      have HC := Lib.hid (weighS_any fs v k (cntWw fs (k : Int)) b w hk hk2 hc hf hb.1 (by omega) h)
      obtain ⟨p, cap, rfl, hcl⟩ := h
      clear hcl g e1 e2 hf
      go_enter Try.func35, Try.ntmps35
      go_wp2_with fail
      refine HW.out.mono ?_
      rintro e w' ⟨rfl, rfl⟩
      go_wp2_with fail
      refine (H1.out _).mono ?_
      rintro e w' ⟨rfl, rfl⟩
      go_wp2_with fail
      refine HC.out.mono ?_
      rintro e w2 ⟨o, rfl, ho, hb2⟩
      have Ho := Lib.hid ho
      have Hb2 := Lib.hid hb2
      clear ho hb2
      go_wp2
      go_ret2
      exact ⟨o, rfl, Ho.out, Hb2.out⟩
    · have e1 : ok_WeighCoins (k : Int) fs b = false := decide_eq_false (fun h => hb h.2)
      have e2 : res_WeighCoins (k : Int) fs b = [] := if_neg (fun h => hb h.2)
      rw [e1, e2]
      have HW := Lib.hid HW
      have H1 := Lib.hid (fun z => in_no b (-1) ((k : Int) - 1) z (by omega))
      obtain ⟨p, cap, rfl, hcl⟩ := h
      clear hcl g e1 e2 hf hb
      go_enter Try.func35, Try.ntmps35
      go_wp2_with fail
      refine HW.out.mono ?_
      rintro e w' ⟨rfl, rfl⟩
      go_wp2_with fail
      refine (H1.out _).mono ?_
      rintro e w' ⟨rfl, rfl⟩
      go_wp2
      go_ret2
      exact ⟨_, rfl, Sw.nil _ _ _ _ _ _ _, Below.refl _ _⟩
  · have e1 : ok_WeighCoins a fs b = false := decide_eq_false (fun h => g h.1)
    have e2 : res_WeighCoins a fs b = [] := if_neg (fun h => g h.1)
    rw [e1, e2]
    rw [decide_eq_false g] at HW
    have HW := Lib.hid HW
    obtain ⟨p, cap, rfl, hcl⟩ := h
    clear hcl g e1 e2
    go_enter Try.func35, Try.ntmps35
    go_wp2_with fail
    refine HW.out.mono ?_
    rintro e w' ⟨rfl, rfl⟩
    go_wp2
    go_ret2
    exact ⟨_, rfl, Sw.nil _ _ _ _ _ _ _, Below.refl _ _⟩
end Go.Proofs.Ytodmaomngpnboaa
