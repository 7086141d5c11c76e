/- Contracts: CoinsLeft, in both texts. -/
import Derived.Test.YtodmaomngpnboaaCwF
set_option linter.unusedVariables false
namespace Go.Proofs.Ytodmaomngpnboaa
open Go.RowKit

def okCL (a : Int) (fs gs : List Int) : Prop := goodW fs a ∧ gs.length = cntWw fs a ∧ allB (-1) 1 gs = true
instance (a : Int) (fs gs : List Int) : Decidable (okCL a fs gs) := by unfold okCL; infer_instance
def ok_CoinsLeft (a : Int) (fs gs : List Int) : Bool := decide (okCL a fs gs)
def res_CoinsLeft (a : Int) (fs gs : List Int) : List Int := if okCL a fs gs then hvL fs a.toNat (cntWw fs a) gs (a.toNat + 1) else []
theorem len_CoinsLeft (a : Int) (fs gs : List Int) : (res_CoinsLeft a fs gs).length ≤ 1048576 := by
  unfold res_CoinsLeft
  split
  · next g =>
    obtain ⟨k, rfl, _, h3, _⟩ := goodW_nat g.1.1
    have := hvL_len fs (k : Int).toNat (cntWw fs (k : Int)) gs ((k : Int).toNat + 1)
    rw [Int.toNat_natCast] at *; omega
  · simp
set_option maxRecDepth 100000 in
set_option maxHeartbeats 1000000 in
theorem impl_CoinsLeft (a : Int) (al : -9223372036854775808 ≤ a) (au : a ≤ 9223372036854775807) (fs : List Int) (v : Value) (gs : List Int) (u : Value) (w : World) (hn : fs.length ≤ 1048576) (h : Sl (Value.int .i64) 0 w v fs) (hm : gs.length ≤ 1048576) (g : Sl (Value.int .i64) 0 w u gs) :
    Calls Try.prog 31 #[.int .i64 a, v, u] w fun e w' => ∃ r, e = .returned (.tuple #[r, .bool (ok_CoinsLeft a fs gs)]) ∧ Sw (Value.int .i64) 0 w' r (res_CoinsLeft a fs gs) w.heap.size w'.heap.size ∧ Below w.heap.size w w' := by
  have HW := weighI_any fs v a w hn h
  by_cases gd : goodW fs a
  · obtain ⟨k, rfl, hk, hk2, hc, hf⟩ := goodW_nat gd.1
    rw [decide_eq_true gd] at HW
    have HW := Lib.hid HW
    have HG := Lib.hid gd
    have HS := Lib.hid h
    have HU := Lib.hid g
    have HA := Lib.hid (fun z (hz : Below w.heap.size w z) => areW_any gs u (-1) 1 z hm (g.later hz))
    have HV := Lib.hid (fun p L cap r z (h1 : Sl (Value.int .i64) 0 z (.slice p L cap) fs) (h2 : Sl (partV p k) 0 z r (List.range (cntWw fs (k : Int)))) (h3 : Sl (Value.int .i64) 0 z u gs) => heavy_any fs gs k (cntWw fs (k : Int)) L cap p r u z hk hk2 hc hf h1 h2 hm h3)
    have e1 : ok_CoinsLeft (k : Int) fs gs = decide (gs.length = cntWw fs (k : Int) ∧ allB (-1) 1 gs = true) := by
      unfold ok_CoinsLeft
      by_cases h2 : gs.length = cntWw fs (k : Int) ∧ allB (-1) 1 gs = true
      · rw [decide_eq_true h2]; exact decide_eq_true ⟨gd, h2⟩
      · rw [decide_eq_false h2]; exact decide_eq_false (fun h => h2 h.2)
    have e2 : res_CoinsLeft (k : Int) fs gs = if gs.length = cntWw fs (k : Int) ∧ allB (-1) 1 gs = true then hvL fs k (cntWw fs (k : Int)) gs (k + 1) else [] := by
      unfold res_CoinsLeft
      by_cases h2 : gs.length = cntWw fs (k : Int) ∧ allB (-1) 1 gs = true
      · rw [if_pos h2, if_pos ⟨gd, h2⟩, Int.toNat_natCast]
      · rw [if_neg h2, if_neg (fun h => h2 h.2)]
    rw [e1, e2]
    obtain ⟨p, cap, rfl, hcl⟩ := h
    obtain ⟨p2, cap2, rfl, hcl2⟩ := g
    clear hcl hcl2 gd e1 e2 hf
    generalize cntWw fs (k : Int) = cnt at *
    obtain ⟨G, hG⟩ : ∃ G, G = gs.length := ⟨_, rfl⟩
    rw [← hG] at hm HA HU HV ⊢
    clear hG
    by_cases hl : G = cnt
    · subst hl
      have d0 : ((G : Int) != (G : Int)) = false := by simp
      cases ha : allB (-1) 1 gs
      · rw [decide_eq_false (show ¬ (G = G ∧ false = true) from fun h => by cases h.2), if_neg (show ¬ (G = G ∧ false = true) from fun h => by cases h.2)]
        rw [ha] at HA
        clear ha
        go_enter Try.func31, Try.ntmps31
        go_wp2_with fail
        refine HW.out.mono ?_
        rintro e w1 ⟨r, rfl, hs, hb1⟩
        obtain ⟨p', L', cap', e', hr⟩ := hs HG.out
        have Hb1 := Lib.hid hb1
        have HAl := Lib.hid (HA.out w1 hb1)
        obtain ⟨q, capr, rfl, -⟩ := hr
        clear hs hb1 HW e'
        rw [List.length_range]
        have hz1 := Hb1.out.size
        go_wp2_with fail
        refine HAl.out.mono ?_
        rintro e w2 ⟨rfl, hb2⟩
        have Hb2 := Lib.hid (Hb1.out.trans (hb2.mono hz1))
        clear hb2
        go_wp2
        go_ret2
        exact ⟨_, rfl, Sw.nil _ _ _ _ _ _ _, Hb2.out⟩
      · rw [decide_eq_true (show (G = G ∧ true = true) from ⟨rfl, rfl⟩), if_pos (show (G = G ∧ true = true) from ⟨rfl, rfl⟩)]
        rw [ha] at HA
        clear ha
        go_enter Try.func31, Try.ntmps31
        go_wp2_with fail
        refine HW.out.mono ?_
        rintro e w1 ⟨r, rfl, hs, hb1⟩
        obtain ⟨p', L', cap', e', hr⟩ := hs HG.out
        cases e'
        rw [Int.toNat_natCast] at hr
        have Hb1 := Lib.hid hb1
        have HAl := Lib.hid (HA.out w1 hb1)
        have Hr := Lib.hid hr
        have hz1 := hb1.size
        obtain ⟨q, capr, rfl, -⟩ := id hr
        clear hs hb1 HW hr
        rw [List.length_range] at Hr ⊢
        go_wp2_with fail
        refine HAl.out.mono ?_
        rintro e w2 ⟨rfl, hb2⟩
        have Hr2 := Lib.hid (Hr.out.later hb2)
        have Hb2 := Lib.hid (Hb1.out.trans (hb2.mono hz1))
        have hz2 := Hb2.out.size
        have HC := Lib.hid (HV.out p _ cap _ w2 (HS.out.later Hb2.out) Hr2.out.sl (HU.out.later Hb2.out))
        clear hb2
        go_wp2_with fail
        refine HC.out.mono ?_
        rintro e w3 ⟨o, rfl, ho, hb3⟩
        have Ho := Lib.hid ho
        have Hb3 := Lib.hid (Hb2.out.trans (hb3.mono hz2))
        clear ho hb3
        go_wp2
        go_ret2
        exact ⟨o, rfl, Ho.out.mono hz2 (Nat.le_refl _) (Nat.le_refl _), Hb3.out⟩
    · rw [decide_eq_false (show ¬ (G = cnt ∧ allB (-1) 1 gs = true) from fun h => hl h.1), if_neg (show ¬ (G = cnt ∧ allB (-1) 1 gs = true) from fun h => hl h.1)]
      have d0 : ((G : Int) != (cnt : Int)) = true := by simp; omega
      have d1 : (G = cnt) = False := eq_false hl
      clear hl
      go_enter Try.func31, Try.ntmps31
      go_wp2_with fail
      refine HW.out.mono ?_
      rintro e w1 ⟨r, rfl, hs, hb1⟩
      obtain ⟨p', L', cap', e', hr⟩ := hs HG.out
      have Hb1 := Lib.hid hb1
      obtain ⟨q, capr, rfl, -⟩ := hr
      clear hs hb1 HW e'
      rw [List.length_range]
      go_wp2
      go_ret2
      exact ⟨_, rfl, Sw.nil _ _ _ _ _ _ _, Hb1.out⟩
  · have e1 : ok_CoinsLeft a fs gs = false := decide_eq_false (fun h => gd h.1)
    have e2 : res_CoinsLeft a fs gs = [] := if_neg (fun h => gd h.1)
    rw [e1, e2]
    rw [decide_eq_false gd] at HW
    have HW := Lib.hid HW
    obtain ⟨p, cap, rfl, hcl⟩ := h
    obtain ⟨p2, cap2, rfl, hcl2⟩ := g
    clear hcl hcl2 gd e1 e2
    generalize fs.length = n at *
    generalize gs.length = n2 at *
    go_enter Try.func31, Try.ntmps31
    go_wp2_with fail
    refine HW.out.mono ?_
    rintro e w1 ⟨r, rfl, hs, hb1⟩
    have Hb1 := Lib.hid hb1
    clear hs hb1 HW
    go_wp2
    go_ret2
    exact ⟨_, rfl, Sw.nil _ _ _ _ _ _ _, Hb1.out⟩
