/- Contracts: CoinsLeft, in both texts. -/
import Derived.Test.YtolmhnekfokpdaaCwF
set_option linter.unusedVariables false
namespace Go.Proofs.Ytolmhnekfokpdaa
open Go.RowKit

def okCL (a : Int) (fs gs : List Int) : Prop := goodW fs a ∧ gs.length = cntW fs a ∧ allB (-1) 1 gs = true
instance (a : Int) (fs gs : List Int) : Decidable (okCL a fs gs) := by unfold okCL; infer_instance
def ok_CoinsLeft (a : Int) (fs gs : List Int) : Bool := decide (okCL a fs gs)
def res_CoinsLeft (a : Int) (fs gs : List Int) : List Int := if okCL a fs gs then hvL fs a.toNat (cntW fs a) gs (a.toNat + 1) else []
theorem len_CoinsLeft (a : Int) (fs gs : List Int) : (res_CoinsLeft a fs gs).length ≤ 1048576 := by
  unfold res_CoinsLeft
  split
  · next g =>
    obtain ⟨k, rfl, _, h3, _⟩ := goodW_nat g.1.1
    have := hvL_len fs (k : Int).toNat (cntW fs (k : Int)) gs ((k : Int).toNat + 1)
    rw [Int.toNat_natCast] at *; omega
  · simp
set_option maxRecDepth 100000 in
set_option maxHeartbeats 1000000 in
theorem impl_CoinsLeft (a : Int) (al : -9223372036854775808 ≤ a) (au : a ≤ 9223372036854775807) (fs : List Int) (v : Value) (gs : List Int) (u : Value) (w : World) (hn : fs.length ≤ 1048576) (h : Sl (Value.int .i64) 0 w v fs) (hm : gs.length ≤ 1048576) (g : Sl (Value.int .i64) 0 w u gs) :
    Calls Try.prog 24 #[.int .i64 a, v, u] w fun e w' => ∃ r, e = .returned (.tuple #[r, .bool (ok_CoinsLeft a fs gs)]) ∧ Sw (Value.int .i64) 0 w' r (res_CoinsLeft a fs gs) w.heap.size w'.heap.size ∧ Below w.heap.size w w' := by
  have HW := weighI_any fs v a w hn h
  by_cases gd : goodW fs a
  · obtain ⟨k, rfl, hk, hk2, hc, hf⟩ := goodW_nat gd.1
    rw [decide_eq_true gd] at HW
    have HW := Lib.hid HW
    have HG := Lib.hid gd
    have HS := Lib.hid h
    have HU := Lib.hid g
    have HA := Lib.hid (fun z (hz : Below w.heap.size w z) => areW_any gs u (-1) 1 z hm (g.later hz))
    have HV := Lib.hid (fun p L cap r z (h1 : Sl (Value.int .i64) 0 z (.slice p L cap) fs) (h2 : Sl (partV p k) 0 z r (List.range (cntW fs (k : Int)))) (h3 : Sl (Value.int .i64) 0 z u gs) => heavy_any fs gs k (cntW fs (k : Int)) L cap p r u z hk hk2 hc hf h1 h2 hm h3)
    have e1 : ok_CoinsLeft (k : Int) fs gs = decide (gs.length = cntW fs (k : Int) ∧ allB (-1) 1 gs = true) := by
      unfold ok_CoinsLeft
      by_cases h2 : gs.length = cntW fs (k : Int) ∧ allB (-1) 1 gs = true
      · rw [decide_eq_true h2]; exact decide_eq_true ⟨gd, h2⟩
      · rw [decide_eq_false h2]; exact decide_eq_false (fun h => h2 h.2)
    have e2 : res_CoinsLeft (k : Int) fs gs = if gs.length = cntW fs (k : Int) ∧ allB (-1) 1 gs = true then hvL fs k (cntW fs (k : Int)) gs (k + 1) else [] := by
      unfold res_CoinsLeft
      by_cases h2 : gs.length = cntW fs (k : Int) ∧ allB (-1) 1 gs = true
      · rw [if_pos h2, if_pos ⟨gd, h2⟩, Int.toNat_natCast]
      · rw [if_neg h2, if_neg (fun h => h2 h.2)]
    rw [e1, e2]
    obtain ⟨p, cap, rfl, hcl⟩ := h
    obtain ⟨p2, cap2, rfl, hcl2⟩ := g
    clear hcl hcl2 gd e1 e2 hf
    generalize cntW fs (k : Int) = cnt at *
    obtain ⟨G, hG⟩ : ∃ G, G = gs.length := ⟨_, rfl⟩
    rw [← hG] at hm HA HU HV ⊢
    clear hG
    by_cases hl : G = cnt
    · subst hl
      have d0 : ((G : Int) != (G : Int)) = false := by simp
      cases ha : allB (-1) 1 gs
      · rw [decide_eq_false (show ¬ (G = G ∧ false = true) from fun h => by cases h.2), if_neg (show ¬ (G = G ∧ false = true) from fun h => by cases h.2)]
        rw [ha] at HA
        clear ha
        go_enter Try.func24, Try.ntmps24
        go_wp2_with fail
        refine HW.out.mono ?_
        rintro e w1 ⟨r, rfl, hs, hb1⟩
        obtain ⟨p', L', cap', e', hr⟩ := hs HG.out
        have Hb1 := Lib.hid hb1
        have HAl := Lib.hid (HA.out w1 hb1)
        obtain ⟨q, capr, rfl, -⟩ := hr
        clear hs hb1 HW e'
        rw [List.length_range]
        have hz1 := Hb1.out.size
        go_wp2_with fail
        refine HAl.out.mono ?_
        rintro e w2 ⟨rfl, hb2⟩
        have Hb2 := Lib.hid (Hb1.out.trans (hb2.mono hz1))
        clear hb2
        go_wp2
        go_ret2
        exact ⟨_, rfl, Sw.nil _ _ _ _ _ _ _, Hb2.out⟩
      · rw [decide_eq_true (show (G = G ∧ true = true) from ⟨rfl, rfl⟩), if_pos (show (G = G ∧ true = true) from ⟨rfl, rfl⟩)]
        rw [ha] at HA
        clear ha
        go_enter Try.func24, Try.ntmps24
        go_wp2_with fail
        refine HW.out.mono ?_
        rintro e w1 ⟨r, rfl, hs, hb1⟩
        obtain ⟨p', L', cap', e', hr⟩ := hs HG.out
        cases e'
        rw [Int.toNat_natCast] at hr
        have Hb1 := Lib.hid hb1
        have HAl := Lib.hid (HA.out w1 hb1)
        have Hr := Lib.hid hr
        have hz1 := hb1.size
        obtain ⟨q, capr, rfl, -⟩ := id hr
        clear hs hb1 HW hr
        rw [List.length_range] at Hr ⊢
        go_wp2_with fail
        refine HAl.out.mono ?_
        rintro e w2 ⟨rfl, hb2⟩
        have Hr2 := Lib.hid (Hr.out.later hb2)
        have Hb2 := Lib.hid (Hb1.out.trans (hb2.mono hz1))
        have hz2 := Hb2.out.size
        have HC := Lib.hid (HV.out p _ cap _ w2 (HS.out.later Hb2.out) Hr2.out.sl (HU.out.later Hb2.out))
        clear hb2
        go_wp2_with fail
        refine HC.out.mono ?_
        rintro e w3 ⟨o, rfl, ho, hb3⟩
        have Ho := Lib.hid ho
        have Hb3 := Lib.hid (Hb2.out.trans (hb3.mono hz2))
        clear ho hb3
        go_wp2
        go_ret2
        exact ⟨o, rfl, Ho.out.mono hz2 (Nat.le_refl _) (Nat.le_refl _), Hb3.out⟩
    · rw [decide_eq_false (show ¬ (G = cnt ∧ allB (-1) 1 gs = true) from fun h => hl h.1), if_neg (show ¬ (G = cnt ∧ allB (-1) 1 gs = true) from fun h => hl h.1)]
      have d0 : ((G : Int) != (cnt : Int)) = true := by simp; omega
      have d1 : (G = cnt) = False := eq_false hl
      clear hl
      go_enter Try.func24, Try.ntmps24
      go_wp2_with fail
      refine HW.out.mono ?_
      rintro e w1 ⟨r, rfl, hs, hb1⟩
      obtain ⟨p', L', cap', e', hr⟩ := hs HG.out
      have Hb1 := Lib.hid hb1
      obtain ⟨q, capr, rfl, -⟩ := hr
      clear hs hb1 HW e'
      rw [List.length_range]
      go_wp2
      go_ret2
      exact ⟨_, rfl, Sw.nil _ _ _ _ _ _ _, Hb1.out⟩
  · have e1 : ok_CoinsLeft a fs gs = false := decide_eq_false (fun h => gd h.1)
    have e2 : res_CoinsLeft a fs gs = [] := if_neg (fun h => gd h.1)
    rw [e1, e2]
    rw [decide_eq_false gd] at HW
    have HW := Lib.hid HW
    obtain ⟨p, cap, rfl, hcl⟩ := h
    obtain ⟨p2, cap2, rfl, hcl2⟩ := g
    clear hcl hcl2 gd e1 e2
    generalize fs.length = n at *
    generalize gs.length = n2 at *
    go_enter Try.func24, Try.ntmps24
    go_wp2_with fail
    refine HW.out.mono ?_
    rintro e w1 ⟨r, rfl, hs, hb1⟩
    have Hb1 := Lib.hid hb1
    clear hs hb1 HW
    go_wp2
    go_ret2
    exact ⟨_, rfl, Sw.nil _ _ _ _ _ _ _, Hb1.out⟩
set_option maxRecDepth 100000 in
set_option maxHeartbeats 2000000 in
theorem left_spec (fs gs : List Int) (v u : Value) (k cnt : Nat) (w : World) (hk : 1 ≤ k) (hk2 : k ≤ 27) (hc : cnt ≤ 4) (hf : fs.length = cnt * k) (hg : goodW fs (k : Int)) (h : Sl (Value.int .i64) 0 w v fs) (hm : gs.length ≤ 1048576) (g : Sl (Value.int .i64) 0 w u gs) (hl : gs.length = cnt) (ha : allB (-1) 1 gs = true) :
    Calls Try.prog 23 #[.int .i64 (k : Int), v, u] w fun e w' => ∃ r, e = .returned (.tuple #[r, .bool true]) ∧ Sw (Value.int .i64) 0 w' r (hvL fs k cnt gs (k + 1)) w.heap.size w'.heap.size ∧ Below w.heap.size w w' := by
  obtain ⟨i0, hi, hz0, hz1, hz2⟩ := info_parts (show (Try.prog.info? 2).map (fun i => (i.zero, i.size, i.bytes)) = some (some (.int .i64 0), 1, 8) by kernel_rfl)
  have hL8 : cnt * k ≤ 108 := Nat.mul_le_mul hc hk2
  have HW := pansS_any fs v (k : Int) w (by omega) h
  rw [decide_eq_true hg] at HW
  have HSh := Lib.hid (fun (h' : Int) z (h1 : -1 ≤ h') (h2 : h' < k) (hz : Below w.heap.size w z) => weighS_any fs v k cnt h' z hk hk2 hc hf h1 h2 (h.later hz))
  have HSm := Lib.hid (fun W o z (hW : W.length ≤ 1048576) (h1 : Sl (Value.int .i64) 0 z o W) (hz : Below w.heap.size w z) => sameZ_any W gs o u z hW hm h1 (g.later hz))
  have Hyes := Lib.hid (fun t => @hvL_yes fs k cnt gs t)
  have Hno := Lib.hid (fun t => @hvL_no fs k cnt gs t)
  have Hln := Lib.hid (fun t => hvL_len fs k cnt gs t)
  have Ha := Lib.hid (allB_at ha)
  have hd : fs.length / k = cnt := by rw [hf]; exact Nat.mul_div_cancel cnt (by omega)
  obtain ⟨p, cap, rfl, hcl⟩ := h
  obtain ⟨q2, cap2, rfl, huf⟩ := g
  have Huf := Lib.hid huf
  have hL1 : fs.length ≤ 108 := by rw [hf]; exact hL8
  generalize fs.length = L at *
  rw [hl] at Huf Ha HSm ⊢
  have HW := Lib.hid HW
  have hdv : (L : Int) / (k : Int) = (cnt : Int) := by omega
  have dz : ((k : Int) = 0) = False := eq_false (by omega)
  have d0 : ((cnt : Int) != (cnt : Int)) = false := by simp
  clear hf hcl huf hg ha hL8 hl hd
  go_enter Try.func23, Try.ntmps23
  go_wp2_with fail
  refine HW.out.mono ?_
  rintro e w' ⟨rfl, rfl⟩
  go_wp2
  clear hdv d0
  go_loop [26] (fun i => ∃ m : Nat, m ≤ cnt ∧ i = .int .i64 (m : Int)) (fun i => cnt - (intOf i).toNat)
  case atStart => exact ⟨0, Nat.zero_le _, rfl⟩
  case round =>
    obtain ⟨m, hmc, rfl⟩ := hrel
    by_cases hlt : m < cnt
    · obtain ⟨hcap, b, off, rfl, hbs, hcell⟩ := Huf.out (by omega)
      have c1 := hcell m hlt
      have hx := Ha.out m hlt
      have HI := Lib.hid (fun z => in_yes (gs.getD m 0) (-1) 1 z hx.1 hx.2)
      clear hcell
      generalize gs.getD m 0 = x at *
      go_wp2_with (go_at_call 49; refine (HI.out _).mono ?_; rintro e w' ⟨rfl, rfl⟩)
      go_round
      case rel => exact ⟨m + 1, by omega, by go_num⟩
      case measure => simp [intOf]; omega
    · obtain rfl : cnt = m := by omega
      go_wp2
      go_loopw [9, 10] (fun out i wr => ∃ t : Nat, t ≤ k + 1 ∧ i = .int .i64 ((t : Int) - 1) ∧ wr.ownsRow w.heap.size 2 1 out (hvL fs k cnt gs t).length ((hvL fs k cnt gs t).map (Value.int .i64)) ∧ Hid (Below w.heap.size w wr)) (fun _ i _ => (k + 1 - (intOf i + 1)).toNat)
      case atStart => exact ⟨0, Nat.zero_le _, rfl, own_zero w _ _ (fun _ => 0) (Nat.le_refl _), Lib.hid ((Below.refl _ _).alloc (Nat.le_refl _) _)⟩
      case round =>
        obtain ⟨t, ht, rfl, hown, hb⟩ := hrel
        have Hown := Lib.hid hown
        have hsz := hb.out.size
        have hln := Hln.out t
        clear hown
        by_cases hlt : t < k + 1
        · have HC := Lib.hid (HSh.out ((t : Int) - 1) wr (by omega) (by omega) hb.out)
          have d1 : decide ((t : Int) - 1 < (k : Int)) = true := decide_eq_true (by omega)
          have hy := Hyes.out t
          have hn := Hno.out t
          have hwl := wghL_len fs k cnt ((t : Int) - 1)
          generalize wghL fs k cnt ((t : Int) - 1) = W at *
          have Hy := Lib.hid hy
          have Hn := Lib.hid hn
          have Hwl := Lib.hid hwl
          clear hy hn hwl
          go_wp2_with fail
          refine HC.out.mono ?_
          rintro e w1 ⟨o, rfl, ho, hb1⟩
          have HE := HSm.out W o w1 (by rw [Hwl.out]; omega) ho.sl (hb.out.trans (hb1.mono hsz))
          have Hown1 := Lib.hid (own_laterC Hown.out hb1)
          have Hb1 := Lib.hid (hb.out.trans (hb1.mono hsz))
          clear ho hb1 HC
          by_cases he : W = gs
          · rw [decide_eq_true he] at HE
            have HE2 := Lib.hid HE
            have Hy2 := Lib.hid (Hy.out he)
            clear he HE
            go_wp2_with fail
            refine HE2.out.mono ?_
            rintro e w2 ⟨rfl, nq, rfl⟩
            have Hown2 : Hid ((w1.drewN nq).ownsRow w.heap.size 2 1 _ (hvL fs k cnt gs t).length ((hvL fs k cnt gs t).map (Value.int .i64))) := Lib.hid Hown1.out
            have hz1' := Hb1.out.size
            go_wp2_with (at_builtin; refine wpList_append_own _ rfl _ _ 22 rfl w.heap.size 2 i0 (.int .i64 0) 1 8 (by kernel_rfl) hi hz0 hz1 hz2 rfl (by decide) _ _ _ rfl (Hown2.out.alloc _) ⟨(w1.drewN nq).heap.size, 0, none⟩ 1 1 [.int .i64 ((t : Int) - 1)] rfl rfl (cell_one_new _ _ _) (one_int _) (by unfold maxLen; omega) (by omega) (by simp; omega) ?_; intro v2 w2 hown2 hgrow2 hne2; clear hne2)
            have Hown3 := Lib.hid (own_addC hown2)
            have Hb3 := Lib.hid (((below_drewN Hb1.out nq).alloc (by simpa using hz1') _).grown hgrow2 (by simp; omega) (fun b hb => (Hown1.out.lt b hb).1))
            clear hown2 hgrow2
            go_wp2
            go_roundw
            case rel => exact ⟨t + 1, by omega, back1 t, by rw [Hy2.out]; exact Hown3.out, Hb3⟩
            case measure => simp [intOf]; omega
          · rw [decide_eq_false he] at HE
            have HE2 := Lib.hid HE
            have Hn2 := Lib.hid (Hn.out he)
            clear he HE
            go_wp2_with fail
            refine HE2.out.mono ?_
            rintro e w2 ⟨rfl, nq, rfl⟩
            go_wp2
            go_roundw
            case rel => exact ⟨t + 1, by omega, back1 t, by rw [Hn2.out]; exact Hown1.out, Lib.hid (below_drewN Hb1.out _)⟩
            case measure => simp [intOf]; omega
        · obtain rfl : t = k + 1 := by omega
          have d1 : decide (((k + 1 : Nat) : Int) - 1 < (k : Int)) = false := decide_eq_false (by omega)
          go_wp2
          go_ret2
          exact ⟨_, rfl, Sw.of_owns Hown.out rfl, hb.out⟩
end Go.Proofs.Ytolmhnekfokpdaa
