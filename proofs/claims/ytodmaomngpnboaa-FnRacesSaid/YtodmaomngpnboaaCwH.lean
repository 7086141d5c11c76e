/- Contracts: CoinsLeft of the model, whole; IsCoinPlan, in both texts. -/
import Derived.Test.YtodmaomngpnboaaCwG
set_option linter.unusedVariables false
namespace Go.Proofs.Ytodmaomngpnboaa
open Go.RowKit

theorem allB_no {lo hi : Int} {gs : List Int} (h : allB lo hi gs = false) : ∃ t, t < gs.length ∧ (∀ j, j < t → lo ≤ gs.getD j 0 ∧ gs.getD j 0 ≤ hi) ∧ (gs.getD t 0 < lo ∨ hi < gs.getD t 0) := by
  obtain ⟨t, t1, t2, t3⟩ := firstNot _ _ h
  refine ⟨t, t1, fun j hj => by simpa using t2 j hj, ?_⟩
  by_cases g : lo ≤ gs.getD t 0 ∧ gs.getD t 0 ≤ hi
  · rw [decide_eq_true g.1, decide_eq_true g.2] at t3; simp at t3
  · omega

/-- no two of the first n show the same -/
def diffB (fs : List Int) (k cnt n : Nat) : Bool := (List.range n).all fun a => (List.range a).all fun b => !decide (wghL fs k cnt ((a : Int) - 1) = wghL fs k cnt ((b : Int) - 1))
theorem hvL_mono (fs : List Int) (k cnt : Nat) (sh : List Int) (t : Nat) : ∀ j, (hvL fs k cnt sh t).length ≤ (hvL fs k cnt sh (t + j)).length
  | 0 => Nat.le_refl _
  | j + 1 => by
    refine Nat.le_trans (hvL_mono fs k cnt sh t j) ?_
    rw [show t + (j + 1) = (t + j) + 1 from rfl, hvL, List.length_append]; omega
theorem hvL_two (fs : List Int) (k cnt a b n : Nat) (hb : b < a) (ha : a < n) (h : wghL fs k cnt ((a : Int) - 1) = wghL fs k cnt ((b : Int) - 1)) : 2 ≤ (hvL fs k cnt (wghL fs k cnt ((a : Int) - 1)) n).length := by
  have h1 := hvL_mono fs k cnt (wghL fs k cnt ((a : Int) - 1)) (a + 1) (n - (a + 1))
  rw [show a + 1 + (n - (a + 1)) = n by omega, hvL_yes rfl, List.length_append] at h1
  have h2 := hvL_mono fs k cnt (wghL fs k cnt ((a : Int) - 1)) (b + 1) (a - (b + 1))
  rw [show b + 1 + (a - (b + 1)) = a by omega, hvL_yes h.symm, List.length_append] at h2
  simp at h1 h2
  omega
theorem hvL_pos (fs : List Int) (k cnt : Nat) (sh : List Int) : ∀ n, 1 ≤ (hvL fs k cnt sh n).length → ∃ b, b < n ∧ wghL fs k cnt ((b : Int) - 1) = sh
  | 0, h => by simp [hvL] at h
  | n + 1, h => by
    by_cases e : wghL fs k cnt ((n : Int) - 1) = sh
    · exact ⟨n, by omega, e⟩
    · rw [hvL_no e] at h
      obtain ⟨b, h1, h2⟩ := hvL_pos fs k cnt sh n h
      exact ⟨b, by omega, h2⟩
theorem hvL_more (fs : List Int) (k cnt : Nat) (sh : List Int) : ∀ n, 2 ≤ (hvL fs k cnt sh n).length → ∃ a b, b < a ∧ a < n ∧ wghL fs k cnt ((a : Int) - 1) = sh ∧ wghL fs k cnt ((b : Int) - 1) = sh
  | 0, h => by simp [hvL] at h
  | n + 1, h => by
    by_cases e : wghL fs k cnt ((n : Int) - 1) = sh
    · rw [hvL_yes e, List.length_append] at h
      obtain ⟨b, h1, h2⟩ := hvL_pos fs k cnt sh n (by simp at h; omega)
      exact ⟨n, b, h1, by omega, e, h2⟩
    · rw [hvL_no e] at h
      obtain ⟨a, b, h1, h2, h3, h4⟩ := hvL_more fs k cnt sh n h
      exact ⟨a, b, h1, by omega, h3, h4⟩
theorem diffB_no {fs : List Int} {k cnt n a b : Nat} (hb : b < a) (ha : a < n) (h : wghL fs k cnt ((a : Int) - 1) = wghL fs k cnt ((b : Int) - 1)) : diffB fs k cnt n = false := by
  rw [Bool.eq_false_iff]
  intro hd
  have h1 := List.all_eq_true.1 hd a (List.mem_range.2 ha)
  have h2 := List.all_eq_true.1 h1 b (List.mem_range.2 hb)
  rw [decide_eq_true h] at h2; cases h2
theorem diffB_yes {fs : List Int} {k cnt n : Nat} (h : ∀ a b, b < a → a < n → ¬ wghL fs k cnt ((a : Int) - 1) = wghL fs k cnt ((b : Int) - 1)) : diffB fs k cnt n = true := by
  refine List.all_eq_true.2 fun a ha => List.all_eq_true.2 fun b hb => ?_
  rw [decide_eq_false (h a b (List.mem_range.1 hb) (List.mem_range.1 ha))]; rfl
theorem diffB_two {fs : List Int} {k cnt n t : Nat} (h : 2 ≤ (hvL fs k cnt (wghL fs k cnt ((t : Int) - 1)) n).length) : diffB fs k cnt n = false := by
  obtain ⟨a, b, h1, h2, h3, h4⟩ := hvL_more fs k cnt _ n h
  exact diffB_no h1 h2 (h3.trans h4.symm)
theorem diffB_one {fs : List Int} {k cnt n : Nat} (h : ∀ t, t < n → (hvL fs k cnt (wghL fs k cnt ((t : Int) - 1)) n).length ≤ 1) : diffB fs k cnt n = true :=
  diffB_yes fun a b hb ha e => by have := hvL_two fs k cnt a b n hb ha e; have := h a ha; omega
def ok_IsCoinPlan (a : Int) (fs : List Int) : Bool := decide (goodW fs a)
def res_IsCoinPlan (a : Int) (fs : List Int) : Bool := decide (goodW fs a) && diffB fs a.toNat (cntWw fs a) (a.toNat + 1)
theorem ret2bb {a b c : Bool} (h : a = b) : Ending.returned (.tuple #[.bool a, .bool c]) = .returned (.tuple #[.bool b, .bool c]) := by rw [h]
set_option maxRecDepth 100000 in
set_option maxHeartbeats 1000000 in
theorem impl_IsCoinPlan (a : Int) (al : -9223372036854775808 ≤ a) (au : a ≤ 9223372036854775807) (fs : List Int) (v : Value) (w : World) (hn : fs.length ≤ 1048576) (h : Sl (Value.int .i64) 0 w v fs) :
    Calls Try.prog 32 #[.int .i64 a, v] w fun e w' => e = .returned (.tuple #[.bool (res_IsCoinPlan a fs), .bool (ok_IsCoinPlan a fs)]) ∧ Below w.heap.size w w' := by
  have HW := weighI_any fs v a w hn h
  unfold ok_IsCoinPlan res_IsCoinPlan
  by_cases g : goodW fs a
  · obtain ⟨k, rfl, hk, hk2, hc, hf⟩ := goodW_nat g.1
    rw [decide_eq_true g] at HW ⊢
    have HW := Lib.hid HW
    have HG := Lib.hid g
    have HS := Lib.hid h
    have HSh := Lib.hid (fun p L cap r (h' : Int) z (h1 : -1 ≤ h') (h2 : h' < k) (h3 : Sl (Value.int .i64) 0 z (.slice p L cap) fs) (h4 : Sl (partV p k) 0 z r (List.range (cntWw fs (k : Int)))) => shown_any fs k (cntWw fs (k : Int)) L cap p r h' z hk hk2 hc hf h1 h2 h3 h4)
    have HV := Lib.hid (fun p L cap r u sh z (hm : sh.length ≤ 1048576) (h1 : Sl (Value.int .i64) 0 z (.slice p L cap) fs) (h2 : Sl (partV p k) 0 z r (List.range (cntWw fs (k : Int)))) (h3 : Sl (Value.int .i64) 0 z u sh) => heavy_any fs sh k (cntWw fs (k : Int)) L cap p r u z hk hk2 hc hf h1 h2 hm h3)
    rw [Bool.true_and, Int.toNat_natCast]
    obtain ⟨p, cap, rfl, hcl⟩ := h
    clear hcl g hf
    generalize cntWw fs (k : Int) = cnt at *
    have Htwo := Lib.hid (fun t => @diffB_two fs k cnt (k + 1) t)
    have Hone := Lib.hid (@diffB_one fs k cnt (k + 1))
    go_enter Try.func32, Try.ntmps32
    go_wp2_with fail
    refine HW.out.mono ?_
    rintro e w1 ⟨r, rfl, hs, hb1⟩
    obtain ⟨p', L', cap', e', hr⟩ := hs HG.out
    cases e'
    rw [Int.toNat_natCast] at hr
    have Hb1 := Lib.hid hb1
    have Hr := Lib.hid hr
    have hz1 := hb1.size
    obtain ⟨q, capr, rfl, -⟩ := id hr
    clear hs hb1 HW hr
    rw [List.length_range] at Hr ⊢
    go_wp2
    go_loopw [8] (fun i wr => ∃ t : Nat, t ≤ k + 1 ∧ i = .int .i64 ((t : Int) - 1) ∧ Hid (∀ j, j < t → (hvL fs k cnt (wghL fs k cnt ((j : Int) - 1)) (k + 1)).length ≤ 1) ∧ Hid (Below w1.heap.size w1 wr)) (fun i _ => (k + 1 - (intOf i + 1)).toNat)
    case atStart => exact ⟨0, Nat.zero_le _, rfl, Lib.hid (fun j hj => absurd hj (by omega)), Lib.hid (Below.refl _ _)⟩
    case round =>
      obtain ⟨t, ht, rfl, hone, hb⟩ := hrel
      have hszr := hb.out.size
      by_cases hlt : t < k + 1
      · have hSr := HS.out.later (Hb1.out.trans (hb.out.mono hz1))
        have hRr := (Hr.out.later hb.out).sl
        have HC := Lib.hid (HSh.out p _ cap _ ((t : Int) - 1) wr (by omega) (by omega) hSr hRr)
        have d1 : decide ((t : Int) - 1 < (k : Int)) = true := decide_eq_true (by omega)
        have htwo := Htwo.out t
        have hwl := wghL_len fs k cnt ((t : Int) - 1)
        obtain ⟨W, hW⟩ : ∃ W, W = wghL fs k cnt ((t : Int) - 1) := ⟨_, rfl⟩
        have HWW := Lib.hid hW
        rw [← hW] at HC htwo hwl
        have Hone2 := Lib.hid (show (hvL fs k cnt W (k + 1)).length ≤ 1 → ∀ j, j < t + 1 → (hvL fs k cnt (wghL fs k cnt ((j : Int) - 1)) (k + 1)).length ≤ 1 from fun h j hj => by
          by_cases e : j = t
          · subst e; rw [← HWW.out]; exact h
          · exact hone.out j (by omega))
        have Hwl := Lib.hid hwl
        have Htw := Lib.hid htwo
        have HSr := Lib.hid hSr
        have HRr := Lib.hid hRr
        clear hSr hRr hW htwo hwl
        go_wp2_with fail
        refine HC.out.mono ?_
        rintro e w2 ⟨o, rfl, ho, hb2⟩
        have HV2 := Lib.hid (HV.out p _ cap _ o W w2 (by rw [Hwl.out]; omega) (HSr.out.later hb2) (HRr.out.later hb2) ho.sl)
        have Hb2 := Lib.hid (hb.out.trans (hb2.mono hszr))
        clear ho hb2 HC
        go_wp2_with fail
        refine HV2.out.mono ?_
        rintro e w3 ⟨o2, rfl, ho2, hb3⟩
        have Hb3 := Lib.hid (Hb2.out.trans (hb3.mono Hb2.out.size))
        have hl3 := hvL_len fs k cnt W (k + 1)
        obtain ⟨p3, cap3, rfl, -⟩ := ho2
        clear hb3 HV2
        obtain ⟨m, hm⟩ : ∃ m, m = (hvL fs k cnt W (k + 1)).length := ⟨_, rfl⟩
        rw [← hm] at hl3 ⊢
        have Hm := Lib.hid hm
        clear hm
        by_cases hm1 : m ≤ 1
        · have HN := Lib.hid (Hone2.out (by rw [← Hm.out]; exact hm1))
          have d2 : decide (1 < m) = false := decide_eq_false (by omega)
          go_wp2
          go_roundw
          case rel => exact ⟨t + 1, by omega, back1 t, HN, Hb3⟩
          case measure => simp [intOf]; omega
        · have HN := Lib.hid (Htw.out (by rw [← Hm.out]; omega))
          have d2 : decide (1 < m) = true := decide_eq_true (by omega)
          go_wp2
          go_ret2
          exact ⟨ret2bb HN.out.symm, Hb1.out.trans (Hb3.out.mono hz1)⟩
      · obtain rfl : t = k + 1 := by omega
        have d1 : decide (((k + 1 : Nat) : Int) - 1 < (k : Int)) = false := decide_eq_false (by omega)
        have HN := Lib.hid (Hone.out hone.out)
        go_wp2
        go_ret2
        exact ⟨ret2bb HN.out.symm, Hb1.out.trans (hb.out.mono hz1)⟩
  · rw [decide_eq_false g] at HW ⊢
    rw [Bool.false_and]
    have HW := Lib.hid HW
    obtain ⟨p, cap, rfl, hcl⟩ := h
    clear hcl g
    go_enter Try.func32, Try.ntmps32
    go_wp2_with fail
    refine HW.out.mono ?_
    rintro e w1 ⟨r, rfl, hs, hb1⟩
    have Hb1 := Lib.hid hb1
    clear hs hb1 HW
    go_wp2
    go_ret2
    exact ⟨rfl, Hb1.out⟩
set_option maxRecDepth 100000 in
set_option maxHeartbeats 1000000 in
theorem spec_IsCoinPlan (a : Int) (al : -9223372036854775808 ≤ a) (au : a ≤ 9223372036854775807) (fs : List Int) (v : Value) (w : World) (hn : fs.length ≤ 1048576) (h : Sl (Value.int .i64) 0 w v fs) :
    Calls Try.prog 33 #[.int .i64 a, v] w fun e w' => e = .returned (.tuple #[.bool (res_IsCoinPlan a fs), .bool (ok_IsCoinPlan a fs)]) ∧ Below w.heap.size w w' := by
  have HW := pansS_any fs v a w hn h
  unfold ok_IsCoinPlan res_IsCoinPlan
  by_cases g : goodW fs a
  · obtain ⟨k, rfl, hk, hk2, hc, hf⟩ := goodW_nat g.1
    rw [decide_eq_true g] at HW ⊢
    have HW := Lib.hid HW
    have HSh := Lib.hid (fun (h' : Int) z (h1 : -1 ≤ h') (h2 : h' < k) (hz : Below w.heap.size w z) => weighS_any fs v k (cntWw fs (k : Int)) h' z hk hk2 hc hf h1 h2 (h.later hz))
    rw [Bool.true_and, Int.toNat_natCast]
    obtain ⟨p, cap, rfl, hcl⟩ := h
    clear hcl g hf
    generalize cntWw fs (k : Int) = cnt at *
    have Hno := Lib.hid (fun a b => @diffB_no fs k cnt (k + 1) a b)
    have Hyes := Lib.hid (@diffB_yes fs k cnt (k + 1))
    go_enter Try.func33, Try.ntmps33
    go_wp2_with fail
    refine HW.out.mono ?_
    rintro e w' ⟨rfl, rfl⟩
    go_wp2
    go_loopw [6] (fun i wr => ∃ t : Nat, t ≤ k + 1 ∧ i = .int .i64 ((t : Int) - 1) ∧ Hid (∀ a b, b < a → a < t → ¬ wghL fs k cnt ((a : Int) - 1) = wghL fs k cnt ((b : Int) - 1)) ∧ Hid (Below w.heap.size w wr)) (fun i _ => (k + 1 - (intOf i + 1)).toNat)
    case atStart => exact ⟨0, Nat.zero_le _, rfl, Lib.hid (fun a b _ ha => absurd ha (by omega)), Lib.hid (Below.refl _ _)⟩
    case round =>
      obtain ⟨wo, rfl⟩ : ∃ z, z = wr := ⟨_, rfl⟩
      obtain ⟨t, ht, rfl, hdf, hb⟩ := hrel
      by_cases hlt : t < k + 1
      · have d1 : decide ((t : Int) - 1 < (k : Int)) = true := decide_eq_true (by omega)
        go_wp2
        go_loopw [7] (fun i wr => ∃ s : Nat, s ≤ t ∧ i = .int .i64 ((s : Int) - 1) ∧ Hid (∀ b, b < s → ¬ wghL fs k cnt ((t : Int) - 1) = wghL fs k cnt ((b : Int) - 1)) ∧ Hid (Below w.heap.size w wr)) (fun i _ => (t - (intOf i + 1)).toNat)
        case atStart => exact ⟨0, Nat.zero_le _, rfl, Lib.hid (fun b hb => absurd hb (by omega)), hb⟩
        case round =>
          obtain ⟨s, hs, rfl, hds, hb2⟩ := hrel
          have hszr := hb2.out.size
          by_cases hlt2 : s < t
          · have d2 : decide ((s : Int) - 1 < (t : Int) - 1) = true := decide_eq_true (by omega)
            have d3 : decide ((s : Int) < (t : Int)) = true := decide_eq_true (by omega)
            have HC1 := Lib.hid (HSh.out ((t : Int) - 1) wr (by omega) (by omega) hb2.out)
            have HC2 := Lib.hid (fun z hz => HSh.out ((s : Int) - 1) z (by omega) (by omega) hz)
            have hl1 := wghL_len fs k cnt ((t : Int) - 1)
            have hl2 := wghL_len fs k cnt ((s : Int) - 1)
            have hno := Hno.out t s hlt2 hlt
            have hds2 : ¬ wghL fs k cnt ((t : Int) - 1) = wghL fs k cnt ((s : Int) - 1) → ∀ b, b < s + 1 → ¬ wghL fs k cnt ((t : Int) - 1) = wghL fs k cnt ((b : Int) - 1) := fun h b hb => by
              by_cases e : b = s
              · subst e; exact h
              · exact hds.out b (by omega)
            obtain ⟨V, hV⟩ : ∃ V, V = wghL fs k cnt ((s : Int) - 1) := ⟨_, rfl⟩
            obtain ⟨W, hW⟩ : ∃ W, W = wghL fs k cnt ((t : Int) - 1) := ⟨_, rfl⟩
            have HDs : Hid (¬ W = V → ∀ b, b < s + 1 → ¬ wghL fs k cnt ((t : Int) - 1) = wghL fs k cnt ((b : Int) - 1)) := Lib.hid (by rw [hW, hV]; exact hds2)
            rw [← hV] at HC2 hl2 hno
            rw [← hW] at HC1 hl1 hno
            have HN := Lib.hid hno
            have Hl1 := Lib.hid hl1
            have Hl2 := Lib.hid hl2
            clear hno hl1 hl2 hds2 hV hW hds
            go_wp2_with fail
            refine HC1.out.mono ?_
            rintro e w1 ⟨o, rfl, ho, hb3⟩
            have Hb3 := Lib.hid (hb2.out.trans (hb3.mono hszr))
            have hz3 := Hb3.out.size
            have HC3 := Lib.hid (HC2.out w1 Hb3.out)
            have Ho := Lib.hid ho
            clear ho hb3 HC1 HC2
            go_wp2_with fail
            refine HC3.out.mono ?_
            rintro e w2 ⟨o2, rfl, ho2, hb4⟩
            have Hb4 := Lib.hid (Hb3.out.trans (hb4.mono hz3))
            have HE := sameZw_any W V o o2 w2 (by rw [Hl1.out]; omega) (by rw [Hl2.out]; omega) (Ho.out.later hb4).sl ho2.sl
            clear ho2 hb4 HC3
            by_cases he : W = V
            · rw [decide_eq_true he] at HE
              have HE2 := Lib.hid HE
              have HN2 := Lib.hid (HN.out he)
              clear he HE
              go_wp2_with fail
              refine HE2.out.mono ?_
              rintro e w3 ⟨rfl, nq, rfl⟩
              go_wp2
              go_ret2
              exact ⟨ret2bb HN2.out.symm, below_drewN Hb4.out _⟩
            · rw [decide_eq_false he] at HE
              have HE2 := Lib.hid HE
              have HD2 := Lib.hid (HDs.out he)
              clear he HE
              go_wp2_with fail
              refine HE2.out.mono ?_
              rintro e w3 ⟨rfl, nq, rfl⟩
              go_wp2
              go_roundw
              case rel => exact ⟨s + 1, by omega, back1 s, HD2, Lib.hid (below_drewN Hb4.out _)⟩
              case measure => simp [intOf]; omega
          · obtain rfl : s = t := by omega
            have d2 : decide ((s : Int) - 1 < (s : Int) - 1) = false := decide_eq_false (by omega)
            have HD2 : Hid (∀ a b, b < a → a < s + 1 → ¬ wghL fs k cnt ((a : Int) - 1) = wghL fs k cnt ((b : Int) - 1)) := Lib.hid (fun a b hb ha => by
              by_cases e : a = s
              · subst e; exact hds.out b hb
              · exact hdf.out a b hb (by omega))
            go_wp2
            go_roundw
            case rel => exact ⟨s + 1, by omega, back1 s, HD2, hb2⟩
            case measure => simp [intOf]; omega
      · obtain rfl : t = k + 1 := by omega
        have d1 : decide (((k + 1 : Nat) : Int) - 1 < (k : Int)) = false := decide_eq_false (by omega)
        have HN := Lib.hid (Hyes.out hdf.out)
        go_wp2
        go_ret2
        exact ⟨ret2bb HN.out.symm, hb.out⟩
  · rw [decide_eq_false g] at HW ⊢
    rw [Bool.false_and]
    have HW := Lib.hid HW
    obtain ⟨p, cap, rfl, hcl⟩ := h
    clear hcl g
    go_enter Try.func33, Try.ntmps33
    go_wp2_with fail
    refine HW.out.mono ?_
    rintro e w' ⟨rfl, rfl⟩
    go_wp2
    go_ret2
    exact ⟨rfl, Below.refl _ _⟩
end Go.Proofs.Ytodmaomngpnboaa
