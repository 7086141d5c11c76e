/- Contracts: coins on a balance, the program: what lies where, what is shown. -/
import Derived.Test.YtodmaomngpnboaaCwA
import Derived.Test.YtodmaomngpnboaaWc
set_option linter.unusedVariables false
namespace Go.Proofs.Ytodmaomngpnboaa
open Go.RowKit

theorem ret2vb {r : Value} {a b : Bool} (h : a = b) : Ending.returned (.tuple #[r, .bool a]) = .returned (.tuple #[r, .bool b]) := by rw [h]
/-- the pans tell weighings of k coins -/
def okPans (fs : List Int) (c : Int) : Prop := (1 ≤ c ∧ c ≤ 27) ∧ fs.length % c.toNat = 0 ∧ fs.length / c.toNat ≤ 4
instance (fs : List Int) (c : Int) : Decidable (okPans fs c) := by unfold okPans; infer_instance
theorem weigh_no (fs : List Int) (v : Value) (c : Int) (w : World) (hn : fs.length ≤ 1048576) (h : Sl (Value.int .i64) 0 w v fs) (hno : ¬ okPans fs c) :
    Calls Try.prog 83 #[.int .i64 c, v] w fun e w' => e = .returned (.tuple #[.slice none 0 0, .bool false]) ∧ Below w.heap.size w w' := by
  unfold okPans at hno
  obtain ⟨p, cap, rfl, hf⟩ := h
  clear hf
  obtain ⟨L, hL⟩ : ∃ L, L = fs.length := ⟨_, rfl⟩
  rw [← hL] at hn hno ⊢
  clear hL
  by_cases g : 1 ≤ c ∧ c ≤ 27
  · have H0 := Lib.hid (fun z => within_yes c 1 27 z g.1 g.2)
    obtain ⟨k, rfl⟩ : ∃ k : Nat, c = k := ⟨c.toNat, by omega⟩
    rw [Int.toNat_natCast] at hno
    have hk1 : 1 ≤ k := by omega
    have hk2 : k ≤ 27 := by omega
    have dz : ((k : Int) = 0) = False := eq_false (by omega)
    by_cases g2 : L % k = 0
    · have g3 : 4 < L / k := by
        rcases Nat.lt_or_ge 4 (L / k) with h | h
        · exact h
        · exact absurd ⟨g, g2, h⟩ hno
      have hq : (L : Int) % (k : Int) = 0 := by omega
      obtain ⟨Q, hQ⟩ : ∃ Q, Q = L / k := ⟨_, rfl⟩
      have hd : (L : Int) / (k : Int) = (Q : Int) := by rw [hQ]; omega
      have hQ4 : 4 < Q := by omega
      have hQn : Q ≤ 1048576 := by rw [hQ]; exact Nat.le_trans (Nat.div_le_self _ _) hn
      have d4 : decide (4 < Q) = true := decide_eq_true hQ4
      clear hno g g2 g3 hQ
      go_enter Try.func83, Try.ntmps83
      go_wp2_with (go_at_call 71; refine (H0.out _).mono ?_; rintro e w' ⟨rfl, rfl⟩)
      go_ret2
      exact ⟨rfl, Below.refl _ _⟩
    · obtain ⟨R, hR⟩ : ∃ R, R = L % k := ⟨_, rfl⟩
      have hq : (L : Int) % (k : Int) = (R : Int) := by rw [hR]; omega
      have hR0 : ((R : Int) != 0) = true := by simp; omega
      have hR1 : (R = 0) = False := eq_false (by omega)
      clear hno g g2 hR
      go_enter Try.func83, Try.ntmps83
      go_wp2_with (go_at_call 71; refine (H0.out _).mono ?_; rintro e w' ⟨rfl, rfl⟩)
      go_ret2
      exact ⟨rfl, Below.refl _ _⟩
  · have H0 := Lib.hid (fun z => within_no c 1 27 z (by omega))
    clear hno g
    go_enter Try.func83, Try.ntmps83
    go_wp2_with (go_at_call 71; refine (H0.out _).mono ?_; rintro e w' ⟨rfl, rfl⟩)
    go_ret2
    exact ⟨rfl, Below.refl _ _⟩
set_option maxHeartbeats 1000000 in
theorem weigh_yes (fs : List Int) (v : Value) (k cnt : Nat) (w : World) (hk : 1 ≤ k) (hk2 : k ≤ 27) (hc : cnt ≤ 4) (hf : fs.length = cnt * k) (h : Sl (Value.int .i64) 0 w v fs) :
    Calls Try.prog 83 #[.int .i64 (k : Int), v] w fun e w' => ∃ r p L cap, e = .returned (.tuple #[r, .bool (goodP fs k cnt)]) ∧ v = .slice p L cap ∧ (goodP fs k cnt = true → Sw (partV p k) 0 w' r (List.range cnt) w.heap.size w'.heap.size) ∧ Below w.heap.size w w' := by
  have hL8 : cnt * k ≤ 108 := Nat.mul_le_mul hc hk2
  have HS := Lib.hid h
  have HAl := Lib.hid (areW_any fs v (-1) 1 w (by omega) h)
  obtain ⟨p, cap, rfl, hcl⟩ := h
  have H0 := Lib.hid (fun z => within_yes (k : Int) 1 27 z (by omega) (by omega))
  have hq : fs.length % k = 0 := by rw [hf]; exact Nat.mul_mod_left cnt k
  have hd : fs.length / k = cnt := by rw [hf]; exact Nat.mul_div_cancel cnt (by omega)
  obtain ⟨L, hL⟩ : ∃ L, L = fs.length := ⟨_, rfl⟩
  have Hf := Lib.hid hf
  have hlc : 0 < L → L ≤ cap ∧ ∃ b off, p = some ⟨b, off, none⟩ := fun h0 => by
    obtain ⟨h1, b, off, h2, _⟩ := hcl (by omega)
    exact ⟨by omega, b, off, h2⟩
  have HL := Lib.hid (hL.trans hf)
  have HLf := Lib.hid hL
  rw [← hL] at hq hd HS HAl ⊢
  have Hlc := Lib.hid hlc
  have dz : ((k : Int) = 0) = False := eq_false (by omega)
  have hqv : (L : Int) % (k : Int) = 0 := by omega
  have hdv : (L : Int) / (k : Int) = (cnt : Int) := by omega
  have d4 : decide (4 < cnt) = false := decide_eq_false (by omega)
  have hL1 : L ≤ 108 := by rw [hL, hf]; exact hL8
  clear hcl hf hq hd hL hlc hL8
  cases ha : allB (-1) 1 fs
  · have HG : Hid (goodP fs k cnt = false) := Lib.hid (by unfold goodP; rw [ha]; rfl)
    rw [HG.out]
    rw [ha] at HAl
    clear ha
    go_enter Try.func83, Try.ntmps83
    go_wp2_with (first | (go_at_call 71; (with_reducible refine (H0.out _).mono ?_); rintro e w' ⟨rfl, rfl⟩) | (go_at_call 85; (with_reducible refine (HAl.out).mono ?_); rintro e w1 ⟨rfl, hb1⟩; have Hb1 := Lib.hid hb1; clear hb1))
    go_ret2
    exact ⟨_, _, _, _, rfl, rfl, (fun h => (by cases h)), Hb1.out⟩
  · rw [ha] at HAl
    have Ha := Lib.hid ha
    have HG : Hid ((List.range cnt).all (evenB fs k) = goodP fs k cnt) := Lib.hid (by unfold goodP; rw [ha]; rfl)
    clear ha
    go_enter Try.func83, Try.ntmps83
    go_wp2_with (first | (go_at_call 71; (with_reducible refine (H0.out _).mono ?_); rintro e w' ⟨rfl, rfl⟩) | (go_at_call 85; (with_reducible refine (HAl.out).mono ?_); rintro e w1 ⟨rfl, hb1⟩; have Hb1 := Lib.hid hb1; clear hb1) | fail)
    refine (chunk_made _ p L cap k _ hk (by omega) rfl).mono ?_
    rintro e w2 ⟨rfl, hw2⟩
    have hb2 : Below w1.heap.size w1 w2 := by rw [hw2]; exact ((Below.refl _ _).alloc (Nat.le_refl _) _).alloc (by simp) _
    have HC := Lib.hid (collectP_any p L cap k cnt w1 w2 hk (by omega) (by omega) HL.out (by rcases Nat.eq_zero_or_pos L with h | h; (· omega); (· exact (Hlc.out h).1)) (fun h => (Hlc.out h).2) hw2)
    have Hb2 := Lib.hid (Hb1.out.trans (hb2.mono Hb1.out.size))
    clear hw2 hb2
    go_wp2_with fail
    refine HC.out.mono ?_
    rintro e w3 ⟨r, rfl, hr, hb3⟩
    have Hr := Lib.hid hr
    have Hb3 := Lib.hid (Hb2.out.trans (hb3.mono Hb2.out.size))
    have hz2 := Hb2.out.size
    clear hr hb3 HC
    have HE := Lib.hid (countE_any fs k cnt L cap p r w3 hk hk2 hc Hf.out Ha.out (HS.out.later Hb3.out) Hr.out.sl)
    go_wp2_with fail
    refine HE.out.mono ?_
    rintro e w4 ⟨rfl, hd⟩
    have Hr4 := Lib.hid (Hr.out.drawn hd)
    have Hb4 := Lib.hid (Hb3.out.trans (hd.below _))
    have hz4 : w4.heap.size = w3.heap.size := by rw [hd.heap]
    have HX := Lib.hid (cntS_all (evenB fs k) cnt)
    have hle := cntS_le (evenB fs k) cnt
    generalize cntS (evenB fs k) cnt = C at *
    obtain ⟨q, capr, rfl, hrf⟩ := id Hr4.out
    clear hd hrf HE
    rw [List.length_range] at Hr4
    simp only [List.length_range]
    go_wp2
    go_ret2
    exact ⟨_, p, L, cap, ret2vb (HX.out.trans HG.out), rfl, fun _ => Hr4.out.mono hz2 (Nat.le_of_eq hz4.symm) (Nat.le_refl _), Hb4.out⟩
/-- what is shown if h weighs more -/
def wghG (fs : List Int) (k : Nat) (h : Int) (i : Nat) : Int := if h < 0 then 0 else fs.getD (i * k + h.toNat) 0
def wghL (fs : List Int) (k cnt : Nat) (h : Int) : List Int := tab cnt (wghG fs k h)
theorem zerosC (n : Nat) : (madeCells (Value.int .i64 0).cells (n * 1)).toList = (tab n fun _ => 0).map (Value.int .i64) := by
  rw [Nat.mul_one]
  refine (made1 _ n).trans ?_
  unfold tab
  rw [List.map_map]
  apply List.ext_getElem
  · simp
  · intro i h1 h2; simp
theorem tab_setC (n : Nat) (g : Nat → Int) (k : Nat) (v : Int) : (tab n g).set k v = tab n (fun j => if j = k then v else g j) := by
  apply List.ext_getElem
  · simp [tab]
  · intro i h1 h2
    rw [List.getElem_set]
    simp only [tab, List.getElem_map, List.getElem_range]
    by_cases e : k = i
    · subst e; simp
    · rw [if_neg e, if_neg (fun h => e h.symm)]
set_option maxHeartbeats 1000000 in
theorem shown_any (fs : List Int) (k cnt L cap : Nat) (p : Option Addr) (r : Value) (h : Int) (w : World) (hk : 1 ≤ k) (hk2 : k ≤ 27) (hc : cnt ≤ 4) (hf : fs.length = cnt * k) (h1 : -1 ≤ h) (h2 : h < k) (hS : Sl (Value.int .i64) 0 w (.slice p L cap) fs) (hr : Sl (partV p k) 0 w r (List.range cnt)) :
    Calls Try.prog 84 #[r, .int .i64 h] w fun e w' => ∃ o, e = .returned o ∧ Sw (Value.int .i64) 0 w' o (wghL fs k cnt h) w.heap.size w'.heap.size ∧ Below w.heap.size w w' := by
  obtain ⟨i0, hi, hz0, hz1, hz2⟩ := info_parts (show (Try.prog.info? 2).map (fun i => (i.zero, i.size, i.bytes)) = some (some (.int .i64 0), 1, 8) by kernel_rfl)
  obtain ⟨q, capr, rfl, hrf⟩ := hr
  have Hr := Lib.hid hrf
  rw [List.length_range] at Hr ⊢
  have HSf := Lib.hid hS
  have Hf := Lib.hid hf
  clear hrf hf hS
  by_cases hneg : h < 0
  · have HW : Hid (wghL fs k cnt h = tab cnt fun _ => 0) := Lib.hid (tab_congr fun i _ => by unfold wghG; rw [if_pos hneg])
    rw [HW.out]
    have d : decide (h < 0) = true := decide_eq_true hneg
    go_enter Try.func84, Try.ntmps84
    go_wp2_with (at_make; refine wpList_make_full _ rfl _ _ 22 rfl w.heap.size 2 i0 (.int .i64 0) 1 (by kernel_rfl) hi hz0 hz1 .i64 .i64 cnt cnt cnt rfl rfl rfl rfl (by rw [hz2]; omega) (by unfold maxLen; omega) (Nat.le_refl _) ?_; intro w1 hrow hgrow)
    rw [zerosC] at hrow
    go_ret
    exact ⟨_, rfl, Sw.of_owns hrow (tab_len _ _), (Below.refl _ _).grown hgrow (Nat.le_refl _) (by simp)⟩
  · obtain ⟨t, rfl⟩ : ∃ t : Nat, h = t := ⟨h.toNat, by omega⟩
    have HW : Hid (wghL fs k cnt (t : Int) = tab cnt fun i => fs.getD (i * k + t) 0) := Lib.hid (tab_congr fun i _ => by unfold wghG; rw [if_neg hneg, Int.toNat_natCast])
    rw [HW.out]
    have d : decide ((t : Int) < 0) = false := decide_eq_false hneg
    clear hneg h1
    go_enter Try.func84, Try.ntmps84
    go_wp2_with (at_make; refine wpList_make_full _ rfl _ _ 22 rfl w.heap.size 2 i0 (.int .i64 0) 1 (by kernel_rfl) hi hz0 hz1 .i64 .i64 cnt cnt cnt rfl rfl rfl rfl (by rw [hz2]; omega) (by unfold maxLen; omega) (Nat.le_refl _) ?_; intro w1 hrow hgrow)
    rw [zerosC] at hrow
    have hb1 : Below w.heap.size w w1 := (Below.refl _ _).grown hgrow (Nat.le_refl _) (by simp)
    have hN0 := Sw.of_owns (d := 0) hrow (tab_len _ _)
    rw [tab_congr (h := fun j => if j < 0 then fs.getD (j * k + t) 0 else 0) (fun j _ => (if_neg (by omega)).symm)] at hN0
    have HN0 := Lib.hid hN0
    have Hb1 := Lib.hid hb1
    clear hrow hgrow hb1 hN0
    go_loopw [16] (fun i wr => ∃ m : Nat, m ≤ cnt ∧ i = .int .i64 (m : Int) ∧ Hid (Sw (Value.int .i64) 0 wr (.slice (some ⟨w.heap.size, 0, none⟩) cnt cnt) (tab cnt fun j => if j < m then fs.getD (j * k + t) 0 else 0) w.heap.size w1.heap.size) ∧ w1.heap.size ≤ wr.heap.size ∧ Hid (Below w.heap.size w wr)) (fun i _ => cnt - (intOf i).toNat)
    case atStart => exact ⟨0, Nat.zero_le _, rfl, HN0, Nat.le_refl _, Hb1⟩
    case round =>
      obtain ⟨m, hm, rfl, hN, hw1, hb⟩ := hrel
      by_cases hlt : m < cnt
      · obtain ⟨hcap, b, off, rfl, hbs, hcell⟩ := Hr.out (by omega)
        have c1 := (hb.out.cell hbs).trans (hcell m hlt)
        rw [show (List.range cnt).getD m 0 = m from by simp [List.getD, hlt]] at c1
        have hpos : 0 < fs.length := by rw [Hf.out]; exact Nat.mul_pos (by omega) (by omega)
        obtain ⟨p', cap', e', hSf⟩ := HSf.out
        obtain ⟨hcap2, b2, off2, e2, hbs2, hcell2⟩ := hSf hpos
        cases e'
        subst e2
        have hmk : m * k + k ≤ cnt * k := by rw [← Nat.succ_mul]; exact Nat.mul_le_mul_right k hlt
        have c2 := (hb.out.cell hbs2).trans (hcell2 (m * k + t) (by rw [Hf.out]; omega))
        rw [← Nat.add_assoc] at c2
        have c1' : wr.cell? ⟨b, off + m, none⟩ = some (.slice (some ⟨b2, off2 + m * k, none⟩) k k) := c1
        obtain ⟨b3, o3, e3, -, -, cN, fN⟩ := hN.out.open' m (by rw [tab_len]; exact hlt)
        cases e3
        rw [tab_get _ _ _ hlt, if_neg (by omega), Nat.zero_add] at cN
        rw [Nat.zero_add] at fN
        have HN2 : Hid (Sw (Value.int .i64) 0 (wr.setCell ⟨w.heap.size, m, none⟩ (.int .i64 (fs.getD (m * k + t) 0))) (.slice (some ⟨w.heap.size, 0, none⟩) cnt cnt) (tab cnt fun j => if j < m + 1 then fs.getD (j * k + t) 0 else 0) w.heap.size w1.heap.size) := Lib.hid (by
          have h1 := hN.out.store m (by rw [tab_len]; exact hlt) (fs.getD (m * k + t) 0)
          rw [tab_setC, Nat.zero_add, tab_congr (h := fun j => if j < m + 1 then fs.getD (j * k + t) 0 else 0) (fun j _ => by
            by_cases e1 : j = m
            · subst e1; rw [if_pos rfl, if_pos (by omega)]
            · rw [if_neg e1]
              by_cases e2 : j < m
              · rw [if_pos e2, if_pos (by omega)]
              · rw [if_neg e2, if_neg (by omega)])] at h1
          exact h1)
        have htk : t < k := by omega
        clear c1 hcell hcell2 hSf hmk hpos
        generalize m * k = M at *
        generalize fs.getD (M + t) 0 = X at *
        go_wp2
        go_roundw
        case rel => exact ⟨m + 1, by omega, by go_num, HN2, by simpa using hw1, Lib.hid (hb.out.setCell (Nat.le_refl _) _)⟩
        case measure => simp [intOf]; omega
      · obtain rfl : cnt = m := by omega
        have hN2 := hN.out
        rw [tab_congr (h := fun j => fs.getD (j * k + t) 0) (fun j hj => if_pos hj)] at hN2
        have HN3 := Lib.hid hN2
        clear hN2
        go_wp2
        go_ret
        exact ⟨_, rfl, HN3.out.mono (Nat.le_refl _) hw1 (Nat.le_refl _), hb.out⟩
end Go.Proofs.Ytodmaomngpnboaa
