/- Contracts: thrown dice, the program. -/
import Derived.Test.YtaimbadajgjhaabMn
import Derived.Test.YtaimbadajgjhaabMq
set_option linter.unusedVariables false
namespace Go.Proofs.Ytaimbadajgjhaab
open Go.RowKit

/-- the sum and the seed behind j dice -/
def throwR (ds : List (List Int)) (s : Int) : Nat → Int × Int
  | 0 => (0, s)
  | j + 1 => ((throwR ds s j).1 + (ds.getD j []).getD (nextS (throwR ds s j).2 * ((ds.getD j []).length : Int) / 4294967296).toNat 0, nextS (throwR ds s j).2)
def seedR (ds : List (List Int)) (s : Int) : Nat → Int
  | 0 => s
  | i + 1 => (throwR ds (seedR ds s i) ds.length).2
def rollR (ds : List (List Int)) (s : Int) (i : Nat) : Int := (throwR ds (seedR ds s i) ds.length).1
theorem throwR_seed (ds : List (List Int)) (s : Int) (h0 : 0 ≤ s) (h1 : s ≤ 4294967295) (j : Nat) : 0 ≤ (throwR ds s j).2 ∧ (throwR ds s j).2 ≤ 4294967295 := by
  cases j with
  | zero => exact ⟨h0, h1⟩
  | succ j => exact nextS_bd _
theorem seedR_bd (ds : List (List Int)) (s : Int) (h0 : 0 ≤ s) (h1 : s ≤ 4294967295) (i : Nat) : 0 ≤ seedR ds s i ∧ seedR ds s i ≤ 4294967295 := by
  induction i with
  | zero => exact ⟨h0, h1⟩
  | succ i ih => exact throwR_seed ds _ ih.1 ih.2 _
theorem face_at (fs : List Int) (z : Int) (h : dieB fs = true) (z0 : 0 ≤ z) (z1 : z ≤ 4294967295) : ∃ f : Nat, f < fs.length ∧ z * (fs.length : Int) / 4294967296 = (f : Int) ∧ 0 ≤ fs.getD f 0 ∧ fs.getD f 0 ≤ 20 := by
  obtain ⟨h1, h12, ha, -⟩ := dieB_at h
  have hq := quo_bd z z0 z1 (fs.length : Int) (by omega)
  refine ⟨(z * (fs.length : Int) / 4294967296).toNat, by omega, by omega, ?_⟩
  exact ha _ (by omega)
theorem throwR_sum (ds : List (List Int)) (s : Int) (h0 : 0 ≤ s) (h1 : s ≤ 4294967295) (hd : ∀ k, k < ds.length → dieB (ds.getD k []) = true) (j : Nat) (hj : j ≤ ds.length) : 0 ≤ (throwR ds s j).1 ∧ (throwR ds s j).1 ≤ j * 20 := by
  induction j with
  | zero => exact ⟨Int.le_refl _, Int.le_refl _⟩
  | succ j ih =>
    have ih := ih (by omega)
    have hz := nextS_bd (throwR ds s j).2
    obtain ⟨f, f1, f2, f3, f4⟩ := face_at (ds.getD j []) (nextS (throwR ds s j).2) (hd j (by omega)) hz.1 hz.2
    show 0 ≤ (throwR ds s j).1 + (ds.getD j []).getD (nextS (throwR ds s j).2 * ((ds.getD j []).length : Int) / 4294967296).toNat 0 ∧ _ + _ ≤ _
    rw [f2, Int.toNat_natCast]
    omega
theorem throwR_step (ds : List (List Int)) (s : Int) (j f : Nat) (hf : nextS (throwR ds s j).2 * ((ds.getD j []).length : Int) / 4294967296 = (f : Int)) : (throwR ds s (j + 1)).1 = (throwR ds s j).1 + (ds.getD j []).getD f 0 ∧ (throwR ds s (j + 1)).2 = nextS (throwR ds s j).2 := by
  refine ⟨?_, rfl⟩
  show (throwR ds s j).1 + (ds.getD j []).getD (nextS (throwR ds s j).2 * ((ds.getD j []).length : Int) / 4294967296).toNat 0 = _
  rw [hf, Int.toNat_natCast]
/-- the rows, of which k are done, and the next one partly -/
def rowsP (R : Nat → Int) (C k : Nat) (x : Int) : List Int := tab C fun i => if i < k then R i else if i = k then x else 0
theorem rowsP_len (R : Nat → Int) (C k : Nat) (x : Int) : (rowsP R C k x).length = C := tab_len _ _
theorem rowsP_zero (R : Nat → Int) (C : Nat) : tab C (fun _ => 0) = rowsP R C 0 0 := tab_congr fun i _ => by rw [if_neg (by omega)]; split <;> rfl
theorem rowsP_set (R : Nat → Int) (C k : Nat) (x y : Int) (hk : k < C) : (rowsP R C k x).set k y = rowsP R C k y := by
  apply List.ext_getElem
  · simp [rowsP, tab]
  · intro i h1 h2
    simp only [rowsP, tab, List.getElem_set, List.getElem_map, List.getElem_range]
    by_cases e : k = i
    · subst e; simp
    · rw [if_neg e]
      by_cases e2 : i < k
      · rw [if_pos e2, if_pos e2]
      · rw [if_neg e2, if_neg e2, if_neg (fun h => e h.symm), if_neg (fun h => e h.symm)]
theorem rowsP_next (R : Nat → Int) (C k : Nat) (x : Int) (hx : x = R k) : rowsP R C k x = rowsP R C (k + 1) 0 := tab_congr fun i _ => by
  by_cases h : i < k
  · rw [if_pos h, if_pos (by omega)]
  · rw [if_neg h]
    by_cases h2 : i = k
    · subst h2; rw [if_pos rfl, if_pos (by omega), hx]
    · rw [if_neg h2, if_neg (by omega)]; split <;> rfl
theorem rowsP_done (R : Nat → Int) (C : Nat) (x : Int) : rowsP R C C x = tab C R := tab_congr fun i hi => by rw [if_pos hi]
theorem rowsP_at (R : Nat → Int) (C k : Nat) (x : Int) (hk : k < C) : (rowsP R C k x).getD k 0 = x := by
  unfold rowsP; rw [tab_get _ _ _ hk, if_neg (by omega), if_pos rfl]
theorem zeros_tab5 (n : Nat) : (madeCells (Value.int .i64 0).cells (n * 1)).toList = (tab n fun _ => 0).map (Value.int .i64) := by
  rw [Nat.mul_one]
  show (madeCells #[Value.int .i64 0] n).toList = _
  rw [made1]
  apply List.ext_getElem
  · simp [tab]
  · intro i h1 h2
    simp [tab]

def okRoll (ds : List (List Int)) (s c : Int) : Bool := (diceB ds && (decide (0 ≤ s) && decide (s ≤ 4294967295))) && (decide (1 ≤ c) && decide (c ≤ 256))
def ok_RollDice (ds : List (List Int)) (s c : Int) : Bool := okRoll ds s c
def res_RollDice (ds : List (List Int)) (s c : Int) : List Int := if okRoll ds s c = true then tab c.toNat (rollR ds s) else []
def res2_RollDice (ds : List (List Int)) (s c : Int) : Int := if okRoll ds s c = true then seedR ds s c.toNat else 0
theorem len_RollDice (ds : List (List Int)) (s c : Int) : (res_RollDice ds s c).length ≤ 1048576 := by
  unfold res_RollDice
  cases h : okRoll ds s c
  · simp
  · rw [if_pos rfl, tab_len]
    unfold okRoll at h
    simp only [Bool.and_eq_true, decide_eq_true_eq] at h
    omega
theorem roll_no {ds : List (List Int)} {s c : Int} (h : okRoll ds s c = false) : ok_RollDice ds s c = false ∧ res_RollDice ds s c = [] ∧ res2_RollDice ds s c = 0 := by
  unfold ok_RollDice res_RollDice res2_RollDice; rw [h]; exact ⟨rfl, rfl, rfl⟩
set_option maxRecDepth 100000 in
set_option maxHeartbeats 400000 in
theorem roll_impl_yes (ds : List (List Int)) (v : Value) (s : Int) (C : Nat) (w : World) (hn : ds.length ≤ 1048576) (hm : totD ds ds.length ≤ 1048576) (h : SlD w v ds) (hb : diceB ds = true) (s0 : 0 ≤ s) (s1 : s ≤ 4294967295) (c1 : 1 ≤ C) (c2 : C ≤ 256) :
    Calls Try.prog 37 #[v, .int .i64 s, .int .i64 (C : Int)] w fun e w' => ∃ r, e = .returned (.tuple #[r, .int .i64 (seedR ds s C), .bool true]) ∧ Sw (Value.int .i64) 0 w' r (tab C (rollR ds s)) w.heap.size w'.heap.size ∧ Below w.heap.size w w' := by
  have Hv := Lib.hid (areDice_any ds v w hn hm h)
  rw [hb] at Hv
  obtain ⟨h1, h6, hd⟩ := diceB_at hb
  have Hd := Lib.hid hd
  obtain ⟨q, cap, rfl, hf⟩ := h
  have Hf := Lib.hid hf
  clear hf hm
  have HS := Lib.hid (fun z => seed_yes s z s0 s1)
  have HC := Lib.hid (fun z => within_yes (C : Int) 1 256 z (by omega) (by omega))
  obtain ⟨i0, hi, hz0, hz1, hz2⟩ := info_parts (show (Try.prog.info? 2).map (fun i => (i.zero, i.size, i.bytes)) = some (some (.int .i64 0), 1, 8) by kernel_rfl)
  have Hsd := Lib.hid (fun i => seedR_bd ds s s0 s1 i)
  have Hts := Lib.hid (fun z z0 z1 j => throwR_seed ds z z0 z1 j)
  have Htm := Lib.hid (fun z z0 z1 j hj => throwR_sum ds z z0 z1 hd j hj)
  have Hst := Lib.hid (fun z j f hf => throwR_step ds z j f hf)
  have Hface := Lib.hid (fun k (hk : k < ds.length) z z0 z1 => face_at (ds.getD k []) z (hd k hk) z0 z1)
  have H12 := Lib.hid (fun k (hk : k < ds.length) => (dieB_at (hd k hk)).1)
  have H13 := Lib.hid (fun k (hk : k < ds.length) => (dieB_at (hd k hk)).2.1)
  have HR1 := Lib.hid (fun i => show rollR ds s i = (throwR ds (seedR ds s i) ds.length).1 from rfl)
  have HR2 := Lib.hid (fun i => show seedR ds s (i + 1) = (throwR ds (seedR ds s i) ds.length).2 from rfl)
  have HT0 := Lib.hid (fun z => show (throwR ds z 0).1 = 0 ∧ (throwR ds z 0).2 = z from ⟨rfl, rfl⟩)
  have Hbel := Lib.hid (fun s c w h0 h1 c0 c1 => below_any s c w h0 h1 c0 c1)
  clear hd hb
  obtain ⟨n, hn1⟩ : ∃ n, n = ds.length := ⟨_, rfl⟩
  rw [← hn1] at h1 h6 Hf Hv Hd Hface H12 H13 HR1 HR2 Htm
  rw [← hn1]
  clear hn1 hn
  go_enter Try.func37, Try.ntmps37
  go_wp2_with fail
  refine (Hv.out).mono ?_
  rintro e w1 ⟨rfl, hb⟩
  have Hb1 := Lib.hid hb
  clear hb
  go_wp2_with fail
  refine (HS.out _).mono ?_
  rintro e w2 ⟨rfl, rfl⟩
  go_wp2_with fail
  refine (HC.out _).mono ?_
  rintro e w2 ⟨rfl, rfl⟩
  go_wp2_with (at_make; refine wpList_make_full _ rfl _ _ 22 rfl w1.heap.size 2 i0 (.int .i64 0) 1 (by kernel_rfl) hi hz0 hz1 .i64 .i64 C C C rfl rfl rfl rfl (by rw [hz2]; omega) (by unfold maxLen; omega) (Nat.le_refl _) ?_; intro w2 hrow hgrow)
  have hz1' := Hb1.out.size
  have hbel : Below w.heap.size w w2 := Hb1.out.grown hgrow hz1' (by simp)
  have hlt2 : w1.heap.size < w2.heap.size := (hrow.lt _ rfl).2
  rw [zeros_tab5, rowsP_zero (rollR ds s)] at hrow
  have hR0 := Sw.of_owns (d := 0) hrow (tab_len _ _)
  have HR0 := Lib.hid hR0
  have Hb2 := Lib.hid hbel
  clear hrow hbel hgrow hR0 Hv HS HC Hb1
  go_loopw [1, 31] (fun sd i wr => ∃ k : Nat, k ≤ C ∧ i = .int .i64 (k : Int) ∧ sd = .int .i64 (seedR ds s k) ∧ Hid (Sw (Value.int .i64) 0 wr (.slice (some ⟨w1.heap.size, 0, none⟩) C C) (rowsP (rollR ds s) C k 0) w1.heap.size w2.heap.size) ∧ w2.heap.size ≤ wr.heap.size ∧ Hid (Below w.heap.size w wr)) (fun _ i _ => C - (intOf i).toNat)
  case atStart => exact ⟨0, Nat.zero_le _, rfl, rfl, HR0, Nat.le_refl _, Hb2⟩
  case round =>
    obtain ⟨wo, rfl⟩ : ∃ z, z = wr := ⟨_, rfl⟩
    obtain ⟨k, hk, rfl, rfl, hR, hhi, hb⟩ := hrel
    have hsd := Hsd.out k
    have hr1 := HR1.out k
    have hr2 := HR2.out k
    by_cases hlt : k < C
    · have Hr1 := Lib.hid hr1
      have Hr2 := Lib.hid hr2
      have ht0 := HT0.out (seedR ds s k)
      have Hts2 := Lib.hid (Hts.out (seedR ds s k) hsd.1 hsd.2)
      have Htm2 := Lib.hid (Htm.out (seedR ds s k) hsd.1 hsd.2)
      have Hst2 := Lib.hid (Hst.out (seedR ds s k))
      clear hr1 hr2
      generalize seedR ds s k = z at *
      have Ht0 := Lib.hid ht0
      clear ht0
      go_wp2
      go_loopw [1, 36] (fun sd i wi => ∃ j : Nat, j ≤ n ∧ i = .int .i64 (j : Int) ∧ sd = .int .i64 (throwR ds z j).2 ∧ Hid (Sw (Value.int .i64) 0 wi (.slice (some ⟨w1.heap.size, 0, none⟩) C C) (rowsP (rollR ds s) C k (throwR ds z j).1) w1.heap.size w2.heap.size) ∧ w2.heap.size ≤ wi.heap.size ∧ Hid (Below w.heap.size w wi)) (fun _ i _ => n - (intOf i).toNat)
      case atStart => exact ⟨0, Nat.zero_le _, rfl, by rw [Ht0.out.2], by rw [Ht0.out.1]; exact hR, hhi, hb⟩
      case round =>
        obtain ⟨j, hj, rfl, rfl, hRi, hhi2, hbi⟩ := hrel
        by_cases hlj : j < n
        · obtain ⟨hcap, b, off, rfl, hbs, hcell⟩ := Hf.out (by omega)
          obtain ⟨sl, g1, g2⟩ := hcell j hlj
          have d1 := cell_keep hbi.out g1
          have G2 := g2.later hbi.out
          obtain ⟨ps, cs, rfl, g3⟩ := g2
          have hts := Hts2.out j
          have htm := Htm2.out j hj
          have htm2 := Htm2.out (j + 1) (by omega)
          have l1 := H12.out j hlj
          have l12 := H13.out j hlj
          obtain ⟨hcf, bf, of, rfl, hbf, hcc⟩ := g3 (by omega)
          have hnx := nextS_bd (throwR ds z j).2
          obtain ⟨f, f1, f2, f3, f4⟩ := Hface.out j hlj (nextS (throwR ds z j).2) hnx.1 hnx.2
          obtain ⟨st1, st2⟩ := Hst2.out j f f2
          have d2 := cell_keep hbi.out (hcc f f1)
          have hal := Lib.hid (fun W => Hbel.out (throwR ds z j).2 ((ds.getD j []).length : Int) W hts.1 hts.2 (by omega) (by omega))
          have hb4 := (Below.refl wr.heap.size wr).alloc (Nat.le_refl _) (.cells #[.slice (some ⟨bf, of, none⟩) (ds.getD j []).length cs] 27)
          have b4 := Boxed.new wr 27 (.slice (some ⟨bf, of, none⟩) (ds.getD j []).length cs)
          have rowW := hRi.out.later hb4
          obtain ⟨b1, o1, e1, ⟨q1, q2, -⟩, -, cR, fR⟩ := rowW.open' k (by rw [rowsP_len]; exact hlt)
          cases e1
          have hst := rowW.store k (by rw [rowsP_len]; exact hlt) ((throwR ds z j).1 + (ds.getD j []).getD f 0)
          rw [rowsP_set _ _ _ _ _ hlt, ← st1] at hst
          rw [rowsP_at _ _ _ _ hlt] at cR
          have d3 := cell_keep hb4 d2
          have d4 := b4.cell
          have hbW := Lib.hid (hbi.out.trans (hb4.mono hbi.out.size))
          generalize hW : wr.alloc (.cells #[.slice (some ⟨bf, of, none⟩) (ds.getD j []).length cs] 27) = W at *
          have HW := Lib.hid hW
          have hszW : wr.heap.size ≤ W.heap.size := hb4.size
          have St2 := Lib.hid st2
          rw [f2] at hal
          rw [← st2] at hal
          have Hst3 := Lib.hid hst
          clear hst hb4 b4 rowW hW st2 hcc g3 g1 hcell d2 G2 f2
          generalize hZ2 : (throwR ds z (j + 1)).2 = Z2 at *
          have HZ2 := Lib.hid hZ2
          clear hZ2
          have St1 := Lib.hid st1
          have hbX : 0 ≤ (throwR ds z j).1 + (ds.getD j []).getD f 0 ∧ (throwR ds z j).1 + (ds.getD j []).getD f 0 ≤ 200 := by omega
          clear st1 htm2
          generalize hX2 : (throwR ds z (j + 1)).1 = X2 at *
          have HX2 := Lib.hid hX2
          clear hX2
          generalize (throwR ds z j).1 = X1 at *
          generalize (throwR ds z j).2 = Z1 at *
          generalize (ds.getD j []).getD f 0 = F at *
          generalize (ds.getD j []).length = L at *
          rw [St1.out] at Hst3 HX2
          rw [Nat.zero_add] at cR fR Hst3
          clear St1 St2 hnx Hf Hd Hface H12 H13 HR1 HR2 Htm Hts Hst Hst2 Htm2 Hts2 HT0 Ht0 Hbel Hsd hsd
          go_wp2_with fail
          rw [HW.out]
          refine (hal.out _).mono ?_
          rintro e w4 ⟨rfl, rfl⟩
          go_wp2
          go_region
          all_goals
            go_wp2
            go_roundw
            case rel => exact ⟨j + 1, by omega, by go_num, by rw [HZ2.out], by rw [HX2.out]; exact Lib.hid Hst3.out, by simp; omega, Lib.hid (below_drewN (hbW.out.setCell (by have := hbW.out.size; show _ ≤ w1.heap.size; omega) _) 1)⟩
            case measure => simp [intOf]; omega
        · obtain rfl : j = n := by omega
          go_wp2
          go_roundw
          case rel => exact ⟨k + 1, by omega, by go_num, by rw [Hr2.out], by rw [← rowsP_next _ _ _ _ Hr1.out.symm]; exact hRi, hhi2, hbi⟩
          case measure => simp [intOf]; omega
    · obtain rfl : k = C := by omega
      have hR' := hR.out
      rw [rowsP_done] at hR'
      have HR' := Lib.hid (hR'.mono (by omega) hhi (Nat.le_refl _) : Sw (Value.int .i64) 0 wo _ _ w.heap.size wo.heap.size)
      clear hR'
      go_wp2
      go_ret3
      exact ⟨_, rfl, HR'.out, hb.out⟩
end Go.Proofs.Ytaimbadajgjhaab
