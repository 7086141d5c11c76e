/- Contracts: what five cards look like, in the program. -/
import Derived.Test.YtodmaomngpnboaaHsD
set_option linter.unusedVariables false
namespace Go.Proofs.Ytodmaomngpnboaa
open Go.RowKit

theorem res_cell1 {P : Program} {fn : Func} {tmps : Array Value} {W : World} {c : Nat} {T : TypeId} {ad : Addr} {v : Value} (hr : fn.results = #[.cell c T]) (h0 : tmps.getD c undef = .pointer (some ad)) (hl : (loadVar T ad).run P W = .ok v W) : (results fn tmps).run P W = .ok v W := by
  unfold results
  rw [hr]
  simp only [Array.getD_eq_getD_getElem?] at h0
  simp [asAddr, h0, hl]
theorem heap_cell {w : World} {g : Nat} {cur : List Value} {t : TypeId} (h : w.heap[g]? = some (.cells cur.toArray t (0, 0))) (j : Nat) (u : Value) (hj : cur[j]? = some u) : w.cell? ⟨g, j, none⟩ = some u := by
  unfold World.cell?
  rw [h]
  simp [hj]
theorem shape_start (w : World) (Xa Xb Xc : Array Value) (ta tb tc : TypeId) (cs : List Nat) (h5 : cs.length = 5) (hXb : Xb = ((cntK cs 0).map (Value.int .i64)).toArray) :
    let w3 := ((w.alloc (.cells Xa ta)).alloc (.cells Xb tb)).alloc (.cells Xc tc)
    let w4 := w3.setRow (w.heap.size + 2) ((ntI cs).map (Value.int .i64)).toArray
    w3.heap[w.heap.size + 2]? = some (.cells Xc tc (0, 0)) ∧ Below w.heap.size w w3 ∧ Sw (Value.int .i64) 0 w4 (.slice (some ⟨w.heap.size + 1, 0, none⟩) 13 13) (cntK cs 0) (w.heap.size + 1) (w.heap.size + 2) ∧ Sw (Value.int .i64) 0 w4 (.slice (some ⟨w.heap.size + 2, 0, none⟩) 5 5) (rnkK cs 0) (w.heap.size + 2) (w.heap.size + 3) ∧ w4.heap[w.heap.size]? = some (.cells Xa ta (0, 0)) ∧ Below w.heap.size w w4 := by
  intro w3 w4
  obtain ⟨w1, hw1⟩ : ∃ z, z = w.alloc (.cells Xa ta) := ⟨_, rfl⟩
  obtain ⟨w2, hw2⟩ : ∃ z, z = w1.alloc (.cells Xb tb) := ⟨_, rfl⟩
  have hw3 : w3 = w2.alloc (.cells Xc tc) := by rw [hw2, hw1]
  have s1 : w1.heap.size = w.heap.size + 1 := by rw [hw1]; simp
  have s2 : w2.heap.size = w.heap.size + 2 := by rw [hw2]; simp [s1]
  have a1 : w1.heap[w.heap.size]? = some (.cells Xa ta (0, 0)) := by rw [hw1]; exact World.alloc_heap_new w _
  have a2 : w2.heap[w.heap.size]? = some (.cells Xa ta (0, 0)) := by rw [hw2]; exact (Below.heap_alloc _ _ _ (by omega)).trans a1
  have b2 : w2.heap[w.heap.size + 1]? = some (.cells Xb tb (0, 0)) := by rw [hw2, ← s1]; exact World.alloc_heap_new w1 _
  have a3 : w3.heap[w.heap.size]? = some (.cells Xa ta (0, 0)) := by rw [hw3]; exact (Below.heap_alloc _ _ _ (by omega)).trans a2
  have b3 : w3.heap[w.heap.size + 1]? = some (.cells Xb tb (0, 0)) := by rw [hw3]; exact (Below.heap_alloc _ _ _ (by omega)).trans b2
  have c3 : w3.heap[w.heap.size + 2]? = some (.cells Xc tc (0, 0)) := by rw [hw3, ← s2]; exact World.alloc_heap_new w2 _
  have hb3 : Below w.heap.size w w3 := by rw [hw3, hw2, hw1]; exact (((Below.refl _ w).alloc (Nat.le_refl _) _).alloc (by simp) _).alloc (by simp; omega) _
  have a4 : w4.heap[w.heap.size]? = some (.cells Xa ta (0, 0)) := (setRow_other _ _ _ _ (by omega)).trans a3
  have b4 : w4.heap[w.heap.size + 1]? = some (.cells Xb tb (0, 0)) := (setRow_other _ _ _ _ (by omega)).trans b3
  have c4 : w4.heap[w.heap.size + 2]? = some (.cells ((ntI cs).map (Value.int .i64)).toArray tc (0, 0)) := setRow_heap _ _ _ _ _ _ c3
  have hr0 : ntI cs = rnkK cs 0 := by
    refine List.ext_getElem (by rw [ntI_len, rnkK_len, h5]) fun i h1 h2 => ?_
    rw [rnkK_len] at h2
    have e := tab_get 5 (fun j => if j < 0 then ((cs.getD j 0 % 13 : Nat) : Int) else ((cs.getD j 0 : Nat) : Int)) i h2
    rw [if_neg (by omega)] at e
    rw [getD_lt _ _ _ (by rw [tab_len]; exact h2)] at e
    refine Eq.trans ?_ e.symm
    rw [getD_lt cs 0 i (by omega)]
    simp [ntI]
  rw [hr0] at c4
  rw [hXb] at b4
  exact ⟨c3, hb3, Sw_of_heap (cntK_len cs 0) b4, Sw_of_heap (rnkK_len cs 0) c4, a4, below_setRow hb3 (by omega) _⟩
def shV (S c : List Nat) (one : Bool) : Value := .agg #[.int .i64 (S.getD 0 0 : Nat), .int .i64 (S.getD 1 0 : Nat), .int .i64 (S.getD 2 0 : Nat), .int .i64 (S.getD 3 0 : Nat), .int .i64 (S.getD 4 0 : Nat), .int .i64 (cAt c (S.getD 0 0) : Nat), .int .i64 (cAt c (S.getD (cAt c (S.getD 0 0)) 0) : Nat), .bool one]
theorem ntI_get (l : List Nat) (i : Nat) : (ntI l).getD i 0 = ((l.getD i 0 : Nat) : Int) := by
  rcases Nat.lt_or_ge i l.length with h | h
  · rw [getD_lt _ _ _ (by rw [ntI_len]; exact h), getD_lt _ _ _ h]; simp [ntI]
  · rw [List.getD, List.getD, List.getElem?_eq_none h, List.getElem?_eq_none (by rw [ntI_len]; exact h)]; rfl
theorem five_of {S : List Nat} (h : S.length = 5) : ∃ a b c d e, S = [a, b, c, d, e] := by
  obtain _ | ⟨a, _ | ⟨b, _ | ⟨c, _ | ⟨d, _ | ⟨e, _ | ⟨f, S⟩⟩⟩⟩⟩⟩ := S <;> simp at h
  exact ⟨a, b, c, d, e, rfl⟩
theorem rnkK_all (cs : List Nat) (h5 : cs.length = 5) : rnkK cs 5 = ntI (cs.map (· % 13)) := by
  obtain ⟨a, b, c, d, e, rfl⟩ := five_of h5
  rfl
theorem cnt_of_sw {cs : List Nat} {w : World} {G lo hi : Nat} (h5 : cs.length = 5) (hG : Sw (Value.int .i64) 0 w (.slice (some ⟨G, 0, none⟩) 13 13) (cntK cs 5) lo hi) : CntIn w G (cntL (cs.map (· % 13))) := by
  intro r hr
  obtain ⟨_, _, e, _, _, c, _⟩ := hG.open' r (by rw [cntK_len]; exact hr)
  cases e
  rw [Nat.zero_add] at c
  rw [c, cntL_at _ r hr]
  unfold cntK
  rw [tab_get _ _ _ hr, List.take_of_length_le (by omega)]
set_option maxRecDepth 100000 in
set_option maxHeartbeats 8000000 in
theorem shape_any (cs : List Nat) (v : Value) (w : World) (h5 : cs.length = 5) (hcs : ∀ c ∈ cs, c ≤ 51) (h4 : ∀ x, (cs.map (· % 13)).count x ≤ 4) (h : Sl (Value.int .i64) 0 w v (ntI cs)) :
    Calls Try.prog 110 #[v] w fun e w' => e = .returned (shV (ordC (cntL (cs.map (· % 13))) 4) (cntL (cs.map (· % 13))) (sameK cs 5)) ∧ Below w.heap.size w w' := by
  obtain ⟨p, cap, rfl, hc⟩ := h
  obtain ⟨hcap, b, off, rfl, hbs, hcell⟩ := hc (by rw [ntI_len]; omega)
  have hR13 : ∀ x ∈ cs.map (· % 13), x < 13 := by
    intro x hx
    obtain ⟨c, _, rfl⟩ := List.mem_map.1 hx
    exact Nat.mod_lt _ (by omega)
  have hok := okC_of (cs.map (· % 13)) hR13 (by rw [List.length_map, h5]) h4
  have HSO := Lib.hid (fun l hp hs => sorted_ordC (cs.map (· % 13)) l hR13 h4 hp hs)
  have HSort := Lib.hid (fun G D z hcz hG hr => sortR_any (cntL (cs.map (· % 13))) (cs.map (· % 13)) G D z (by rw [List.length_map, h5]) hR13 hcz hG hr)
  obtain ⟨C, hC⟩ : ∃ C, C = cntL (cs.map (· % 13)) := ⟨_, rfl⟩
  rw [← hC] at HSO HSort hok ⊢
  unfold okC at hok
  simp only [Bool.and_eq_true, beq_iff_eq, decide_eq_true_eq, List.all_eq_true] at hok
  obtain ⟨⟨⟨⟨⟨⟨⟨⟨k5, k1⟩, k4⟩, -⟩, -⟩, -⟩, k12⟩, -⟩, -⟩ := hok
  obtain ⟨S, hS⟩ : ∃ S, S = ordC C 4 := ⟨_, rfl⟩
  rw [← hS] at HSO k5 k1 k4 k12 ⊢
  clear hS
  obtain ⟨s0, s1, s2, s3, s4, rfl⟩ := five_of k5
  obtain ⟨V, hV⟩ : ∃ V, V = shV [s0, s1, s2, s3, s4] C (sameK cs 5) := ⟨_, rfl⟩
  rw [← hV]
  have HV0 := Lib.hid hV
  clear hV
  have HS := Lib.hid (shape_start w (List.toArray (Value.int .i64 0 :: Value.int .i64 0 :: Value.int .i64 0 :: Value.int .i64 0 :: Value.int .i64 0 :: Value.int .i64 0 :: Value.int .i64 0 :: Value.bool false :: [])) (List.toArray (Value.int .i64 0 :: Value.int .i64 0 :: Value.int .i64 0 :: Value.int .i64 0 :: Value.int .i64 0 :: Value.int .i64 0 :: Value.int .i64 0 :: Value.int .i64 0 :: Value.int .i64 0 :: Value.int .i64 0 :: Value.int .i64 0 :: Value.int .i64 0 :: Value.int .i64 0 :: [])) (List.toArray (Value.int .i64 0 :: Value.int .i64 0 :: Value.int .i64 0 :: Value.int .i64 0 :: Value.int .i64 0 :: [])) 98 129 96 cs h5 (by unfold cntK; rw [List.take_zero]; rfl))
  rw [ntI_len, h5] at hcap
  have Hcell := Lib.hid (fun (z : World) (hz : Below w.heap.size w z) (i : Nat) (hi : i < 5) => ((hz.cell (p := ⟨b, off + i, none⟩) hbs).trans ((hcell i (by rw [ntI_len, h5]; exact hi)).trans (by rw [ntI_get])) : z.cell? ⟨b, off + i, none⟩ = some (.int .i64 ((cs.getD i 0 : Nat) : Int))))
  have Hrg := Lib.hid (fun (z : World) (hz : Below w.heap.size w z) => (fun j u hu => by
    rw [List.getElem?_map] at hu
    cases hx : (ntI cs)[j]? with
    | none => rw [hx] at hu; cases hu
    | some x =>
      rw [hx] at hu
      cases hu
      have hj := (List.getElem?_eq_some_iff.1 hx).1
      have := hcell j hj
      rw [show (ntI cs).getD j 0 = x by simp [List.getD, hx]] at this
      exact (hz.cell (p := ⟨b, off + j, none⟩) hbs).trans this : z.rangeAt b off ((ntI cs).map (Value.int .i64))))
  have HC5 := Lib.hid (fun i (hi : i < 5) => show cs.getD i 0 ≤ 51 from hcs _ (by rw [getD_lt _ _ _ (show i < cs.length by omega)]; exact List.getElem_mem _))
  have HR := Lib.hid (fun k G D wr hk hGD hG hD => loop_round cs k G D wr h5 hk hGD hG hD)
  have HSm := Lib.hid (fun k (hk : k < 5) => sameK_next cs k (by omega))
  have HBd := Lib.hid (fun k r => cntK_bd cs k r h5)
  have HCt := Lib.hid (fun z G lo hi hg => (hC ▸ cnt_of_sw (w := z) (G := G) (lo := lo) (hi := hi) h5 hg : CntIn z G C))
  have HRk := Lib.hid (rnkK_all cs h5)
  have HiL := Lib.hid (show (Try.prog.info? 96).map (·.size) = some ((ntI cs).map (Value.int .i64)).length by rw [List.length_map, ntI_len, h5]; exact inf5)
  have HiA := Lib.hid (show (Try.prog.info? 96).map (·.size) = some ((ntI cs).map (Value.int .i64)).toArray.size by rw [List.size_toArray, List.length_map, ntI_len, h5]; exact inf5)
  have HsA := Lib.hid (show ((List.toArray (Value.int .i64 0 :: Value.int .i64 0 :: Value.int .i64 0 :: Value.int .i64 0 :: Value.int .i64 0 :: []))).size = ((ntI cs).map (Value.int .i64)).toArray.size by rw [List.size_toArray, List.size_toArray, List.length_map, ntI_len, h5]; rfl)
  have HO := Lib.hid (show ((ntI cs).map (Value.int .i64)).toArray.all (·.oneCell') = true from all_oneCell_toArray (fun u hu => by obtain ⟨x, _, rfl⟩ := List.mem_map.1 hu; rfl))
  have HBX := Lib.hid (((Below.refl _ w).alloc (Nat.le_refl _) (.cells (List.toArray (Value.int .i64 0 :: Value.int .i64 0 :: Value.int .i64 0 :: Value.int .i64 0 :: Value.int .i64 0 :: Value.int .i64 0 :: Value.int .i64 0 :: Value.bool false :: [])) 98)).alloc (by simp) (.cells (List.toArray (Value.int .i64 0 :: Value.int .i64 0 :: Value.int .i64 0 :: Value.int .i64 0 :: Value.int .i64 0 :: Value.int .i64 0 :: Value.int .i64 0 :: Value.int .i64 0 :: Value.int .i64 0 :: Value.int .i64 0 :: Value.int .i64 0 :: Value.int .i64 0 :: Value.int .i64 0 :: [])) 129))
  have hat : ∀ z, (Instr.arrayAt 96 (.slice (some ⟨b, off, none⟩) 5 cap)).run Try.prog z = .ok (.pointer (some ⟨b, off, none⟩)) z := fun z => run_arrayAt z 96 _ 5 _ 5 cap und5 (Nat.le_refl _)
  have hnl : (ntI cs).length = 5 := by rw [ntI_len, h5]
  have Hsm0 : sameK cs 0 = true := rfl
  rw [hnl]
  clear hnl hcell hc hR13 hC
  go_enter Try.func110, Try.ntmps110
  go_wp2_with (first | (refine wpList_load_mid (op := ⟨some 11, .load 96 _, _, _, _, _⟩) rfl 96 (.tmp 10) rfl b off rfl ((ntI cs).map (Value.int .i64)) _ (Hrg.out _ HBX.out) und5 rfl HiL.out ?_) | (refine wpList_store_row (o := ⟨none, .store 96 _ _, _, _, _, _⟩) rfl 96 (.tmp 4) (.tmp 11) rfl (w.heap.size + 2) ((ntI cs).map (Value.int .i64)).toArray rfl rfl 96 _ HS.out.1 HiA.out HsA.out HO.out ?_))
  go_loopw [5, 14] (fun ov iv wr => ∃ k : Nat, k ≤ 5 ∧ ov = .bool (sameK cs k) ∧ iv = .int .i64 (k : Int) ∧ Hid (Sw (Value.int .i64) 0 wr (.slice (some ⟨w.heap.size + 1, 0, none⟩) 13 13) (cntK cs k) (w.heap.size + 1) (w.heap.size + 2)) ∧ Hid (Sw (Value.int .i64) 0 wr (.slice (some ⟨w.heap.size + 2, 0, none⟩) 5 5) (rnkK cs k) (w.heap.size + 2) (w.heap.size + 3)) ∧ Hid (wr.heap[w.heap.size]? = some (.cells (List.toArray (Value.int .i64 0 :: Value.int .i64 0 :: Value.int .i64 0 :: Value.int .i64 0 :: Value.int .i64 0 :: Value.int .i64 0 :: Value.int .i64 0 :: Value.bool false :: [])) 98 (0, 0))) ∧ Hid (Below w.heap.size w wr)) (fun _ iv _ => 5 - (intOf iv).toNat)
  case atStart => exact ⟨0, by omega, rfl, rfl, Lib.hid HS.out.2.2.1, Lib.hid HS.out.2.2.2.1, Lib.hid HS.out.2.2.2.2.1, Lib.hid HS.out.2.2.2.2.2⟩
  case round =>
    obtain ⟨k, hk, rfl, rfl, HG, HD, HA, HB⟩ := hrel
    clear HS HBX
    by_cases hlt : k < 5
    · have c1 := Hcell.out wr HB.out k hlt
      have c0 := Hcell.out wr HB.out 0 (by omega)
      rw [Nat.add_zero] at c0
      have hb5 := HC5.out k hlt
      have hb0 := HC5.out 0 (by omega)
      have hm := HSm.out k hlt
      have hbd := HBd.out k (cs.getD k 0 % 13)
      obtain ⟨n1, n2⟩ := HR.out k (w.heap.size + 1) (w.heap.size + 2) wr hlt (by omega) HG.out HD.out
      have hr13 : cs.getD k 0 % 13 < 13 := Nat.mod_lt _ (by omega)
      have e1 : ((cs.getD k 0 : Nat) : Int).tmod 13 = ((cs.getD k 0 % 13 : Nat) : Int) := (Int.ofNat_tmod _ _).symm
      have e2 : ((cs.getD k 0 : Nat) : Int).tdiv 13 = ((cs.getD k 0 / 13 : Nat) : Int) := (Int.ofNat_tdiv _ _).symm
      have e3 : ((cs.getD 0 0 : Nat) : Int).tdiv 13 = ((cs.getD 0 0 / 13 : Nat) : Int) := (Int.ofNat_tdiv _ _).symm
      have e4 : (((cs.getD k 0 / 13 : Nat) : Int) == ((cs.getD 0 0 / 13 : Nat) : Int)) = (cs.getD k 0 / 13 == cs.getD 0 0 / 13) := by
        rw [Bool.eq_iff_iff, beq_iff_eq, beq_iff_eq]; omega
      have l1 : cs.getD k 0 / 13 ≤ 3 := by omega
      have l2 : cs.getD 0 0 / 13 ≤ 3 := by omega
      obtain ⟨_, _, ee, _, _, g1, g2⟩ := HG.out.open' (cs.getD k 0 % 13) (by rw [cntK_len]; exact hr13)
      cases ee
      obtain ⟨_, _, ee, _, _, g3, g4⟩ := HD.out.open' k (by rw [rnkK_len]; exact hlt)
      cases ee
      rw [Nat.zero_add] at g1 g2 g3 g4
      have N1 := Lib.hid n1
      have N2 := Lib.hid n2
      have HM := Lib.hid hm
      have nb1 : (b = w.heap.size + 1) = False := eq_false (by omega)
      have nb2 : (b = w.heap.size + 2) = False := eq_false (by omega)
      have hA' := HA.out
      have N3 : Hid (((wr.setCell ⟨w.heap.size + 2, k, none⟩ (.int .i64 ((cs.getD k 0 % 13 : Nat) : Int))).setCell ⟨w.heap.size + 1, cs.getD k 0 % 13, none⟩ (.int .i64 ((cntK cs k).getD (cs.getD k 0 % 13) 0 + 1))).heap[w.heap.size]? = some (.cells (List.toArray (Value.int .i64 0 :: Value.int .i64 0 :: Value.int .i64 0 :: Value.int .i64 0 :: Value.int .i64 0 :: Value.int .i64 0 :: Value.int .i64 0 :: Value.bool false :: [])) 98 (0, 0))) := Lib.hid ((Below.heap_setCell _ _ _ _ (by show w.heap.size ≠ w.heap.size + 1; omega)).trans ((Below.heap_setCell _ _ _ _ (by show w.heap.size ≠ w.heap.size + 2; omega)).trans HA.out))
      have N4 : Hid (Below w.heap.size w ((wr.setCell ⟨w.heap.size + 2, k, none⟩ (.int .i64 ((cs.getD k 0 % 13 : Nat) : Int))).setCell ⟨w.heap.size + 1, cs.getD k 0 % 13, none⟩ (.int .i64 ((cntK cs k).getD (cs.getD k 0 % 13) 0 + 1)))) := Lib.hid ((HB.out.setCell (by show w.heap.size ≤ w.heap.size + 2; omega) _).setCell (by show w.heap.size ≤ w.heap.size + 1; omega) _)
      clear n1 n2 hm HG HD HA hA' HR HSort HSO HSm HBd HCt HRk HiL HiA HsA HO Hrg Hcell HC5 hat Hsm0
      generalize (cntK cs k).getD (cs.getD k 0 % 13) 0 = q at *
      generalize (rnkK cs k).getD k 0 = q2 at *
      generalize cs.getD k 0 % 13 = r at *
      generalize (cs.getD k 0 / 13 == cs.getD 0 0 / 13) = eb at *
      generalize cs.getD k 0 / 13 = s1 at *
      generalize cs.getD 0 0 / 13 = s2 at *
      generalize cs.getD k 0 = ck at *
      generalize cs.getD 0 0 = cz at *
      obtain ⟨hq1, hq2⟩ := hbd
      cases ho : sameK cs k
      · rw [ho, Bool.false_and] at HM
        go_wp2
        go_roundw
        case rel => exact ⟨k + 1, by omega, by rw [HM.out], by go_num, N1, N2, N3, N4⟩
        case measure => simp [intOf]; omega
      · rw [ho, Bool.true_and] at HM
        go_wp2
        go_roundw
        case rel => exact ⟨k + 1, by omega, by rw [HM.out], by go_num, N1, N2, N3, N4⟩
        case measure => simp [intOf]; omega
    · obtain rfl : k = 5 := by omega
      have hD := HD.out
      rw [HRk.out] at hD
      have HSo := Lib.hid (HSort.out (w.heap.size + 1) (w.heap.size + 2) wr (HCt.out _ _ _ _ HG.out) (by omega) hD)
      have HC6 := Lib.hid (HCt.out _ _ _ _ HG.out)
      obtain ⟨one, hone⟩ : ∃ o, sameK cs 5 = o := ⟨_, rfl⟩
      rw [hone]
      have Hone := Lib.hid hone
      clear hone
      clear hD HD HG HRk HCt HSort HR HSm HBd HC5 HiL HiA HsA HO Hrg Hcell hat Hsm0
      go_wp2_with fail
      refine (HSo.out).mono ?_
      rintro e w6 ⟨rfl, ⟨l, hp, hs, hsw⟩, hb6⟩
      have hl := HSO.out l hp hs
      subst hl
      clear hp hs HSO HSo
      have hcn : CntIn w6 (w.heap.size + 1) C := cnt_below HC6.out (by omega) hb6
      have ha6 : w6.heap[w.heap.size]? = some (.cells (List.toArray (Value.int .i64 0 :: Value.int .i64 0 :: Value.int .i64 0 :: Value.int .i64 0 :: Value.int .i64 0 :: Value.int .i64 0 :: Value.int .i64 0 :: Value.bool false :: [])) 98 (0, 0)) := (hb6.block _ (by omega)).trans HA.out
      have HA6 := Lib.hid ha6
      have HB6 := Lib.hid (HB.out.trans (hb6.mono (by omega)))
      clear hb6 HA HB HC6 ha6
      change 1 ≤ cAt C s0 at k1
      change cAt C s0 ≤ 4 at k4
      have hx : ∀ j, j < 5 → [s0, s1, s2, s3, s4].getD j 0 ≤ 12 := fun j hj => k12 _ (by rw [getD_lt _ _ _ hj]; exact List.getElem_mem _)
      have hcl : ∀ j, j < 5 → w6.cell? ⟨w.heap.size + 2, j, none⟩ = some (.int .i64 (([s0, s1, s2, s3, s4].getD j 0 : Nat) : Int)) := fun j hj => by
        obtain ⟨_, _, ee, _, _, g, _⟩ := hsw.open' j (by rw [ntI_len]; exact hj)
        cases ee
        rw [Nat.zero_add, ntI_get] at g
        exact g
      have r0 := hcl 0 (by omega)
      have rm := hcl (cAt C s0) (by omega)
      have rx := hx (cAt C s0) (by omega)
      have rz := hx 0 (by omega)
      have g0 := hcn s0 (by have : s0 ≤ 12 := rz; omega)
      have gm := hcn ([s0, s1, s2, s3, s4].getD (cAt C s0) 0) (by omega)
      change s0 ≤ 12 at rz
      change w6.cell? ⟨w.heap.size + 2, 0, none⟩ = some (.int .i64 (s0 : Int)) at r0
      have r1 : w6.cell? ⟨w.heap.size + 2, 1, none⟩ = some (.int .i64 (s1 : Int)) := hcl 1 (by omega)
      have r2 : w6.cell? ⟨w.heap.size + 2, 2, none⟩ = some (.int .i64 (s2 : Int)) := hcl 2 (by omega)
      have r3 : w6.cell? ⟨w.heap.size + 2, 3, none⟩ = some (.int .i64 (s3 : Int)) := hcl 3 (by omega)
      have r4 : w6.cell? ⟨w.heap.size + 2, 4, none⟩ = some (.int .i64 (s4 : Int)) := hcl 4 (by omega)
      have HV : Hid (V = .agg #[.int .i64 (s0 : Int), .int .i64 (s1 : Int), .int .i64 (s2 : Int), .int .i64 (s3 : Int), .int .i64 (s4 : Int), .int .i64 (cAt C s0 : Nat), .int .i64 (cAt C ([s0, s1, s2, s3, s4].getD (cAt C s0) 0) : Nat), .bool one]) := Lib.hid (by rw [HV0.out, Hone.out]; rfl)
      clear HV0 Hone
      clear hsw hcn hcl hx k12 k5
      generalize [s0, s1, s2, s3, s4].getD (cAt C s0) 0 = nx at *
      generalize cAt C nx = q at *
      generalize cAt C s0 = m at *
      have r0' : w6.drew.cell? ⟨w.heap.size + 2, 0, none⟩ = _ := r0
      have rm' : w6.drew.cell? ⟨w.heap.size + 2, m, none⟩ = _ := rm
      have gm' : w6.drew.cell? ⟨w.heap.size + 1, nx, none⟩ = _ := gm
      have q1 : ((m : Int) < 5) = True := eq_true (by omega)
      have q2 : ((nx : Int) < 13) = True := eq_true (by omega)
      have HA7 : Hid (w6.drew.heap[w.heap.size]? = some (.cells (List.toArray (Value.int .i64 0 :: Value.int .i64 0 :: Value.int .i64 0 :: Value.int .i64 0 :: Value.int .i64 0 :: Value.int .i64 0 :: Value.int .i64 0 :: Value.bool false :: [])) 98 (0, 0))) := Lib.hid HA6.out
      have HB7 := Lib.hid (below_setRow (g := w.heap.size) HB6.out.drew (Nat.le_refl _) #[.int .i64 (s0 : Int), .int .i64 (s1 : Int), .int .i64 (s2 : Int), .int .i64 (s3 : Int), .int .i64 (s4 : Int), .int .i64 (m : Int), .int .i64 (q : Int), .bool one])
      have HG6 := Lib.hid (setRow_heap w6.drew w.heap.size _ #[.int .i64 (s0 : Int), .int .i64 (s1 : Int), .int .i64 (s2 : Int), .int .i64 (s3 : Int), .int .i64 (s4 : Int), .int .i64 (m : Int), .int .i64 (q : Int), .bool one] _ _ HA7.out)
      have Hi8 := Lib.hid inf8
      go_wp2_with fail
      refine wp_region_still_tail 8 (by kernel_rfl) (by kernel_rfl) ?_
      simp only [List.take_succ_cons, List.take_zero, List.drop_succ_cons, List.drop_zero]
      repeat still_step
      refine wpStill_nil ?_
      change wpList _ _ _ _ _ w6.drew
      refine wpList_build (o := ⟨some 56, .build 98 _, _, _, _, _⟩) rfl 98 _ rfl (by kernel_rfl) ?_
      refine wpList_store_row (o := ⟨none, .store 98 _ _, _, _, _, _⟩) rfl 98 (.tmp 2) (.tmp 56) rfl w.heap.size #[.int .i64 (s0 : Int), .int .i64 (s1 : Int), .int .i64 (s2 : Int), .int .i64 (s3 : Int), .int .i64 (s4 : Int), .int .i64 (m : Int), .int .i64 (q : Int), .bool one] (by kernel_rfl) (by kernel_rfl) 98 _ HA7.out Hi8.out rfl (by first | kernel_rfl | simp [Value.oneCell']) ?_
      go_wp2
      have hlV := run_loadVar_mid (P := Try.prog) (w6.drew.setRow w.heap.size #[.int .i64 (s0 : Int), .int .i64 (s1 : Int), .int .i64 (s2 : Int), .int .i64 (s3 : Int), .int .i64 (s4 : Int), .int .i64 (m : Int), .int .i64 (q : Int), .bool one]) w.heap.size 0 98 [.int .i64 (s0 : Int), .int .i64 (s1 : Int), .int .i64 (s2 : Int), .int .i64 (s3 : Int), .int .i64 (s4 : Int), .int .i64 (m : Int), .int .i64 (q : Int), .bool one] _ (fun j u hj => by rw [Nat.zero_add]; exact heap_cell HG6.out j u hj) Try.underlying98 rfl inf8
      refine bodyPost_ret_by (v := V) ?_ rfl ⟨rfl, HB7.out⟩
      rw [HV.out]
      exact res_cell1 Try.results110 rfl hlV
end Go.Proofs.Ytodmaomngpnboaa
