/- Contracts: what five cards look like, in the specification: the walk. -/
import Derived.Test.YtodmaomngpnboaaHsJ
set_option linter.unusedVariables false
namespace Go.Proofs.Ytodmaomngpnboaa
open Go.RowKit

theorem ret2ii {a b c d : Int} (h1 : a = c) (h2 : b = d) : Ending.returned (.tuple #[.int .i64 a, .int .i64 b]) = Ending.returned (.tuple #[.int .i64 c, .int .i64 d]) := by rw [h1, h2]
theorem digR5 (w : World) (R : Nat) (t : TypeId) (k : Nat) (hk : k < 5) : (w.alloc (.cells #[.int .i64 (R : Int), .int .i64 0, .int .i64 0, .int .i64 0, .int .i64 0] t)).cell? ⟨w.heap.size, k, none⟩ = some (.int .i64 (([R, 0, 0, 0, 0].getD k 0 : Nat) : Int)) := by
  have h := fun j u hj => heap_cell (cur := [.int .i64 (R : Int), .int .i64 0, .int .i64 0, .int .i64 0, .int .i64 0]) (World.alloc_heap_new w (.cells #[.int .i64 (R : Int), .int .i64 0, .int .i64 0, .int .i64 0, .int .i64 0] t)) j u hj
  obtain rfl | rfl | rfl | rfl | rfl : k = 0 ∨ k = 1 ∨ k = 2 ∨ k = 3 ∨ k = 4 := by omega
  all_goals exact h _ _ rfl
theorem rowL_le : ∀ (h : Nat) (d : List Nat), h ≤ 10 → rowL d h ≤ 13
  | 0, d, _ => by cases d <;> exact Nat.zero_le _
  | h + 1, [], _ => Nat.zero_le _
  | h + 1, x :: d, hh => by
    show (bif fiveO (x :: d) then h + 4 else rowL d h) ≤ 13
    have := rowL_le h d (by omega)
    cases fiveO (x :: d)
    · exact this
    · show h + 4 ≤ 13; omega
theorem rowC_le (C : List Nat) : rowC C 10 ≤ 13 := rowL_le 10 _ (Nat.le_refl _)
theorem kindC_eq (C : List Nat) (one : Bool) : kindC C one = (if one && decide (1 ≤ rowC C 10) then 8 else if (manC C 4).getD 0 0 == 4 then 7 else if (manC C 4).getD 0 0 == 3 && (manC C 4).getD 1 0 == 2 then 6 else if one then 5 else if decide (1 ≤ rowC C 10) then 4 else if (manC C 4).getD 0 0 == 3 then 3 else if (manC C 4).getD 0 0 == 2 && (manC C 4).getD 1 0 == 2 then 2 else if (manC C 4).getD 0 0 == 2 then 1 else 0) := rfl
theorem digC_eq (C : List Nat) : digC C = if 1 ≤ rowC C 10 then [rowC C 10 - 1, 0, 0, 0, 0] else ordC C 4 := rfl
set_option maxRecDepth 1000000 in
set_option maxHeartbeats 16000000 in
theorem look_spec (cs : List Nat) (v : Value) (w : World) (h5 : cs.length = 5) (hcs : ∀ c ∈ cs, c ≤ 51) (h4 : ∀ x, (cs.map (· % 13)).count x ≤ 4) (h : Sl (Value.int .i64) 0 w v (ntI cs)) :
    Calls Try.prog 109 #[v] w fun e w' => e = .returned (.tuple #[.int .i64 (kindC (cntL (cs.map (· % 13))) (sameK cs 5) : Nat), .int .i64 (pvV (kindC (cntL (cs.map (· % 13))) (sameK cs 5)) (digC (cntL (cs.map (· % 13)))) 5 : Nat)]) ∧ Below w.heap.size w w' := by
  obtain ⟨p, cap, rfl, hc⟩ := h
  obtain ⟨hcap, b, off, rfl, hbs, hcell⟩ := hc (by rw [ntI_len]; omega)
  have hR13 : ∀ x ∈ cs.map (· % 13), x < 13 := by
    intro x hx
    obtain ⟨c, _, rfl⟩ := List.mem_map.1 hx
    exact Nat.mod_lt _ (by omega)
  have hok := okC_of (cs.map (· % 13)) hR13 (by rw [List.length_map, h5]) h4
  have hle := cAt_le (cntL_le (cs.map (· % 13)) h4)
  have hlc := cntL_len (cs.map (· % 13))
  have hcw := cwC_cnt cs h5
  generalize cntL (cs.map (· % 13)) = C at *
  unfold okC at hok
  simp only [Bool.and_eq_true, Bool.or_eq_true, beq_iff_eq, decide_eq_true_eq, List.all_eq_true] at hok
  obtain ⟨⟨⟨⟨⟨⟨⟨⟨k5, -⟩, -⟩, -⟩, -⟩, -⟩, k12⟩, kM1⟩, kM2⟩ := hok
  have HC := Lib.hid hlc
  have HW := Lib.hid hcw
  have HK5 := Lib.hid k5
  have HK12 := Lib.hid k12
  have HM1 := Lib.hid kM1
  have HM2 := Lib.hid kM2
  have HML := Lib.hid (manC_len hlc)
  have Hle := Lib.hid hle
  rw [ntI_len, h5] at hcap
  have Hcell := Lib.hid (fun (z : World) (hz : Below w.heap.size w z) (i : Nat) (hi : i < 5) => ((hz.cell (p := ⟨b, off + i, none⟩) hbs).trans ((hcell i (by rw [ntI_len, h5]; exact hi)).trans (by rw [ntI_get])) : z.cell? ⟨b, off + i, none⟩ = some (.int .i64 ((cs.getD i 0 : Nat) : Int))))
  have HC5 := Lib.hid (fun i (hi : i < 5) => show cs.getD i 0 ≤ 51 from hcs _ (by rw [getD_lt _ _ _ (show i < cs.length by omega)]; exact List.getElem_mem _))
  have HSm := Lib.hid (fun k (hk : k < 5) => sameK_next cs k (by omega))
  have HBd := Lib.hid (fun k r => cntK_bd cs k r h5)
  have HN := Lib.hid (fun k (hk : k < 5) => cntK_next cs k (by omega))
  have H00 := Lib.hid (show tab 13 (fun _ => 0) = cntK cs 0 by unfold cntK; rw [List.take_zero]; rfl)
  have hnl : (ntI cs).length = 5 := by rw [ntI_len, h5]
  have c0 := Hcell.out w (Below.refl _ _) 0 (by omega)
  have hb0 := HC5.out 0 (by omega)
  have e3 : ((cs.getD 0 0 : Nat) : Int).tdiv 13 = ((cs.getD 0 0 / 13 : Nat) : Int) := (Int.ofNat_tdiv _ _).symm
  have l2 : cs.getD 0 0 / 13 ≤ 3 := by omega
  obtain ⟨s2, hs2⟩ : ∃ s, s = cs.getD 0 0 / 13 := ⟨_, rfl⟩
  rw [← hs2] at e3 l2
  have HS2 := Lib.hid hs2
  obtain ⟨cz, hcz⟩ : ∃ s, s = cs.getD 0 0 := ⟨_, rfl⟩
  rw [← hcz] at e3 c0 hb0
  rw [Nat.add_zero] at c0
  clear hs2 hcz
  rw [hnl]
  obtain ⟨i0, hi, hz0, hz1, hz2⟩ := info_parts (show (Try.prog.info? 2).map (fun i => (i.zero, i.size, i.bytes)) = some (some (Value.int .i64 0), 1, 8) by kernel_rfl)
  clear hnl hcell hc hR13 hle hlc hcw k5 k12 kM1 kM2 hcs h4
  obtain ⟨wi, hwi⟩ : ∃ z, z = w := ⟨_, rfl⟩
  subst hwi
  have c0' : ∀ z, Below wi.heap.size wi z → z.cell? ⟨b, off, none⟩ = some (.int .i64 (cz : Int)) := fun z hz => (hz.cell (p := ⟨b, off, none⟩) hbs).trans c0
  have HCZ := Lib.hid c0'
  clear c0' c0
  go_enter Try.func109, Try.ntmps109
  go_upto_region 2 with (at_make; refine wpList_make_full _ rfl _ _ 22 rfl wi.heap.size 2 i0 (.int .i64 0) 1 (by kernel_rfl) hi hz0 hz1 .i64 .i64 13 13 13 rfl rfl rfl rfl (by rw [hz2]; omega) (by unfold maxLen; omega) (Nat.le_refl _) ?_; intro w1 hrow hgrow)
  rw [zerosC] at hrow
  have hb1 : Below wi.heap.size wi w1 := (Below.refl _ _).grown hgrow (Nat.le_refl _) (by simp)
  have hS0 := Sw.of_owns (d := 0) hrow (tab_len _ _)
  rw [H00.out] at hS0
  have HS0 := Lib.hid hS0
  have HB1 := Lib.hid hb1
  have hcz := HCZ.out _ hb1
  clear hrow hgrow hb1 hS0
  go_wp2_with fail
  go_loopw [6, 24] (fun ov iv wr => ∃ k : Nat, k ≤ 5 ∧ ov = .bool (sameK cs k) ∧ iv = .int .i64 (k : Int) ∧ Hid (Sw (Value.int .i64) 0 wr (.slice (some ⟨wi.heap.size, 0, none⟩) 13 13) (cntK cs k) wi.heap.size w1.heap.size) ∧ Hid (Below wi.heap.size wi wr)) (fun _ iv _ => 5 - (intOf iv).toNat)
  case atStart => exact ⟨0, by omega, rfl, rfl, HS0, HB1⟩
  case round =>
    obtain ⟨k, hk, rfl, rfl, HG, HB⟩ := hrel
    clear HS0 HB1 H00 hcz
    by_cases hlt : k < 5
    · have c1 := Hcell.out wr HB.out k hlt
      have hb5 := HC5.out k hlt
      have hm := HSm.out k hlt
      have hbd := HBd.out k (cs.getD k 0 % 13)
      have hr13 : cs.getD k 0 % 13 < 13 := Nat.mod_lt _ (by omega)
      have e1 : ((cs.getD k 0 : Nat) : Int).tmod 13 = ((cs.getD k 0 % 13 : Nat) : Int) := (Int.ofNat_tmod _ _).symm
      have e2 : ((cs.getD k 0 : Nat) : Int).tdiv 13 = ((cs.getD k 0 / 13 : Nat) : Int) := (Int.ofNat_tdiv _ _).symm
      have e4 : (((cs.getD k 0 / 13 : Nat) : Int) == (s2 : Int)) = (cs.getD k 0 / 13 == cs.getD 0 0 / 13) := by
        rw [← HS2.out, Bool.eq_iff_iff, beq_iff_eq, beq_iff_eq]; omega
      have l1 : cs.getD k 0 / 13 ≤ 3 := by omega
      obtain ⟨_, _, ee, _, _, g1, g2⟩ := HG.out.open' (cs.getD k 0 % 13) (by rw [cntK_len]; exact hr13)
      cases ee
      rw [Nat.zero_add] at g1 g2
      have n1 := HG.out.store (cs.getD k 0 % 13) (by rw [cntK_len]; exact hr13) ((cntK cs k).getD (cs.getD k 0 % 13) 0 + 1)
      rw [HN.out k hlt, Nat.zero_add] at n1
      have N1 := Lib.hid n1
      have N4 := Lib.hid (HB.out.setCell (p := ⟨wi.heap.size, cs.getD k 0 % 13, none⟩) (Nat.le_refl _) (.int .i64 ((cntK cs k).getD (cs.getD k 0 % 13) 0 + 1)))
      have HM := Lib.hid hm
      have nb1 : (b = wi.heap.size) = False := eq_false (by omega)
      clear n1 hm HG HB HSm HBd HN HCZ Hcell HC5
      generalize (cntK cs k).getD (cs.getD k 0 % 13) 0 = q at *
      generalize cs.getD k 0 % 13 = r at *
      generalize (cs.getD k 0 / 13 == cs.getD 0 0 / 13) = eb at *
      generalize cs.getD k 0 / 13 = s1 at *
      generalize cs.getD k 0 = ck at *
      obtain ⟨hq1, hq2⟩ := hbd
      cases ho : sameK cs k
      · rw [ho, Bool.false_and] at HM
        go_wp2
        go_roundw
        case rel => exact ⟨k + 1, by omega, by rw [HM.out], by go_num, N1, N4⟩
        case measure => simp [intOf] <;> omega
      · rw [ho, Bool.true_and] at HM
        go_wp2
        go_roundw
        case rel => exact ⟨k + 1, by omega, by rw [HM.out], by go_num, N1, N4⟩
        case measure => simp [intOf] <;> omega
    · obtain rfl : k = 5 := by omega
      obtain ⟨w2, rfl⟩ : ∃ z, z = wr := ⟨_, rfl⟩
      have hG := HG.out
      rw [HW.out] at hG
      have HG2 : Hid (Sl (Value.int .i64) 0 w2 (.slice (some ⟨wi.heap.size, 0, none⟩) 13 13) (cwC C)) := Lib.hid hG.sl
      have HGr := Lib.hid (fun z (hz : Below w2.heap.size w2 z) => row_spec C _ z HC.out Hle.out (HG2.out.later hz))
      have HGc := Lib.hid (fun z (hz : Below w2.heap.size w2 z) (r : Nat) (hr : r < 13) => by
        obtain ⟨_, _, ee, _, _, g1, _⟩ := hG.open' r (by rw [cwC_len]; exact hr)
        cases ee
        rw [Nat.zero_add, cwC_get C r hr] at g1
        exact ((cell_keep hz g1) : z.cell? ⟨wi.heap.size, r, none⟩ = some (.int .i64 ((cAt C r : Nat) : Int))))
      have HLr := Lib.hid (fun N r T U O M hr hO hM => lists_round C N r T U O M HC.out hr hO hM)
      have hst := Own2.start w2
      have hbst : Below w2.heap.size w2 ((w2.alloc (.cells #[] 2)).alloc (.cells #[] 2)) := ((Below.refl _ w2).alloc (Nat.le_refl _) _).alloc (by simp) _
      have HST := Lib.hid hst
      have HBST := Lib.hid hbst
      have HB2 := Lib.hid HB.out
      obtain ⟨one, hone⟩ : ∃ o, sameK cs 5 = o := ⟨_, rfl⟩
      rw [hone]
      have Hone := Lib.hid hone
      clear hone hG HG HG2 HB hst hbst HSm HBd HN Hcell HC5 HW HCZ HS2 e3 l2 hb0
      go_wp2_with fail
      go_loopw [8, 9, 10] (fun ov mv nv wr => ∃ (N : Nat) (O M : List Nat), N ≤ 4 ∧ nv = .int .i64 (N : Int) ∧ Hid (O ++ ordC C N = ordC C 4) ∧ Hid (M ++ manC C N = manC C 4) ∧ Hid (Own2 wr w2.heap.size ov O mv M) ∧ Hid (Below w2.heap.size w2 wr)) (fun _ _ nv _ => (intOf nv).toNat)
      case atStart => exact ⟨4, [], [], Nat.le_refl _, rfl, Lib.hid rfl, Lib.hid rfl, HST, HBST⟩
      case round =>
        obtain ⟨N, O, M, hN4, rfl, hO, hM, hW, hBw⟩ := hrel
        by_cases hN : 1 ≤ N
        · have dN : decide ((1 : Int) ≤ (N : Int)) = true := decide_eq_true (by omega)
          have hO3 : Hid (O ++ (rkL N (C.drop (13 - 13)) 13 ++ ordC C (N - 1)) = ordC C 4) := Lib.hid (by
            refine Eq.trans ?_ hO.out
            obtain ⟨n, rfl⟩ : ∃ n, N = n + 1 := ⟨N - 1, by omega⟩
            rfl)
          have hM3 : Hid (M ++ (mnL N (C.drop (13 - 13)) ++ manC C (N - 1)) = manC C 4) := Lib.hid (by
            refine Eq.trans ?_ hM.out
            obtain ⟨n, rfl⟩ : ∃ n, N = n + 1 := ⟨N - 1, by omega⟩
            rfl)
          clear HST HBST hO hM
          go_wp2_with fail
          go_loopw [8, 9, 11] (fun ov mv rv wr => ∃ (rr : Nat) (O M : List Nat), rr ≤ 13 ∧ rv = .int .i64 ((rr : Int) - 1) ∧ Hid (O ++ (rkL N (C.drop (13 - rr)) rr ++ ordC C (N - 1)) = ordC C 4) ∧ Hid (M ++ (mnL N (C.drop (13 - rr)) ++ manC C (N - 1)) = manC C 4) ∧ Hid (Own2 wr w2.heap.size ov O mv M) ∧ Hid (Below w2.heap.size w2 wr)) (fun _ _ rv _ => (intOf rv + 1).toNat)
          case atStart => exact ⟨13, O, M, Nat.le_refl _, rfl, hO3, hM3, hW, hBw⟩
          case round =>
            clear hO3 hM3 hW hBw
            obtain ⟨rr, O, M, hr13, rfl, hO, hM, hW, hBw⟩ := hrel
            by_cases hr : 1 ≤ rr
            · obtain ⟨r, rfl⟩ : ∃ r, rr = r + 1 := ⟨rr - 1, by omega⟩
              have er : (((r + 1 : Nat) : Int)) - 1 = (r : Int) := by omega
              rw [er]
              obtain ⟨ha, hb⟩ := HLr.out N r _ _ O M (by omega) hO.out hM.out
              have hcl := HGc.out wr hBw.out r (by omega)
              have hbz := hBw.out.size
              have hOl : O.length ≤ 5 := by have := congrArg List.length hO.out; rw [HK5.out, List.length_append] at this; omega
              have hMl : M.length ≤ 52 := by have := congrArg List.length hM.out; rw [List.length_append] at this; have := HML.out; omega
              clear er
              by_cases e : cAt C r = N
              · obtain ⟨hO2, hM2⟩ := ha e
                rw [e] at hcl
                have HO2 := Lib.hid (show O ++ (List.replicate (N - 0) r ++ (rkL N (C.drop (13 - r)) r ++ ordC C (N - 1))) = ordC C 4 from hO2)
                have HM2' := Lib.hid hM2
                have hne : ((N : Int) != (N : Int)) = false := by simp
                clear ha hb hO2 hM2 hO hM e
                go_wp2_with (at_builtin; refine wpList_append_own_at _ rfl _ _ 22 rfl w2.heap.size 2 i0 (.int .i64 0) 1 8 (by kernel_rfl) hi hz0 hz1 hz2 rfl (by decide) _ _ _ rfl (hW.out.m.alloc _) ⟨wr.heap.size, 0, none⟩ 1 1 [.int .i64 ((N : Nat) : Int)] rfl rfl (cell_one_new _ _ _) (by intro u hu; rw [List.mem_singleton] at hu; subst hu; rfl) (by unfold maxLen; omega) (by omega) (by simp; omega) ?_; intro mv2 w9 hown2 hgrow2 hnil2 hat2; clear hnil2)
                have HW2 := Lib.hid (hW.out.putM _ N hown2 hgrow2 hat2)
                have HBw2 := Lib.hid (own2_grow hBw.out _ hbz hW.out.m hgrow2)
                clear hown2 hgrow2 hat2 hW hBw hcl hne
                go_loopw [8, 12] (fun ov kv wr => ∃ (k : Nat) (O : List Nat), k ≤ N ∧ kv = .int .i64 (k : Int) ∧ Hid (O ++ (List.replicate (N - k) r ++ (rkL N (C.drop (13 - r)) r ++ ordC C (N - 1))) = ordC C 4) ∧ Hid (Own2 wr w2.heap.size ov O mv2 (M ++ [N])) ∧ Hid (Below w2.heap.size w2 wr)) (fun _ kv _ => N - (intOf kv).toNat)
                case atStart => exact ⟨0, O, Nat.zero_le _, rfl, HO2, HW2, HBw2⟩
                case round =>
                  clear HO2 HW2 HBw2 hOl
                  obtain ⟨k, O, hkN, rfl, hO, hW, hBw⟩ := hrel
                  by_cases hlk : k < N
                  · have hO3 : Hid ((O ++ [r]) ++ (List.replicate (N - (k + 1)) r ++ (rkL N (C.drop (13 - r)) r ++ ordC C (N - 1))) = ordC C 4) := Lib.hid (by
                      refine Eq.trans ?_ hO.out
                      rw [show N - k = (N - (k + 1)) + 1 by omega, List.replicate_succ]
                      simp)
                    have hOl : O.length ≤ 5 := by have := congrArg List.length hO.out; rw [HK5.out, List.length_append] at this; omega
                    have hbz := hBw.out.size
                    clear hO
                    go_wp2_with (at_builtin; refine wpList_append_own_at _ rfl _ _ 22 rfl w2.heap.size 2 i0 (.int .i64 0) 1 8 (by kernel_rfl) hi hz0 hz1 hz2 rfl (by decide) _ _ _ rfl (hW.out.o.alloc _) ⟨wr.heap.size, 0, none⟩ 1 1 [.int .i64 ((r : Nat) : Int)] rfl rfl (cell_one_new _ _ _) (by intro u hu; rw [List.mem_singleton] at hu; subst hu; rfl) (by unfold maxLen; omega) (by omega) (by simp; omega) ?_; intro ov3 w10 hown3 hgrow3 hnil3 hat3; clear hnil3)
                    have HW3 := Lib.hid (hW.out.putO _ r hown3 hgrow3 hat3)
                    have HBw3 := Lib.hid (own2_grow hBw.out _ hbz hW.out.o hgrow3)
                    clear hown3 hgrow3 hat3 hW hBw
                    go_roundw
                    case rel => exact ⟨k + 1, O ++ [r], by omega, by go_num, hO3, HW3, HBw3⟩
                    case measure => simp [intOf] <;> omega
                  · have hkk : k = N := by omega
                    have hO3 : Hid (O ++ (rkL N (C.drop (13 - r)) r ++ ordC C (N - 1)) = ordC C 4) := Lib.hid (by have := hO.out; rw [hkk, Nat.sub_self, List.replicate_zero, List.nil_append] at this; exact this)
                    have dk : decide ((k : Int) < (N : Int)) = false := decide_eq_false (by omega)
                    clear hO hkk
                    go_wp2
                    go_roundw
                    case rel => exact ⟨_, _, _, _, _, _, _, _, _, _, _, _, _, _, _, _, _, _, _, _, _, _, _, _, _, _, _, ⟨r, O, M ++ [N], by omega, rfl, hO3, HM2', hW, hBw⟩, rfl⟩
                    case measure => simp [intOf] <;> omega
              · obtain ⟨hO2, hM2⟩ := hb e
                have HO2 := Lib.hid hO2
                have HM2' := Lib.hid hM2
                have hne : (((cAt C r : Nat) : Int) != (N : Int)) = true := by rw [bne_iff_ne]; omega
                clear ha hb hO2 hM2 hO hM e
                generalize cAt C r = x at *
                go_wp2
                go_roundw
                case rel => exact ⟨r, O, M, by omega, rfl, HO2, HM2', hW, hBw⟩
                case measure => simp [intOf] <;> omega
            · obtain rfl : rr = 0 := by omega
              have HO2 : Hid (O ++ ordC C (N - 1) = ordC C 4) := Lib.hid (by have := hO.out; rw [rkL_end N HC.out, List.nil_append] at this; exact this)
              have HM2' : Hid (M ++ manC C (N - 1) = manC C 4) := Lib.hid (by have := hM.out; rw [mnL_end N HC.out, List.nil_append] at this; exact this)
              clear hO hM
              go_wp2
              go_roundw
              case rel => exact ⟨N - 1, O, M, by omega, by go_num, HO2, HM2', hW, hBw⟩
              case measure => simp [intOf] <;> omega
        · obtain rfl : N = 0 := by omega
          have hOT : O = ordC C 4 := by have := hO.out; rw [show ordC C 0 = [] from rfl, List.append_nil] at this; exact this
          have hMU : M = manC C 4 := by have := hM.out; rw [show manC C 0 = [] from rfl, List.append_nil] at this; exact this
          subst hOT
          subst hMU
          have hSO := (Sw.of_owns (d := 0) hW.out.o (ntI_len _)).sl
          have hSM := (Sw.of_owns (d := 0) hW.out.m (ntI_len _)).sl
          have HSO := Lib.hid (fun z (hz : Drawn wr z) => hSO.drawn hz)
          have HSM := Lib.hid (fun z (hz : Drawn wr z) => hSM.drawn hz)
          have HBr := Lib.hid (HB2.out.trans (hBw.out.mono HB2.out.size))
          clear hSO hSM hO hM hW HST HBST HLr HGc
          go_wp2_with fail
          refine (HGr.out _ hBw.out).mono ?_
          rintro e w5 ⟨rfl, hd5⟩
          have hso := HSO.out _ hd5
          have hsm := HSM.out _ hd5
          have HBe := Lib.hid (HBr.out.trans (hd5.below _))
          obtain ⟨t0, t1, t2, t3, t4, eT⟩ := five_of HK5.out
          have hK12 := HK12.out
          rw [eT] at hso hK12
          obtain ⟨po, co, rfl, hco⟩ := hso
          obtain ⟨_, bo, oo, rfl, _, hcco⟩ := hco (by show 0 < 5; omega)
          change ∀ i, i < 5 → w5.cell? ⟨bo, oo + i, none⟩ = some (.int .i64 ((ntI [t0, t1, t2, t3, t4]).getD i 0)) at hcco
          obtain ⟨pm, cm, rfl, hcm⟩ := hsm
          have hm1 := HM1.out
          obtain ⟨_, bm, om, rfl, _, hccm⟩ := hcm (by rw [ntI_len]; omega)
          have HE := Lib.hid (kindC_eq C one)
          have HDq := Lib.hid (digC_eq C)
          have hRle := rowC_le C
          have hM2 := HM2.out
          have hm0 := hccm 0 (by rw [ntI_len]; omega)
          have HM1c := Lib.hid (fun (h : 2 ≤ (manC C 4).length) => hccm 1 (by rw [ntI_len]; omega))
          rw [ntI_get] at hm0
          simp only [ntI_get] at HM1c hcco
          rw [ntI_len, eT] at *
          have HKle := Lib.hid (kindC_le C one)
          rw [show (ntI (manC C 4)).length = (manC C 4).length from ntI_len _]
          have hl5 : [t0, t1, t2, t3, t4].length = 5 := rfl
          rw [Nat.add_zero] at hm0
          obtain ⟨K, hK⟩ : ∃ K, K = kindC C one := ⟨_, rfl⟩
          have HKe := Lib.hid (show kindC C (sameK cs 5) = K by rw [Hone.out, hK])
          have E : Hid (K = _) := Lib.hid (hK.trans HE.out)
          have hK8 : K ≤ 8 := by rw [hK]; exact HKle.out
          clear hK HE HKle
          generalize (manC C 4).getD 0 0 = m0 at *
          generalize (manC C 4).getD 1 0 = m1 at *
          generalize (manC C 4).length = ml at *
          generalize rowC C 10 = RC at *
          have f4 : ((m0 : Int) == 4) = (m0 == 4) := by rw [Bool.eq_iff_iff, beq_iff_eq, beq_iff_eq]; omega
          have f3 : ((m0 : Int) == 3) = (m0 == 3) := by rw [Bool.eq_iff_iff, beq_iff_eq, beq_iff_eq]; omega
          have f2 : ((m0 : Int) == 2) = (m0 == 2) := by rw [Bool.eq_iff_iff, beq_iff_eq, beq_iff_eq]; omega
          have fq : ((m1 : Int) == 2) = (m1 == 2) := by rw [Bool.eq_iff_iff, beq_iff_eq, beq_iff_eq]; omega
          clear hcm hco HM1 HM2 HK5 HK12 HML HGr Hle HC HSO HSM hd5 hBw HBr HB2
          by_cases hrow : 1 ≤ RC
          · obtain ⟨R1, rfl⟩ : ∃ R1, RC = R1 + 1 := ⟨RC - 1, by omega⟩
            have er : (((R1 + 1 : Nat) : Int)) - 1 = (R1 : Int) := by omega
            rw [er]
            have kd : decide (1 ≤ R1 + 1) = true := decide_eq_true hrow
            have HDe : Hid (digC C = [R1, 0, 0, 0, 0]) := Lib.hid (by rw [HDq.out, if_pos hrow]; rfl)
            have HD12 := Lib.hid (five_le (show R1 ≤ 12 by omega) (show 0 ≤ 12 by omega) (show 0 ≤ 12 by omega) (show 0 ≤ 12 by omega) (show 0 ≤ 12 by omega))
            have HP := Lib.hid (fun k hk => pvV_bd K [R1, 0, 0, 0, 0] hK8 HD12.out k hk)
            clear er HDq hrow hcco hl5
            cases one
            · skip
              by_cases h2 : 2 ≤ ml
              · have c1 := HM1c.out h2
                cases k4 : (m0 == 4)
                · cases k3 : (m0 == 3)
                  · cases k2 : (m0 == 2)
                    · skip
                      have EK : Hid (K = 4) := Lib.hid (by rw [E.out, kd, k4, k3, k2]; rfl)
                      rw [k4] at f4
                      rw [k3] at f3
                      rw [k2] at f2
                      have HP0 : Hid (pvV K [R1, 0, 0, 0, 0] 0 = K) := Lib.hid rfl
                      clear E kd k4 k3 k2
                      go_wp2_with fail
                      have Hdg := Lib.hid (fun k (hk : k < 5) => digR5 w5 R1 2 k hk)
                      have HBf := Lib.hid (HBe.out.alloc HBe.out.size (.cells #[.int .i64 (R1 : Int), .int .i64 0, .int .i64 0, .int .i64 0, .int .i64 0] 2))
                      generalize w5.alloc (.cells #[.int .i64 (R1 : Int), .int .i64 0, .int .i64 0, .int .i64 0, .int .i64 0] 2) = w6 at *
                      go_loopw [15, 134] (fun xv kv wr => ∃ k : Nat, k ≤ 5 ∧ xv = .int .i64 (pvV K [R1, 0, 0, 0, 0] k : Nat) ∧ kv = .int .i64 (k : Int) ∧ Hid (wr = w6)) (fun _ kv _ => 5 - (intOf kv).toNat)
                      case atStart => exact ⟨0, Nat.zero_le _, by rw [HP0.out, EK.out]; rfl, rfl, Lib.hid rfl⟩
                      case round =>
                        obtain ⟨k, hk, rfl, rfl, hw⟩ := hrel
                        obtain rfl := hw.out
                        have hp := HP.out k hk
                        by_cases hlt : k < 5
                        · have hn := pvV_next K [R1, 0, 0, 0, 0] k
                          have hp2 := HP.out (k + 1) (by omega)
                          have hx := Hdg.out k hlt
                          have hx12 := HD12.out k hlt
                          rw [hn] at hp2
                          have Hn := Lib.hid hn
                          clear hn
                          generalize pvV K [R1, 0, 0, 0, 0] k = p at *
                          generalize [R1, 0, 0, 0, 0].getD k 0 = x at *
                          go_wp2
                          go_roundw
                          case rel => exact ⟨k + 1, by omega, by rw [Hn.out]; go_num, by go_num, Lib.hid (by first | rfl | trivial)⟩
                          case measure => simp [intOf] <;> omega
                        · obtain rfl : k = 5 := by omega
                          generalize hpp : pvV K [R1, 0, 0, 0, 0] 5 = p at *
                          have Hpp := Lib.hid hpp
                          clear hpp
                          go_wp2
                          go_ret2
                          exact ⟨ret2ii (by rw [HKe.out, EK.out]; rfl) (by rw [HKe.out, HDe.out, Hpp.out]), HBf.out⟩
                    · cases kq : (m1 == 2)
                      · skip
                        have EK : Hid (K = 4) := Lib.hid (by rw [E.out, kd, k4, k3, k2, kq]; rfl)
                        rw [k4] at f4
                        rw [k3] at f3
                        rw [k2] at f2
                        rw [kq] at fq
                        have HP0 : Hid (pvV K [R1, 0, 0, 0, 0] 0 = K) := Lib.hid rfl
                        clear E kd k4 k3 k2 kq
                        go_wp2_with fail
                        have Hdg := Lib.hid (fun k (hk : k < 5) => digR5 w5 R1 2 k hk)
                        have HBf := Lib.hid (HBe.out.alloc HBe.out.size (.cells #[.int .i64 (R1 : Int), .int .i64 0, .int .i64 0, .int .i64 0, .int .i64 0] 2))
                        generalize w5.alloc (.cells #[.int .i64 (R1 : Int), .int .i64 0, .int .i64 0, .int .i64 0, .int .i64 0] 2) = w6 at *
                        go_loopw [15, 134] (fun xv kv wr => ∃ k : Nat, k ≤ 5 ∧ xv = .int .i64 (pvV K [R1, 0, 0, 0, 0] k : Nat) ∧ kv = .int .i64 (k : Int) ∧ Hid (wr = w6)) (fun _ kv _ => 5 - (intOf kv).toNat)
                        case atStart => exact ⟨0, Nat.zero_le _, by rw [HP0.out, EK.out]; rfl, rfl, Lib.hid rfl⟩
                        case round =>
                          obtain ⟨k, hk, rfl, rfl, hw⟩ := hrel
                          obtain rfl := hw.out
                          have hp := HP.out k hk
                          by_cases hlt : k < 5
                          · have hn := pvV_next K [R1, 0, 0, 0, 0] k
                            have hp2 := HP.out (k + 1) (by omega)
                            have hx := Hdg.out k hlt
                            have hx12 := HD12.out k hlt
                            rw [hn] at hp2
                            have Hn := Lib.hid hn
                            clear hn
                            generalize pvV K [R1, 0, 0, 0, 0] k = p at *
                            generalize [R1, 0, 0, 0, 0].getD k 0 = x at *
                            go_wp2
                            go_roundw
                            case rel => exact ⟨k + 1, by omega, by rw [Hn.out]; go_num, by go_num, Lib.hid (by first | rfl | trivial)⟩
                            case measure => simp [intOf] <;> omega
                          · obtain rfl : k = 5 := by omega
                            generalize hpp : pvV K [R1, 0, 0, 0, 0] 5 = p at *
                            have Hpp := Lib.hid hpp
                            clear hpp
                            go_wp2
                            go_ret2
                            exact ⟨ret2ii (by rw [HKe.out, EK.out]; rfl) (by rw [HKe.out, HDe.out, Hpp.out]), HBf.out⟩
                      · skip
                        have EK : Hid (K = 4) := Lib.hid (by rw [E.out, kd, k4, k3, k2, kq]; rfl)
                        rw [k4] at f4
                        rw [k3] at f3
                        rw [k2] at f2
                        rw [kq] at fq
                        have HP0 : Hid (pvV K [R1, 0, 0, 0, 0] 0 = K) := Lib.hid rfl
                        clear E kd k4 k3 k2 kq
                        go_wp2_with fail
                        have Hdg := Lib.hid (fun k (hk : k < 5) => digR5 w5 R1 2 k hk)
                        have HBf := Lib.hid (HBe.out.alloc HBe.out.size (.cells #[.int .i64 (R1 : Int), .int .i64 0, .int .i64 0, .int .i64 0, .int .i64 0] 2))
                        generalize w5.alloc (.cells #[.int .i64 (R1 : Int), .int .i64 0, .int .i64 0, .int .i64 0, .int .i64 0] 2) = w6 at *
                        go_loopw [15, 134] (fun xv kv wr => ∃ k : Nat, k ≤ 5 ∧ xv = .int .i64 (pvV K [R1, 0, 0, 0, 0] k : Nat) ∧ kv = .int .i64 (k : Int) ∧ Hid (wr = w6)) (fun _ kv _ => 5 - (intOf kv).toNat)
                        case atStart => exact ⟨0, Nat.zero_le _, by rw [HP0.out, EK.out]; rfl, rfl, Lib.hid rfl⟩
                        case round =>
                          obtain ⟨k, hk, rfl, rfl, hw⟩ := hrel
                          obtain rfl := hw.out
                          have hp := HP.out k hk
                          by_cases hlt : k < 5
                          · have hn := pvV_next K [R1, 0, 0, 0, 0] k
                            have hp2 := HP.out (k + 1) (by omega)
                            have hx := Hdg.out k hlt
                            have hx12 := HD12.out k hlt
                            rw [hn] at hp2
                            have Hn := Lib.hid hn
                            clear hn
                            generalize pvV K [R1, 0, 0, 0, 0] k = p at *
                            generalize [R1, 0, 0, 0, 0].getD k 0 = x at *
                            go_wp2
                            go_roundw
                            case rel => exact ⟨k + 1, by omega, by rw [Hn.out]; go_num, by go_num, Lib.hid (by first | rfl | trivial)⟩
                            case measure => simp [intOf] <;> omega
                          · obtain rfl : k = 5 := by omega
                            generalize hpp : pvV K [R1, 0, 0, 0, 0] 5 = p at *
                            have Hpp := Lib.hid hpp
                            clear hpp
                            go_wp2
                            go_ret2
                            exact ⟨ret2ii (by rw [HKe.out, EK.out]; rfl) (by rw [HKe.out, HDe.out, Hpp.out]), HBf.out⟩
                  · cases kq : (m1 == 2)
                    · have k2 : (m0 == 2) = false := by rw [beq_eq_false_iff_ne]; rw [beq_iff_eq] at k3; omega
                      have EK : Hid (K = 4) := Lib.hid (by rw [E.out, kd, k4, k3, kq]; rfl)
                      rw [k4] at f4
                      rw [k3] at f3
                      rw [kq] at fq
                      have HP0 : Hid (pvV K [R1, 0, 0, 0, 0] 0 = K) := Lib.hid rfl
                      clear E kd k4 k3 kq
                      go_wp2_with fail
                      have Hdg := Lib.hid (fun k (hk : k < 5) => digR5 w5 R1 2 k hk)
                      have HBf := Lib.hid (HBe.out.alloc HBe.out.size (.cells #[.int .i64 (R1 : Int), .int .i64 0, .int .i64 0, .int .i64 0, .int .i64 0] 2))
                      generalize w5.alloc (.cells #[.int .i64 (R1 : Int), .int .i64 0, .int .i64 0, .int .i64 0, .int .i64 0] 2) = w6 at *
                      go_loopw [15, 134] (fun xv kv wr => ∃ k : Nat, k ≤ 5 ∧ xv = .int .i64 (pvV K [R1, 0, 0, 0, 0] k : Nat) ∧ kv = .int .i64 (k : Int) ∧ Hid (wr = w6)) (fun _ kv _ => 5 - (intOf kv).toNat)
                      case atStart => exact ⟨0, Nat.zero_le _, by rw [HP0.out, EK.out]; rfl, rfl, Lib.hid rfl⟩
                      case round =>
                        obtain ⟨k, hk, rfl, rfl, hw⟩ := hrel
                        obtain rfl := hw.out
                        have hp := HP.out k hk
                        by_cases hlt : k < 5
                        · have hn := pvV_next K [R1, 0, 0, 0, 0] k
                          have hp2 := HP.out (k + 1) (by omega)
                          have hx := Hdg.out k hlt
                          have hx12 := HD12.out k hlt
                          rw [hn] at hp2
                          have Hn := Lib.hid hn
                          clear hn
                          generalize pvV K [R1, 0, 0, 0, 0] k = p at *
                          generalize [R1, 0, 0, 0, 0].getD k 0 = x at *
                          go_wp2
                          go_roundw
                          case rel => exact ⟨k + 1, by omega, by rw [Hn.out]; go_num, by go_num, Lib.hid (by first | rfl | trivial)⟩
                          case measure => simp [intOf] <;> omega
                        · obtain rfl : k = 5 := by omega
                          generalize hpp : pvV K [R1, 0, 0, 0, 0] 5 = p at *
                          have Hpp := Lib.hid hpp
                          clear hpp
                          go_wp2
                          go_ret2
                          exact ⟨ret2ii (by rw [HKe.out, EK.out]; rfl) (by rw [HKe.out, HDe.out, Hpp.out]), HBf.out⟩
                    · skip
                      have EK : Hid (K = 6) := Lib.hid (by rw [E.out, kd, k4, k3, kq]; rfl)
                      rw [k4] at f4
                      rw [k3] at f3
                      rw [kq] at fq
                      have HP0 : Hid (pvV K [R1, 0, 0, 0, 0] 0 = K) := Lib.hid rfl
                      clear E kd k4 k3 kq
                      go_wp2_with fail
                      have Hdg := Lib.hid (fun k (hk : k < 5) => digR5 w5 R1 2 k hk)
                      have HBf := Lib.hid (HBe.out.alloc HBe.out.size (.cells #[.int .i64 (R1 : Int), .int .i64 0, .int .i64 0, .int .i64 0, .int .i64 0] 2))
                      generalize w5.alloc (.cells #[.int .i64 (R1 : Int), .int .i64 0, .int .i64 0, .int .i64 0, .int .i64 0] 2) = w6 at *
                      go_loopw [15, 134] (fun xv kv wr => ∃ k : Nat, k ≤ 5 ∧ xv = .int .i64 (pvV K [R1, 0, 0, 0, 0] k : Nat) ∧ kv = .int .i64 (k : Int) ∧ Hid (wr = w6)) (fun _ kv _ => 5 - (intOf kv).toNat)
                      case atStart => exact ⟨0, Nat.zero_le _, by rw [HP0.out, EK.out]; rfl, rfl, Lib.hid rfl⟩
                      case round =>
                        obtain ⟨k, hk, rfl, rfl, hw⟩ := hrel
                        obtain rfl := hw.out
                        have hp := HP.out k hk
                        by_cases hlt : k < 5
                        · have hn := pvV_next K [R1, 0, 0, 0, 0] k
                          have hp2 := HP.out (k + 1) (by omega)
                          have hx := Hdg.out k hlt
                          have hx12 := HD12.out k hlt
                          rw [hn] at hp2
                          have Hn := Lib.hid hn
                          clear hn
                          generalize pvV K [R1, 0, 0, 0, 0] k = p at *
                          generalize [R1, 0, 0, 0, 0].getD k 0 = x at *
                          go_wp2
                          go_roundw
                          case rel => exact ⟨k + 1, by omega, by rw [Hn.out]; go_num, by go_num, Lib.hid (by first | rfl | trivial)⟩
                          case measure => simp [intOf] <;> omega
                        · obtain rfl : k = 5 := by omega
                          generalize hpp : pvV K [R1, 0, 0, 0, 0] 5 = p at *
                          have Hpp := Lib.hid hpp
                          clear hpp
                          go_wp2
                          go_ret2
                          exact ⟨ret2ii (by rw [HKe.out, EK.out]; rfl) (by rw [HKe.out, HDe.out, Hpp.out]), HBf.out⟩
                · skip
                  have EK : Hid (K = 7) := Lib.hid (by rw [E.out, kd, k4]; rfl)
                  rw [k4] at f4
                  have HP0 : Hid (pvV K [R1, 0, 0, 0, 0] 0 = K) := Lib.hid rfl
                  clear E kd k4
                  go_wp2_with fail
                  have Hdg := Lib.hid (fun k (hk : k < 5) => digR5 w5 R1 2 k hk)
                  have HBf := Lib.hid (HBe.out.alloc HBe.out.size (.cells #[.int .i64 (R1 : Int), .int .i64 0, .int .i64 0, .int .i64 0, .int .i64 0] 2))
                  generalize w5.alloc (.cells #[.int .i64 (R1 : Int), .int .i64 0, .int .i64 0, .int .i64 0, .int .i64 0] 2) = w6 at *
                  go_loopw [15, 134] (fun xv kv wr => ∃ k : Nat, k ≤ 5 ∧ xv = .int .i64 (pvV K [R1, 0, 0, 0, 0] k : Nat) ∧ kv = .int .i64 (k : Int) ∧ Hid (wr = w6)) (fun _ kv _ => 5 - (intOf kv).toNat)
                  case atStart => exact ⟨0, Nat.zero_le _, by rw [HP0.out, EK.out]; rfl, rfl, Lib.hid rfl⟩
                  case round =>
                    obtain ⟨k, hk, rfl, rfl, hw⟩ := hrel
                    obtain rfl := hw.out
                    have hp := HP.out k hk
                    by_cases hlt : k < 5
                    · have hn := pvV_next K [R1, 0, 0, 0, 0] k
                      have hp2 := HP.out (k + 1) (by omega)
                      have hx := Hdg.out k hlt
                      have hx12 := HD12.out k hlt
                      rw [hn] at hp2
                      have Hn := Lib.hid hn
                      clear hn
                      generalize pvV K [R1, 0, 0, 0, 0] k = p at *
                      generalize [R1, 0, 0, 0, 0].getD k 0 = x at *
                      go_wp2
                      go_roundw
                      case rel => exact ⟨k + 1, by omega, by rw [Hn.out]; go_num, by go_num, Lib.hid (by first | rfl | trivial)⟩
                      case measure => simp [intOf] <;> omega
                    · obtain rfl : k = 5 := by omega
                      generalize hpp : pvV K [R1, 0, 0, 0, 0] 5 = p at *
                      have Hpp := Lib.hid hpp
                      clear hpp
                      go_wp2
                      go_ret2
                      exact ⟨ret2ii (by rw [HKe.out, EK.out]; rfl) (by rw [HKe.out, HDe.out, Hpp.out]), HBf.out⟩
              · cases k4 : (m0 == 4)
                · have hm01 : m0 = 1 := by rw [beq_eq_false_iff_ne] at k4; rcases hM2 with (h | h) | h <;> omega
                  have k3 : (m0 == 3) = false := by rw [hm01]; rfl
                  have k2 : (m0 == 2) = false := by rw [hm01]; rfl
                  clear hm01
                  have EK : Hid (K = 4) := Lib.hid (by rw [E.out, kd, k4, k3, k2]; rfl)
                  rw [k4] at f4
                  rw [k3] at f3
                  rw [k2] at f2
                  have HP0 : Hid (pvV K [R1, 0, 0, 0, 0] 0 = K) := Lib.hid rfl
                  clear E kd k4 k3 k2
                  go_wp2_with fail
                  have Hdg := Lib.hid (fun k (hk : k < 5) => digR5 w5 R1 2 k hk)
                  have HBf := Lib.hid (HBe.out.alloc HBe.out.size (.cells #[.int .i64 (R1 : Int), .int .i64 0, .int .i64 0, .int .i64 0, .int .i64 0] 2))
                  generalize w5.alloc (.cells #[.int .i64 (R1 : Int), .int .i64 0, .int .i64 0, .int .i64 0, .int .i64 0] 2) = w6 at *
                  go_loopw [15, 134] (fun xv kv wr => ∃ k : Nat, k ≤ 5 ∧ xv = .int .i64 (pvV K [R1, 0, 0, 0, 0] k : Nat) ∧ kv = .int .i64 (k : Int) ∧ Hid (wr = w6)) (fun _ kv _ => 5 - (intOf kv).toNat)
                  case atStart => exact ⟨0, Nat.zero_le _, by rw [HP0.out, EK.out]; rfl, rfl, Lib.hid rfl⟩
                  case round =>
                    obtain ⟨k, hk, rfl, rfl, hw⟩ := hrel
                    obtain rfl := hw.out
                    have hp := HP.out k hk
                    by_cases hlt : k < 5
                    · have hn := pvV_next K [R1, 0, 0, 0, 0] k
                      have hp2 := HP.out (k + 1) (by omega)
                      have hx := Hdg.out k hlt
                      have hx12 := HD12.out k hlt
                      rw [hn] at hp2
                      have Hn := Lib.hid hn
                      clear hn
                      generalize pvV K [R1, 0, 0, 0, 0] k = p at *
                      generalize [R1, 0, 0, 0, 0].getD k 0 = x at *
                      go_wp2
                      go_roundw
                      case rel => exact ⟨k + 1, by omega, by rw [Hn.out]; go_num, by go_num, Lib.hid (by first | rfl | trivial)⟩
                      case measure => simp [intOf] <;> omega
                    · obtain rfl : k = 5 := by omega
                      generalize hpp : pvV K [R1, 0, 0, 0, 0] 5 = p at *
                      have Hpp := Lib.hid hpp
                      clear hpp
                      go_wp2
                      go_ret2
                      exact ⟨ret2ii (by rw [HKe.out, EK.out]; rfl) (by rw [HKe.out, HDe.out, Hpp.out]), HBf.out⟩
                · skip
                  have EK : Hid (K = 7) := Lib.hid (by rw [E.out, kd, k4]; rfl)
                  rw [k4] at f4
                  have HP0 : Hid (pvV K [R1, 0, 0, 0, 0] 0 = K) := Lib.hid rfl
                  clear E kd k4
                  go_wp2_with fail
                  have Hdg := Lib.hid (fun k (hk : k < 5) => digR5 w5 R1 2 k hk)
                  have HBf := Lib.hid (HBe.out.alloc HBe.out.size (.cells #[.int .i64 (R1 : Int), .int .i64 0, .int .i64 0, .int .i64 0, .int .i64 0] 2))
                  generalize w5.alloc (.cells #[.int .i64 (R1 : Int), .int .i64 0, .int .i64 0, .int .i64 0, .int .i64 0] 2) = w6 at *
                  go_loopw [15, 134] (fun xv kv wr => ∃ k : Nat, k ≤ 5 ∧ xv = .int .i64 (pvV K [R1, 0, 0, 0, 0] k : Nat) ∧ kv = .int .i64 (k : Int) ∧ Hid (wr = w6)) (fun _ kv _ => 5 - (intOf kv).toNat)
                  case atStart => exact ⟨0, Nat.zero_le _, by rw [HP0.out, EK.out]; rfl, rfl, Lib.hid rfl⟩
                  case round =>
                    obtain ⟨k, hk, rfl, rfl, hw⟩ := hrel
                    obtain rfl := hw.out
                    have hp := HP.out k hk
                    by_cases hlt : k < 5
                    · have hn := pvV_next K [R1, 0, 0, 0, 0] k
                      have hp2 := HP.out (k + 1) (by omega)
                      have hx := Hdg.out k hlt
                      have hx12 := HD12.out k hlt
                      rw [hn] at hp2
                      have Hn := Lib.hid hn
                      clear hn
                      generalize pvV K [R1, 0, 0, 0, 0] k = p at *
                      generalize [R1, 0, 0, 0, 0].getD k 0 = x at *
                      go_wp2
                      go_roundw
                      case rel => exact ⟨k + 1, by omega, by rw [Hn.out]; go_num, by go_num, Lib.hid (by first | rfl | trivial)⟩
                      case measure => simp [intOf] <;> omega
                    · obtain rfl : k = 5 := by omega
                      generalize hpp : pvV K [R1, 0, 0, 0, 0] 5 = p at *
                      have Hpp := Lib.hid hpp
                      clear hpp
                      go_wp2
                      go_ret2
                      exact ⟨ret2ii (by rw [HKe.out, EK.out]; rfl) (by rw [HKe.out, HDe.out, Hpp.out]), HBf.out⟩
            · skip
              have EK : Hid (K = 8) := Lib.hid (by rw [E.out, kd]; rfl)
              have HP0 : Hid (pvV K [R1, 0, 0, 0, 0] 0 = K) := Lib.hid rfl
              clear E kd 
              go_wp2_with fail
              have Hdg := Lib.hid (fun k (hk : k < 5) => digR5 w5 R1 2 k hk)
              have HBf := Lib.hid (HBe.out.alloc HBe.out.size (.cells #[.int .i64 (R1 : Int), .int .i64 0, .int .i64 0, .int .i64 0, .int .i64 0] 2))
              generalize w5.alloc (.cells #[.int .i64 (R1 : Int), .int .i64 0, .int .i64 0, .int .i64 0, .int .i64 0] 2) = w6 at *
              go_loopw [15, 134] (fun xv kv wr => ∃ k : Nat, k ≤ 5 ∧ xv = .int .i64 (pvV K [R1, 0, 0, 0, 0] k : Nat) ∧ kv = .int .i64 (k : Int) ∧ Hid (wr = w6)) (fun _ kv _ => 5 - (intOf kv).toNat)
              case atStart => exact ⟨0, Nat.zero_le _, by rw [HP0.out, EK.out]; rfl, rfl, Lib.hid rfl⟩
              case round =>
                obtain ⟨k, hk, rfl, rfl, hw⟩ := hrel
                obtain rfl := hw.out
                have hp := HP.out k hk
                by_cases hlt : k < 5
                · have hn := pvV_next K [R1, 0, 0, 0, 0] k
                  have hp2 := HP.out (k + 1) (by omega)
                  have hx := Hdg.out k hlt
                  have hx12 := HD12.out k hlt
                  rw [hn] at hp2
                  have Hn := Lib.hid hn
                  clear hn
                  generalize pvV K [R1, 0, 0, 0, 0] k = p at *
                  generalize [R1, 0, 0, 0, 0].getD k 0 = x at *
                  go_wp2
                  go_roundw
                  case rel => exact ⟨k + 1, by omega, by rw [Hn.out]; go_num, by go_num, Lib.hid (by first | rfl | trivial)⟩
                  case measure => simp [intOf] <;> omega
                · obtain rfl : k = 5 := by omega
                  generalize hpp : pvV K [R1, 0, 0, 0, 0] 5 = p at *
                  have Hpp := Lib.hid hpp
                  clear hpp
                  go_wp2
                  go_ret2
                  exact ⟨ret2ii (by rw [HKe.out, EK.out]; rfl) (by rw [HKe.out, HDe.out, Hpp.out]), HBf.out⟩
          · have er : ((RC : Nat) : Int) - 1 = -1 := by omega
            rw [er]
            have kd : decide (1 ≤ RC) = false := decide_eq_false hrow
            have HDe : Hid (digC C = [t0, t1, t2, t3, t4]) := Lib.hid (by rw [HDq.out, if_neg hrow])
            have HD12 := Lib.hid (five_le (hK12 _ (by simp)) (hK12 _ (by simp)) (hK12 _ (by simp)) (hK12 _ (by simp)) (hK12 _ (by simp)) : ∀ j, j < 5 → [t0, t1, t2, t3, t4].getD j 0 ≤ 12)
            have HP := Lib.hid (fun k hk => pvV_bd K [t0, t1, t2, t3, t4] hK8 HD12.out k hk)
            have Hdg := Lib.hid hcco
            rw [hl5]
            clear er HDq hrow hcco hl5
            cases one
            · skip
              by_cases h2 : 2 ≤ ml
              · have c1 := HM1c.out h2
                cases k4 : (m0 == 4)
                · cases k3 : (m0 == 3)
                  · cases k2 : (m0 == 2)
                    · skip
                      have EK : Hid (K = 0) := Lib.hid (by rw [E.out, kd, k4, k3, k2]; rfl)
                      rw [k4] at f4
                      rw [k3] at f3
                      rw [k2] at f2
                      have HP0 : Hid (pvV K [t0, t1, t2, t3, t4] 0 = K) := Lib.hid rfl
                      clear E kd k4 k3 k2
                      go_wp2_with fail
                      have HBf := HBe
                      obtain ⟨w6, rfl⟩ : ∃ z, z = w5 := ⟨_, rfl⟩
                      go_loopw [15, 134] (fun xv kv wr => ∃ k : Nat, k ≤ 5 ∧ xv = .int .i64 (pvV K [t0, t1, t2, t3, t4] k : Nat) ∧ kv = .int .i64 (k : Int) ∧ Hid (wr = w6)) (fun _ kv _ => 5 - (intOf kv).toNat)
                      case atStart => exact ⟨0, Nat.zero_le _, by rw [HP0.out, EK.out]; rfl, rfl, Lib.hid rfl⟩
                      case round =>
                        obtain ⟨k, hk, rfl, rfl, hw⟩ := hrel
                        obtain rfl := hw.out
                        have hp := HP.out k hk
                        by_cases hlt : k < 5
                        · have hn := pvV_next K [t0, t1, t2, t3, t4] k
                          have hp2 := HP.out (k + 1) (by omega)
                          have hx := Hdg.out k hlt
                          have hx12 := HD12.out k hlt
                          rw [hn] at hp2
                          have Hn := Lib.hid hn
                          clear hn
                          generalize pvV K [t0, t1, t2, t3, t4] k = p at *
                          generalize [t0, t1, t2, t3, t4].getD k 0 = x at *
                          go_wp2
                          go_roundw
                          case rel => exact ⟨k + 1, by omega, by rw [Hn.out]; go_num, by go_num, Lib.hid (by first | rfl | trivial)⟩
                          case measure => simp [intOf] <;> omega
                        · obtain rfl : k = 5 := by omega
                          generalize hpp : pvV K [t0, t1, t2, t3, t4] 5 = p at *
                          have Hpp := Lib.hid hpp
                          clear hpp
                          go_wp2
                          go_ret2
                          exact ⟨ret2ii (by rw [HKe.out, EK.out]; rfl) (by rw [HKe.out, HDe.out, Hpp.out]), HBf.out⟩
                    · cases kq : (m1 == 2)
                      · skip
                        have EK : Hid (K = 1) := Lib.hid (by rw [E.out, kd, k4, k3, k2, kq]; rfl)
                        rw [k4] at f4
                        rw [k3] at f3
                        rw [k2] at f2
                        rw [kq] at fq
                        have HP0 : Hid (pvV K [t0, t1, t2, t3, t4] 0 = K) := Lib.hid rfl
                        clear E kd k4 k3 k2 kq
                        go_wp2_with fail
                        have HBf := HBe
                        obtain ⟨w6, rfl⟩ : ∃ z, z = w5 := ⟨_, rfl⟩
                        go_loopw [15, 134] (fun xv kv wr => ∃ k : Nat, k ≤ 5 ∧ xv = .int .i64 (pvV K [t0, t1, t2, t3, t4] k : Nat) ∧ kv = .int .i64 (k : Int) ∧ Hid (wr = w6)) (fun _ kv _ => 5 - (intOf kv).toNat)
                        case atStart => exact ⟨0, Nat.zero_le _, by rw [HP0.out, EK.out]; rfl, rfl, Lib.hid rfl⟩
                        case round =>
                          obtain ⟨k, hk, rfl, rfl, hw⟩ := hrel
                          obtain rfl := hw.out
                          have hp := HP.out k hk
                          by_cases hlt : k < 5
                          · have hn := pvV_next K [t0, t1, t2, t3, t4] k
                            have hp2 := HP.out (k + 1) (by omega)
                            have hx := Hdg.out k hlt
                            have hx12 := HD12.out k hlt
                            rw [hn] at hp2
                            have Hn := Lib.hid hn
                            clear hn
                            generalize pvV K [t0, t1, t2, t3, t4] k = p at *
                            generalize [t0, t1, t2, t3, t4].getD k 0 = x at *
                            go_wp2
                            go_roundw
                            case rel => exact ⟨k + 1, by omega, by rw [Hn.out]; go_num, by go_num, Lib.hid (by first | rfl | trivial)⟩
                            case measure => simp [intOf] <;> omega
                          · obtain rfl : k = 5 := by omega
                            generalize hpp : pvV K [t0, t1, t2, t3, t4] 5 = p at *
                            have Hpp := Lib.hid hpp
                            clear hpp
                            go_wp2
                            go_ret2
                            exact ⟨ret2ii (by rw [HKe.out, EK.out]; rfl) (by rw [HKe.out, HDe.out, Hpp.out]), HBf.out⟩
                      · skip
                        have EK : Hid (K = 2) := Lib.hid (by rw [E.out, kd, k4, k3, k2, kq]; rfl)
                        rw [k4] at f4
                        rw [k3] at f3
                        rw [k2] at f2
                        rw [kq] at fq
                        have HP0 : Hid (pvV K [t0, t1, t2, t3, t4] 0 = K) := Lib.hid rfl
                        clear E kd k4 k3 k2 kq
                        go_wp2_with fail
                        have HBf := HBe
                        obtain ⟨w6, rfl⟩ : ∃ z, z = w5 := ⟨_, rfl⟩
                        go_loopw [15, 134] (fun xv kv wr => ∃ k : Nat, k ≤ 5 ∧ xv = .int .i64 (pvV K [t0, t1, t2, t3, t4] k : Nat) ∧ kv = .int .i64 (k : Int) ∧ Hid (wr = w6)) (fun _ kv _ => 5 - (intOf kv).toNat)
                        case atStart => exact ⟨0, Nat.zero_le _, by rw [HP0.out, EK.out]; rfl, rfl, Lib.hid rfl⟩
                        case round =>
                          obtain ⟨k, hk, rfl, rfl, hw⟩ := hrel
                          obtain rfl := hw.out
                          have hp := HP.out k hk
                          by_cases hlt : k < 5
                          · have hn := pvV_next K [t0, t1, t2, t3, t4] k
                            have hp2 := HP.out (k + 1) (by omega)
                            have hx := Hdg.out k hlt
                            have hx12 := HD12.out k hlt
                            rw [hn] at hp2
                            have Hn := Lib.hid hn
                            clear hn
                            generalize pvV K [t0, t1, t2, t3, t4] k = p at *
                            generalize [t0, t1, t2, t3, t4].getD k 0 = x at *
                            go_wp2
                            go_roundw
                            case rel => exact ⟨k + 1, by omega, by rw [Hn.out]; go_num, by go_num, Lib.hid (by first | rfl | trivial)⟩
                            case measure => simp [intOf] <;> omega
                          · obtain rfl : k = 5 := by omega
                            generalize hpp : pvV K [t0, t1, t2, t3, t4] 5 = p at *
                            have Hpp := Lib.hid hpp
                            clear hpp
                            go_wp2
                            go_ret2
                            exact ⟨ret2ii (by rw [HKe.out, EK.out]; rfl) (by rw [HKe.out, HDe.out, Hpp.out]), HBf.out⟩
                  · cases kq : (m1 == 2)
                    · have k2 : (m0 == 2) = false := by rw [beq_eq_false_iff_ne]; rw [beq_iff_eq] at k3; omega
                      have EK : Hid (K = 3) := Lib.hid (by rw [E.out, kd, k4, k3, kq]; rfl)
                      rw [k4] at f4
                      rw [k3] at f3
                      rw [kq] at fq
                      have HP0 : Hid (pvV K [t0, t1, t2, t3, t4] 0 = K) := Lib.hid rfl
                      clear E kd k4 k3 kq
                      go_wp2_with fail
                      have HBf := HBe
                      obtain ⟨w6, rfl⟩ : ∃ z, z = w5 := ⟨_, rfl⟩
                      go_loopw [15, 134] (fun xv kv wr => ∃ k : Nat, k ≤ 5 ∧ xv = .int .i64 (pvV K [t0, t1, t2, t3, t4] k : Nat) ∧ kv = .int .i64 (k : Int) ∧ Hid (wr = w6)) (fun _ kv _ => 5 - (intOf kv).toNat)
                      case atStart => exact ⟨0, Nat.zero_le _, by rw [HP0.out, EK.out]; rfl, rfl, Lib.hid rfl⟩
                      case round =>
                        obtain ⟨k, hk, rfl, rfl, hw⟩ := hrel
                        obtain rfl := hw.out
                        have hp := HP.out k hk
                        by_cases hlt : k < 5
                        · have hn := pvV_next K [t0, t1, t2, t3, t4] k
                          have hp2 := HP.out (k + 1) (by omega)
                          have hx := Hdg.out k hlt
                          have hx12 := HD12.out k hlt
                          rw [hn] at hp2
                          have Hn := Lib.hid hn
                          clear hn
                          generalize pvV K [t0, t1, t2, t3, t4] k = p at *
                          generalize [t0, t1, t2, t3, t4].getD k 0 = x at *
                          go_wp2
                          go_roundw
                          case rel => exact ⟨k + 1, by omega, by rw [Hn.out]; go_num, by go_num, Lib.hid (by first | rfl | trivial)⟩
                          case measure => simp [intOf] <;> omega
                        · obtain rfl : k = 5 := by omega
                          generalize hpp : pvV K [t0, t1, t2, t3, t4] 5 = p at *
                          have Hpp := Lib.hid hpp
                          clear hpp
                          go_wp2
                          go_ret2
                          exact ⟨ret2ii (by rw [HKe.out, EK.out]; rfl) (by rw [HKe.out, HDe.out, Hpp.out]), HBf.out⟩
                    · skip
                      have EK : Hid (K = 6) := Lib.hid (by rw [E.out, kd, k4, k3, kq]; rfl)
                      rw [k4] at f4
                      rw [k3] at f3
                      rw [kq] at fq
                      have HP0 : Hid (pvV K [t0, t1, t2, t3, t4] 0 = K) := Lib.hid rfl
                      clear E kd k4 k3 kq
                      go_wp2_with fail
                      have HBf := HBe
                      obtain ⟨w6, rfl⟩ : ∃ z, z = w5 := ⟨_, rfl⟩
                      go_loopw [15, 134] (fun xv kv wr => ∃ k : Nat, k ≤ 5 ∧ xv = .int .i64 (pvV K [t0, t1, t2, t3, t4] k : Nat) ∧ kv = .int .i64 (k : Int) ∧ Hid (wr = w6)) (fun _ kv _ => 5 - (intOf kv).toNat)
                      case atStart => exact ⟨0, Nat.zero_le _, by rw [HP0.out, EK.out]; rfl, rfl, Lib.hid rfl⟩
                      case round =>
                        obtain ⟨k, hk, rfl, rfl, hw⟩ := hrel
                        obtain rfl := hw.out
                        have hp := HP.out k hk
                        by_cases hlt : k < 5
                        · have hn := pvV_next K [t0, t1, t2, t3, t4] k
                          have hp2 := HP.out (k + 1) (by omega)
                          have hx := Hdg.out k hlt
                          have hx12 := HD12.out k hlt
                          rw [hn] at hp2
                          have Hn := Lib.hid hn
                          clear hn
                          generalize pvV K [t0, t1, t2, t3, t4] k = p at *
                          generalize [t0, t1, t2, t3, t4].getD k 0 = x at *
                          go_wp2
                          go_roundw
                          case rel => exact ⟨k + 1, by omega, by rw [Hn.out]; go_num, by go_num, Lib.hid (by first | rfl | trivial)⟩
                          case measure => simp [intOf] <;> omega
                        · obtain rfl : k = 5 := by omega
                          generalize hpp : pvV K [t0, t1, t2, t3, t4] 5 = p at *
                          have Hpp := Lib.hid hpp
                          clear hpp
                          go_wp2
                          go_ret2
                          exact ⟨ret2ii (by rw [HKe.out, EK.out]; rfl) (by rw [HKe.out, HDe.out, Hpp.out]), HBf.out⟩
                · skip
                  have EK : Hid (K = 7) := Lib.hid (by rw [E.out, kd, k4]; rfl)
                  rw [k4] at f4
                  have HP0 : Hid (pvV K [t0, t1, t2, t3, t4] 0 = K) := Lib.hid rfl
                  clear E kd k4
                  go_wp2_with fail
                  have HBf := HBe
                  obtain ⟨w6, rfl⟩ : ∃ z, z = w5 := ⟨_, rfl⟩
                  go_loopw [15, 134] (fun xv kv wr => ∃ k : Nat, k ≤ 5 ∧ xv = .int .i64 (pvV K [t0, t1, t2, t3, t4] k : Nat) ∧ kv = .int .i64 (k : Int) ∧ Hid (wr = w6)) (fun _ kv _ => 5 - (intOf kv).toNat)
                  case atStart => exact ⟨0, Nat.zero_le _, by rw [HP0.out, EK.out]; rfl, rfl, Lib.hid rfl⟩
                  case round =>
                    obtain ⟨k, hk, rfl, rfl, hw⟩ := hrel
                    obtain rfl := hw.out
                    have hp := HP.out k hk
                    by_cases hlt : k < 5
                    · have hn := pvV_next K [t0, t1, t2, t3, t4] k
                      have hp2 := HP.out (k + 1) (by omega)
                      have hx := Hdg.out k hlt
                      have hx12 := HD12.out k hlt
                      rw [hn] at hp2
                      have Hn := Lib.hid hn
                      clear hn
                      generalize pvV K [t0, t1, t2, t3, t4] k = p at *
                      generalize [t0, t1, t2, t3, t4].getD k 0 = x at *
                      go_wp2
                      go_roundw
                      case rel => exact ⟨k + 1, by omega, by rw [Hn.out]; go_num, by go_num, Lib.hid (by first | rfl | trivial)⟩
                      case measure => simp [intOf] <;> omega
                    · obtain rfl : k = 5 := by omega
                      generalize hpp : pvV K [t0, t1, t2, t3, t4] 5 = p at *
                      have Hpp := Lib.hid hpp
                      clear hpp
                      go_wp2
                      go_ret2
                      exact ⟨ret2ii (by rw [HKe.out, EK.out]; rfl) (by rw [HKe.out, HDe.out, Hpp.out]), HBf.out⟩
              · cases k4 : (m0 == 4)
                · have hm01 : m0 = 1 := by rw [beq_eq_false_iff_ne] at k4; rcases hM2 with (h | h) | h <;> omega
                  have k3 : (m0 == 3) = false := by rw [hm01]; rfl
                  have k2 : (m0 == 2) = false := by rw [hm01]; rfl
                  clear hm01
                  have EK : Hid (K = 0) := Lib.hid (by rw [E.out, kd, k4, k3, k2]; rfl)
                  rw [k4] at f4
                  rw [k3] at f3
                  rw [k2] at f2
                  have HP0 : Hid (pvV K [t0, t1, t2, t3, t4] 0 = K) := Lib.hid rfl
                  clear E kd k4 k3 k2
                  go_wp2_with fail
                  have HBf := HBe
                  obtain ⟨w6, rfl⟩ : ∃ z, z = w5 := ⟨_, rfl⟩
                  go_loopw [15, 134] (fun xv kv wr => ∃ k : Nat, k ≤ 5 ∧ xv = .int .i64 (pvV K [t0, t1, t2, t3, t4] k : Nat) ∧ kv = .int .i64 (k : Int) ∧ Hid (wr = w6)) (fun _ kv _ => 5 - (intOf kv).toNat)
                  case atStart => exact ⟨0, Nat.zero_le _, by rw [HP0.out, EK.out]; rfl, rfl, Lib.hid rfl⟩
                  case round =>
                    obtain ⟨k, hk, rfl, rfl, hw⟩ := hrel
                    obtain rfl := hw.out
                    have hp := HP.out k hk
                    by_cases hlt : k < 5
                    · have hn := pvV_next K [t0, t1, t2, t3, t4] k
                      have hp2 := HP.out (k + 1) (by omega)
                      have hx := Hdg.out k hlt
                      have hx12 := HD12.out k hlt
                      rw [hn] at hp2
                      have Hn := Lib.hid hn
                      clear hn
                      generalize pvV K [t0, t1, t2, t3, t4] k = p at *
                      generalize [t0, t1, t2, t3, t4].getD k 0 = x at *
                      go_wp2
                      go_roundw
                      case rel => exact ⟨k + 1, by omega, by rw [Hn.out]; go_num, by go_num, Lib.hid (by first | rfl | trivial)⟩
                      case measure => simp [intOf] <;> omega
                    · obtain rfl : k = 5 := by omega
                      generalize hpp : pvV K [t0, t1, t2, t3, t4] 5 = p at *
                      have Hpp := Lib.hid hpp
                      clear hpp
                      go_wp2
                      go_ret2
                      exact ⟨ret2ii (by rw [HKe.out, EK.out]; rfl) (by rw [HKe.out, HDe.out, Hpp.out]), HBf.out⟩
                · skip
                  have EK : Hid (K = 7) := Lib.hid (by rw [E.out, kd, k4]; rfl)
                  rw [k4] at f4
                  have HP0 : Hid (pvV K [t0, t1, t2, t3, t4] 0 = K) := Lib.hid rfl
                  clear E kd k4
                  go_wp2_with fail
                  have HBf := HBe
                  obtain ⟨w6, rfl⟩ : ∃ z, z = w5 := ⟨_, rfl⟩
                  go_loopw [15, 134] (fun xv kv wr => ∃ k : Nat, k ≤ 5 ∧ xv = .int .i64 (pvV K [t0, t1, t2, t3, t4] k : Nat) ∧ kv = .int .i64 (k : Int) ∧ Hid (wr = w6)) (fun _ kv _ => 5 - (intOf kv).toNat)
                  case atStart => exact ⟨0, Nat.zero_le _, by rw [HP0.out, EK.out]; rfl, rfl, Lib.hid rfl⟩
                  case round =>
                    obtain ⟨k, hk, rfl, rfl, hw⟩ := hrel
                    obtain rfl := hw.out
                    have hp := HP.out k hk
                    by_cases hlt : k < 5
                    · have hn := pvV_next K [t0, t1, t2, t3, t4] k
                      have hp2 := HP.out (k + 1) (by omega)
                      have hx := Hdg.out k hlt
                      have hx12 := HD12.out k hlt
                      rw [hn] at hp2
                      have Hn := Lib.hid hn
                      clear hn
                      generalize pvV K [t0, t1, t2, t3, t4] k = p at *
                      generalize [t0, t1, t2, t3, t4].getD k 0 = x at *
                      go_wp2
                      go_roundw
                      case rel => exact ⟨k + 1, by omega, by rw [Hn.out]; go_num, by go_num, Lib.hid (by first | rfl | trivial)⟩
                      case measure => simp [intOf] <;> omega
                    · obtain rfl : k = 5 := by omega
                      generalize hpp : pvV K [t0, t1, t2, t3, t4] 5 = p at *
                      have Hpp := Lib.hid hpp
                      clear hpp
                      go_wp2
                      go_ret2
                      exact ⟨ret2ii (by rw [HKe.out, EK.out]; rfl) (by rw [HKe.out, HDe.out, Hpp.out]), HBf.out⟩
            · skip
              by_cases h2 : 2 ≤ ml
              · have c1 := HM1c.out h2
                cases k4 : (m0 == 4)
                · cases k3 : (m0 == 3)
                  · cases k2 : (m0 == 2)
                    · skip
                      have EK : Hid (K = 5) := Lib.hid (by rw [E.out, kd, k4, k3, k2]; rfl)
                      rw [k4] at f4
                      rw [k3] at f3
                      rw [k2] at f2
                      have HP0 : Hid (pvV K [t0, t1, t2, t3, t4] 0 = K) := Lib.hid rfl
                      clear E kd k4 k3 k2
                      go_wp2_with fail
                      have HBf := HBe
                      obtain ⟨w6, rfl⟩ : ∃ z, z = w5 := ⟨_, rfl⟩
                      go_loopw [15, 134] (fun xv kv wr => ∃ k : Nat, k ≤ 5 ∧ xv = .int .i64 (pvV K [t0, t1, t2, t3, t4] k : Nat) ∧ kv = .int .i64 (k : Int) ∧ Hid (wr = w6)) (fun _ kv _ => 5 - (intOf kv).toNat)
                      case atStart => exact ⟨0, Nat.zero_le _, by rw [HP0.out, EK.out]; rfl, rfl, Lib.hid rfl⟩
                      case round =>
                        obtain ⟨k, hk, rfl, rfl, hw⟩ := hrel
                        obtain rfl := hw.out
                        have hp := HP.out k hk
                        by_cases hlt : k < 5
                        · have hn := pvV_next K [t0, t1, t2, t3, t4] k
                          have hp2 := HP.out (k + 1) (by omega)
                          have hx := Hdg.out k hlt
                          have hx12 := HD12.out k hlt
                          rw [hn] at hp2
                          have Hn := Lib.hid hn
                          clear hn
                          generalize pvV K [t0, t1, t2, t3, t4] k = p at *
                          generalize [t0, t1, t2, t3, t4].getD k 0 = x at *
                          go_wp2
                          go_roundw
                          case rel => exact ⟨k + 1, by omega, by rw [Hn.out]; go_num, by go_num, Lib.hid (by first | rfl | trivial)⟩
                          case measure => simp [intOf] <;> omega
                        · obtain rfl : k = 5 := by omega
                          generalize hpp : pvV K [t0, t1, t2, t3, t4] 5 = p at *
                          have Hpp := Lib.hid hpp
                          clear hpp
                          go_wp2
                          go_ret2
                          exact ⟨ret2ii (by rw [HKe.out, EK.out]; rfl) (by rw [HKe.out, HDe.out, Hpp.out]), HBf.out⟩
                    · cases kq : (m1 == 2)
                      · skip
                        have EK : Hid (K = 5) := Lib.hid (by rw [E.out, kd, k4, k3, k2, kq]; rfl)
                        rw [k4] at f4
                        rw [k3] at f3
                        rw [k2] at f2
                        rw [kq] at fq
                        have HP0 : Hid (pvV K [t0, t1, t2, t3, t4] 0 = K) := Lib.hid rfl
                        clear E kd k4 k3 k2 kq
                        go_wp2_with fail
                        have HBf := HBe
                        obtain ⟨w6, rfl⟩ : ∃ z, z = w5 := ⟨_, rfl⟩
                        go_loopw [15, 134] (fun xv kv wr => ∃ k : Nat, k ≤ 5 ∧ xv = .int .i64 (pvV K [t0, t1, t2, t3, t4] k : Nat) ∧ kv = .int .i64 (k : Int) ∧ Hid (wr = w6)) (fun _ kv _ => 5 - (intOf kv).toNat)
                        case atStart => exact ⟨0, Nat.zero_le _, by rw [HP0.out, EK.out]; rfl, rfl, Lib.hid rfl⟩
                        case round =>
                          obtain ⟨k, hk, rfl, rfl, hw⟩ := hrel
                          obtain rfl := hw.out
                          have hp := HP.out k hk
                          by_cases hlt : k < 5
                          · have hn := pvV_next K [t0, t1, t2, t3, t4] k
                            have hp2 := HP.out (k + 1) (by omega)
                            have hx := Hdg.out k hlt
                            have hx12 := HD12.out k hlt
                            rw [hn] at hp2
                            have Hn := Lib.hid hn
                            clear hn
                            generalize pvV K [t0, t1, t2, t3, t4] k = p at *
                            generalize [t0, t1, t2, t3, t4].getD k 0 = x at *
                            go_wp2
                            go_roundw
                            case rel => exact ⟨k + 1, by omega, by rw [Hn.out]; go_num, by go_num, Lib.hid (by first | rfl | trivial)⟩
                            case measure => simp [intOf] <;> omega
                          · obtain rfl : k = 5 := by omega
                            generalize hpp : pvV K [t0, t1, t2, t3, t4] 5 = p at *
                            have Hpp := Lib.hid hpp
                            clear hpp
                            go_wp2
                            go_ret2
                            exact ⟨ret2ii (by rw [HKe.out, EK.out]; rfl) (by rw [HKe.out, HDe.out, Hpp.out]), HBf.out⟩
                      · skip
                        have EK : Hid (K = 5) := Lib.hid (by rw [E.out, kd, k4, k3, k2, kq]; rfl)
                        rw [k4] at f4
                        rw [k3] at f3
                        rw [k2] at f2
                        rw [kq] at fq
                        have HP0 : Hid (pvV K [t0, t1, t2, t3, t4] 0 = K) := Lib.hid rfl
                        clear E kd k4 k3 k2 kq
                        go_wp2_with fail
                        have HBf := HBe
                        obtain ⟨w6, rfl⟩ : ∃ z, z = w5 := ⟨_, rfl⟩
                        go_loopw [15, 134] (fun xv kv wr => ∃ k : Nat, k ≤ 5 ∧ xv = .int .i64 (pvV K [t0, t1, t2, t3, t4] k : Nat) ∧ kv = .int .i64 (k : Int) ∧ Hid (wr = w6)) (fun _ kv _ => 5 - (intOf kv).toNat)
                        case atStart => exact ⟨0, Nat.zero_le _, by rw [HP0.out, EK.out]; rfl, rfl, Lib.hid rfl⟩
                        case round =>
                          obtain ⟨k, hk, rfl, rfl, hw⟩ := hrel
                          obtain rfl := hw.out
                          have hp := HP.out k hk
                          by_cases hlt : k < 5
                          · have hn := pvV_next K [t0, t1, t2, t3, t4] k
                            have hp2 := HP.out (k + 1) (by omega)
                            have hx := Hdg.out k hlt
                            have hx12 := HD12.out k hlt
                            rw [hn] at hp2
                            have Hn := Lib.hid hn
                            clear hn
                            generalize pvV K [t0, t1, t2, t3, t4] k = p at *
                            generalize [t0, t1, t2, t3, t4].getD k 0 = x at *
                            go_wp2
                            go_roundw
                            case rel => exact ⟨k + 1, by omega, by rw [Hn.out]; go_num, by go_num, Lib.hid (by first | rfl | trivial)⟩
                            case measure => simp [intOf] <;> omega
                          · obtain rfl : k = 5 := by omega
                            generalize hpp : pvV K [t0, t1, t2, t3, t4] 5 = p at *
                            have Hpp := Lib.hid hpp
                            clear hpp
                            go_wp2
                            go_ret2
                            exact ⟨ret2ii (by rw [HKe.out, EK.out]; rfl) (by rw [HKe.out, HDe.out, Hpp.out]), HBf.out⟩
                  · cases kq : (m1 == 2)
                    · have k2 : (m0 == 2) = false := by rw [beq_eq_false_iff_ne]; rw [beq_iff_eq] at k3; omega
                      have EK : Hid (K = 5) := Lib.hid (by rw [E.out, kd, k4, k3, kq]; rfl)
                      rw [k4] at f4
                      rw [k3] at f3
                      rw [kq] at fq
                      have HP0 : Hid (pvV K [t0, t1, t2, t3, t4] 0 = K) := Lib.hid rfl
                      clear E kd k4 k3 kq
                      go_wp2_with fail
                      have HBf := HBe
                      obtain ⟨w6, rfl⟩ : ∃ z, z = w5 := ⟨_, rfl⟩
                      go_loopw [15, 134] (fun xv kv wr => ∃ k : Nat, k ≤ 5 ∧ xv = .int .i64 (pvV K [t0, t1, t2, t3, t4] k : Nat) ∧ kv = .int .i64 (k : Int) ∧ Hid (wr = w6)) (fun _ kv _ => 5 - (intOf kv).toNat)
                      case atStart => exact ⟨0, Nat.zero_le _, by rw [HP0.out, EK.out]; rfl, rfl, Lib.hid rfl⟩
                      case round =>
                        obtain ⟨k, hk, rfl, rfl, hw⟩ := hrel
                        obtain rfl := hw.out
                        have hp := HP.out k hk
                        by_cases hlt : k < 5
                        · have hn := pvV_next K [t0, t1, t2, t3, t4] k
                          have hp2 := HP.out (k + 1) (by omega)
                          have hx := Hdg.out k hlt
                          have hx12 := HD12.out k hlt
                          rw [hn] at hp2
                          have Hn := Lib.hid hn
                          clear hn
                          generalize pvV K [t0, t1, t2, t3, t4] k = p at *
                          generalize [t0, t1, t2, t3, t4].getD k 0 = x at *
                          go_wp2
                          go_roundw
                          case rel => exact ⟨k + 1, by omega, by rw [Hn.out]; go_num, by go_num, Lib.hid (by first | rfl | trivial)⟩
                          case measure => simp [intOf] <;> omega
                        · obtain rfl : k = 5 := by omega
                          generalize hpp : pvV K [t0, t1, t2, t3, t4] 5 = p at *
                          have Hpp := Lib.hid hpp
                          clear hpp
                          go_wp2
                          go_ret2
                          exact ⟨ret2ii (by rw [HKe.out, EK.out]; rfl) (by rw [HKe.out, HDe.out, Hpp.out]), HBf.out⟩
                    · skip
                      have EK : Hid (K = 6) := Lib.hid (by rw [E.out, kd, k4, k3, kq]; rfl)
                      rw [k4] at f4
                      rw [k3] at f3
                      rw [kq] at fq
                      have HP0 : Hid (pvV K [t0, t1, t2, t3, t4] 0 = K) := Lib.hid rfl
                      clear E kd k4 k3 kq
                      go_wp2_with fail
                      have HBf := HBe
                      obtain ⟨w6, rfl⟩ : ∃ z, z = w5 := ⟨_, rfl⟩
                      go_loopw [15, 134] (fun xv kv wr => ∃ k : Nat, k ≤ 5 ∧ xv = .int .i64 (pvV K [t0, t1, t2, t3, t4] k : Nat) ∧ kv = .int .i64 (k : Int) ∧ Hid (wr = w6)) (fun _ kv _ => 5 - (intOf kv).toNat)
                      case atStart => exact ⟨0, Nat.zero_le _, by rw [HP0.out, EK.out]; rfl, rfl, Lib.hid rfl⟩
                      case round =>
                        obtain ⟨k, hk, rfl, rfl, hw⟩ := hrel
                        obtain rfl := hw.out
                        have hp := HP.out k hk
                        by_cases hlt : k < 5
                        · have hn := pvV_next K [t0, t1, t2, t3, t4] k
                          have hp2 := HP.out (k + 1) (by omega)
                          have hx := Hdg.out k hlt
                          have hx12 := HD12.out k hlt
                          rw [hn] at hp2
                          have Hn := Lib.hid hn
                          clear hn
                          generalize pvV K [t0, t1, t2, t3, t4] k = p at *
                          generalize [t0, t1, t2, t3, t4].getD k 0 = x at *
                          go_wp2
                          go_roundw
                          case rel => exact ⟨k + 1, by omega, by rw [Hn.out]; go_num, by go_num, Lib.hid (by first | rfl | trivial)⟩
                          case measure => simp [intOf] <;> omega
                        · obtain rfl : k = 5 := by omega
                          generalize hpp : pvV K [t0, t1, t2, t3, t4] 5 = p at *
                          have Hpp := Lib.hid hpp
                          clear hpp
                          go_wp2
                          go_ret2
                          exact ⟨ret2ii (by rw [HKe.out, EK.out]; rfl) (by rw [HKe.out, HDe.out, Hpp.out]), HBf.out⟩
                · skip
                  have EK : Hid (K = 7) := Lib.hid (by rw [E.out, kd, k4]; rfl)
                  rw [k4] at f4
                  have HP0 : Hid (pvV K [t0, t1, t2, t3, t4] 0 = K) := Lib.hid rfl
                  clear E kd k4
                  go_wp2_with fail
                  have HBf := HBe
                  obtain ⟨w6, rfl⟩ : ∃ z, z = w5 := ⟨_, rfl⟩
                  go_loopw [15, 134] (fun xv kv wr => ∃ k : Nat, k ≤ 5 ∧ xv = .int .i64 (pvV K [t0, t1, t2, t3, t4] k : Nat) ∧ kv = .int .i64 (k : Int) ∧ Hid (wr = w6)) (fun _ kv _ => 5 - (intOf kv).toNat)
                  case atStart => exact ⟨0, Nat.zero_le _, by rw [HP0.out, EK.out]; rfl, rfl, Lib.hid rfl⟩
                  case round =>
                    obtain ⟨k, hk, rfl, rfl, hw⟩ := hrel
                    obtain rfl := hw.out
                    have hp := HP.out k hk
                    by_cases hlt : k < 5
                    · have hn := pvV_next K [t0, t1, t2, t3, t4] k
                      have hp2 := HP.out (k + 1) (by omega)
                      have hx := Hdg.out k hlt
                      have hx12 := HD12.out k hlt
                      rw [hn] at hp2
                      have Hn := Lib.hid hn
                      clear hn
                      generalize pvV K [t0, t1, t2, t3, t4] k = p at *
                      generalize [t0, t1, t2, t3, t4].getD k 0 = x at *
                      go_wp2
                      go_roundw
                      case rel => exact ⟨k + 1, by omega, by rw [Hn.out]; go_num, by go_num, Lib.hid (by first | rfl | trivial)⟩
                      case measure => simp [intOf] <;> omega
                    · obtain rfl : k = 5 := by omega
                      generalize hpp : pvV K [t0, t1, t2, t3, t4] 5 = p at *
                      have Hpp := Lib.hid hpp
                      clear hpp
                      go_wp2
                      go_ret2
                      exact ⟨ret2ii (by rw [HKe.out, EK.out]; rfl) (by rw [HKe.out, HDe.out, Hpp.out]), HBf.out⟩
              · cases k4 : (m0 == 4)
                · have hm01 : m0 = 1 := by rw [beq_eq_false_iff_ne] at k4; rcases hM2 with (h | h) | h <;> omega
                  have k3 : (m0 == 3) = false := by rw [hm01]; rfl
                  have k2 : (m0 == 2) = false := by rw [hm01]; rfl
                  clear hm01
                  have EK : Hid (K = 5) := Lib.hid (by rw [E.out, kd, k4, k3, k2]; rfl)
                  rw [k4] at f4
                  rw [k3] at f3
                  rw [k2] at f2
                  have HP0 : Hid (pvV K [t0, t1, t2, t3, t4] 0 = K) := Lib.hid rfl
                  clear E kd k4 k3 k2
                  go_wp2_with fail
                  have HBf := HBe
                  obtain ⟨w6, rfl⟩ : ∃ z, z = w5 := ⟨_, rfl⟩
                  go_loopw [15, 134] (fun xv kv wr => ∃ k : Nat, k ≤ 5 ∧ xv = .int .i64 (pvV K [t0, t1, t2, t3, t4] k : Nat) ∧ kv = .int .i64 (k : Int) ∧ Hid (wr = w6)) (fun _ kv _ => 5 - (intOf kv).toNat)
                  case atStart => exact ⟨0, Nat.zero_le _, by rw [HP0.out, EK.out]; rfl, rfl, Lib.hid rfl⟩
                  case round =>
                    obtain ⟨k, hk, rfl, rfl, hw⟩ := hrel
                    obtain rfl := hw.out
                    have hp := HP.out k hk
                    by_cases hlt : k < 5
                    · have hn := pvV_next K [t0, t1, t2, t3, t4] k
                      have hp2 := HP.out (k + 1) (by omega)
                      have hx := Hdg.out k hlt
                      have hx12 := HD12.out k hlt
                      rw [hn] at hp2
                      have Hn := Lib.hid hn
                      clear hn
                      generalize pvV K [t0, t1, t2, t3, t4] k = p at *
                      generalize [t0, t1, t2, t3, t4].getD k 0 = x at *
                      go_wp2
                      go_roundw
                      case rel => exact ⟨k + 1, by omega, by rw [Hn.out]; go_num, by go_num, Lib.hid (by first | rfl | trivial)⟩
                      case measure => simp [intOf] <;> omega
                    · obtain rfl : k = 5 := by omega
                      generalize hpp : pvV K [t0, t1, t2, t3, t4] 5 = p at *
                      have Hpp := Lib.hid hpp
                      clear hpp
                      go_wp2
                      go_ret2
                      exact ⟨ret2ii (by rw [HKe.out, EK.out]; rfl) (by rw [HKe.out, HDe.out, Hpp.out]), HBf.out⟩
                · skip
                  have EK : Hid (K = 7) := Lib.hid (by rw [E.out, kd, k4]; rfl)
                  rw [k4] at f4
                  have HP0 : Hid (pvV K [t0, t1, t2, t3, t4] 0 = K) := Lib.hid rfl
                  clear E kd k4
                  go_wp2_with fail
                  have HBf := HBe
                  obtain ⟨w6, rfl⟩ : ∃ z, z = w5 := ⟨_, rfl⟩
                  go_loopw [15, 134] (fun xv kv wr => ∃ k : Nat, k ≤ 5 ∧ xv = .int .i64 (pvV K [t0, t1, t2, t3, t4] k : Nat) ∧ kv = .int .i64 (k : Int) ∧ Hid (wr = w6)) (fun _ kv _ => 5 - (intOf kv).toNat)
                  case atStart => exact ⟨0, Nat.zero_le _, by rw [HP0.out, EK.out]; rfl, rfl, Lib.hid rfl⟩
                  case round =>
                    obtain ⟨k, hk, rfl, rfl, hw⟩ := hrel
                    obtain rfl := hw.out
                    have hp := HP.out k hk
                    by_cases hlt : k < 5
                    · have hn := pvV_next K [t0, t1, t2, t3, t4] k
                      have hp2 := HP.out (k + 1) (by omega)
                      have hx := Hdg.out k hlt
                      have hx12 := HD12.out k hlt
                      rw [hn] at hp2
                      have Hn := Lib.hid hn
                      clear hn
                      generalize pvV K [t0, t1, t2, t3, t4] k = p at *
                      generalize [t0, t1, t2, t3, t4].getD k 0 = x at *
                      go_wp2
                      go_roundw
                      case rel => exact ⟨k + 1, by omega, by rw [Hn.out]; go_num, by go_num, Lib.hid (by first | rfl | trivial)⟩
                      case measure => simp [intOf] <;> omega
                    · obtain rfl : k = 5 := by omega
                      generalize hpp : pvV K [t0, t1, t2, t3, t4] 5 = p at *
                      have Hpp := Lib.hid hpp
                      clear hpp
                      go_wp2
                      go_ret2
                      exact ⟨ret2ii (by rw [HKe.out, EK.out]; rfl) (by rw [HKe.out, HDe.out, Hpp.out]), HBf.out⟩
end Go.Proofs.Ytodmaomngpnboaa
