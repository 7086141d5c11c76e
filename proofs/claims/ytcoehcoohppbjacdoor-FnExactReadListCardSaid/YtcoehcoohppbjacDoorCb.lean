/- Contracts: the model's decimal numerals. -/
import Derived.Test.YtcoehcoohppbjacDoorCa
set_option linter.unusedVariables false
namespace Go.Proofs.YtcoehcoohppbjacDoor
open Go.RowKit
theorem ret_str {s t : ByteArray} (h : s = t) : Ending.returned (.string s) = .returned (.string t) := by rw [h]
theorem digit_row {w : World} {base : Nat} {e : TypeId} {v : Value} {n : Nat} {x : Int} {b : UInt8} {l : List UInt8} (h : w.ownsRow base e 1 v n ([Value.int .u8 x] ++ (bsI l).map (Value.int .u8))) (hb : (b.toNat : Int) = x) (hn : l.length + 1 = n) : Bs w v (b :: l) :=
  Bs.of_owns (n := n) (by subst hb; exact h) (by rw [List.length_cons]; exact hn) (by omega)
theorem news_cells {w : World} {g : Nat} {l : List UInt8} {n : Nat} (hl : l.length = n) (hg : g < w.heap.size) (h : ∀ i, i < n → w.cell? ⟨g, i, none⟩ = some (.int .u8 ((bsI l).getD i 0))) (o : Obj) : ∀ j u, ((bsI l).map (Value.int .u8))[j]? = some u → (w.alloc o).cell? ((⟨g, 0, none⟩ : Addr).add j) = some u := by
  intro j u hu
  have hj : j < l.length := by
    have := (List.getElem?_eq_some_iff.1 hu).1
    rw [List.length_map, bsI_len] at this
    exact this
  rw [Addr.add_lit, Nat.zero_add, ((Below.refl w.heap.size w).alloc (Nat.le_refl _) o).cell (show (⟨g, j, none⟩ : Addr).block < _ from hg), h j (by omega), ← hu]
  have hx : j < (bsI l).length := by rw [bsI_len]; exact hj
  simp [List.getD, hx]
theorem news_one (l : List UInt8) : ∀ u ∈ (bsI l).map (Value.int .u8), u.oneCell' = true := by
  intro u hu
  obtain ⟨x, _, rfl⟩ := List.mem_map.1 hu
  rfl
theorem news_len (l : List UInt8) (n : Nat) (h : l.length = n) : ((bsI l).map (Value.int .u8)).length = n * 1 := by rw [List.length_map, bsI_len, h, Nat.mul_one]
set_option maxRecDepth 100000 in
set_option maxHeartbeats 4000000 in
theorem dec_pos (a : Nat) (ha : a ≤ 9223372036854775807) (w : World) :
    Calls Tryd.prog 45 #[.int .i64 ((a : Int))] w fun e w' => e = .returned (.string ⟨(Lib.decDigits a).toArray⟩) ∧ Below w.heap.size w w' := by
  obtain ⟨i0, hi, hz0, hz1, hz2⟩ := info_parts (show (Tryd.prog.info? 5).map (fun i => (i.zero, i.size, i.bytes)) = some (some (.int .u8 0), 1, 1) by kernel_rfl)
  have Hfew := Lib.hid (fun j h => few_digits a j (by omega) h)
  have Hdone := Lib.hid (fun j h1 h2 h3 => out_done a j h1 h2 h3)
  have Hlen := Lib.hid (outL_len a)
  have Hdig := Lib.hid (fun u : Nat => show UInt8.toNat (UInt8.ofNat (48 + u % 10)) = 48 + u % 10 by rw [UInt8.toNat_ofNat']; exact Nat.mod_eq_of_lt (by omega))
  have Hout := Lib.hid (fun j => show outL a (j + 1) = UInt8.ofNat (48 + a / 10 ^ j % 10) :: outL a j from rfl)
  have Hdiv := Lib.hid (div_pow_succ a)
  have Ha0 := Lib.hid (show a / 10 ^ 0 = a by rw [Nat.pow_zero, Nat.div_one])
  have hsgn : decide (((a : Int)) < 0) = false := decide_eq_false (by omega)
  have Hle := Lib.hid (fun j => Nat.div_le_self a (10 ^ j))
  go_enter Tryd.func45, Tryd.ntmps45
  go_wp2
  go_loopw [3, 4] (fun o r wr => ∃ j : Nat, (j = 0 ∨ j = 1 ∨ a / 10 ^ (j - 1) ≠ 0) ∧ r = .int .i64 (((a / 10 ^ j : Nat) : Int)) ∧ Hid (Bs wr o (outL a j)) ∧ Hid (Below w.heap.size w wr)) (fun o r _ => (1 - lenV o) + (intOf r).natAbs)
  case atStart => exact ⟨0, .inl rfl, by rw [Ha0.out], Lib.hid ⟨w.heap.size, 0, rfl, by simp, fun i hi => absurd hi (by simp [outL])⟩, Lib.hid ((Below.refl _ w).alloc (Nat.le_refl _) _)⟩
  case round =>
    obtain ⟨j, hj, rfl, Ho, Hb⟩ := hrel
    have hbz := Hb.out.size
    obtain ⟨g, c, hu3, hg, hcell⟩ := Ho.out
    rw [Hlen.out j] at hu3 hcell
    subst hu3
    have HNl := Lib.hid (news_len (outL a j) j (Hlen.out j))
    have HNc := Lib.hid (fun o => news_cells (Hlen.out j) hg hcell o)
    have hj20 : j ≤ 19 := by
      rcases hj with h | h | h
      · omega
      · omega
      · have := Hfew.out _ h; omega
    by_cases hend : 1 ≤ j ∧ a / 10 ^ j = 0
    · obtain ⟨h1, h0⟩ := hend
      have HD := Lib.hid (Hdone.out j h1 (by omega) h0)
      have hconv : ∀ dst, Tryd.prog.underlying dst = some .string → (convert 79 dst (.slice (some ⟨g, 0, none⟩) j c)).run Tryd.prog wr = .ok (.string (strOfNums (bsI (outL a j)))) wr :=
        run_convert_bytes_arg wr 79 5 Tryd.underlying79 Tryd.underlying5 g 0 j c (bsI (outL a j)) (by rw [bsI_len, Hlen.out]) (fun i hi => by rw [Nat.zero_add]; exact hcell i hi)
      rw [h0]
      have hd1 : ((j : Int) == 0) = false := by simp; omega
      have hd2 : ((j : Int) = 0) = False := eq_false (by omega)
      clear Hfew Hdone Hdig Hout Hdiv Ha0 Hle hj h0 Ho
      go_wp2
      go_ret
      exact ⟨ret_str (by rw [strOf_bsI, HD.out]), Hb.out⟩
    · have hcont : j = 0 ∨ a / 10 ^ j ≠ 0 := by omega
      have hj18 : j ≤ 18 := by
        rcases hcont with h | h
        · omega
        · have := Hfew.out _ h; omega
      have hju : j + 1 = 1 ∨ a / 10 ^ j ≠ 0 := by omega
      have HO := Lib.hid (Hout.out j)
      have HU := Lib.hid (Hdiv.out j)
      have hul := Hle.out j
      have Hju : Hid (j + 1 = 0 ∨ j + 1 = 1 ∨ a / 10 ^ (j + 1 - 1) ≠ 0) := Lib.hid (by rw [Nat.add_sub_cancel]; omega)
      have Hcells := Lib.hid hcell
      have Hlj := Lib.hid (Hlen.out j)
      clear Hfew Hdone Hout Hdiv Ha0 Hle hj hend Ho hju hcell
      generalize a / 10 ^ j = u at *
      generalize outL a j = L at *
      have HDg := Lib.hid (Hdig.out u)
      have e1 : Int.tmod ((u : Int)) 10 = ((u % 10 : Nat) : Int) := by rw [Int.tmod_eq_emod_of_nonneg (by omega)]; omega
      have e2 : Int.tdiv ((u : Int)) 10 = ((u / 10 : Nat) : Int) := by rw [Int.tdiv_eq_ediv_of_nonneg (by omega)]; omega
      have hm1 : u % 10 < 10 := Nat.mod_lt _ (by decide)
      have hq1 : u / 10 ≤ u := Nat.div_le_self _ _
      generalize hM : u % 10 = M at *
      have HqM := Lib.hid (show u / 10 * 10 + M = u by omega)
      have HM := Lib.hid hM
      clear hM
      generalize u / 10 = q at *
      have HX := Lib.hid (fun v2 w2 (hh : World.ownsRow w2 wr.heap.size 5 1 v2 (1 + j) ([Value.int .u8 (48 + (M : Int))] ++ (bsI L).map (Value.int .u8))) => (show Bs w2 v2 (outL a (j + 1)) by rw [HO.out]; exact digit_row hh (by rw [HDg.out] <;> omega) (by rw [Hlj.out] <;> omega)))
      have HB : Hid (∀ w2, (wr.alloc (.cells #[.int .u8 (48 + (M : Int))] 5)).grownBy w2 (some wr.heap.size) → Below w.heap.size w w2) := Lib.hid (fun w2 hg2 => (Hb.out.alloc hbz _).grown hg2 (by simp only [World.size_alloc]; omega) (fun b hb => by cases hb; exact hbz))
      have HFIN := Lib.hid (fun v2 w2 (hv : Bs w2 v2 (outL a (j + 1))) => (show 1 ≤ lenV v2 from by
        obtain ⟨g2, c2, rfl, -, -⟩ := hv
        show 1 ≤ (outL a (j + 1)).length
        rw [Hlen.out]; omega))
      rcases Nat.eq_zero_or_pos j with rfl | hj1
      · go_wp2_with (at_builtin; refine wpList_append_own _ rfl _ _ 79 rfl wr.heap.size 5 i0 (.int .u8 0) 1 1 (by kernel_rfl) hi hz0 hz1 hz2 rfl (by decide) _ _ _ rfl (World.ownsRow_lit wr #[.int .u8 (48 + (M : Int))] 1 (Nat.le_refl _) (by unfold maxLen; omega) rfl) ⟨g, 0, none⟩ 0 c ((bsI L).map (Value.int .u8)) rfl HNl.out (HNc.out _) (news_one _) (by unfold maxLen; omega) (by omega) (by simp) ?_; intro v2 w2 hown2 hgrow2 hne2; clear hne2; have HV := Lib.hid hown2; have HG := Lib.hid hgrow2; clear hown2 hgrow2)
        all_goals
          have hv2 := HX.out v2 w2 HV.out
          have hl2 := HFIN.out v2 w2 hv2
          refine ⟨⟨0 + 1, Hju.out, by rw [HU.out], Lib.hid hv2, Lib.hid (HB.out w2 HG.out)⟩, ?_⟩
          have e3 : lenV (Value.slice (some ⟨g, 0, none⟩) 0 c) = 0 := rfl
          simp only [intOf, e3]
          omega
      · have hne : u ≠ 0 := by omega
        have hd1 : ((j : Int) == 0) = false := by simp; omega
        have hd3 : ((j : Int) = 0) = False := eq_false (by omega)
        have hd2 : ((u : Int) != 0) = true := by simp; omega
        have hq2 : q < u := by have := HqM.out; omega
        go_wp2_with (at_builtin; refine wpList_append_own _ rfl _ _ 79 rfl wr.heap.size 5 i0 (.int .u8 0) 1 1 (by kernel_rfl) hi hz0 hz1 hz2 rfl (by decide) _ _ _ rfl (World.ownsRow_lit wr #[.int .u8 (48 + (M : Int))] 1 (Nat.le_refl _) (by unfold maxLen; omega) rfl) ⟨g, 0, none⟩ j c ((bsI L).map (Value.int .u8)) rfl HNl.out (HNc.out _) (news_one _) (by unfold maxLen; omega) (by omega) (by simp) ?_; intro v2 w2 hown2 hgrow2 hne2; clear hne2; have HV := Lib.hid hown2; have HG := Lib.hid hgrow2; clear hown2 hgrow2)
        all_goals
          have hv2 := HX.out v2 w2 HV.out
          have hl2 := HFIN.out v2 w2 hv2
          refine ⟨⟨j + 1, Hju.out, by rw [HU.out], Lib.hid hv2, Lib.hid (HB.out w2 HG.out)⟩, ?_⟩
          have e3 : lenV (Value.slice (some ⟨g, 0, none⟩) j c) = j := rfl
          simp only [intOf, e3]
          omega
set_option maxRecDepth 100000 in
set_option maxHeartbeats 4000000 in
theorem dec_neg (a : Nat) (ha : 1 ≤ a ∧ a ≤ 9223372036854775808) (w : World) :
    Calls Tryd.prog 45 #[.int .i64 (-(a : Int))] w fun e w' => e = .returned (.string ⟨(45 :: Lib.decDigits a).toArray⟩) ∧ Below w.heap.size w w' := by
  obtain ⟨i0, hi, hz0, hz1, hz2⟩ := info_parts (show (Tryd.prog.info? 5).map (fun i => (i.zero, i.size, i.bytes)) = some (some (.int .u8 0), 1, 1) by kernel_rfl)
  have Hfew := Lib.hid (fun j h => few_digits a j (by omega) h)
  have Hdone := Lib.hid (fun j h1 h2 h3 => out_done a j h1 h2 h3)
  have Hlen := Lib.hid (outL_len a)
  have Hdig := Lib.hid (fun u : Nat => show UInt8.toNat (UInt8.ofNat (48 + u % 10)) = 48 + u % 10 by rw [UInt8.toNat_ofNat']; exact Nat.mod_eq_of_lt (by omega))
  have Hout := Lib.hid (fun j => show outL a (j + 1) = UInt8.ofNat (48 + a / 10 ^ j % 10) :: outL a j from rfl)
  have Hdiv := Lib.hid (div_pow_succ a)
  have Ha0 := Lib.hid (show a / 10 ^ 0 = a by rw [Nat.pow_zero, Nat.div_one])
  have hsgn : decide ((-(a : Int)) < 0) = true := decide_eq_true (by omega)
  have Hle := Lib.hid (fun j => Nat.div_le_self a (10 ^ j))
  go_enter Tryd.func45, Tryd.ntmps45
  go_wp2
  go_loopw [3, 4] (fun o r wr => ∃ j : Nat, (j = 0 ∨ j = 1 ∨ a / 10 ^ (j - 1) ≠ 0) ∧ r = .int .i64 (-((a / 10 ^ j : Nat) : Int)) ∧ Hid (Bs wr o (outL a j)) ∧ Hid (Below w.heap.size w wr)) (fun o r _ => (1 - lenV o) + (intOf r).natAbs)
  case atStart => exact ⟨0, .inl rfl, by rw [Ha0.out], Lib.hid ⟨w.heap.size, 0, rfl, by simp, fun i hi => absurd hi (by simp [outL])⟩, Lib.hid ((Below.refl _ w).alloc (Nat.le_refl _) _)⟩
  case round =>
    obtain ⟨j, hj, rfl, Ho, Hb⟩ := hrel
    have hbz := Hb.out.size
    obtain ⟨g, c, hu3, hg, hcell⟩ := Ho.out
    rw [Hlen.out j] at hu3 hcell
    subst hu3
    have HNl := Lib.hid (news_len (outL a j) j (Hlen.out j))
    have HNc := Lib.hid (fun o => news_cells (Hlen.out j) hg hcell o)
    have hj20 : j ≤ 19 := by
      rcases hj with h | h | h
      · omega
      · omega
      · have := Hfew.out _ h; omega
    by_cases hend : 1 ≤ j ∧ a / 10 ^ j = 0
    · obtain ⟨h1, h0⟩ := hend
      have HD := Lib.hid (Hdone.out j h1 (by omega) h0)
      have hconv : ∀ dst, Tryd.prog.underlying dst = some .string → (convert 79 dst (.slice (some ⟨g, 0, none⟩) j c)).run Tryd.prog wr = .ok (.string (strOfNums (bsI (outL a j)))) wr :=
        run_convert_bytes_arg wr 79 5 Tryd.underlying79 Tryd.underlying5 g 0 j c (bsI (outL a j)) (by rw [bsI_len, Hlen.out]) (fun i hi => by rw [Nat.zero_add]; exact hcell i hi)
      rw [h0]
      have hd1 : ((j : Int) == 0) = false := by simp; omega
      have hd2 : ((j : Int) = 0) = False := eq_false (by omega)
      clear Hfew Hdone Hdig Hout Hdiv Ha0 Hle hj h0 Ho
      have HXN := Lib.hid (fun v2 w2 (hh : World.ownsRow w2 wr.heap.size 5 1 v2 (1 + j) ([Value.int .u8 45] ++ (bsI (outL a j)).map (Value.int .u8))) => (show Bs w2 v2 (45 :: outL a j) from digit_row hh rfl (by rw [Hlen.out]; omega)))
      have HBN : Hid (∀ w2, (wr.alloc (.cells #[.int .u8 45] 5)).grownBy w2 (some wr.heap.size) → Below w.heap.size w w2) := Lib.hid (fun w2 hg2 => (Hb.out.alloc hbz _).grown hg2 (by simp only [World.size_alloc]; omega) (fun b hb => by cases hb; exact hbz))
      have Hcv := Lib.hid (fun w2 g2 c2 (hc2 : ∀ i, i < (45 :: outL a j).length → w2.cell? ⟨g2, i, none⟩ = some (.int .u8 ((bsI (45 :: outL a j)).getD i 0))) => (show ∀ dst, Tryd.prog.underlying dst = some .string → (convert 79 dst (.slice (some ⟨g2, 0, none⟩) ((outL a j).length + 1) c2)).run Tryd.prog w2 = .ok (.string (strOfNums (bsI (45 :: outL a j)))) w2 from
        run_convert_bytes_arg w2 79 5 Tryd.underlying79 Tryd.underlying5 g2 0 _ c2 (bsI (45 :: outL a j)) (by rw [bsI_len]; rfl) (fun i hi => by rw [Nat.zero_add]; exact hc2 i hi)))
      clear hconv
      generalize outL a j = L at *
      go_wp2_with (at_builtin; refine wpList_append_own _ rfl _ _ 79 rfl wr.heap.size 5 i0 (.int .u8 0) 1 1 (by kernel_rfl) hi hz0 hz1 hz2 rfl (by decide) _ _ _ rfl (World.ownsRow_lit wr #[.int .u8 45] 1 (Nat.le_refl _) (by unfold maxLen; omega) rfl) ⟨g, 0, none⟩ j c ((bsI L).map (Value.int .u8)) rfl HNl.out (HNc.out _) (news_one _) (by unfold maxLen; omega) (by omega) (by simp) ?_; intro v2 w2 hown2 hgrow2 hne2; clear hne2; obtain ⟨g2, c2, rfl, hg2, hc2⟩ := HXN.out v2 w2 hown2; have hconv := Hcv.out w2 g2 c2 hc2; have HBb := Lib.hid (HBN.out w2 hgrow2); clear hown2 hgrow2 hg2 hc2)
      go_ret
      exact ⟨ret_str (by rw [strOf_bsI, HD.out]), HBb.out⟩
    · have hcont : j = 0 ∨ a / 10 ^ j ≠ 0 := by omega
      have hj18 : j ≤ 18 := by
        rcases hcont with h | h
        · omega
        · have := Hfew.out _ h; omega
      have hju : j + 1 = 1 ∨ a / 10 ^ j ≠ 0 := by omega
      have HO := Lib.hid (Hout.out j)
      have HU := Lib.hid (Hdiv.out j)
      have hul := Hle.out j
      have Hju : Hid (j + 1 = 0 ∨ j + 1 = 1 ∨ a / 10 ^ (j + 1 - 1) ≠ 0) := Lib.hid (by rw [Nat.add_sub_cancel]; omega)
      have Hcells := Lib.hid hcell
      have Hlj := Lib.hid (Hlen.out j)
      clear Hfew Hdone Hout Hdiv Ha0 Hle hj hend Ho hju hcell
      generalize a / 10 ^ j = u at *
      generalize outL a j = L at *
      have HDg := Lib.hid (Hdig.out u)
      have e1 : Int.tmod (-(u : Int)) 10 = -((u % 10 : Nat) : Int) := by rw [Int.neg_tmod, Int.tmod_eq_emod_of_nonneg (by omega)]; omega
      have e2 : Int.tdiv (-(u : Int)) 10 = -((u / 10 : Nat) : Int) := by rw [Int.neg_tdiv, Int.tdiv_eq_ediv_of_nonneg (by omega)]; omega
      have hm1 : u % 10 < 10 := Nat.mod_lt _ (by decide)
      have hq1 : u / 10 ≤ u := Nat.div_le_self _ _
      generalize hM : u % 10 = M at *
      have HqM := Lib.hid (show u / 10 * 10 + M = u by omega)
      have HM := Lib.hid hM
      clear hM
      generalize u / 10 = q at *
      rcases Nat.eq_zero_or_pos j with rfl | hj1
      · rcases Nat.eq_zero_or_pos M with rfl | hM1
        · have HX := Lib.hid (fun v2 w2 (hh : World.ownsRow w2 wr.heap.size 5 1 v2 (1 + 0) ([Value.int .u8 48] ++ (bsI L).map (Value.int .u8))) => (show Bs w2 v2 (outL a (0 + 1)) by rw [HO.out]; exact digit_row hh (by rw [HDg.out] <;> omega) (by rw [Hlj.out] <;> omega)))
          have HB : Hid (∀ w2, (wr.alloc (.cells #[.int .u8 48] 5)).grownBy w2 (some wr.heap.size) → Below w.heap.size w w2) := Lib.hid (fun w2 hg2 => (Hb.out.alloc hbz _).grown hg2 (by simp only [World.size_alloc]; omega) (fun b hb => by cases hb; exact hbz))
          have HFIN := Lib.hid (fun v2 w2 (hv : Bs w2 v2 (outL a (0 + 1))) => (show 1 ≤ lenV v2 from by
            obtain ⟨g2, c2, rfl, -, -⟩ := hv
            show 1 ≤ (outL a (0 + 1)).length
            rw [Hlen.out]; omega))
          simp only [Int.natCast_zero, Int.neg_zero] at e1
          go_wp2_with (at_builtin; refine wpList_append_own _ rfl _ _ 79 rfl wr.heap.size 5 i0 (.int .u8 0) 1 1 (by kernel_rfl) hi hz0 hz1 hz2 rfl (by decide) _ _ _ rfl (World.ownsRow_lit wr #[.int .u8 48] 1 (Nat.le_refl _) (by unfold maxLen; omega) rfl) ⟨g, 0, none⟩ 0 c ((bsI L).map (Value.int .u8)) rfl HNl.out (HNc.out _) (news_one _) (by unfold maxLen; omega) (by omega) (by simp) ?_; intro v2 w2 hown2 hgrow2 hne2; clear hne2; have HV := Lib.hid hown2; have HG := Lib.hid hgrow2; clear hown2 hgrow2)
          all_goals
            have hv2 := HX.out v2 w2 HV.out
            have hl2 := HFIN.out v2 w2 hv2
            refine ⟨⟨0 + 1, Hju.out, by rw [HU.out], Lib.hid hv2, Lib.hid (HB.out w2 HG.out)⟩, ?_⟩
            have e3 : lenV (Value.slice (some ⟨g, 0, none⟩) 0 c) = 0 := rfl
            simp only [intOf, e3]
            omega
        · have HX := Lib.hid (fun v2 w2 (hh : World.ownsRow w2 wr.heap.size 5 1 v2 (1 + 0) ([Value.int .u8 (48 + (M : Int))] ++ (bsI L).map (Value.int .u8))) => (show Bs w2 v2 (outL a (0 + 1)) by rw [HO.out]; exact digit_row hh (by rw [HDg.out] <;> omega) (by rw [Hlj.out] <;> omega)))
          have HB : Hid (∀ w2, (wr.alloc (.cells #[.int .u8 (48 + (M : Int))] 5)).grownBy w2 (some wr.heap.size) → Below w.heap.size w w2) := Lib.hid (fun w2 hg2 => (Hb.out.alloc hbz _).grown hg2 (by simp only [World.size_alloc]; omega) (fun b hb => by cases hb; exact hbz))
          have HFIN := Lib.hid (fun v2 w2 (hv : Bs w2 v2 (outL a (0 + 1))) => (show 1 ≤ lenV v2 from by
            obtain ⟨g2, c2, rfl, -, -⟩ := hv
            show 1 ≤ (outL a (0 + 1)).length
            rw [Hlen.out]; omega))
          have hm2 : decide (-(M : Int) < 0) = true := decide_eq_true (by omega)
          have hm3 : decide (0 < (M : Int)) = true := decide_eq_true (by omega)
          go_wp2_with (at_builtin; refine wpList_append_own _ rfl _ _ 79 rfl wr.heap.size 5 i0 (.int .u8 0) 1 1 (by kernel_rfl) hi hz0 hz1 hz2 rfl (by decide) _ _ _ rfl (World.ownsRow_lit wr #[.int .u8 (48 + (M : Int))] 1 (Nat.le_refl _) (by unfold maxLen; omega) rfl) ⟨g, 0, none⟩ 0 c ((bsI L).map (Value.int .u8)) rfl HNl.out (HNc.out _) (news_one _) (by unfold maxLen; omega) (by omega) (by simp) ?_; intro v2 w2 hown2 hgrow2 hne2; clear hne2; have HV := Lib.hid hown2; have HG := Lib.hid hgrow2; clear hown2 hgrow2)
          all_goals
            have hv2 := HX.out v2 w2 HV.out
            have hl2 := HFIN.out v2 w2 hv2
            refine ⟨⟨0 + 1, Hju.out, by rw [HU.out], Lib.hid hv2, Lib.hid (HB.out w2 HG.out)⟩, ?_⟩
            have e3 : lenV (Value.slice (some ⟨g, 0, none⟩) 0 c) = 0 := rfl
            simp only [intOf, e3]
            omega
      · rcases Nat.eq_zero_or_pos M with rfl | hM1
        · have HX := Lib.hid (fun v2 w2 (hh : World.ownsRow w2 wr.heap.size 5 1 v2 (1 + j) ([Value.int .u8 48] ++ (bsI L).map (Value.int .u8))) => (show Bs w2 v2 (outL a (j + 1)) by rw [HO.out]; exact digit_row hh (by rw [HDg.out] <;> omega) (by rw [Hlj.out] <;> omega)))
          have HB : Hid (∀ w2, (wr.alloc (.cells #[.int .u8 48] 5)).grownBy w2 (some wr.heap.size) → Below w.heap.size w w2) := Lib.hid (fun w2 hg2 => (Hb.out.alloc hbz _).grown hg2 (by simp only [World.size_alloc]; omega) (fun b hb => by cases hb; exact hbz))
          have HFIN := Lib.hid (fun v2 w2 (hv : Bs w2 v2 (outL a (j + 1))) => (show 1 ≤ lenV v2 from by
            obtain ⟨g2, c2, rfl, -, -⟩ := hv
            show 1 ≤ (outL a (j + 1)).length
            rw [Hlen.out]; omega))
          have hne : u ≠ 0 := by omega
          have hd1 : ((j : Int) == 0) = false := by simp; omega
          have hd3 : ((j : Int) = 0) = False := eq_false (by omega)
          have hd2 : (-(u : Int) != 0) = true := by simp; omega
          have hd4 : ((u : Int) = 0) = False := eq_false (by omega)
          have hq2 : q < u := by have := HqM.out; omega
          simp only [Int.natCast_zero, Int.neg_zero] at e1
          go_wp2_with (at_builtin; refine wpList_append_own _ rfl _ _ 79 rfl wr.heap.size 5 i0 (.int .u8 0) 1 1 (by kernel_rfl) hi hz0 hz1 hz2 rfl (by decide) _ _ _ rfl (World.ownsRow_lit wr #[.int .u8 48] 1 (Nat.le_refl _) (by unfold maxLen; omega) rfl) ⟨g, 0, none⟩ j c ((bsI L).map (Value.int .u8)) rfl HNl.out (HNc.out _) (news_one _) (by unfold maxLen; omega) (by omega) (by simp) ?_; intro v2 w2 hown2 hgrow2 hne2; clear hne2; have HV := Lib.hid hown2; have HG := Lib.hid hgrow2; clear hown2 hgrow2)
          all_goals
            have hv2 := HX.out v2 w2 HV.out
            have hl2 := HFIN.out v2 w2 hv2
            refine ⟨⟨j + 1, Hju.out, by rw [HU.out], Lib.hid hv2, Lib.hid (HB.out w2 HG.out)⟩, ?_⟩
            have e3 : lenV (Value.slice (some ⟨g, 0, none⟩) j c) = j := rfl
            simp only [intOf, e3]
            omega
        · have HX := Lib.hid (fun v2 w2 (hh : World.ownsRow w2 wr.heap.size 5 1 v2 (1 + j) ([Value.int .u8 (48 + (M : Int))] ++ (bsI L).map (Value.int .u8))) => (show Bs w2 v2 (outL a (j + 1)) by rw [HO.out]; exact digit_row hh (by rw [HDg.out] <;> omega) (by rw [Hlj.out] <;> omega)))
          have HB : Hid (∀ w2, (wr.alloc (.cells #[.int .u8 (48 + (M : Int))] 5)).grownBy w2 (some wr.heap.size) → Below w.heap.size w w2) := Lib.hid (fun w2 hg2 => (Hb.out.alloc hbz _).grown hg2 (by simp only [World.size_alloc]; omega) (fun b hb => by cases hb; exact hbz))
          have HFIN := Lib.hid (fun v2 w2 (hv : Bs w2 v2 (outL a (j + 1))) => (show 1 ≤ lenV v2 from by
            obtain ⟨g2, c2, rfl, -, -⟩ := hv
            show 1 ≤ (outL a (j + 1)).length
            rw [Hlen.out]; omega))
          have hne : u ≠ 0 := by omega
          have hd1 : ((j : Int) == 0) = false := by simp; omega
          have hd3 : ((j : Int) = 0) = False := eq_false (by omega)
          have hd2 : (-(u : Int) != 0) = true := by simp; omega
          have hd4 : ((u : Int) = 0) = False := eq_false (by omega)
          have hq2 : q < u := by have := HqM.out; omega
          have hm2 : decide (-(M : Int) < 0) = true := decide_eq_true (by omega)
          have hm3 : decide (0 < (M : Int)) = true := decide_eq_true (by omega)
          go_wp2_with (at_builtin; refine wpList_append_own _ rfl _ _ 79 rfl wr.heap.size 5 i0 (.int .u8 0) 1 1 (by kernel_rfl) hi hz0 hz1 hz2 rfl (by decide) _ _ _ rfl (World.ownsRow_lit wr #[.int .u8 (48 + (M : Int))] 1 (Nat.le_refl _) (by unfold maxLen; omega) rfl) ⟨g, 0, none⟩ j c ((bsI L).map (Value.int .u8)) rfl HNl.out (HNc.out _) (news_one _) (by unfold maxLen; omega) (by omega) (by simp) ?_; intro v2 w2 hown2 hgrow2 hne2; clear hne2; have HV := Lib.hid hown2; have HG := Lib.hid hgrow2; clear hown2 hgrow2)
          all_goals
            have hv2 := HX.out v2 w2 HV.out
            have hl2 := HFIN.out v2 w2 hv2
            refine ⟨⟨j + 1, Hju.out, by rw [HU.out], Lib.hid hv2, Lib.hid (HB.out w2 HG.out)⟩, ?_⟩
            have e3 : lenV (Value.slice (some ⟨g, 0, none⟩) j c) = j := rfl
            simp only [intOf, e3]
            omega
end Go.Proofs.YtcoehcoohppbjacDoor
