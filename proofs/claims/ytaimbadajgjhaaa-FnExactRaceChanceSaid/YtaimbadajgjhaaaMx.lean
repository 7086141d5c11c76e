/- Contracts: sums of dice, the model. -/
import Derived.Test.YtaimbadajgjhaaaMw
set_option linter.unusedVariables false
namespace Go.Proofs.Ytaimbadajgjhaaa
open Go.RowKit Go.Maps

theorem zeros_tab6 (n : Nat) : (madeCells (Value.int .i64 0).cells (n * 1)).toList = (tab n fun _ => 0).map (Value.int .i64) := by
  rw [Nat.mul_one]
  show (madeCells #[Value.int .i64 0] n).toList = _
  rw [made1]
  apply List.ext_getElem
  · simp [tab]
  · intro i h1 h2
    simp [tab]
theorem tab_set6 (n : Nat) (g : Nat → Int) (k : Nat) (v : Int) : (tab n g).set k v = tab n (fun j => if j = k then v else g j) := by
  apply List.ext_getElem
  · simp [tab]
  · intro i h1 h2
    simp only [tab, List.getElem_set, List.getElem_map, List.getElem_range]
    by_cases e : k = i
    · subst e; simp
    · rw [if_neg e, if_neg (fun h => e h.symm)]
theorem nextP_set (ds : List (List Int)) (j k i t : Nat) (x : Int) (hx : (k : Int) + (ds.getD j []).getD i 0 = (t : Int)) (n : Nat) : (tab n fun u => nextP ds j k i (u : Int)).set t (nextP ds j k i (t : Int) + wayF ds j (k : Int)) = tab n fun u => nextP ds j k (i + 1) (u : Int) := by
  rw [tab_set6]
  refine tab_congr fun u _ => ?_
  rw [nextP_step, hx]
  by_cases e : u = t
  · subst e; rw [if_pos rfl, if_pos rfl]
  · rw [if_neg e, if_neg (by omega), Int.add_zero]
set_option maxRecDepth 100000 in
set_option maxHeartbeats 4000000 in
theorem counts_spec (ds : List (List Int)) (v : Value) (w : World) (hb : diceB ds = true) (h : SlD w v ds) :
    Calls Try.prog 56 #[v] w fun e w' => ∃ r, e = .returned r ∧ Sw (Value.int .i64) 0 w' r (tab (topN ds ds.length) (fun k => wayF ds ds.length (k : Int))) w.heap.size w'.heap.size ∧ Below w.heap.size w w' := by
  obtain ⟨q, cap, rfl, hf⟩ := h
  have Hf := Lib.hid hf
  clear hf
  obtain ⟨h1, h6, hd⟩ := diceB_at hb
  have HD := Lib.hid hd
  have HT := Lib.hid (topN_le ds hd)
  have Htop := Lib.hid (fun j => show topN ds (j + 1) = topN ds j + lastF (ds.getD j []) from rfl)
  have HW := Lib.hid (fun j (hj : j < ds.length) k hk => wayF_le ds h6 hd j (by omega) k hk)
  have Hnn := Lib.hid (wayF_nonneg ds)
  have HP := Lib.hid (fun j hj k i hk hi t ht => nextP_bd ds h6 hd j hj k i hk hi t ht)
  have HP0 := Lib.hid (nextP_zero ds)
  have HPr := Lib.hid (nextP_row ds)
  have HPd := Lib.hid (nextP_done ds)
  have HPs := Lib.hid (nextP_set ds)
  obtain ⟨i0, hi, hz0, hz1, hz2⟩ := info_parts (show (Try.prog.info? 2).map (fun i => (i.zero, i.size, i.bytes)) = some (some (.int .i64 0), 1, 8) by kernel_rfl)
  have hlit := World.ownsRow_lit (e := 2) (size := 1) (base := w.heap.size) w #[.int .i64 1] 1 (Nat.le_refl _) (by unfold maxLen; omega) rfl
  have hS0 : Sw (Value.int .i64) 0 (w.alloc (.cells #[.int .i64 1] 2)) (.slice (some ⟨w.heap.size, 0, none⟩) 1 1) (tab (topN ds 0) fun k => wayF ds 0 (k : Int)) w.heap.size (w.alloc (.cells #[.int .i64 1] 2)).heap.size := Sw.of_owns (fs := [1]) hlit rfl
  have HS0 := Lib.hid hS0
  have Hbel0 := Lib.hid ((Below.refl _ w).alloc (Nat.le_refl _) (.cells #[.int .i64 1] 2))
  have ht00 : topN ds 0 = 1 := rfl
  clear hd hb hS0 hlit
  obtain ⟨n, hn1⟩ : ∃ n, n = ds.length := ⟨_, rfl⟩
  rw [← hn1] at h1 h6 Hf HD HT HW HP
  rw [← hn1]
  clear hn1
  go_enter Try.func56, Try.ntmps56
  go_wp2
  go_loopw [3, 12] (fun x i wr => ∃ j b lo hi : Nat, j ≤ n ∧ i = .int .i64 (j : Int) ∧ x = .slice (some ⟨b, 0, none⟩) (topN ds j) (topN ds j) ∧ Hid (Sw (Value.int .i64) 0 wr (.slice (some ⟨b, 0, none⟩) (topN ds j) (topN ds j)) (tab (topN ds j) fun k => wayF ds j (k : Int)) lo hi) ∧ w.heap.size ≤ lo ∧ hi ≤ wr.heap.size ∧ Hid (Below w.heap.size w wr)) (fun _ i _ => n - (intOf i).toNat)
  case atStart => exact ⟨0, w.heap.size, w.heap.size, _, Nat.zero_le _, rfl, rfl, HS0, Nat.le_refl _, Nat.le_refl _, Hbel0⟩
  case round =>
    obtain ⟨wo, rfl⟩ : ∃ z, z = wr := ⟨_, rfl⟩
    obtain ⟨j, b, lo, hi', hj, rfl, rfl, hR, hlo, hhi, hb⟩ := hrel
    have hsz := hb.out.size
    have ht0 := HT.out j hj
    by_cases hlt : j < n
    · obtain ⟨hcap, b0, off0, rfl, hbs, hcell⟩ := Hf.out (by omega)
      obtain ⟨s, g1, g2⟩ := hcell j hlt
      have c1 := cell_keep hb.out g1
      obtain ⟨ps, cs, rfl, g3⟩ := g2
      have hdie := HD.out j hlt
      obtain ⟨l1, l12, la, -⟩ := dieB_at hdie
      obtain ⟨hcf, bf, of, rfl, hbf, hcc⟩ := g3 (by omega)
      obtain ⟨m, hm⟩ : ∃ m, m = (ds.getD j []).length - 1 := ⟨_, rfl⟩
      have c2 := cell_keep hb.out (hcc m (by omega))
      have hlast := (lastF_le _ hdie).2
      rw [← hm] at hlast
      have hm1 : ((ds.getD j []).length : Int) - 1 = (m : Int) := by omega
      have hml : m < (ds.getD j []).length := by omega
      rw [← hlast] at c2
      have Hcc := Lib.hid hcc
      have Hfa := Lib.hid (fun i hi => face_last (ds.getD j []) hdie i hi)
      have htop := Htop.out j
      have ht1 := HT.out (j + 1) (by omega)
      have HPj := Lib.hid (HP.out j hlt)
      have HWj := Lib.hid (HW.out j hlt)
      have HP0j := Lib.hid (HP0.out j)
      have HPrj := Lib.hid (HPr.out j)
      have HPdj := Lib.hid (HPd.out j)
      have HPsj := Lib.hid (HPs.out j)
      have Hnnj := Lib.hid (Hnn.out j)
      clear hcell g1 g3 hcc hlast la hdie hm HP HW HP0 HPr HPd HPs
      have Hc1 := Lib.hid c1
      generalize hL : (ds.getD j []).length = L at *
      have HL := Lib.hid hL
      clear hL
      have eT : (topN ds j : Int) + (lastF (ds.getD j []) : Int) = (topN ds (j + 1) : Int) := by omega
      generalize hT' : topN ds (j + 1) = T' at *
      have HT' := Lib.hid hT'
      clear hT' htop
      generalize hT0 : topN ds j = T at *
      have HT0 := Lib.hid hT0
      clear hT0
      generalize lastF (ds.getD j []) = F at *
      go_wp2_with (at_make; refine wpList_make_full _ rfl _ _ 22 rfl wo.heap.size 2 i0 (.int .i64 0) 1 (by kernel_rfl) hi hz0 hz1 .i64 .i64 T' T' T' rfl rfl rfl rfl (by rw [hz2]; omega) (by unfold maxLen; omega) (Nat.le_refl _) ?_; intro w2 hrow hgrow)
      have hz2' := hgrow.size
      have hb2 : Below w.heap.size w w2 := hb.out.grown hgrow hsz (fun i hi => by cases hi)
      rw [zeros_tab6, tab_congr (h := fun u => nextP ds j 0 0 (u : Int)) (fun u _ => (HP0j.out u).symm)] at hrow
      have hN0 := Sw.of_owns (d := 0) hrow (tab_len _ _)
      have hR0 := hR.out.later (w' := w2) ⟨hgrow.os, hgrow.tape, hgrow.output, hgrow.size, fun i hi => hgrow.block i hi (by simp)⟩
      have hlt2 : wo.heap.size < w2.heap.size := (hrow.lt _ rfl).2
      have HN0 := Lib.hid hN0
      have HR0 := Lib.hid hR0
      have Hb2 := Lib.hid hb2
      clear hrow hgrow hN0 hR0 hb2 c1 c2
      go_loopw [32] (fun i wi => ∃ k : Nat, k ≤ T ∧ i = .int .i64 (k : Int) ∧ Hid (Sw (Value.int .i64) 0 wi (.slice (some ⟨b, 0, none⟩) T T) (tab T fun u => wayF ds j (u : Int)) lo hi') ∧ Hid (Sw (Value.int .i64) 0 wi (.slice (some ⟨wo.heap.size, 0, none⟩) T' T') (tab T' fun u => nextP ds j k 0 (u : Int)) wo.heap.size w2.heap.size) ∧ w2.heap.size ≤ wi.heap.size ∧ Hid (Below w.heap.size w wi)) (fun i _ => T - (intOf i).toNat)
      case atStart => exact ⟨0, Nat.zero_le _, rfl, HR0, HN0, Nat.le_refl _, Hb2⟩
      case round =>
        obtain ⟨wm, rfl⟩ : ∃ z, z = wr := ⟨_, rfl⟩
        obtain ⟨k, hk, rfl, hRk, hNk, hwk, hbk⟩ := hrel
        by_cases hlk : k < T
        · go_wp2
          go_loopw [37] (fun i wi => ∃ z : Nat, z ≤ L ∧ i = .int .i64 (z : Int) ∧ Hid (Sw (Value.int .i64) 0 wi (.slice (some ⟨b, 0, none⟩) T T) (tab T fun u => wayF ds j (u : Int)) lo hi') ∧ Hid (Sw (Value.int .i64) 0 wi (.slice (some ⟨wo.heap.size, 0, none⟩) T' T') (tab T' fun u => nextP ds j k z (u : Int)) wo.heap.size w2.heap.size) ∧ w2.heap.size ≤ wi.heap.size ∧ Hid (Below w.heap.size w wi)) (fun i _ => L - (intOf i).toNat)
          case atStart => exact ⟨0, Nat.zero_le _, rfl, hRk, hNk, hwk, hbk⟩
          case round =>
            obtain ⟨z, hzL, rfl, hRz, hNz, hwz, hbz⟩ := hrel
            by_cases hlz : z < L
            · obtain ⟨b1, o1, e1, -, -, cR, -⟩ := hRz.out.open' k (by rw [tab_len]; exact hlk)
              cases e1
              rw [tab_get _ _ _ hlk, Nat.zero_add] at cR
              obtain ⟨x0, x1⟩ := Hfa.out z (by first | exact hlz | (rw [HL.out]; exact hlz))
              obtain ⟨t, ht⟩ : ∃ t : Nat, (k : Int) + (ds.getD j []).getD z 0 = (t : Int) := ⟨((k : Int) + (ds.getD j []).getD z 0).toNat, by omega⟩
              have htT : t < T' := by omega
              have cf := cell_keep hbz.out (Hcc.out z (by first | exact hlz | (rw [HL.out]; exact hlz)))
              obtain ⟨b2, o2, e2, -, -, cN, fN⟩ := hNz.out.open' t (by rw [tab_len]; exact htT)
              cases e2
              rw [tab_get _ _ _ htT, Nat.zero_add] at cN
              rw [Nat.zero_add] at fN
              obtain ⟨p0, p1⟩ := HPj.out k z (by first | exact hlk | (rw [HT0.out]; exact hlk)) (by first | omega | (rw [HL.out]; omega)) t (by first | exact htT | (rw [HT'.out]; exact htT))
              have q1 := HWj.out k (by first | exact hlk | (rw [HT0.out]; exact hlk))
              have q0 := Hnnj.out k
              have hst := hNz.out.store t (by rw [tab_len]; exact htT) (nextP ds j k z (t : Int) + wayF ds j (k : Int))
              rw [HPsj.out k z t 0 ht T', Nat.zero_add] at hst
              have Hst := Lib.hid hst
              have hbk2 := hNz.out.block (by rw [tab_len]; omega)
              have HR2 := Lib.hid (hRz.out.apart ((Only.refl wo.heap.size w2.heap.size wr).step' ⟨wo.heap.size, t, none⟩ (.int .i64 (nextP ds j k z (t : Int) + wayF ds j (k : Int))) (Nat.le_refl _) hbk2.2) (.inl hhi))
              have Hht := Lib.hid ht
              clear hst
              generalize nextP ds j k z (t : Int) = X at *
              generalize wayF ds j (k : Int) = R at *
              generalize (ds.getD j []).getD z 0 = y at *
              go_wp2
              go_region
              all_goals
                go_wp2
                go_roundw
                case rel => exact ⟨z + 1, by omega, by go_num, Lib.hid HR2.out, Lib.hid Hst.out, by simpa using hwz, Lib.hid (below_drewN (hbz.out.setCell (by have := hb.out.size; exact this) _) 1)⟩
                case measure => simp [intOf]; omega
            · obtain rfl : z = L := by omega
              go_wp2
              go_roundw
              case rel => exact ⟨k + 1, by omega, by go_num, hRz, by rw [← tab_congr (fun u _ => by have := HPrj.out k (u : Int); first | exact this | (rw [HL.out] at this; exact this))]; exact hNz, hwz, hbz⟩
              case measure => simp [intOf]; omega
        · obtain rfl : k = T := by omega
          go_wp2
          go_roundw
          case rel => exact ⟨j + 1, wo.heap.size, wo.heap.size, w2.heap.size, by omega, by go_num, by rw [HT'.out], by rw [HT'.out]; rw [tab_congr (h := fun u => wayF ds (j + 1) (u : Int)) (fun u _ => by have := HPdj.out (u : Int); first | exact this | (rw [HT0.out] at this; exact this))] at hNk; exact hNk, hsz, hwk, hbk⟩
          case measure => simp [intOf]; omega
    · obtain rfl : j = n := by omega
      have hR' := Lib.hid (hR.out.mono hlo hhi (Nat.le_refl _))
      go_wp2
      go_ret
      exact ⟨_, rfl, hR'.out, hb.out⟩
end Go.Proofs.Ytaimbadajgjhaaa
