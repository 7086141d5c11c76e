/- Contracts: rings of bits, the model's. -/
import Derived.Test.YtkhjeijcpldojaaRb
import Derived.Deep.AppendLies
import Derived.Deep.LoopGhost
set_option linter.unusedVariables false
namespace Go.Proofs.Ytkhjeijcpldojaa
open Go.RowKit


theorem own_trunc {w : World} {base g cap : Nat} {e : TypeId} {n : Nat} {L : List Int} (h : w.ownsRow base e 1 (.slice (some ⟨g, 0, none⟩) (n + 1) cap) (n + 1) (L.map (Value.int .i64))) : w.ownsRow base e 1 (.slice (some ⟨g, 0, none⟩) n cap) n ((L.take n).map (Value.int .i64)) := by
  obtain ⟨h1, h2⟩ := h
  rw [List.length_map] at h1
  rcases h2 with ⟨hn, _⟩ | ⟨g', cap', cur, hv, hb, hgg, hc, hm, hs, ht⟩
  · cases hn
  · cases hv
    refine ⟨by simp; omega, .inr ⟨g, cap, cur, rfl, hb, hgg, by omega, hm, hs, ?_⟩⟩
    rw [List.map_take, ← ht, List.take_take]
    congr 1
    omega
theorem own_cell {w : World} {base g cap n : Nat} {e : TypeId} {L : List Int} (h : w.ownsRow base e 1 (.slice (some ⟨g, 0, none⟩) n cap) n (L.map (Value.int .i64))) (k : Nat) (hk : k < n) : w.cell? ⟨g, k, none⟩ = some (.int .i64 (L.getD k 0)) := by
  have hl : L.length = n := by have := h.1; simp at this; exact this
  rw [h.cellAt k (by omega), List.getElem?_map, List.getElem?_eq_getElem (by omega)]
  simp [List.getD, show k < L.length by omega]
theorem extL_len (m : Nat) (L : List Int) : ∀ j, (extL m L j).length = L.length + j
  | 0 => rfl
  | j + 1 => by rw [extL, List.length_append, extL_len m L j]; rfl

set_option maxRecDepth 100000 in
set_option maxHeartbeats 8000000 in
theorem ring_spec (n : Nat) (w : World) (n1 : 1 ≤ n) (n6 : n ≤ 6) :
    Calls Try.prog 19 #[.int .i64 (n : Int)] w fun e w' => ∃ r, e = .returned (.tuple #[r, .bool true]) ∧ Sw (Value.int .i64) 0 w' r (bo n (bN n)) w.heap.size w'.heap.size ∧ Below w.heap.size w w' := by
  have Hin := Lib.hid (in_yes (n : Int) 1 6 w (by omega) (by omega))
  have Hrd := Lib.hid (fun k hk => rounds_ok n (by omega) n1 k hk)
  have Hend := Lib.hid (ring_end n (by omega) n1).1
  have Hbw := Lib.hid (fun k => (show bw n (k + 1) = cutL (bwE n (bw n k)) (onesL (bwE n (bw n k))) from rfl))
  have Hbo := Lib.hid (fun k => (show bo n (k + 1) = if n % (incL (bw n k)).length = 0 then bo n k ++ incL (bw n k) else bo n k from rfl))
  have Hw0 : Hid (bw n 0 = [-1]) := Lib.hid rfl
  have Ho0 : Hid (bo n 0 = []) := Lib.hid rfl
  obtain ⟨i0, hi, hz0, hz1, hz2⟩ := info_parts (show (Try.prog.info? 2).map (fun i => (i.zero, i.size, i.bytes)) = some (some (.int .i64 0), 1, 8) by kernel_rfl)
  generalize bN n = N at *
  go_enter Try.func19, Try.ntmps19
  go_wp2_with fail
  refine Hin.out.mono ?_
  rintro e w' ⟨rfl, rfl⟩
  go_wp2
  go_loopg [4, 5] N (fun gk u v wr => ∃ (k lu bu cu l bv cv : Nat), k ≤ N ∧ gk = N - k ∧ u = .slice (some ⟨bu, 0, none⟩) lu cu ∧ v = .slice (some ⟨bv, 0, none⟩) l cv ∧ Hid (wr.ownsRow w.heap.size 2 1 (.slice (some ⟨bu, 0, none⟩) lu cu) lu ((bo n k).map (Value.int .i64))) ∧ Hid (wr.ownsRow w.heap.size 2 1 (.slice (some ⟨bv, 0, none⟩) l cv) l ((bw n k).map (Value.int .i64))) ∧ bu ≠ bv ∧ Hid (Below w.heap.size w wr))
  case atStart =>
    refine ⟨0, 0, w.heap.size, 0, 1, w.heap.size + 1, 1, Nat.zero_le _, rfl, rfl, rfl, Lib.hid ?_, Lib.hid ?_, by omega, Lib.hid ?_⟩
    · rw [Ho0.out]; exact (World.ownsRow_made w #[] 0 (Nat.le_refl _) (Nat.zero_le _) rfl).alloc _
    · rw [Hw0.out]
      refine ⟨by simp, .inr ⟨w.heap.size + 1, 1, #[.int .i64 (-1)], rfl, by omega, ?_, Nat.le_refl _, by unfold maxLen; omega, rfl, rfl⟩⟩
      have := heap_alloc_new (w.alloc (.cells #[] 2)) (.cells #[.int .i64 (-1)] 2)
      simpa using this
    · exact ((Below.refl _ w).alloc (Nat.le_refl _) _).alloc (by simp) _
  case round =>
    obtain ⟨k, lu, bu, cu, l, bv, cv, hk, rfl, rfl, rfl, hou, hwo, hne, hb⟩ := hrel
    have hll : (bw n k).length = l := by have := hwo.out.1; simp at this; exact this
    have hlu : (bo n k).length = lu := by have := hou.out.1; simp at this; exact this
    by_cases hlt : k < N
    · have hr := Hrd.out k hlt
      unfold roundB at hr
      simp only [Bool.and_eq_true, decide_eq_true_eq, List.all_eq_true, List.mem_range, Bool.or_eq_true, Bool.not_eq_true', beq_iff_eq] at hr
      obtain ⟨⟨⟨⟨⟨⟨⟨r1, r2⟩, r3⟩, r4⟩, r5⟩, r6⟩, r7⟩, r8⟩ := hr
      have R6 := Lib.hid r6
      have R7 := Lib.hid r7
      have HbwK := Lib.hid (Hbw.out k)
      have HboK := Lib.hid (Hbo.out k)
      have hinc : (incL (bw n k)).length = l := by rw [incL, List.length_set]; exact hll
      rw [hinc] at HboK
      have HE : Hid (bwE n (bw n k) = extL l (incL (bw n k)) (n - l)) := Lib.hid (by unfold bwE; rw [hinc])
      have Hxl : Hid (∀ j, (extL l (incL (bw n k)) j).length = l + j) := Lib.hid (fun j => by rw [extL_len, hinc])
      rw [hll] at r1 r2 r3 r4
      rw [hlu] at r5
      have hws : bv < wr.heap.size := (hwo.out.lt _ rfl).2
      have hus : bu < wr.heap.size := (hou.out.lt _ rfl).2
      have hbb : w.heap.size ≤ bv := (hwo.out.lt _ rfl).1
      have c1 := own_cell hwo.out (l - 1) (by omega)
      have f1 := hwo.out.frozenAt (l - 1)
      have Hinc : Hid (incL (bw n k) = (bw n k).set (l - 1) ((bw n k).getD (l - 1) 0 + 1)) := Lib.hid (by rw [incL, hll])
      obtain ⟨hs1, _⟩ := hwo.out.stored (l - 1) (.int .i64 ((bw n k).getD (l - 1) 0 + 1))
      rw [← List.map_set, ← Hinc.out] at hs1
      have ho1 := own_keep (w' := wr.setCell ⟨bv, l - 1, none⟩ (.int .i64 ((bw n k).getD (l - 1) 0 + 1))) hou.out (Below.heap_setCell _ _ _ _ (fun e => by simp at e; omega))
      have hb1 := hb.out.setCell (p := ⟨bv, l - 1, none⟩) hbb (.int .i64 ((bw n k).getD (l - 1) 0 + 1))
      have hnm : (n : Int) % (l : Int) = ((n % l : Nat) : Int) := rfl
      have HW1 := Lib.hid hs1
      have HO1 := Lib.hid ho1
      have HB1 := Lib.hid hb1
      clear hs1 ho1 hb1 hwo hou hb r6 r7 hinc hll hlu
      generalize (bw n k).getD (l - 1) 0 = x at *
      generalize incL (bw n k) = L1 at *
      generalize bwE n (bw n k) = EE at *
      generalize onesL EE = q1 at *
      have hBs : w.heap.size ≤ (wr.setCell ⟨bv, l - 1, none⟩ (.int .i64 (x + 1))).heap.size := HB1.out.size
      have HBs := Lib.hid hBs
      have hv1 : bv < (wr.setCell ⟨bv, l - 1, none⟩ (.int .i64 (x + 1))).heap.size := (HW1.out.lt _ rfl).2
      have HNc := Lib.hid (HW1.out.cells (g := bv) rfl)
      have HNl : Hid ((L1.map (Value.int .i64)).length = l * 1) := Lib.hid HW1.out.1
      have HN1 : Hid (∀ t ∈ L1.map (Value.int .i64), t.oneCell' = true) := Lib.hid (fun t ht => by
        obtain ⟨y, -, rfl⟩ := List.mem_map.1 ht; rfl)
      have hl' : (0 : Int) < (l : Int) := by omega
      clear hBs
      obtain ⟨BO, HBOe⟩ : ∃ B, Hid (B = bo n (k + 1)) := ⟨_, Lib.hid rfl⟩
      rw [← HBOe.out] at HboK
      by_cases hd : n % l = 0
      · have g0 : (n : Int) % (l : Int) = 0 := by rw [hnm, hd]; rfl
        rw [if_pos hd] at HboK
        clear hd hnm
        go_wp2_with (at_builtin; refine wpList_append_lies _ rfl _ _ 22 rfl w.heap.size 2 i0 (.int .i64 0) 1 8 (by kernel_rfl) hi hz0 hz1 hz2 rfl (by decide) _ _ _ rfl HO1.out ⟨bv, 0, none⟩ l cv (L1.map (Value.int .i64)) rfl HNl.out HNc.out HN1.out (by omega) (by unfold maxLen; omega) (by omega) HBs.out _ rfl ?_; intro b2 c2 wX hown2 hgrow2 hat2 hlt2)
        have hgrow2 : World.grownBy (wr.setCell ⟨bv, l - 1, none⟩ (.int .i64 (x + 1))) wX (some bu) := hgrow2
        have hat2 : some bu = some b2 ∨ b2 = (wr.setCell ⟨bv, l - 1, none⟩ (.int .i64 (x + 1))).heap.size := hat2
        have HO2 : Hid (wX.ownsRow w.heap.size 2 1 (.slice (some ⟨b2, 0, none⟩) (lu + l) c2) (lu + l) (BO.map (Value.int .i64))) := Lib.hid (by rw [HboK.out, List.map_append]; exact hown2)
        have HW2 := Lib.hid (HW1.out.kept hgrow2 (.inr (by simp [Value.ownBlock]; omega)))
        have hne2 : b2 ≠ bv := by
          rcases hat2 with h | h
          · cases h; exact hne
          · omega
        have HB2 := Lib.hid (HB1.out.grown hgrow2 HBs.out (fun b hb => (HO1.out.lt b hb).1))
        clear hown2 hgrow2 hat2 hlt2 HO1 HW1 HB1 HBs HNc HNl HN1 g0 hv1 c1 f1
        generalize lu + l = lu2 at *
        clear Hinc hws hus hne
        go_loopg [5] (n - l) (fun gj v wr => ∃ (j q bq cq : Nat), q = l + j ∧ q ≤ n ∧ gj = n - q ∧ v = .slice (some ⟨bq, 0, none⟩) q cq ∧ Hid (wr.ownsRow w.heap.size 2 1 (.slice (some ⟨bq, 0, none⟩) q cq) q ((extL l L1 j).map (Value.int .i64))) ∧ Hid (wr.ownsRow w.heap.size 2 1 (.slice (some ⟨b2, 0, none⟩) lu2 c2) lu2 (BO.map (Value.int .i64))) ∧ b2 ≠ bq ∧ Hid (Below w.heap.size w wr))
        case atStart => exact ⟨0, l, bv, cv, rfl, r2, rfl, rfl, HW2, HO2, hne2, HB2⟩
        case round =>
          obtain ⟨j, q, bq, cq, hq, hqn, rfl, rfl, hw2, ho2, hn2, hb2⟩ := hrel
          have Hq := Lib.hid hq
          have hql : l ≤ q := by omega
          clear hq
          have hqs : bq < wr.heap.size := (hw2.out.lt _ rfl).2
          have h2s : b2 < wr.heap.size := (ho2.out.lt _ rfl).2
          have hsz : w.heap.size ≤ wr.heap.size := hb2.out.size
          by_cases hlt2 : q < n
          · have c3 := own_cell hw2.out (q - l) (by omega)
            have Hext : Hid (extL l L1 (j + 1) = extL l L1 j ++ [(extL l L1 j).getD (q - l) 0]) := Lib.hid (by rw [extL, Hxl.out, ← Hq.out])
            generalize (extL l L1 j).getD (q - l) 0 = y at *
            go_wp2_with (at_builtin; refine wpList_append_lies _ rfl _ _ 22 rfl w.heap.size 2 i0 (.int .i64 0) 1 8 (by kernel_rfl) hi hz0 hz1 hz2 rfl (by decide) _ _ _ rfl (hw2.out.alloc _) ⟨wr.heap.size, 0, none⟩ 1 1 [.int .i64 y] rfl rfl (cell_one_new _ _ _) (one_int _) (by omega) (by unfold maxLen; omega) (by omega) (by simp; omega) (wr.heap.size + 1) (by simp) ?_; intro b3 c4 w3 hown3 hgrow3 hat3 hlt3)
            have hgrow3 : World.grownBy (wr.alloc (.cells #[.int .i64 y] 2)) w3 (some bq) := hgrow3
            have hat3 : some bq = some b3 ∨ b3 = wr.heap.size + 1 := hat3
            have HW3 : Hid (w3.ownsRow w.heap.size 2 1 (.slice (some ⟨b3, 0, none⟩) (q + 1) c4) (q + 1) ((extL l L1 (j + 1)).map (Value.int .i64))) := Lib.hid (by rw [Hext.out, List.map_append]; exact hown3)
            have HO3 := Lib.hid ((ho2.out.alloc _).kept hgrow3 (.inr (by simp [Value.ownBlock]; omega)))
            have hne3 : b2 ≠ b3 := by
              rcases hat3 with h | h
              · cases h; exact hn2
              · omega
            have HB3 := Lib.hid ((hb2.out.alloc hsz _).grown hgrow3 (by simp; omega) (fun b hb => (hw2.out.lt b hb).1))
            clear hown3 hgrow3 hat3 hlt3 c3
            go_wp2
            go_roundg (n - (q + 1))
            case measure => omega
            case rel => exact ⟨j + 1, q + 1, b3, c4, by have := Hq.out; omega, by omega, rfl, rfl, HW3, HO3, hne3, HB3⟩
          · obtain rfl : n = q := by omega
            have HEj : Hid (extL l L1 j = EE) := Lib.hid (by rw [HE.out]; congr 1; have := Hq.out; omega)
            rw [HEj.out] at hw2
            obtain ⟨wS, rfl⟩ : ∃ z : World, z = wr := ⟨_, rfl⟩
            go_wp2
            go_loopg [5] q1 (fun gz v wr => ∃ (z p cz : Nat), p + z = n ∧ z ≤ q1 ∧ gz = q1 - z ∧ v = .slice (some ⟨bq, 0, none⟩) p cz ∧ Hid (wS.ownsRow w.heap.size 2 1 (.slice (some ⟨bq, 0, none⟩) p cz) p ((cutL EE z).map (Value.int .i64))) ∧ wS = wr)
            case atStart => exact ⟨0, n, cq, rfl, Nat.zero_le _, rfl, rfl, hw2, rfl⟩
            case round =>
              obtain ⟨z, p, cz, hpz, hz, rfl, rfl, hwz, rfl⟩ := hrel
              have r6 := R6.out z (by omega)
              obtain ⟨r61, r62⟩ := r6
              by_cases hlt3 : z < q1
              · obtain ⟨r63, r64⟩ : (cutL EE z).getD (n - z - 1) 0 = 1 ∧ z < n := by
                  rcases r62 with h | h
                  · omega
                  · exact h
                obtain ⟨p', rfl⟩ : ∃ p', p = p' + 1 := ⟨p - 1, by omega⟩
                have c5 := own_cell hwz.out p' (by omega)
                rw [show p' = n - z - 1 by omega, r63, ← show p' = n - z - 1 by omega] at c5
                have HT : Hid (wS.ownsRow w.heap.size 2 1 (.slice (some ⟨bq, 0, none⟩) p' cz) p' ((cutL EE (z + 1)).map (Value.int .i64))) := Lib.hid (by
                  have := own_trunc hwz.out
                  rw [cutL, show (cutL EE z).length - 1 = p' by omega]; exact this)
                have hcz : p' + 1 ≤ cz := by
                  rcases hwz.out.2 with ⟨h, _⟩ | ⟨g', cap', cur, hv, -, -, hc, -⟩
                  · cases h
                  · cases hv; exact hc
                clear r61 r62 r63 r64
                go_wp2
                go_roundg (q1 - (z + 1))
                case measure => omega
                case rel => exact ⟨z + 1, p', cz, by omega, by omega, rfl, rfl, HT, rfl⟩
              · obtain rfl : z = q1 := by omega
                have HF : Hid (wS.ownsRow w.heap.size 2 1 (.slice (some ⟨bq, 0, none⟩) p cz) p ((bw n (k + 1)).map (Value.int .i64))) := Lib.hid (by rw [HbwK.out]; exact hwz.out)
                by_cases hp0 : p = 0
                · subst hp0
                  clear r61 r62
                  go_wp2
                  go_roundg (N - (k + 1))
                  case measure => omega
                  case rel => exact ⟨k + 1, lu2, b2, c2, 0, bq, cz, by omega, rfl, rfl, rfl, Lib.hid (by rw [← HBOe.out]; exact ho2.out), HF, hn2, hb2⟩
                · have c5 := own_cell hwz.out (p - 1) (by omega)
                  have hx1 : ((cutL EE z).getD (p - 1) 0 == 1) = false := by
                    rcases R7.out with h | h
                    · omega
                    · rw [show p - 1 = n - z - 1 by omega]; exact h
                  have hx2 : ((cutL EE z).getD (p - 1) 0 = 1) = False := eq_false (by intro e; rw [e] at hx1; exact absurd hx1 (by decide))
                  generalize (cutL EE z).getD (p - 1) 0 = y at *
                  clear r61 r62
                  go_wp2
                  go_roundg (N - (k + 1))
                  case measure => omega
                  case rel => exact ⟨k + 1, lu2, b2, c2, p, bq, cz, by omega, rfl, rfl, rfl, Lib.hid (by rw [← HBOe.out]; exact ho2.out), HF, hn2, hb2⟩
      · have g0 : (((n % l : Nat) : Int) == 0) = false := by rw [Bool.eq_false_iff]; intro e; rw [beq_iff_eq] at e; omega
        have g1 : (((n % l : Nat) : Int) = 0) = False := eq_false (by omega)
        rw [if_neg hd] at HboK
        generalize n % l = md at *
        clear hd
        have hdl : decide (0 < l) = true := decide_eq_true (by omega)
        go_wp2
        have HO2 := HO1
        rw [← HboK.out] at HO2
        obtain ⟨lu2, rfl⟩ : ∃ q, q = lu := ⟨_, rfl⟩
        obtain ⟨b2, rfl⟩ : ∃ q, q = bu := ⟨_, rfl⟩
        obtain ⟨c2, rfl⟩ : ∃ q, q = cu := ⟨_, rfl⟩
        have HW2 := HW1
        have HB2 := HB1
        have hne2 := hne
        clear HO1 HW1 HB1 HBs HNc HNl HN1 g0 g1 hv1 c1 f1 hnm
        generalize wr.setCell ⟨bv, l - 1, none⟩ (.int .i64 (x + 1)) = wX at *
        clear Hinc hws hus hne
        go_loopg [5] (n - l) (fun gj v wr => ∃ (j q bq cq : Nat), q = l + j ∧ q ≤ n ∧ gj = n - q ∧ v = .slice (some ⟨bq, 0, none⟩) q cq ∧ Hid (wr.ownsRow w.heap.size 2 1 (.slice (some ⟨bq, 0, none⟩) q cq) q ((extL l L1 j).map (Value.int .i64))) ∧ Hid (wr.ownsRow w.heap.size 2 1 (.slice (some ⟨b2, 0, none⟩) lu2 c2) lu2 (BO.map (Value.int .i64))) ∧ b2 ≠ bq ∧ Hid (Below w.heap.size w wr))
        case atStart => exact ⟨0, l, bv, cv, rfl, r2, rfl, rfl, HW2, HO2, hne2, HB2⟩
        case round =>
          obtain ⟨j, q, bq, cq, hq, hqn, rfl, rfl, hw2, ho2, hn2, hb2⟩ := hrel
          have Hq := Lib.hid hq
          have hql : l ≤ q := by omega
          clear hq
          have hqs : bq < wr.heap.size := (hw2.out.lt _ rfl).2
          have h2s : b2 < wr.heap.size := (ho2.out.lt _ rfl).2
          have hsz : w.heap.size ≤ wr.heap.size := hb2.out.size
          by_cases hlt2 : q < n
          · have c3 := own_cell hw2.out (q - l) (by omega)
            have Hext : Hid (extL l L1 (j + 1) = extL l L1 j ++ [(extL l L1 j).getD (q - l) 0]) := Lib.hid (by rw [extL, Hxl.out, ← Hq.out])
            generalize (extL l L1 j).getD (q - l) 0 = y at *
            go_wp2_with (at_builtin; refine wpList_append_lies _ rfl _ _ 22 rfl w.heap.size 2 i0 (.int .i64 0) 1 8 (by kernel_rfl) hi hz0 hz1 hz2 rfl (by decide) _ _ _ rfl (hw2.out.alloc _) ⟨wr.heap.size, 0, none⟩ 1 1 [.int .i64 y] rfl rfl (cell_one_new _ _ _) (one_int _) (by omega) (by unfold maxLen; omega) (by omega) (by simp; omega) (wr.heap.size + 1) (by simp) ?_; intro b3 c4 w3 hown3 hgrow3 hat3 hlt3)
            have hgrow3 : World.grownBy (wr.alloc (.cells #[.int .i64 y] 2)) w3 (some bq) := hgrow3
            have hat3 : some bq = some b3 ∨ b3 = wr.heap.size + 1 := hat3
            have HW3 : Hid (w3.ownsRow w.heap.size 2 1 (.slice (some ⟨b3, 0, none⟩) (q + 1) c4) (q + 1) ((extL l L1 (j + 1)).map (Value.int .i64))) := Lib.hid (by rw [Hext.out, List.map_append]; exact hown3)
            have HO3 := Lib.hid ((ho2.out.alloc _).kept hgrow3 (.inr (by simp [Value.ownBlock]; omega)))
            have hne3 : b2 ≠ b3 := by
              rcases hat3 with h | h
              · cases h; exact hn2
              · omega
            have HB3 := Lib.hid ((hb2.out.alloc hsz _).grown hgrow3 (by simp; omega) (fun b hb => (hw2.out.lt b hb).1))
            clear hown3 hgrow3 hat3 hlt3 c3
            go_wp2
            go_roundg (n - (q + 1))
            case measure => omega
            case rel => exact ⟨j + 1, q + 1, b3, c4, by have := Hq.out; omega, by omega, rfl, rfl, HW3, HO3, hne3, HB3⟩
          · obtain rfl : n = q := by omega
            have HEj : Hid (extL l L1 j = EE) := Lib.hid (by rw [HE.out]; congr 1; have := Hq.out; omega)
            rw [HEj.out] at hw2
            obtain ⟨wS, rfl⟩ : ∃ z : World, z = wr := ⟨_, rfl⟩
            go_wp2
            go_loopg [5] q1 (fun gz v wr => ∃ (z p cz : Nat), p + z = n ∧ z ≤ q1 ∧ gz = q1 - z ∧ v = .slice (some ⟨bq, 0, none⟩) p cz ∧ Hid (wS.ownsRow w.heap.size 2 1 (.slice (some ⟨bq, 0, none⟩) p cz) p ((cutL EE z).map (Value.int .i64))) ∧ wS = wr)
            case atStart => exact ⟨0, n, cq, rfl, Nat.zero_le _, rfl, rfl, hw2, rfl⟩
            case round =>
              obtain ⟨z, p, cz, hpz, hz, rfl, rfl, hwz, rfl⟩ := hrel
              have r6 := R6.out z (by omega)
              obtain ⟨r61, r62⟩ := r6
              by_cases hlt3 : z < q1
              · obtain ⟨r63, r64⟩ : (cutL EE z).getD (n - z - 1) 0 = 1 ∧ z < n := by
                  rcases r62 with h | h
                  · omega
                  · exact h
                obtain ⟨p', rfl⟩ : ∃ p', p = p' + 1 := ⟨p - 1, by omega⟩
                have c5 := own_cell hwz.out p' (by omega)
                rw [show p' = n - z - 1 by omega, r63, ← show p' = n - z - 1 by omega] at c5
                have HT : Hid (wS.ownsRow w.heap.size 2 1 (.slice (some ⟨bq, 0, none⟩) p' cz) p' ((cutL EE (z + 1)).map (Value.int .i64))) := Lib.hid (by
                  have := own_trunc hwz.out
                  rw [cutL, show (cutL EE z).length - 1 = p' by omega]; exact this)
                have hcz : p' + 1 ≤ cz := by
                  rcases hwz.out.2 with ⟨h, _⟩ | ⟨g', cap', cur, hv, -, -, hc, -⟩
                  · cases h
                  · cases hv; exact hc
                clear r61 r62 r63 r64
                go_wp2
                go_roundg (q1 - (z + 1))
                case measure => omega
                case rel => exact ⟨z + 1, p', cz, by omega, by omega, rfl, rfl, HT, rfl⟩
              · obtain rfl : z = q1 := by omega
                have HF : Hid (wS.ownsRow w.heap.size 2 1 (.slice (some ⟨bq, 0, none⟩) p cz) p ((bw n (k + 1)).map (Value.int .i64))) := Lib.hid (by rw [HbwK.out]; exact hwz.out)
                by_cases hp0 : p = 0
                · subst hp0
                  clear r61 r62
                  go_wp2
                  go_roundg (N - (k + 1))
                  case measure => omega
                  case rel => exact ⟨k + 1, lu2, b2, c2, 0, bq, cz, by omega, rfl, rfl, rfl, Lib.hid (by rw [← HBOe.out]; exact ho2.out), HF, hn2, hb2⟩
                · have c5 := own_cell hwz.out (p - 1) (by omega)
                  have hx1 : ((cutL EE z).getD (p - 1) 0 == 1) = false := by
                    rcases R7.out with h | h
                    · omega
                    · rw [show p - 1 = n - z - 1 by omega]; exact h
                  have hx2 : ((cutL EE z).getD (p - 1) 0 = 1) = False := eq_false (by intro e; rw [e] at hx1; exact absurd hx1 (by decide))
                  generalize (cutL EE z).getD (p - 1) 0 = y at *
                  clear r61 r62
                  go_wp2
                  go_roundg (N - (k + 1))
                  case measure => omega
                  case rel => exact ⟨k + 1, lu2, b2, c2, p, bq, cz, by omega, rfl, rfl, rfl, Lib.hid (by rw [← HBOe.out]; exact ho2.out), HF, hn2, hb2⟩
    · obtain rfl : k = N := by omega
      rw [Hend.out] at hll
      have hl0 : l = 0 := hll.symm
      subst hl0
      go_wp2
      go_ret2
      exact ⟨_, rfl, Sw.of_owns hou.out hlu, hb.out⟩
end Go.Proofs.Ytkhjeijcpldojaa
