/- Contracts: WaitsOf, both texts. -/
import Derived.Test.YtglmahgbdgbbpaaZj
import Derived.Test.YtglmahgbdgbbpaaZk
set_option linter.unusedVariables false
namespace Go.Proofs.Ytglmahgbdgbbpaa
open Go.RowKit

def ok_WaitsOf (fs : List Int) : Bool := tileB fs && decide (sumI fs fs.length ≤ 13)
def res_WaitsOf (fs : List Int) : List Int := if ok_WaitsOf fs = true then waitT fs 9 else []
theorem len_WaitsOf (fs : List Int) : (res_WaitsOf fs).length ≤ 1048576 := by
  unfold res_WaitsOf
  split
  · have := waitT_len fs 9; omega
  · simp
set_option maxRecDepth 100000 in
set_option maxHeartbeats 4000000 in
theorem impl_WaitsOf (fs : List Int) (v : Value) (w : World) (hn : fs.length ≤ 1048576) (h : Sl (Value.int .i64) 0 w v fs) :
    Calls Try.prog 32 #[v] w fun e w' => ∃ r, e = .returned (.tuple #[r, .bool (ok_WaitsOf fs)]) ∧ Sw (Value.int .i64) 0 w' r (res_WaitsOf fs) w.heap.size w'.heap.size ∧ Below w.heap.size w w' := by
  have H := Lib.hid (handOf_any fs v w hn h)
  have HL := Lib.hid (handL_len fs)
  have HF := Lib.hid (fun (hb : tileB fs = true) z => waits_impl fs z (nine_of hb))
  have HLe := Lib.hid (fun (hb : tileB fs = true) => show handL fs = fs by unfold handL; rw [if_pos hb])
  have HSe := Lib.hid (fun (hb : tileB fs = true) => show handS fs = sumI fs fs.length ∧ sumI fs fs.length ≤ 14 from ⟨by unfold handS; rw [if_pos hb], (tileB_at hb).2.2⟩)
  unfold res_WaitsOf ok_WaitsOf
  unfold hv at *
  obtain ⟨p, cap, rfl, -⟩ := h
  generalize waitT fs 9 = V at *
  generalize handS fs = S at *
  cases hb : tileB fs
  · rw [hb] at H
    rw [Bool.false_and, if_neg Bool.false_ne_true]
    clear HF HLe HSe hb
    generalize handL fs = L at *
    generalize fs.length = n at *
    go_enter Try.func32, Try.ntmps32
    go_wp2_with (first | (go_at_call 65; (refine (H.out).mono ?_); rintro e w1 ⟨rfl, hb⟩; have Hb := Lib.hid hb; have HB1 := Lib.hid (Bk.new w1 zs9); have HBW : Hid (Below w.heap.size w ((w1.alloc (.cells #[.int .i64 0, .int .i64 0, .int .i64 0, .int .i64 0, .int .i64 0, .int .i64 0, .int .i64 0, .int .i64 0, .int .i64 0] 59)).setRow w1.heap.size ((L).map (Value.int .i64)).toArray)) := Lib.hid (below_setRow (hb.alloc hb.size _) hb.size _); clear hb) | (refine wpList_store_row (o := ⟨none, .store 59 _ _, _, _, _, _⟩) rfl 59 (.tmp 4) (.tmp 10) rfl (w1.heap.size) (((L).map (Value.int .i64)).toArray) rfl rfl 59 _ HB1.out (iA HL.out) (sA rfl HL.out) (one_all L) ?_))
    go_ret2
    exact ⟨_, rfl, Sw.nil _ _ _ _ _ _ _, HBW.out⟩
  · have HF2 := Lib.hid (HF.out hb)
    obtain ⟨hs1, hs2⟩ := HSe.out hb
    rw [HLe.out hb] at H HL
    rw [hb] at H
    rw [← hs1] at hs2 ⊢
    clear HF HLe HSe hb hs1
    generalize fs.length = n at H ⊢
    by_cases h13 : S ≤ 13
    · rw [decide_eq_true h13, if_pos (by rfl)]
      have d1 : (S == 14) = false := by rw [beq_eq_false_iff_ne]; omega
      clear h13 hs2
      go_enter Try.func32, Try.ntmps32
      go_wp2_with (first | (go_at_call 65; (refine (H.out).mono ?_); rintro e w1 ⟨rfl, hb⟩; have HB1 := Lib.hid (Bk.new w1 zs9); have HB2 : Hid (Bk ((w1.alloc (.cells #[.int .i64 0, .int .i64 0, .int .i64 0, .int .i64 0, .int .i64 0, .int .i64 0, .int .i64 0, .int .i64 0, .int .i64 0] 59)).setRow w1.heap.size ((fs).map (Value.int .i64)).toArray) w1.heap.size fs) := Lib.hid HB1.out.row; have HBW : Hid (Below w.heap.size w ((w1.alloc (.cells #[.int .i64 0, .int .i64 0, .int .i64 0, .int .i64 0, .int .i64 0, .int .i64 0, .int .i64 0, .int .i64 0, .int .i64 0] 59)).setRow w1.heap.size ((fs).map (Value.int .i64)).toArray)) := Lib.hid (below_setRow (hb.alloc hb.size _) hb.size _); clear hb) | (refine wpList_store_row (o := ⟨none, .store 59 _ _, _, _, _, _⟩) rfl 59 (.tmp 4) (.tmp 10) rfl (w1.heap.size) (((fs).map (Value.int .i64)).toArray) rfl rfl 59 _ HB1.out (iA HL.out) (sA rfl HL.out) (one_all fs) ?_) | (refine wpList_load_mid (op := ⟨some 19, .load 59 _, _, _, _, _⟩) rfl 59 (.tmp 4) rfl (w1.heap.size) 0 rfl (((fs).map (Value.int .i64))) _ HB2.out.range undTH rfl (iL HL.out) ?_) | (go_at_call 70; (refine (HF2.out _).mono ?_); rintro e w3 ⟨r, rfl, hr, hb⟩; have Hr := Lib.hid (hr.mono HBW.out.size (Nat.le_refl _) (Nat.le_refl _)); have Hb := Lib.hid (HBW.out.trans (hb.mono HBW.out.size)); clear hr hb))
      go_ret2
      exact ⟨_, rfl, Hr.out, Hb.out⟩
    · rw [decide_eq_false h13, if_neg (by decide)]
      have d1 : (S == 14) = true := by rw [beq_iff_eq]; omega
      clear h13 hs2
      go_enter Try.func32, Try.ntmps32
      go_wp2_with (first | (go_at_call 65; (refine (H.out).mono ?_); rintro e w1 ⟨rfl, hb⟩; have HB1 := Lib.hid (Bk.new w1 zs9); have HBW : Hid (Below w.heap.size w ((w1.alloc (.cells #[.int .i64 0, .int .i64 0, .int .i64 0, .int .i64 0, .int .i64 0, .int .i64 0, .int .i64 0, .int .i64 0, .int .i64 0] 59)).setRow w1.heap.size ((fs).map (Value.int .i64)).toArray)) := Lib.hid (below_setRow (hb.alloc hb.size _) hb.size _); clear hb) | (refine wpList_store_row (o := ⟨none, .store 59 _ _, _, _, _, _⟩) rfl 59 (.tmp 4) (.tmp 10) rfl (w1.heap.size) (((fs).map (Value.int .i64)).toArray) rfl rfl 59 _ HB1.out (iA HL.out) (sA rfl HL.out) (one_all fs) ?_))
      go_ret2
      exact ⟨_, rfl, Sw.nil _ _ _ _ _ _ _, HBW.out⟩
set_option maxRecDepth 100000 in
set_option maxHeartbeats 8000000 in
theorem waits_spec (l : List Int) (v : Value) (w : World) (h : nineT l) (hs : Sl (Value.int .i64) 0 w v l) :
    Calls Try.prog 69 #[v] w fun e w' => ∃ r, e = .returned r ∧ Sw (Value.int .i64) 0 w' r (waitT l 9) w.heap.size w'.heap.size ∧ Below w.heap.size w w' := by
  obtain ⟨i0, hi, hz0, hz1, hz2⟩ := info_parts (show (Try.prog.info? 2).map (fun i => (i.zero, i.size, i.bytes)) = some (some (.int .i64 0), 1, 8) by kernel_rfl)
  have Hy := Lib.hid h.2
  have H9 := Lib.hid h.1
  have HN := Lib.hid (fun (k : Nat) (hk : k < 9) (h2 : l.getD k 0 < 4) => nine_set h hk (x := l.getD k 0 + 1) (by have := h.2 k hk; omega))
  have HV := Lib.hid (fun k => show waitT l (k + 1) = waitT l k ++ (if l.getD k 0 < 4 ∧ 0 < fullT (l.set k (l.getD k 0 + 1)) then [(k : Int)] else []) from rfl)
  have HV0 := Lib.hid (show waitT l 0 = [] from rfl)
  have HVl := Lib.hid (waitT_len l)
  have HF := Lib.hid (fun (l' : List Int) (u : Value) (z : World) (h' : nineT l') (hu : Sl (Value.int .i64) 0 z u l') => full_spec l' u z h' hu)
  have HS := Lib.hid (fun (l' : List Int) (h' : nineT l') => fullT_bd l' h')
  obtain ⟨p, cap, rfl, hf⟩ := hs
  obtain ⟨hcap, b, off, rfl, hbs, hc⟩ := hf (by rw [h.1]; decide)
  have HC := Lib.hid (fun (z : World) (hz : Below w.heap.size w z) (i : Nat) (hi : i < 9) => show z.cell? ⟨b, off + i, none⟩ = some (.int .i64 (l.getD i 0)) from cell_keep hz (hc i (by rw [h.1]; exact hi)))
  have HNc0 := Lib.hid (lies_facts h.1 hbs hc)
  have HNl : Hid ((l.map (Value.int .i64)).length = 9 * 1) := Lib.hid (by rw [List.length_map, h.1])
  have HN1 : Hid (∀ t ∈ l.map (Value.int .i64), t.oneCell' = true) := Lib.hid (fun t ht => by
    obtain ⟨y, -, rfl⟩ := List.mem_map.1 ht; rfl)
  rw [h.1]
  clear h hf hc hcap
  generalize waitT l = V at *
  generalize fullT = T at *
  go_enter Try.func69, Try.ntmps69
  go_wp2
  go_loopw [3, 4] (fun out i wr => ∃ (k : Nat) (lv : Value), lv = out ∧ k ≤ 9 ∧ i = .int .i64 (k : Int) ∧ Hid (wr.ownsRow w.heap.size 2 1 out (V k).length ((V k).map (Value.int .i64))) ∧ Hid (Below w.heap.size w wr)) (fun _ i _ => 9 - (intOf i).toNat)
  case atStart => exact ⟨0, _, rfl, Nat.zero_le _, rfl, Lib.hid (by rw [HV0.out]; exact own_zeroT _ _ _ (Nat.le_refl _)), Lib.hid ((Below.refl _ _).alloc (Nat.le_refl _) _)⟩
  case round =>
    obtain ⟨k, lv, rfl, hk, rfl, hown, hbw⟩ := hrel
    have hszb := hbw.out.size
    have hvl := HVl.out k
    by_cases hlt : k < 9
    · have HVk := Lib.hid (HV.out k)
      have HNk := Lib.hid (HN.out k hlt)
      obtain ⟨y0, y4⟩ := Hy.out k hlt
      have c1 := HC.out wr hbw.out k hlt
      have HWA : Hid (Below w.heap.size w (wr.alloc (.cells #[] 2))) := Lib.hid (hbw.out.alloc hszb _)
      have HNc := Lib.hid (HNc0.out _ HWA.out)
      have HAT := Lib.hid (fun (w1 : World) (g c2 lo hi : Nat) (h : Sw (Value.int .i64) 0 w1 (.slice (some ⟨g, 0, none⟩) 9 c2) l lo hi) => one_facts h H9.out k hlt (l.getD k 0 + 1))
      generalize l.getD k 0 = y at *
      generalize V k = Vk at *
      by_cases hy4 : y < 4
      · have hn := HNk.out hy4
        have HF2 := Lib.hid (fun u z hu => HF.out _ u z hn hu)
        obtain ⟨z0, z1⟩ := HS.out _ hn
        have d2 : (y == 4) = false := by rw [beq_eq_false_iff_ne]; omega
        have HVk2 := HVk.out
        clear hn HNk HVk
        generalize l.set k (y + 1) = L2 at *
        generalize T L2 = gz at *
        by_cases hp : 0 < gz
        · rw [if_pos ⟨hy4, hp⟩] at HVk2
          have HVk3 := Lib.hid HVk2
          have d3 : decide (0 < gz) = true := decide_eq_true hp
          clear HVk2 HWA
          go_wp2_with (first | (at_builtin; refine wpList_append_lies _ rfl _ _ 25 rfl wr.heap.size 2 i0 (.int .i64 0) 1 8 (by kernel_rfl) hi hz0 hz1 hz2 rfl (by decide) _ _ _ rfl (own_zeroT wr wr.heap.size _ (Nat.le_refl _)) ⟨b, off, none⟩ 9 cap (l.map (Value.int .i64)) rfl HNl.out HNc.out HN1.out (by decide) (by unfold maxLen; omega) (by omega) (by simp) _ rfl ?_; intro g c2 w1 hown hgrow hat hlt; obtain ⟨hsw, hbw1⟩ := clone_facts H9.out hown hgrow; clear hown hgrow hat hlt; obtain ⟨a1, a2, hsw3, hgl⟩ := HAT.out _ _ _ _ _ hsw; have HL3 := Lib.hid hsw3.sl; have HX1 := Lib.hid (hbw1.setCell (p := ⟨g, k, none⟩) hgl (Value.int .i64 (y + 1))); clear hsw hsw3 hbw1 hgl) | (go_at_call 66; (refine (HF2.out _ _ HL3.out).mono ?_); rintro e w4 ⟨rfl, hb⟩; have HX3 := Lib.hid (HX1.out.trans (hb.mono HX1.out.size)); have hown3 := Lib.hid (own_laterY hown.out HX3.out); have hsz3 := HX3.out.size; clear hb) | (at_builtin; refine wpList_append_own _ rfl _ _ 25 rfl w.heap.size 2 i0 (.int .i64 0) 1 8 (by kernel_rfl) hi hz0 hz1 hz2 rfl (by decide) _ _ _ rfl (hown3.out.alloc _) ⟨w4.heap.size, 0, none⟩ 1 1 [.int .i64 ((k : Int))] rfl rfl (cell_one_new _ _ _) (one_int _) (by unfold maxLen; omega) (by omega) (by simp; omega) ?_; intro v2 w2 hown2 hgrow2 _))
          have Hown2 := Lib.hid (own_addY hown2)
          have Hb2 := Lib.hid (((hbw.out.trans (HX3.out.mono hszb)).alloc (by omega) (.cells #[.int .i64 (k : Int)] 2)).grown hgrow2 (by simp; omega) (fun b hb => (hown3.out.lt b hb).1))
          clear hown2 hgrow2
          go_wp2
          go_roundw
          case rel => exact ⟨k + 1, _, rfl, by omega, by go_num, Lib.hid (by rw [HVk3.out]; exact Hown2.out), Hb2⟩
          case measure => simp [intOf]; omega
        · rw [if_neg (fun hh => hp hh.2), List.append_nil] at HVk2
          have HVk3 := Lib.hid HVk2
          have d3 : decide (0 < gz) = false := decide_eq_false hp
          clear HVk2 HWA
          go_wp2_with (first | (at_builtin; refine wpList_append_lies _ rfl _ _ 25 rfl wr.heap.size 2 i0 (.int .i64 0) 1 8 (by kernel_rfl) hi hz0 hz1 hz2 rfl (by decide) _ _ _ rfl (own_zeroT wr wr.heap.size _ (Nat.le_refl _)) ⟨b, off, none⟩ 9 cap (l.map (Value.int .i64)) rfl HNl.out HNc.out HN1.out (by decide) (by unfold maxLen; omega) (by omega) (by simp) _ rfl ?_; intro g c2 w1 hown hgrow hat hlt; obtain ⟨hsw, hbw1⟩ := clone_facts H9.out hown hgrow; clear hown hgrow hat hlt; obtain ⟨a1, a2, hsw3, hgl⟩ := HAT.out _ _ _ _ _ hsw; have HL3 := Lib.hid hsw3.sl; have HX1 := Lib.hid (hbw1.setCell (p := ⟨g, k, none⟩) hgl (Value.int .i64 (y + 1))); clear hsw hsw3 hbw1 hgl) | (go_at_call 66; (refine (HF2.out _ _ HL3.out).mono ?_); rintro e w4 ⟨rfl, hb⟩; have HX3 := Lib.hid (HX1.out.trans (hb.mono HX1.out.size)); have hown3 := Lib.hid (own_laterY hown.out HX3.out); have hsz3 := HX3.out.size; clear hb))
          go_roundw
          case rel => exact ⟨k + 1, _, rfl, by omega, by go_num, Lib.hid (by rw [HVk3.out]; exact hown3.out), Lib.hid (hbw.out.trans (HX3.out.mono hszb))⟩
          case measure => simp [intOf]; omega
      · have HVk2 := HVk.out
        rw [if_neg (fun hh => hy4 hh.1), List.append_nil] at HVk2
        have HVk3 := Lib.hid HVk2
        have d2 : (y == 4) = true := by rw [beq_iff_eq]; omega
        clear HVk2 HNk HVk HWA
        go_wp2
        go_roundw
        case rel => exact ⟨k + 1, _, rfl, by omega, by go_num, Lib.hid (by rw [HVk3.out]; exact hown.out), hbw⟩
        case measure => simp [intOf]; omega
    · obtain rfl : k = 9 := by omega
      go_wp2
      go_ret
      exact ⟨_, rfl, Sw.of_owns hown.out rfl, hbw.out⟩
set_option maxHeartbeats 2000000 in
theorem spec_WaitsOf (fs : List Int) (v : Value) (w : World) (hn : fs.length ≤ 1048576) (h : Sl (Value.int .i64) 0 w v fs) :
    Calls Try.prog 31 #[v] w fun e w' => ∃ r, e = .returned (.tuple #[r, .bool (ok_WaitsOf fs)]) ∧ Sw (Value.int .i64) 0 w' r (res_WaitsOf fs) w.heap.size w'.heap.size ∧ Below w.heap.size w w' := by
  have H := Lib.hid (tiles_spec fs v w hn h)
  have HF := Lib.hid (fun (hb : tileB fs = true) => waits_spec fs v w (nine_of hb) h)
  have HQ := Lib.hid (fun (hb : tileB fs = true) => sumS_any fs v w (by have := (tileB_at hb).1; omega) (tileB_at hb).2.1 h)
  have HSe := Lib.hid (fun (hb : tileB fs = true) => (tileB_at hb).2.2)
  unfold res_WaitsOf ok_WaitsOf
  obtain ⟨p, cap, rfl, -⟩ := h
  generalize waitT fs 9 = V at *
  generalize sumI fs fs.length = S at *
  cases hb : tileB fs
  · rw [hb] at H
    rw [Bool.false_and, if_neg Bool.false_ne_true]
    clear HF HSe HQ hb
    generalize fs.length = n at *
    go_enter Try.func31, Try.ntmps31
    go_wp2_with (go_at_call 64; (refine (H.out).mono ?_); rintro e w1 ⟨rfl, rfl⟩)
    go_ret2
    exact ⟨_, rfl, Sw.nil _ _ _ _ _ _ _, Below.refl _ _⟩
  · have HF2 := Lib.hid (HF.out hb)
    have HQ2 := Lib.hid (HQ.out hb)
    rw [hb] at H
    clear HF HSe HQ hb
    generalize fs.length = n at *
    by_cases h13 : S ≤ 13
    · rw [decide_eq_true h13, if_pos (by rfl)]
      have d1 : decide (13 < S) = false := decide_eq_false (by omega)
      clear h13
      go_enter Try.func31, Try.ntmps31
      go_wp2_with (first | (go_at_call 64; (refine (H.out).mono ?_); rintro e w1 ⟨rfl, rfl⟩) | (go_at_call 68; (refine (HQ2.out).mono ?_); rintro e w3 ⟨rfl, rfl⟩) | (go_at_call 69; (refine (HF2.out).mono ?_); rintro e w1 ⟨r, rfl, hr, hb⟩))
      go_ret2
      exact ⟨_, rfl, hr, hb⟩
    · rw [decide_eq_false h13, if_neg (by decide)]
      have d1 : decide (13 < S) = true := decide_eq_true (by omega)
      clear h13
      go_enter Try.func31, Try.ntmps31
      go_wp2_with (first | (go_at_call 64; (refine (H.out).mono ?_); rintro e w1 ⟨rfl, rfl⟩) | (go_at_call 68; (refine (HQ2.out).mono ?_); rintro e w3 ⟨rfl, rfl⟩))
      go_ret2
      exact ⟨_, rfl, Sw.nil _ _ _ _ _ _ _, Below.refl _ _⟩
end Go.Proofs.Ytglmahgbdgbbpaa
