/- Contracts: BestDiscard, the program. -/
import Derived.Test.YtglmahgbdgbbpaaZo
set_option linter.unusedVariables false
namespace Go.Proofs.Ytglmahgbdgbbpaa
open Go.RowKit

theorem fullSize_any (s : Nat) (hs : s ≤ 100) (w : World) :
    Calls Try.prog 71 #[.int .i64 (s : Int)] w fun e w' => e = .returned (.bool ((s : Int) % 3 == 2)) ∧ w = w' := by
  go_enter Try.func71, Try.ntmps71
  go_wp2
  go_ret
  exact ⟨rfl, rfl⟩
set_option maxRecDepth 100000 in
set_option maxHeartbeats 8000000 in
theorem impl_BestDiscard (fs : List Int) (v : Value) (w : World) (hn : fs.length ≤ 1048576) (h : Sl (Value.int .i64) 0 w v fs) :
    Calls Try.prog 34 #[v] w fun e w' => e = .returned (.tuple #[.int .i64 (res_BestDiscard fs), .int .i64 (res2_BestDiscard fs), .bool (ok_BestDiscard fs)]) ∧ Below w.heap.size w w' := by
  have H := Lib.hid (handOf_any fs v w hn h)
  have HL := Lib.hid (handL_len fs)
  have HLe := Lib.hid (fun (hb : tileB fs = true) => show handL fs = fs by unfold handL; rw [if_pos hb])
  have HSe := Lib.hid (fun (hb : tileB fs = true) => show handS fs = sumI fs 9 ∧ fs.length = 9 ∧ nineT fs from ⟨by unfold handS; rw [if_pos hb, (tileB_at hb).1], (tileB_at hb).1, nine_of hb⟩)
  have HE := Lib.hid (fun (h9 : fs.length = 9) => bestT_eq fs h9)
  unfold res_BestDiscard res2_BestDiscard ok_BestDiscard
  unfold hv at *
  obtain ⟨p, cap, rfl, -⟩ := h
  cases hb : tileB fs
  · rw [hb] at H
    rw [Bool.false_and, if_neg Bool.false_ne_true, if_neg Bool.false_ne_true]
    clear HLe HSe hb HE
    generalize handL fs = L at *
    generalize handS fs = S at *
    generalize fs.length = n at *
    go_enter Try.func34, Try.ntmps34
    go_wp2_with (first | (go_at_call 65; (refine (H.out).mono ?_); rintro e w1 ⟨rfl, hb⟩; have HB1 := Lib.hid (Bk.new w1 zs9); have HB2 : Hid (Bk ((w1.alloc (.cells #[.int .i64 0, .int .i64 0, .int .i64 0, .int .i64 0, .int .i64 0, .int .i64 0, .int .i64 0, .int .i64 0, .int .i64 0] 59)).setRow w1.heap.size ((L).map (Value.int .i64)).toArray) w1.heap.size L) := Lib.hid HB1.out.row; have HBW : Hid (Below w.heap.size w ((w1.alloc (.cells #[.int .i64 0, .int .i64 0, .int .i64 0, .int .i64 0, .int .i64 0, .int .i64 0, .int .i64 0, .int .i64 0, .int .i64 0] 59)).setRow w1.heap.size ((L).map (Value.int .i64)).toArray)) := Lib.hid (below_setRow (hb.alloc hb.size _) hb.size _); have hszw := hb.size; clear hb) | (refine wpList_store_row (o := ⟨none, .store 59 _ _, _, _, _, _⟩) rfl 59 (.tmp 5) (.tmp 17) rfl (w1.heap.size) (((L).map (Value.int .i64)).toArray) rfl rfl 59 _ HB1.out (iA HL.out) (sA rfl HL.out) (one_all L) ?_))
    go_ret3
    exact ⟨rfl, HBW.out⟩
  · obtain ⟨hs1, h9, hn9⟩ := HSe.out hb
    rw [HLe.out hb] at H HL
    rw [hb, hs1] at H
    rw [h9]
    obtain ⟨s, hs2, hs3⟩ := sumI_nat fs hn9
    have HE2 := Lib.hid (HE.out h9)
    have HNf := Lib.hid hn9
    rw [hs2] at H HE2 ⊢
    have HQ := Lib.hid (fun z => fullSize_any s (by omega) z)
    rw [h9] at H
    clear HLe HSe hb hs1 hn h9 hn9 hs2 HE
    obtain ⟨L, hL⟩ : ∃ L, L = fs := ⟨_, rfl⟩
    rw [← hL] at H HL HE2 HNf ⊢
    clear hL fs
    by_cases hm : (s : Int) % 3 = 2
    · rw [decide_eq_true hm, if_pos (by rfl), if_pos (by rfl), ← HE2.out hm]
      have d0 : ((s : Int) % 3 == 2) = true := by rw [hm]; rfl
      rw [d0] at HQ
      have HF := Lib.hid (fun (l' : List Int) (z : World) (h' : nineT l') => waits_impl l' z h')
      have HI := Lib.hid (fun k (hk : k < 9) => run_index_hand L k hk HL.out)
      have Hy := Lib.hid HNf.out.2
      have HN := Lib.hid (fun (k : Nat) (hk : k < 9) (h2 : L.getD k 0 ≠ 0) => nine_set HNf.out hk (x := L.getD k 0 - 1) (by have := HNf.out.2 k hk; omega))
      have HT := Lib.hid (fun k => show bestT 0 L (k + 1) = if L.getD k 0 = 0 then bestT 0 L k else if (bestT 0 L k).2 < ((waitT (L.set k (L.getD k 0 - 1)) 9).length : Int) then ((k : Int), ((waitT (L.set k (L.getD k 0 - 1)) 9).length : Int)) else bestT 0 L k from rfl)
      have HT0 := Lib.hid (show bestT 0 L 0 = (0, -1) from rfl)
      unfold hv at HF
      generalize bestT 0 L = B at *
      clear hm HE2 hs3 HNf d0
      go_enter Try.func34, Try.ntmps34
      go_wp2_with (first | (go_at_call 65; (refine (H.out).mono ?_); rintro e w1 ⟨rfl, hb⟩; have HB1 := Lib.hid (Bk.new w1 zs9); have HB2 : Hid (Bk ((w1.alloc (.cells #[.int .i64 0, .int .i64 0, .int .i64 0, .int .i64 0, .int .i64 0, .int .i64 0, .int .i64 0, .int .i64 0, .int .i64 0] 59)).setRow w1.heap.size ((L).map (Value.int .i64)).toArray) w1.heap.size L) := Lib.hid HB1.out.row; have HBW : Hid (Below w.heap.size w ((w1.alloc (.cells #[.int .i64 0, .int .i64 0, .int .i64 0, .int .i64 0, .int .i64 0, .int .i64 0, .int .i64 0, .int .i64 0, .int .i64 0] 59)).setRow w1.heap.size ((L).map (Value.int .i64)).toArray)) := Lib.hid (below_setRow (hb.alloc hb.size _) hb.size _); have hszw := hb.size; clear hb) | (refine wpList_store_row (o := ⟨none, .store 59 _ _, _, _, _, _⟩) rfl 59 (.tmp 5) (.tmp 17) rfl (w1.heap.size) (((L).map (Value.int .i64)).toArray) rfl rfl 59 _ HB1.out (iA HL.out) (sA rfl HL.out) (one_all L) ?_) | (go_at_call 71; (refine (HQ.out _).mono ?_); rintro e w3 ⟨rfl, rfl⟩) | (refine wpList_load_mid (op := ⟨some 27, .load 59 _, _, _, _, _⟩) rfl 59 (.tmp 5) rfl (w1.heap.size) 0 rfl (((L).map (Value.int .i64))) _ HB2.out.range undTH rfl (iL HL.out) ?_))
      go_loopw [8, 9, 28] (fun a c i wr => ∃ k : Nat, k ≤ 9 ∧ i = .int .i64 (k : Int) ∧ a = .int .i64 (B k).1 ∧ c = .int .i64 (B k).2 ∧ Hid (Bk wr w1.heap.size L) ∧ Hid (Below w.heap.size w wr)) (fun _ _ i _ => 9 - (intOf i).toNat)
      case atStart => exact ⟨0, Nat.zero_le _, rfl, by rw [HT0.out], by rw [HT0.out], HB2, HBW⟩
      case round =>
        obtain ⟨k, hk, rfl, rfl, rfl, hb0, hbw⟩ := hrel
        have hsz := hb0.out.lt
        by_cases hlt : k < 9
        · have HTk := Lib.hid (HT.out k)
          have HNk := Lib.hid (HN.out k hlt)
          have hidx := HI.out k hlt
          obtain ⟨y0, y4⟩ := Hy.out k hlt
          have HB3 := Lib.hid (Bk.new wr zs9)
          have HB4 : Hid (Bk ((wr.alloc (.cells #[.int .i64 0, .int .i64 0, .int .i64 0, .int .i64 0, .int .i64 0, .int .i64 0, .int .i64 0, .int .i64 0, .int .i64 0] 59)).setRow wr.heap.size ((L).map (Value.int .i64)).toArray) wr.heap.size L) := Lib.hid HB3.out.row
          have c1 := HB4.out.cell k (by rw [HL.out]; exact hlt)
          have c2 := HB4.out.frozen k
          have HX : Hid (Below wr.heap.size wr ((wr.alloc (.cells #[.int .i64 0, .int .i64 0, .int .i64 0, .int .i64 0, .int .i64 0, .int .i64 0, .int .i64 0, .int .i64 0, .int .i64 0] 59)).setRow wr.heap.size ((L).map (Value.int .i64)).toArray)) := Lib.hid (below_setRow ((Below.refl wr.heap.size wr).alloc (Nat.le_refl _) _) (Nat.le_refl _) _)
          have HX2 := Lib.hid (HX.out.setCell (p := ⟨wr.heap.size, k, none⟩) (Nat.le_refl _) (Value.int .i64 (L.getD k 0 - 1)))
          have Hs := Lib.hid (HB4.out.set k (L.getD k 0 - 1))
          generalize L.getD k 0 = y at *
          generalize B k = q at *
          obtain ⟨x, m⟩ := q
          by_cases hy : y = 0
          · have HZ := HTk.out
            rw [if_pos hy] at HZ
            have HZ2 := Lib.hid HZ
            subst hy
            clear HZ HTk HNk
            go_wp2
            go_roundw
            case rel => exact ⟨k + 1, by omega, by go_num, by rw [HZ2.out], by rw [HZ2.out], hb0, hbw⟩
            case measure => simp [intOf]; omega
          · have hn := HNk.out hy
            have HF2 := Lib.hid (fun z => HF.out _ z hn)
            have H9' := Lib.hid hn.1
            have HZ := HTk.out
            rw [if_neg hy] at HZ
            have d1 : (y == 0) = false := by rw [beq_eq_false_iff_ne]; exact hy
            clear hn HNk HTk hy
            generalize L.set k (y - 1) = L2 at *
            generalize waitT L2 9 = V at *
            generalize hvn : V.length = n at *
            have Hvn := Lib.hid hvn
            clear hvn
            have hX3 := HX2.out.size
            by_cases hp : m < (n : Int)
            · have HZ2 := HZ
              rw [if_pos hp] at HZ2
              have HZ3 := Lib.hid HZ2
              have d2 : decide (m < (n : Int)) = true := decide_eq_true hp
              clear HZ HZ2 hp
              go_wp2_with (first | (refine wpList_load_mid (op := ⟨some 34, .load 59 _, _, _, _, _⟩) rfl 59 (.tmp 5) rfl (w1.heap.size) 0 rfl (((L).map (Value.int .i64))) _ hb0.out.range undTH rfl (iL HL.out) ?_) | (refine wpList_store_row (o := ⟨none, .store 59 _ _, _, _, _, _⟩) rfl 59 (.tmp 12) (.tmp 34) rfl (wr.heap.size) (((L).map (Value.int .i64)).toArray) rfl rfl 59 _ HB3.out (iA HL.out) (sA rfl HL.out) (one_all L) ?_) | (refine wpList_load_mid (op := ⟨some 40, .load 59 _, _, _, _, _⟩) rfl 59 (.tmp 12) rfl (wr.heap.size) 0 rfl (((L2).map (Value.int .i64))) _ Hs.out.range undTH rfl (iL H9'.out) ?_) | (go_at_call 70; (refine (HF2.out _).mono ?_); rintro e w4 ⟨r, rfl, ⟨p2, cap2, rfl, -⟩, hb⟩; rw [Hvn.out]; have HX4 := Lib.hid (HX2.out.trans (hb.mono hX3)); clear hb))
              go_roundw
              case rel => exact ⟨k + 1, by omega, by go_num, by rw [HZ3.out], by rw [HZ3.out], Lib.hid (hb0.out.later HX4.out hsz), Lib.hid (hbw.out.trans (HX4.out.mono hbw.out.size))⟩
              case measure => simp [intOf]; omega
            · have HZ2 := HZ
              rw [if_neg hp] at HZ2
              have HZ3 := Lib.hid HZ2
              have d2 : decide (m < (n : Int)) = false := decide_eq_false hp
              clear HZ HZ2 hp
              go_wp2_with (first | (refine wpList_load_mid (op := ⟨some 34, .load 59 _, _, _, _, _⟩) rfl 59 (.tmp 5) rfl (w1.heap.size) 0 rfl (((L).map (Value.int .i64))) _ hb0.out.range undTH rfl (iL HL.out) ?_) | (refine wpList_store_row (o := ⟨none, .store 59 _ _, _, _, _, _⟩) rfl 59 (.tmp 12) (.tmp 34) rfl (wr.heap.size) (((L).map (Value.int .i64)).toArray) rfl rfl 59 _ HB3.out (iA HL.out) (sA rfl HL.out) (one_all L) ?_) | (refine wpList_load_mid (op := ⟨some 40, .load 59 _, _, _, _, _⟩) rfl 59 (.tmp 12) rfl (wr.heap.size) 0 rfl (((L2).map (Value.int .i64))) _ Hs.out.range undTH rfl (iL H9'.out) ?_) | (go_at_call 70; (refine (HF2.out _).mono ?_); rintro e w4 ⟨r, rfl, ⟨p2, cap2, rfl, -⟩, hb⟩; rw [Hvn.out]; have HX4 := Lib.hid (HX2.out.trans (hb.mono hX3)); clear hb))
              go_roundw
              case rel => exact ⟨k + 1, by omega, by go_num, by rw [HZ3.out], by rw [HZ3.out], Lib.hid (hb0.out.later HX4.out hsz), Lib.hid (hbw.out.trans (HX4.out.mono hbw.out.size))⟩
              case measure => simp [intOf]; omega
        · obtain rfl : k = 9 := by omega
          go_wp2
          go_ret3
          exact ⟨rfl, hbw.out⟩
    · rw [decide_eq_false hm, if_neg (by decide), if_neg (by decide)]
      have d0 : ((s : Int) % 3 == 2) = false := by rw [beq_eq_false_iff_ne]; exact hm
      rw [d0] at HQ
      clear hm HE2 hs3 HNf d0
      go_enter Try.func34, Try.ntmps34
      go_wp2_with (first | (go_at_call 65; (refine (H.out).mono ?_); rintro e w1 ⟨rfl, hb⟩; have HB1 := Lib.hid (Bk.new w1 zs9); have HB2 : Hid (Bk ((w1.alloc (.cells #[.int .i64 0, .int .i64 0, .int .i64 0, .int .i64 0, .int .i64 0, .int .i64 0, .int .i64 0, .int .i64 0, .int .i64 0] 59)).setRow w1.heap.size ((L).map (Value.int .i64)).toArray) w1.heap.size L) := Lib.hid HB1.out.row; have HBW : Hid (Below w.heap.size w ((w1.alloc (.cells #[.int .i64 0, .int .i64 0, .int .i64 0, .int .i64 0, .int .i64 0, .int .i64 0, .int .i64 0, .int .i64 0, .int .i64 0] 59)).setRow w1.heap.size ((L).map (Value.int .i64)).toArray)) := Lib.hid (below_setRow (hb.alloc hb.size _) hb.size _); have hszw := hb.size; clear hb) | (refine wpList_store_row (o := ⟨none, .store 59 _ _, _, _, _, _⟩) rfl 59 (.tmp 5) (.tmp 17) rfl (w1.heap.size) (((L).map (Value.int .i64)).toArray) rfl rfl 59 _ HB1.out (iA HL.out) (sA rfl HL.out) (one_all L) ?_) | (go_at_call 71; (refine (HQ.out _).mono ?_); rintro e w3 ⟨rfl, rfl⟩))
      go_ret3
      exact ⟨rfl, HBW.out⟩
end Go.Proofs.Ytglmahgbdgbbpaa
