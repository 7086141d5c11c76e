/- Contracts: hands of tiles, the program: full hands. -/
import Derived.Test.YtglmahgbdgbbpaaZf
set_option linter.unusedVariables false
namespace Go.Proofs.Ytglmahgbdgbbpaa
open Go.RowKit

/-- in how many ways a hand is full, by the kind of the pair -/
def fwT (l : List Int) : Nat → Int
  | 0 => 0
  | i + 1 => fwT l i + (if 2 ≤ l.getD i 0 then grp 9 (l.set i (l.getD i 0 - 2)) else 0)
def fullT (l : List Int) : Int := fwT l 9
theorem nine_set {l : List Int} (h : nineT l) {i : Nat} {x : Int} (hi : i < 9) (hx : 0 ≤ x ∧ x ≤ 4) : nineT (l.set i x) := by
  refine ⟨by rw [List.length_set]; exact h.1, fun j hj => ?_⟩
  rw [getD_set l i j x (by rw [h.1]; exact hi)]
  split
  · exact hx
  · exact h.2 j hj
theorem fwT_bd (l : List Int) (h : nineT l) : ∀ i, i ≤ 9 → 0 ≤ fwT l i ∧ fwT l i ≤ 512 * i
  | 0, _ => ⟨Int.le_refl _, Int.le_refl _⟩
  | i + 1, hi => by
    have h1 := fwT_bd l h i (by omega)
    have hb := h.2 i (by omega)
    rw [fwT]
    split
    · rename_i h2
      have h3 := grp_small 9 (l.set i (l.getD i 0 - 2)) (Nat.le_refl _) (nine_set h (by omega) (by omega))
      omega
    · omega
theorem run_index_hand (l : List Int) (k : Nat) (hk : k < 9) (h9 : l.length = 9) (W : World) :
    (Instr.index 59 (.agg (l.map (Value.int .i64)).toArray) (.int .i64 (k : Int))).run Try.prog W = .ok (.int .i64 (l.getD k 0)) W := by
  have hg : l[k]? = some (l.getD k 0) := by rw [List.getElem?_eq_getElem (by omega), getD_lt l 0 k (by omega)]
  generalize l.getD k 0 = x at hg
  simp [Instr.index, run_underlying undTH, asIntOf, hk, hg, go_sem]
set_option maxRecDepth 100000 in
set_option maxHeartbeats 4000000 in
theorem full_impl (l : List Int) (w : World) (h : nineT l) :
    Calls Try.prog 67 #[hv l] w fun e w' => e = .returned (.int .i64 (fullT l)) ∧ Below w.heap.size w w' := by
  have HB0 : Hid (Bk (w.alloc (.cells ((l).map (Value.int .i64)).toArray 59)) w.heap.size l) := Lib.hid (Bk.new w l)
  have HW : Hid (Below w.heap.size w (w.alloc (.cells ((l).map (Value.int .i64)).toArray 59))) := Lib.hid ((Below.refl _ w).alloc (Nat.le_refl _) _)
  have HB := Lib.hid (fwT_bd l h)
  have Hy := Lib.hid h.2
  have H9 := Lib.hid h.1
  have HN := Lib.hid (fun (k : Nat) (hk : k < 9) (h2 : 2 ≤ l.getD k 0) => nine_set h hk (x := l.getD k 0 - 2) (by have := h.2 k hk; omega))
  have HT := Lib.hid (fun k => show fwT l (k + 1) = fwT l k + (if 2 ≤ l.getD k 0 then grp 9 (l.set k (l.getD k 0 - 2)) else 0) from rfl)
  have HT0 := Lib.hid (show fwT l 0 = 0 from rfl)
  have HI := Lib.hid (fun k (hk : k < 9) => run_index_hand l k hk h.1)
  have HG := Lib.hid (fun (l' : List Int) (z : World) (h' : nineT l') => grp_impl 9 0 l' z rfl h')
  have HS := Lib.hid (fun (l' : List Int) (h' : nineT l') => grp_small 9 l' (Nat.le_refl _) h')
  unfold fullT
  unfold hv at *
  clear h
  generalize fwT l = F at *
  generalize grp 9 = G at *
  go_enter Try.func67, Try.ntmps67
  go_wp2_with (refine wpList_load_mid (op := ⟨some 7, .load 59 _, _, _, _, _⟩) rfl 59 (.tmp 1) rfl (w.heap.size) 0 rfl (((l).map (Value.int .i64))) _ HB0.out.range undTH rfl (iL H9.out) ?_)
  go_loopw [3, 8] (fun s i wr => ∃ k : Nat, k ≤ 9 ∧ i = .int .i64 (k : Int) ∧ s = .int .i64 (F k) ∧ Hid (Bk wr w.heap.size l) ∧ Hid (Below w.heap.size w wr)) (fun _ i _ => 9 - (intOf i).toNat)
  case atStart => exact ⟨0, Nat.zero_le _, rfl, by rw [HT0.out], HB0, HW⟩
  case round =>
    obtain ⟨k, hk, rfl, rfl, hb0, hbw⟩ := hrel
    have hsz := hb0.out.lt
    obtain ⟨x0, x1⟩ := HB.out k hk
    have x2 : F k ≤ 5000 := by omega
    clear x1
    by_cases hlt : k < 9
    · have HT1 := Lib.hid (HT.out k)
      have HN1 := Lib.hid (HN.out k hlt)
      have hidx := HI.out k hlt
      obtain ⟨y0, y4⟩ := Hy.out k hlt
      have HB1 := Lib.hid (Bk.new wr zs9)
      have HB2 : Hid (Bk ((wr.alloc (.cells #[.int .i64 0, .int .i64 0, .int .i64 0, .int .i64 0, .int .i64 0, .int .i64 0, .int .i64 0, .int .i64 0, .int .i64 0] 59)).setRow wr.heap.size ((l).map (Value.int .i64)).toArray) wr.heap.size l) := Lib.hid HB1.out.row
      have c1 := HB2.out.cell k (by rw [H9.out]; exact hlt)
      have c2 := HB2.out.frozen k
      have HBW : Hid (Below w.heap.size w ((wr.alloc (.cells #[.int .i64 0, .int .i64 0, .int .i64 0, .int .i64 0, .int .i64 0, .int .i64 0, .int .i64 0, .int .i64 0, .int .i64 0] 59)).setRow wr.heap.size ((l).map (Value.int .i64)).toArray)) := Lib.hid (below_setRow (hbw.out.alloc (by omega) _) (by omega) _)
      have HK : Hid (Bk ((wr.alloc (.cells #[.int .i64 0, .int .i64 0, .int .i64 0, .int .i64 0, .int .i64 0, .int .i64 0, .int .i64 0, .int .i64 0, .int .i64 0] 59)).setRow wr.heap.size ((l).map (Value.int .i64)).toArray) w.heap.size l) := Lib.hid (hb0.out.later (below_setRow ((Below.refl wr.heap.size wr).alloc (Nat.le_refl _) _) (Nat.le_refl _) _) (by omega))
      have Hs := Lib.hid (HB2.out.set k (l.getD k 0 - 2))
      have Hs1 := Lib.hid (HK.out.apart (g' := wr.heap.size) (i := k) (v := .int .i64 (l.getD k 0 - 2)) (by omega))
      have Hs2 := Lib.hid (HBW.out.setCell (p := ⟨wr.heap.size, k, none⟩) (Nat.le_of_lt hsz) (Value.int .i64 (l.getD k 0 - 2)))
      generalize l.getD k 0 = y at *
      generalize F k = x at *
      by_cases hy2 : 2 ≤ y
      · have HZ := HT1.out
        rw [if_pos hy2] at HZ
        have hn := HN1.out hy2
        have HG2 := Lib.hid (fun z => HG.out _ z hn)
        obtain ⟨z0, z1⟩ := HS.out _ hn
        have H9' := Lib.hid hn.1
        have HZ1 := Lib.hid HZ
        have d2 : decide (2 ≤ y) = true := decide_eq_true hy2
        clear hn HZ HN1 HT1
        generalize l.set k (y - 2) = L2 at *
        generalize G L2 = gz at *
        go_wp2_with (first | (refine wpList_load_mid (op := ⟨some 14, .load 59 _, _, _, _, _⟩) rfl 59 (.tmp 1) rfl (w.heap.size) 0 rfl (((l).map (Value.int .i64))) _ hb0.out.range undTH rfl (iL H9.out) ?_) | (refine wpList_store_row (o := ⟨none, .store 59 _ _, _, _, _, _⟩) rfl 59 (.tmp 6) (.tmp 14) rfl (wr.heap.size) (((l).map (Value.int .i64)).toArray) rfl rfl 59 _ HB1.out (iA H9.out) (sA rfl H9.out) (one_all l) ?_) | (refine wpList_load_mid (op := ⟨some 21, .load 59 _, _, _, _, _⟩) rfl 59 (.tmp 6) rfl (wr.heap.size) 0 rfl (((L2).map (Value.int .i64))) _ Hs.out.range undTH rfl (iL H9'.out) ?_) | (go_at_call 98; (refine (HG2.out _).mono ?_); rintro e w2 ⟨rfl, hb⟩; have Hb3 := Lib.hid (Hs2.out.trans (hb.mono Hs2.out.size)); have HK3 := Lib.hid (Hs1.out.later hb Hs1.out.lt); clear hb))
        go_roundw
        case rel => exact ⟨k + 1, hlt, by go_num, by rw [HZ1.out], HK3, Hb3⟩
        case measure => simp [intOf]; omega
      · have HZ := HT1.out
        rw [if_neg hy2, Int.add_zero] at HZ
        have HZ1 := Lib.hid HZ
        have d2 : decide (2 ≤ y) = false := decide_eq_false hy2
        clear HZ HN1 HT1
        go_wp2
        go_roundw
        case rel => exact ⟨k + 1, hlt, by go_num, by rw [HZ1.out], hb0, hbw⟩
        case measure => simp [intOf]; omega
    · obtain rfl : k = 9 := by omega
      go_wp2
      go_ret
      exact ⟨rfl, hbw.out⟩
end Go.Proofs.Ytglmahgbdgbbpaa
