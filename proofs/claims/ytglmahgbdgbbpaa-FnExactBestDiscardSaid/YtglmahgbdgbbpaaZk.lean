/- Contracts: WaitsOf, the program. -/
import Derived.Test.YtglmahgbdgbbpaaZh
import Derived.Test.YtglmahgbdgbbpaaYc
set_option linter.unusedVariables false
namespace Go.Proofs.Ytglmahgbdgbbpaa
open Go.RowKit

/-- the kinds that make a hand full -/
def waitT (l : List Int) : Nat → List Int
  | 0 => []
  | k + 1 => waitT l k ++ (if l.getD k 0 < 4 ∧ 0 < fullT (l.set k (l.getD k 0 + 1)) then [(k : Int)] else [])
theorem waitT_len (l : List Int) : ∀ k, (waitT l k).length ≤ k
  | 0 => Nat.le_refl _
  | k + 1 => by
    have := waitT_len l k
    rw [waitT, List.length_append]
    split <;> simp <;> omega
theorem wpList_load_guard {P : Program} {ops : Array Oper} {rest : List Oper} {op : Oper} {a : Act} {w : World} {Q : Exit → Act → World → Prop} (hw : Region.wanted op (yielded ops a.tmps) = true) (ty : TypeId) (x : Operand) (ho : op.op = .load ty x)
    (b o : Nat) (hx : a.eval x = .pointer (some ⟨b, o, none⟩)) (cs : List Value) (d : TypeDesc) (hc : w.rangeAt b o cs)
    (hu : P.underlying ty = some d) (hd : d.isRow = true) (hi : (P.info? ty).map (·.size) = some cs.length)
    (h : wpList P ops Q rest (a.put op.dst (.agg cs.toArray)) w) : wpList P ops Q (op :: rest) a w := by
  refine wpList_step fun K hK => ?_
  rw [if_pos hw]
  exact wp_load_mid ty x ho b o hx cs d hc hu hd hi (hK _ _ h)
theorem fullT_bd (l : List Int) (h : nineT l) : 0 ≤ fullT l ∧ fullT l ≤ 5000 := by
  have := fwT_bd l h 9 (Nat.le_refl _)
  unfold fullT
  omega
set_option maxRecDepth 100000 in
set_option maxHeartbeats 8000000 in
theorem waits_impl (l : List Int) (w : World) (h : nineT l) :
    Calls Try.prog 70 #[hv l] w fun e w' => ∃ r, e = .returned r ∧ Sw (Value.int .i64) 0 w' r (waitT l 9) w.heap.size w'.heap.size ∧ Below w.heap.size w w' := by
  obtain ⟨i0, hi, hz0, hz1, hz2⟩ := info_parts (show (Try.prog.info? 2).map (fun i => (i.zero, i.size, i.bytes)) = some (some (.int .i64 0), 1, 8) by kernel_rfl)
  have HB0 : Hid (Bk (w.alloc (.cells ((l).map (Value.int .i64)).toArray 59)) w.heap.size l) := Lib.hid (Bk.new w l)
  have HW : Hid (Below w.heap.size w (w.alloc (.cells ((l).map (Value.int .i64)).toArray 59))) := Lib.hid ((Below.refl _ w).alloc (Nat.le_refl _) _)
  have Hy := Lib.hid h.2
  have H9 := Lib.hid h.1
  have HN := Lib.hid (fun (k : Nat) (hk : k < 9) (h2 : l.getD k 0 < 4) => nine_set h hk (x := l.getD k 0 + 1) (by have := h.2 k hk; omega))
  have HV := Lib.hid (fun k => show waitT l (k + 1) = waitT l k ++ (if l.getD k 0 < 4 ∧ 0 < fullT (l.set k (l.getD k 0 + 1)) then [(k : Int)] else []) from rfl)
  have HV0 := Lib.hid (show waitT l 0 = [] from rfl)
  have HVl := Lib.hid (waitT_len l)
  have HF := Lib.hid (fun (l' : List Int) (z : World) (h' : nineT l') => full_impl l' z h')
  have HS := Lib.hid (fun (l' : List Int) (h' : nineT l') => fullT_bd l' h')
  unfold hv at *
  clear h
  generalize waitT l = V at *
  generalize fullT = T at *
  go_enter Try.func70, Try.ntmps70
  go_wp2
  go_loopw [3, 6] (fun out i wr => ∃ (k : Nat) (lv : Value), lv = out ∧ k ≤ 9 ∧ i = .int .i64 (k : Int) ∧ Hid (wr.ownsRow (w.heap.size + 1) 2 1 out (V k).length ((V k).map (Value.int .i64))) ∧ Hid (Bk wr w.heap.size l) ∧ Hid (Below w.heap.size w wr)) (fun _ i _ => 9 - (intOf i).toNat)
  case atStart => exact ⟨0, _, rfl, Nat.zero_le _, rfl, Lib.hid (by rw [HV0.out]; exact World.ownsRow_nil _ _ _ _), HB0, HW⟩
  case round =>
    obtain ⟨k, lv, rfl, hk, rfl, hown, hb0, hbw⟩ := hrel
    have hsz := hb0.out.lt
    have hvl := HVl.out k
    by_cases hlt : k < 9
    · have HVk := Lib.hid (HV.out k)
      have HNk := Lib.hid (HN.out k hlt)
      obtain ⟨y0, y4⟩ := Hy.out k hlt
      have HB1 := Lib.hid (Bk.new wr zs9)
      have HB2 : Hid (Bk ((wr.alloc (.cells #[.int .i64 0, .int .i64 0, .int .i64 0, .int .i64 0, .int .i64 0, .int .i64 0, .int .i64 0, .int .i64 0, .int .i64 0] 59)).setRow wr.heap.size ((l).map (Value.int .i64)).toArray) wr.heap.size l) := Lib.hid HB1.out.row
      have c1 := HB2.out.cell k (by rw [H9.out]; exact hlt)
      have c2 := HB2.out.frozen k
      have HX : Hid (Below wr.heap.size wr ((wr.alloc (.cells #[.int .i64 0, .int .i64 0, .int .i64 0, .int .i64 0, .int .i64 0, .int .i64 0, .int .i64 0, .int .i64 0, .int .i64 0] 59)).setRow wr.heap.size ((l).map (Value.int .i64)).toArray)) := Lib.hid (below_setRow ((Below.refl wr.heap.size wr).alloc (Nat.le_refl _) _) (Nat.le_refl _) _)
      have HX2 := Lib.hid (HX.out.setCell (p := ⟨wr.heap.size, k, none⟩) (Nat.le_refl _) (Value.int .i64 (l.getD k 0 + 1)))
      have Hs := Lib.hid (HB2.out.set k (l.getD k 0 + 1))
      have c3 := Hs.out.cell k (by rw [List.length_set, H9.out]; exact hlt)
      rw [getD_set l k k _ (by rw [H9.out]; exact hlt), if_pos rfl] at c3
      generalize l.getD k 0 = y at *
      generalize V k = Vk at *
      by_cases hy4 : y < 4
      · have hn := HNk.out hy4
        have HF2 := Lib.hid (fun z => HF.out _ z hn)
        obtain ⟨z0, z1⟩ := HS.out _ hn
        have H9' := Lib.hid hn.1
        have d2 : decide (y + 1 ≤ 4) = true := decide_eq_true (by omega)
        have HVk2 := HVk.out
        clear hn HNk HVk
        generalize l.set k (y + 1) = L2 at *
        generalize T L2 = gz at *
        by_cases hp : 0 < gz
        · rw [if_pos ⟨hy4, hp⟩] at HVk2
          have HVk3 := Lib.hid HVk2
          have d3 : decide (0 < gz) = true := decide_eq_true hp
          clear HVk2
          go_wp2_with (first | (refine wpList_load_mid (op := ⟨some 9, .load 59 _, _, _, _, _⟩) rfl 59 (.tmp 1) rfl (w.heap.size) 0 rfl (((l).map (Value.int .i64))) _ hb0.out.range undTH rfl (iL H9.out) ?_) | (refine wpList_store_row (o := ⟨none, .store 59 _ _, _, _, _, _⟩) rfl 59 (.tmp 5) (.tmp 9) rfl (wr.heap.size) (((l).map (Value.int .i64)).toArray) rfl rfl 59 _ HB1.out (iA H9.out) (sA rfl H9.out) (one_all l) ?_) | (refine wpList_load_guard (op := ⟨some 20, .load 59 _, _, _, _, _⟩) rfl 59 (.tmp 5) rfl (wr.heap.size) 0 rfl (((L2).map (Value.int .i64))) _ Hs.out.range undTH rfl (iL H9'.out) ?_) | (go_at_call 67; (refine (HF2.out _).mono ?_); rintro e w4 ⟨rfl, hb⟩; have HX3 := Lib.hid (HX2.out.trans (hb.mono HX2.out.size)); have hown3 := Lib.hid (own_laterY hown.out HX3.out); have hsz3 := HX3.out.size; clear hb) | (at_builtin; refine wpList_append_own _ rfl _ _ 25 rfl (w.heap.size + 1) 2 i0 (.int .i64 0) 1 8 (by kernel_rfl) hi hz0 hz1 hz2 rfl (by decide) _ _ _ rfl (hown3.out.alloc _) ⟨w4.heap.size, 0, none⟩ 1 1 [.int .i64 ((k : Int))] rfl rfl (cell_one_new _ _ _) (one_int _) (by unfold maxLen; omega) (by omega) (by simp; omega) ?_; intro v2 w2 hown2 hgrow2 _))
          have Hown2 := Lib.hid (own_addY hown2)
          have Hb2 := Lib.hid ((((Below.refl (w.heap.size + 1) w4)).alloc (by omega) (.cells #[.int .i64 (k : Int)] 2)).grown hgrow2 (by simp; omega) (fun b hb => (hown3.out.lt b hb).1))
          have HK2 := Lib.hid ((hb0.out.later HX3.out hsz).later Hb2.out (by omega))
          have Hb3 := Lib.hid ((hbw.out.trans (HX3.out.mono (by omega))).trans (Hb2.out.mono (by omega)))
          clear hown2 hgrow2
          go_wp2
          go_roundw
          case rel => exact ⟨k + 1, _, rfl, by omega, by go_num, Lib.hid (by rw [HVk3.out]; exact Hown2.out), HK2, Hb3⟩
          case measure => simp [intOf]; omega
        · rw [if_neg (fun hh => hp hh.2), List.append_nil] at HVk2
          have HVk3 := Lib.hid HVk2
          have d3 : decide (0 < gz) = false := decide_eq_false hp
          clear HVk2
          go_wp2_with (first | (refine wpList_load_mid (op := ⟨some 9, .load 59 _, _, _, _, _⟩) rfl 59 (.tmp 1) rfl (w.heap.size) 0 rfl (((l).map (Value.int .i64))) _ hb0.out.range undTH rfl (iL H9.out) ?_) | (refine wpList_store_row (o := ⟨none, .store 59 _ _, _, _, _, _⟩) rfl 59 (.tmp 5) (.tmp 9) rfl (wr.heap.size) (((l).map (Value.int .i64)).toArray) rfl rfl 59 _ HB1.out (iA H9.out) (sA rfl H9.out) (one_all l) ?_) | (refine wpList_load_guard (op := ⟨some 20, .load 59 _, _, _, _, _⟩) rfl 59 (.tmp 5) rfl (wr.heap.size) 0 rfl (((L2).map (Value.int .i64))) _ Hs.out.range undTH rfl (iL H9'.out) ?_) | (go_at_call 67; (refine (HF2.out _).mono ?_); rintro e w2 ⟨rfl, hb⟩; have HX3 := Lib.hid (HX2.out.trans (hb.mono HX2.out.size)); have hown3 := Lib.hid (own_laterY hown.out HX3.out); have hsz3 := HX3.out.size; clear hb))
          go_roundw
          case rel => exact ⟨k + 1, _, rfl, by omega, by go_num, Lib.hid (by rw [HVk3.out]; exact hown3.out), Lib.hid (hb0.out.later HX3.out hsz), Lib.hid (hbw.out.trans (HX3.out.mono (by omega)))⟩
          case measure => simp [intOf]; omega
      · have HVk2 := HVk.out
        rw [if_neg (fun hh => hy4 hh.1), List.append_nil] at HVk2
        have HVk3 := Lib.hid HVk2
        have d2 : decide (y + 1 ≤ 4) = false := decide_eq_false (by omega)
        have hown3 := Lib.hid (own_laterY hown.out HX2.out)
        clear HVk2 HNk HVk
        go_wp2_with (first | (refine wpList_load_mid (op := ⟨some 9, .load 59 _, _, _, _, _⟩) rfl 59 (.tmp 1) rfl (w.heap.size) 0 rfl (((l).map (Value.int .i64))) _ hb0.out.range undTH rfl (iL H9.out) ?_) | (refine wpList_store_row (o := ⟨none, .store 59 _ _, _, _, _, _⟩) rfl 59 (.tmp 5) (.tmp 9) rfl (wr.heap.size) (((l).map (Value.int .i64)).toArray) rfl rfl 59 _ HB1.out (iA H9.out) (sA rfl H9.out) (one_all l) ?_))
        go_roundw
        case rel => exact ⟨k + 1, _, rfl, by omega, by go_num, Lib.hid (by rw [HVk3.out]; exact hown3.out), Lib.hid (hb0.out.later HX2.out hsz), Lib.hid (hbw.out.trans (HX2.out.mono (by omega)))⟩
        case measure => simp [intOf]; omega
    · obtain rfl : k = 9 := by omega
      go_wp2
      go_ret
      exact ⟨_, rfl, (Sw.of_owns hown.out rfl).mono (by omega) (Nat.le_refl _) (Nat.le_refl _), hbw.out⟩
end Go.Proofs.Ytglmahgbdgbbpaa
