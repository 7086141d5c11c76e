/- Contracts: hands of tiles, the program: rows, groups. -/
import Derived.Test.YtglmahgbdgbbpaaZc
import Derived.Test.YtglmahgbdgbbpaaZd
import Derived.Deep.Cut
set_option linter.unusedVariables false
namespace Go.Proofs.Ytglmahgbdgbbpaa
open Go.RowKit

theorem results_arr2 {P : Program} {fn : Func} {tmps : Array Value} {W : World} {c i : Nat} {T : TypeId} {ad : Addr} {v x : Value} (hr : fn.results = #[.cell c T, .tmp i]) (h0 : tmps.getD c undef = .pointer (some ad)) (hl : (loadVar T ad).run P W = .ok v W)
    (hi : tmps.getD i undef = x) : (results fn tmps).run P W = .ok (.tuple #[v, x]) W := by
  unfold results
  rw [hr]
  simp only [Array.getD_eq_getD_getElem?] at h0 hi
  simp [asAddr, h0, hl, hi]
theorem iL {l : List Int} (h : l.length = 9) : (Try.prog.info? 59).map (·.size) = some (l.map (Value.int .i64)).length := by rw [List.length_map, h]; exact infoTH
theorem iA {l : List Int} (h : l.length = 9) : (Try.prog.info? 59).map (·.size) = some (l.map (Value.int .i64)).toArray.size := by rw [List.size_toArray, List.length_map, h]; exact infoTH
theorem sA {l l' : List Int} (h : l.length = 9) (h' : l'.length = 9) : (l.map (Value.int .i64)).toArray.size = (l'.map (Value.int .i64)).toArray.size := by rw [List.size_toArray, List.size_toArray, List.length_map, List.length_map, h, h']
theorem lV {W : World} {g : Nat} {l : List Int} (h : Bk W g l) (h9 : l.length = 9) : (loadVar 59 ⟨g, 0, none⟩).run Try.prog W = .ok (hv l) W :=
  run_loadVar_mid W g 0 59 (l.map (Value.int .i64)) _ h.range undTH rfl (iL h9)
theorem Bk.apart {w : World} {g g' i : Nat} {l : List Int} {v : Value} (h : Bk w g l) (hne : g ≠ g') : Bk (w.setCell ⟨g', i, none⟩ v) g l := h.keep (Below.heap_setCell _ _ _ _ hne)
/-- a list behind j further kinds of rows -/
def rwL (l : List Int) (k : Nat) (r : Int) : Nat → List Int
  | 0 => l
  | j + 1 => (rwL l k r j).set (k + 1 + j) (l.getD (k + 1 + j) 0 - r)
theorem rwL_len (l : List Int) (k : Nat) (r : Int) : ∀ j, (rwL l k r j).length = l.length
  | 0 => rfl
  | j + 1 => by rw [rwL, List.length_set, rwL_len l k r j]
theorem rwL_at (l : List Int) (k : Nat) (r : Int) : ∀ j i, k + 1 + j ≤ i → (rwL l k r j).getD i 0 = l.getD i 0
  | 0, i, _ => rfl
  | j + 1, i, h => by
    rw [rwL]
    simp only [List.getD]
    rw [List.getElem?_set_ne (by omega)]
    exact rwL_at l k r j i (by omega)
set_option maxRecDepth 100000 in
set_option maxHeartbeats 4000000 in
theorem rows_impl (l : List Int) (k : Nat) (r : Int) (w : World) (h : nineT l) (hk : k < 9) (r0 : 0 ≤ r) (r4 : r ≤ 4) :
    Calls Try.prog 109 #[hv l, .int .i64 (k : Int), .int .i64 r] w fun e w' => e = .returned (.tuple #[hv ((rowsT l k r).getD zs9), .bool (rowsT l k r).isSome]) ∧ Below w.heap.size w w' := by
  obtain ⟨h9, hbd⟩ := h
  have HO := Lib.hid (one_all l)
  have HB0 : Hid (Bk ((w.alloc (.cells ((l).map (Value.int .i64)).toArray 59)).alloc (.cells #[.int .i64 0, .int .i64 0, .int .i64 0, .int .i64 0, .int .i64 0, .int .i64 0, .int .i64 0, .int .i64 0, .int .i64 0] 59)) w.heap.size l) := Lib.hid ((Bk.new w l).later ((Below.refl _ _).alloc (Nat.le_refl _) _) (by simp))
  have HB1 : Hid (Bk ((w.alloc (.cells ((l).map (Value.int .i64)).toArray 59)).alloc (.cells #[.int .i64 0, .int .i64 0, .int .i64 0, .int .i64 0, .int .i64 0, .int .i64 0, .int .i64 0, .int .i64 0, .int .i64 0] 59)) (w.heap.size + 1) zs9) := Lib.hid (by have := Bk.new (w.alloc (.cells ((l).map (Value.int .i64)).toArray 59)) zs9; simp only [World.size_alloc] at this; exact this)
  have HW : Hid (Below w.heap.size w ((w.alloc (.cells ((l).map (Value.int .i64)).toArray 59)).alloc (.cells #[.int .i64 0, .int .i64 0, .int .i64 0, .int .i64 0, .int .i64 0, .int .i64 0, .int .i64 0, .int .i64 0, .int .i64 0] 59))) := Lib.hid (((Below.refl _ w).alloc (Nat.le_refl _) _).alloc (by simp) _)
  unfold hv
  by_cases h0 : r = 0
  · have e0 : rowsT l k r = some l := by unfold rowsT; rw [if_pos h0]
    rw [e0]
    subst h0
    have H9 := Lib.hid h9
    have HB2 : Hid (Bk (((w.alloc (.cells ((l).map (Value.int .i64)).toArray 59)).alloc (.cells #[.int .i64 0, .int .i64 0, .int .i64 0, .int .i64 0, .int .i64 0, .int .i64 0, .int .i64 0, .int .i64 0, .int .i64 0] 59)).setRow (w.heap.size + 1) ((l).map (Value.int .i64)).toArray) (w.heap.size + 1) l) := Lib.hid HB1.out.row
    have HB3 := Lib.hid (below_setRow HW.out (g := w.heap.size + 1) (by omega) ((l).map (Value.int .i64)).toArray)
    clear e0 hbd h9
    go_enter Try.func109, Try.ntmps109
    go_upto_region 2 with (fail)
    refine wp_region_lit ?_
    refine wpList_load_mid (op := ⟨some 11, .load 59 _, _, _, _, _⟩) rfl 59 (.tmp 3) rfl (w.heap.size) 0 rfl (((l).map (Value.int .i64))) _ HB0.out.range undTH rfl (iL H9.out) ?_
    go_wp2_with (refine wpList_store_row (o := ⟨none, .store 59 _ _, _, _, _, _⟩) rfl 59 (.tmp 6) (.tmp 11) rfl (w.heap.size + 1) (((l).map (Value.int .i64)).toArray) rfl rfl 59 _ HB1.out (iA H9.out) (sA rfl H9.out) HO.out ?_)
    have hlV := lV HB2.out H9.out
    refine bodyPost_ret_by (v := .tuple #[hv l, .bool true]) ?_ rfl ⟨rfl, HB3.out⟩
    exact results_arr2 Try.results109 rfl hlV rfl
  · have d0 : (r == 0) = false := by simpa using h0
    by_cases hk9 : 9 < k + 3
    · have e0 : rowsT l k r = none := by unfold rowsT; rw [if_neg h0, if_pos hk9]
      rw [e0]
      have HB2 : Hid (Bk (((w.alloc (.cells ((l).map (Value.int .i64)).toArray 59)).alloc (.cells #[.int .i64 0, .int .i64 0, .int .i64 0, .int .i64 0, .int .i64 0, .int .i64 0, .int .i64 0, .int .i64 0, .int .i64 0] 59)).setRow (w.heap.size + 1) ((zs9).map (Value.int .i64)).toArray) (w.heap.size + 1) zs9) := Lib.hid HB1.out.row
      have HB3 := Lib.hid (below_setRow HW.out (g := w.heap.size + 1) (by omega) ((zs9).map (Value.int .i64)).toArray)
      have d1 : decide (9 < (k : Int) + 3) = true := decide_eq_true (by omega)
      clear e0 hbd h0
      go_enter Try.func109, Try.ntmps109
      go_wp2_with (refine wpList_store_row (o := ⟨none, .store 59 _ _, _, _, _, _⟩) rfl 59 (.tmp 6) (.tmp 15) rfl (w.heap.size + 1) (((zs9).map (Value.int .i64)).toArray) rfl rfl 59 _ HB1.out (iA rfl) (sA rfl rfl) (one_all zs9) ?_)
      have hlV := lV HB2.out rfl
      refine bodyPost_ret_by (v := .tuple #[hv zs9, .bool false]) ?_ rfl ⟨rfl, HB3.out⟩
      exact results_arr2 Try.results109 rfl hlV rfl
    · have d1 : decide (9 < (k : Int) + 3) = false := decide_eq_false (by omega)
      have Hno := Lib.hid (fun j (hj : j < 2) (hlt : l.getD (k + 1 + j) 0 < r) => show rowsT l k r = none by
        unfold rowsT
        rw [if_neg h0, if_neg hk9, if_pos (by
          obtain rfl | rfl : j = 0 ∨ j = 1 := by omega
          · exact .inl hlt
          · exact .inr hlt)])
      have Hyes := Lib.hid (fun (a : ∀ j, j < 2 → r ≤ l.getD (k + 1 + j) 0) => show rowsT l k r = some (rwL l k r 2) by
        unfold rowsT
        rw [if_neg h0, if_neg hk9, if_neg (by have a0 := a 0 (by omega); have a1 := a 1 (by omega); rw [show k + 1 + 0 = k + 1 by omega] at a0; rw [show k + 1 + 1 = k + 2 by omega] at a1; omega)]
        rfl)
      have Hat := Lib.hid (rwL_at l k r)
      have HL1 := Lib.hid (fun j => show rwL l k r (j + 1) = (rwL l k r j).set (k + 1 + j) (l.getD (k + 1 + j) 0 - r) from rfl)
      have HLl := Lib.hid (fun j => (rwL_len l k r j).trans h9)
      have HL0 := Lib.hid (show rwL l k r 0 = l from rfl)
      have Hbd := Lib.hid hbd
      have H9 := Lib.hid h9
      clear h9 hbd h0
      generalize rwL l k r = L at *
      generalize hT : rowsT l k r = T at *
      clear hT
      go_enter Try.func109, Try.ntmps109
      go_wp2
      go_loopw [8] (fun i wr => ∃ j : Nat, j ≤ 2 ∧ i = .int .i64 ((k + 1 + j : Nat) : Int) ∧ Hid (∀ q, q < j → r ≤ l.getD (k + 1 + q) 0) ∧ Hid (Bk wr w.heap.size (L j)) ∧ Hid (Bk wr (w.heap.size + 1) zs9) ∧ Hid (Below w.heap.size w wr)) (fun i _ => k + 3 - (intOf i).toNat)
      case atStart => exact ⟨0, Nat.zero_le _, by go_num, Lib.hid (fun q hq => absurd hq (by omega)), Lib.hid (by rw [HL0.out]; exact HB0.out), HB1, HW⟩
      case round =>
        obtain ⟨j, hj, rfl, hp, hb0, hb1, hbw⟩ := hrel
        have hsz := hb1.out.lt
        by_cases hlt : j < 2
        · obtain ⟨q, hq⟩ : ∃ q, q = k + 1 + j := ⟨_, rfl⟩
          have hq9 : q < 9 := by omega
          have hy := Hbd.out q hq9
          have c1 := hb0.out.cell q (by rw [HLl.out]; exact hq9)
          rw [Hat.out j q (by omega)] at c1
          have c2 := hb0.out.frozen q
          have Hno2 := Lib.hid (Hno.out j hlt)
          have HL2 := Lib.hid (HL1.out j)
          have HT2 : Hid (((q : Int)) + 1 = ((k + 1 + (j + 1) : Nat) : Int)) := Lib.hid (by omega)
          have Hp2 : Hid (r ≤ l.getD q 0 → ∀ z, z < j + 1 → r ≤ l.getD (k + 1 + z) 0) := Lib.hid (fun hh z hz => by
            by_cases e : z = j
            · subst e; rw [← hq]; exact hh
            · exact hp.out z (by omega))
          rw [← hq] at Hno2 HL2 ⊢
          have Hq := Lib.hid hq
          have hqk : q < k + 3 := by omega
          have d2 : decide ((q : Int) < (k : Int) + 3) = true := decide_eq_true (by omega)
          clear hq
          generalize l.getD q 0 = y at *
          have hs := hb0.out.set q (y - r)
          rw [← HL2.out] at hs
          have Hs := Lib.hid hs
          have Hs1 := Lib.hid (hb1.out.apart (g' := w.heap.size) (i := q) (v := .int .i64 (y - r)) (by omega))
          have c3 : (wr.setCell ⟨w.heap.size, q, none⟩ (.int .i64 (y - r))).cell? ⟨w.heap.size, q, none⟩ = some (.int .i64 (y - r)) := World.cell?_setCell_same _ _ _ c1
          have Hbs := Lib.hid (hbw.out.setCell (p := ⟨w.heap.size, q, none⟩) (Nat.le_refl _) (Value.int .i64 (y - r)))
          clear hs
          by_cases hyr : y < r
          · have HT := Lib.hid (Hno2.out hyr)
            have d3 : decide (y - r < 0) = true := decide_eq_true (by omega)
            have HB2 : Hid (Bk ((wr.setCell ⟨w.heap.size, q, none⟩ (.int .i64 (y - r))).setRow (w.heap.size + 1) ((zs9).map (Value.int .i64)).toArray) (w.heap.size + 1) zs9) := Lib.hid Hs1.out.row
            have HB3 := Lib.hid (below_setRow Hbs.out (g := w.heap.size + 1) (by omega) ((zs9).map (Value.int .i64)).toArray)
            go_wp2_with (refine wpList_store_row (o := ⟨none, .store 59 _ _, _, _, _, _⟩) rfl 59 (.tmp 6) (.tmp 34) rfl (w.heap.size + 1) (((zs9).map (Value.int .i64)).toArray) rfl rfl 59 _ Hs1.out (iA rfl) (sA rfl rfl) (one_all zs9) ?_)
            have hlV := lV HB2.out rfl
            refine bodyPost_ret_by (v := .tuple #[hv zs9, .bool false]) ?_ rfl ⟨by rw [HT.out]; rfl, HB3.out⟩
            exact results_arr2 Try.results109 rfl hlV rfl
          · have HP := Lib.hid (Hp2.out (by omega))
            have d3 : decide (y - r < 0) = false := decide_eq_false (by omega)
            go_wp2
            go_roundw
            case rel => exact ⟨j + 1, by omega, by rw [← HT2.out], HP, Hs, Hs1, Hbs⟩
            case measure => simp [intOf]; omega
        · obtain rfl : j = 2 := by omega
          have HT := Lib.hid (Hyes.out hp.out)
          have hl2 := HLl.out 2
          have Hl2 := Lib.hid hl2
          obtain ⟨q, hq⟩ : ∃ q, q = k + 1 + 2 := ⟨_, rfl⟩
          rw [← hq]
          have d2 : decide ((q : Int) < (k : Int) + 3) = false := decide_eq_false (by omega)
          clear hq
          clear hl2
          generalize L 2 = L2 at *
          have HB2 : Hid (Bk (wr.setRow (w.heap.size + 1) ((L2).map (Value.int .i64)).toArray) (w.heap.size + 1) L2) := Lib.hid hb1.out.row
          have HB3 := Lib.hid (below_setRow hbw.out (g := w.heap.size + 1) (by omega) ((L2).map (Value.int .i64)).toArray)
          go_upto_region 11 with (fail)
          refine wp_region_lit ?_
          refine wpList_load_mid (op := ⟨some 35, .load 59 _, _, _, _, _⟩) rfl 59 (.tmp 3) rfl (w.heap.size) 0 rfl (((L2).map (Value.int .i64))) _ hb0.out.range undTH rfl (iL Hl2.out) ?_
          go_wp2_with (refine wpList_store_row (o := ⟨none, .store 59 _ _, _, _, _, _⟩) rfl 59 (.tmp 6) (.tmp 35) rfl (w.heap.size + 1) (((L2).map (Value.int .i64)).toArray) rfl rfl 59 _ hb1.out (iA Hl2.out) (sA rfl Hl2.out) (one_all L2) ?_)
          have hlV := lV HB2.out Hl2.out
          refine bodyPost_ret_by (v := .tuple #[hv L2, .bool true]) ?_ rfl ⟨by rw [HT.out]; rfl, HB3.out⟩
          exact results_arr2 Try.results109 rfl hlV rfl
end Go.Proofs.Ytglmahgbdgbbpaa
