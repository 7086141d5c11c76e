/- Contracts: hands of tiles: tileHandOf whole, IsTileHand. -/
import Derived.Test.YtcoehcoohppbjaaZb
set_option linter.unusedVariables false
namespace Go.Proofs.Ytcoehcoohppbjaa
open Go.RowKit

theorem zsA : (zs9.map (Value.int .i64)).toArray = #[.int .i64 0, .int .i64 0, .int .i64 0, .int .i64 0, .int .i64 0, .int .i64 0, .int .i64 0, .int .i64 0, .int .i64 0] := rfl
theorem Bk.store {w : World} {g : Nat} {l l' : List Int} (h : Bk w g l) : Bk (w.setRow g (l'.map (Value.int .i64)).toArray) g l' := setRow_heap w g _ _ _ _ h
set_option maxRecDepth 100000 in
set_option maxHeartbeats 2000000 in
theorem handOf_no (fs : List Int) (v : Value) (w : World) (hn : fs.length ≤ 1048576) (h : Sl (Value.int .i64) 0 w v fs) (hb : tileB fs = false) :
    Calls Try.prog 122 #[v] w fun e w' => e = .returned (.tuple #[hv zs9, .int .i64 0, .bool false]) ∧ Below w.heap.size w w' := by
  have HN : Hid (Bk (w.alloc (.cells #[.int .i64 0, .int .i64 0, .int .i64 0, .int .i64 0, .int .i64 0, .int .i64 0, .int .i64 0, .int .i64 0, .int .i64 0] 130)) w.heap.size zs9) := Lib.hid (Bk.new w zs9)
  have HW : Hid (Below w.heap.size w (w.alloc (.cells #[.int .i64 0, .int .i64 0, .int .i64 0, .int .i64 0, .int .i64 0, .int .i64 0, .int .i64 0, .int .i64 0, .int .i64 0] 130))) := Lib.hid ((Below.refl _ w).alloc (Nat.le_refl _) _)
  have HA := Lib.hid (fun z (hz : Below w.heap.size w z) => areW_any fs v 0 4 z hn (h.later hz))
  by_cases h9 : fs.length = 9
  · cases hall : allB 0 4 fs
    · rw [hall] at HA
      obtain ⟨p, cap, rfl, -⟩ := h
      rw [h9] at HA ⊢
      clear hb hall h9 hn
      go_enter Try.func122, Try.ntmps122
      go_wp2_with (first | (go_at_call 153; (refine (HA.out _ HW.out).mono ?_); rintro e w1 ⟨rfl, hb⟩; have HN1 := Lib.hid (HN.out.later hb (by simp)); have Hb := Lib.hid (HW.out.trans (hb.mono HW.out.size)); clear hb) | (refine wpList_store_row (o := ⟨none, .store _ _ _, _, _, _, _⟩) rfl 130 (.tmp 2) (.tmp 18) rfl w.heap.size (zs9.map (Value.int .i64)).toArray rfl rfl 130 _ HN1.out infoTH rfl (one_all zs9) ?_))
      have HB2 : Hid (Bk (w1.setRow w.heap.size (zs9.map (Value.int .i64)).toArray) w.heap.size zs9) := Lib.hid (HN1.out.row)
      have HB3 : Hid (Below w.heap.size w (w1.setRow w.heap.size (zs9.map (Value.int .i64)).toArray)) := Lib.hid (below_setRow Hb.out (Nat.le_refl _) _)
      have hlV := run_loadVar_mid (P := Try.prog) (w1.setRow w.heap.size (zs9.map (Value.int .i64)).toArray) w.heap.size 0 130 (zs9.map (Value.int .i64)) _ HB2.out.range undTH rfl infoTH
      refine bodyPost_ret_by (v := .tuple #[hv zs9, .int .i64 0, .bool false]) ?_ rfl ⟨rfl, HB3.out⟩
      exact results_arr Try.results122 rfl hlV rfl rfl
    · rw [hall] at HA
      have HS := Lib.hid (fun z (hz : Below w.heap.size w z) => sumOf_any fs v z (by omega) (allB_at hall) (h.later hz))
      have hs14 : ¬ sumI fs fs.length ≤ 14 := fun hh => by unfold tileB at hb; rw [decide_eq_true h9, hall, decide_eq_true hh] at hb; exact absurd hb (by decide)
      obtain ⟨p, cap, rfl, -⟩ := h
      rw [h9] at HA HS hs14 ⊢
      generalize sumI fs 9 = S at *
      have d14 : decide (14 < S) = true := decide_eq_true (by omega)
      clear hb hall h9 hn hs14
      go_enter Try.func122, Try.ntmps122
      go_wp2_with (first | (go_at_call 153; (refine (HA.out _ HW.out).mono ?_); rintro e w1 ⟨rfl, hb⟩; have HN1 := Lib.hid (HN.out.later hb (by simp)); have Hb := Lib.hid (HW.out.trans (hb.mono HW.out.size)); clear hb) | (go_at_call 154; (refine (HS.out _ Hb.out).mono ?_); rintro e w3 ⟨rfl, rfl⟩) | (refine wpList_store_row (o := ⟨none, .store _ _ _, _, _, _, _⟩) rfl 130 (.tmp 2) (.tmp 18) rfl w.heap.size (zs9.map (Value.int .i64)).toArray rfl rfl 130 _ HN1.out infoTH rfl (one_all zs9) ?_))
      have HB2 : Hid (Bk (w1.setRow w.heap.size (zs9.map (Value.int .i64)).toArray) w.heap.size zs9) := Lib.hid (HN1.out.row)
      have HB3 : Hid (Below w.heap.size w (w1.setRow w.heap.size (zs9.map (Value.int .i64)).toArray)) := Lib.hid (below_setRow Hb.out (Nat.le_refl _) _)
      have hlV := run_loadVar_mid (P := Try.prog) (w1.setRow w.heap.size (zs9.map (Value.int .i64)).toArray) w.heap.size 0 130 (zs9.map (Value.int .i64)) _ HB2.out.range undTH rfl infoTH
      refine bodyPost_ret_by (v := .tuple #[hv zs9, .int .i64 0, .bool false]) ?_ rfl ⟨rfl, HB3.out⟩
      exact results_arr Try.results122 rfl hlV rfl rfl
  · obtain ⟨p, cap, rfl, -⟩ := h
    have d : ((fs.length : Int) != 9) = true := by rw [bne_iff_ne]; omega
    have d2 : ((fs.length : Int) = 9) = False := eq_false (by omega)
    have d3 : ((fs.length : Int) == 9) = false := by rw [beq_eq_false_iff_ne]; omega
    have HN1 := HN
    clear h9 hb HA
    generalize fs.length = n at *
    go_enter Try.func122, Try.ntmps122
    go_wp2_with (refine wpList_store_row (o := ⟨none, .store _ _ _, _, _, _, _⟩) rfl 130 (.tmp 2) (.tmp 18) rfl w.heap.size (zs9.map (Value.int .i64)).toArray rfl rfl 130 _ HN1.out infoTH rfl (one_all zs9) ?_)
    have HB2 : Hid (Bk ((w.alloc (.cells #[.int .i64 0, .int .i64 0, .int .i64 0, .int .i64 0, .int .i64 0, .int .i64 0, .int .i64 0, .int .i64 0, .int .i64 0] 130)).setRow w.heap.size (zs9.map (Value.int .i64)).toArray) w.heap.size zs9) := Lib.hid (HN1.out.row)
    have HB3 : Hid (Below w.heap.size w ((w.alloc (.cells #[.int .i64 0, .int .i64 0, .int .i64 0, .int .i64 0, .int .i64 0, .int .i64 0, .int .i64 0, .int .i64 0, .int .i64 0] 130)).setRow w.heap.size (zs9.map (Value.int .i64)).toArray)) := Lib.hid (below_setRow HW.out (Nat.le_refl _) _)
    have hlV := run_loadVar_mid (P := Try.prog) ((w.alloc (.cells #[.int .i64 0, .int .i64 0, .int .i64 0, .int .i64 0, .int .i64 0, .int .i64 0, .int .i64 0, .int .i64 0, .int .i64 0] 130)).setRow w.heap.size (zs9.map (Value.int .i64)).toArray) w.heap.size 0 130 (zs9.map (Value.int .i64)) _ HB2.out.range undTH rfl infoTH
    refine bodyPost_ret_by (v := .tuple #[hv zs9, .int .i64 0, .bool false]) ?_ rfl ⟨rfl, HB3.out⟩
    exact results_arr Try.results122 rfl hlV rfl rfl

/-- the hand and the sum that are told -/
def handL (fs : List Int) : List Int := if tileB fs = true then fs else zs9
def handS (fs : List Int) : Int := if tileB fs = true then sumI fs fs.length else 0
theorem handL_len (fs : List Int) : (handL fs).length = 9 := by
  unfold handL
  split
  · rename_i h; exact (tileB_at h).1
  · rfl
theorem handOf_any (fs : List Int) (v : Value) (w : World) (hn : fs.length ≤ 1048576) (h : Sl (Value.int .i64) 0 w v fs) :
    Calls Try.prog 122 #[v] w fun e w' => e = .returned (.tuple #[hv (handL fs), .int .i64 (handS fs), .bool (tileB fs)]) ∧ Below w.heap.size w w' := by
  unfold handL handS
  cases hb : tileB fs
  · rw [if_neg Bool.false_ne_true, if_neg Bool.false_ne_true]; exact handOf_no fs v w hn h hb
  · rw [if_pos rfl, if_pos rfl]; exact handOf_yes fs v w h hb
def ok_IsTileHand (fs : List Int) : Bool := tileB fs
set_option maxRecDepth 100000 in
set_option maxHeartbeats 2000000 in
theorem impl_IsTileHand (fs : List Int) (v : Value) (w : World) (hn : fs.length ≤ 1048576) (h : Sl (Value.int .i64) 0 w v fs) :
    Calls Try.prog 65 #[v] w fun e w' => e = .returned (.bool (ok_IsTileHand fs)) ∧ Below w.heap.size w w' := by
  have H := Lib.hid (handOf_any fs v w hn h)
  have HO := Lib.hid (one_all (handL fs))
  have HiA := Lib.hid (show (Try.prog.info? 130).map (·.size) = some ((handL fs).map (Value.int .i64)).toArray.size by rw [List.size_toArray, List.length_map, handL_len]; exact infoTH)
  have HsA := Lib.hid (show (zs9.map (Value.int .i64)).toArray.size = ((handL fs).map (Value.int .i64)).toArray.size by rw [List.size_toArray, List.size_toArray, List.length_map, List.length_map, handL_len]; rfl)
  obtain ⟨p, cap, rfl, -⟩ := h
  unfold ok_IsTileHand
  unfold hv at H
  generalize ((handL fs).map (Value.int .i64)).toArray = A at *
  generalize tileB fs = B at *
  generalize handS fs = S at *
  generalize fs.length = n at *
  go_enter Try.func65, Try.ntmps65
  go_wp2_with (first | (go_at_call 122; (with_reducible refine H.out.mono ?_); rintro e w1 ⟨rfl, hb⟩; have HN1 : Hid (Bk (w1.alloc (.cells #[.int .i64 0, .int .i64 0, .int .i64 0, .int .i64 0, .int .i64 0, .int .i64 0, .int .i64 0, .int .i64 0, .int .i64 0] 130)) w1.heap.size zs9) := Lib.hid (Bk.new w1 zs9); have Hb1 := Lib.hid hb; have Hb := Lib.hid (hb.alloc hb.size (.cells #[.int .i64 0, .int .i64 0, .int .i64 0, .int .i64 0, .int .i64 0, .int .i64 0, .int .i64 0, .int .i64 0, .int .i64 0] 130)); have hz := hb.size; clear hb) | (refine wpList_store_row (o := ⟨none, .store _ _ _, _, _, _, _⟩) rfl 130 (.tmp 3) (.tmp 9) rfl w1.heap.size A rfl rfl 130 _ HN1.out HiA.out HsA.out HO.out ?_))
  go_ret
  exact ⟨rfl, below_setRow Hb.out hz _⟩
end Go.Proofs.Ytcoehcoohppbjaa
