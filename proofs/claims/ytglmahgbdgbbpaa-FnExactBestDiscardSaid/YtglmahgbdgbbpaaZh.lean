/- Contracts: FullWays, the program. -/
import Derived.Test.YtglmahgbdgbbpaaZg
set_option linter.unusedVariables false
namespace Go.Proofs.Ytglmahgbdgbbpaa
open Go.RowKit

def ok_FullWays (fs : List Int) : Bool := tileB fs
def res_FullWays (fs : List Int) : Int := if tileB fs = true then fullT fs else 0
theorem nine_of {fs : List Int} (h : tileB fs = true) : nineT fs := by
  obtain ⟨h9, hb, -⟩ := tileB_at h
  exact ⟨h9, fun i hi => hb i (by omega)⟩
set_option maxRecDepth 100000 in
set_option maxHeartbeats 4000000 in
theorem impl_FullWays (fs : List Int) (v : Value) (w : World) (hn : fs.length ≤ 1048576) (h : Sl (Value.int .i64) 0 w v fs) :
    Calls Try.prog 30 #[v] w fun e w' => e = .returned (.tuple #[.int .i64 (res_FullWays fs), .bool (ok_FullWays fs)]) ∧ Below w.heap.size w w' := by
  have H := Lib.hid (handOf_any fs v w hn h)
  have HL := Lib.hid (handL_len fs)
  have HF := Lib.hid (fun (hb : tileB fs = true) z => full_impl fs z (nine_of hb))
  have HLe := Lib.hid (fun (hb : tileB fs = true) => show handL fs = fs by unfold handL; rw [if_pos hb])
  unfold res_FullWays ok_FullWays
  unfold hv at *
  obtain ⟨p, cap, rfl, -⟩ := h
  generalize fullT fs = T at *
  generalize handS fs = S at *
  cases hb : tileB fs
  · rw [hb] at H
    rw [if_neg Bool.false_ne_true]
    clear HF HLe hb
    generalize handL fs = L at *
    generalize fs.length = n at *
    go_enter Try.func30, Try.ntmps30
    go_wp2_with (first | (go_at_call 65; (refine (H.out).mono ?_); rintro e w1 ⟨rfl, hb⟩; have Hb := Lib.hid hb; have HB1 := Lib.hid (Bk.new w1 zs9); have HBW : Hid (Below w.heap.size w ((w1.alloc (.cells #[.int .i64 0, .int .i64 0, .int .i64 0, .int .i64 0, .int .i64 0, .int .i64 0, .int .i64 0, .int .i64 0, .int .i64 0] 59)).setRow w1.heap.size ((L).map (Value.int .i64)).toArray)) := Lib.hid (below_setRow (hb.alloc hb.size _) hb.size _); clear hb) | (refine wpList_store_row (o := ⟨none, .store 59 _ _, _, _, _, _⟩) rfl 59 (.tmp 4) (.tmp 10) rfl (w1.heap.size) (((L).map (Value.int .i64)).toArray) rfl rfl 59 _ HB1.out (iA HL.out) (sA rfl HL.out) (one_all L) ?_))
    go_ret2
    exact ⟨rfl, HBW.out⟩
  · have HF2 := Lib.hid (HF.out hb)
    rw [HLe.out hb] at H HL
    rw [hb] at H
    rw [if_pos rfl]
    clear HF HLe hb
    generalize fs.length = n at H ⊢
    go_enter Try.func30, Try.ntmps30
    go_wp2_with (first | (go_at_call 65; (refine (H.out).mono ?_); rintro e w1 ⟨rfl, hb⟩; have HB1 := Lib.hid (Bk.new w1 zs9); have HB2 : Hid (Bk ((w1.alloc (.cells #[.int .i64 0, .int .i64 0, .int .i64 0, .int .i64 0, .int .i64 0, .int .i64 0, .int .i64 0, .int .i64 0, .int .i64 0] 59)).setRow w1.heap.size ((fs).map (Value.int .i64)).toArray) w1.heap.size fs) := Lib.hid HB1.out.row; have HBW : Hid (Below w.heap.size w ((w1.alloc (.cells #[.int .i64 0, .int .i64 0, .int .i64 0, .int .i64 0, .int .i64 0, .int .i64 0, .int .i64 0, .int .i64 0, .int .i64 0] 59)).setRow w1.heap.size ((fs).map (Value.int .i64)).toArray)) := Lib.hid (below_setRow (hb.alloc hb.size _) hb.size _); clear hb) | (refine wpList_store_row (o := ⟨none, .store 59 _ _, _, _, _, _⟩) rfl 59 (.tmp 4) (.tmp 10) rfl (w1.heap.size) (((fs).map (Value.int .i64)).toArray) rfl rfl 59 _ HB1.out (iA HL.out) (sA rfl HL.out) (one_all fs) ?_) | (refine wpList_load_mid (op := ⟨some 15, .load 59 _, _, _, _, _⟩) rfl 59 (.tmp 4) rfl (w1.heap.size) 0 rfl (((fs).map (Value.int .i64))) _ HB2.out.range undTH rfl (iL HL.out) ?_) | (go_at_call 67; (refine (HF2.out _).mono ?_); rintro e w3 ⟨rfl, hb⟩; have Hb := Lib.hid (HBW.out.trans (hb.mono HBW.out.size)); clear hb))
    go_ret2
    exact ⟨rfl, Hb.out⟩
end Go.Proofs.Ytglmahgbdgbbpaa
