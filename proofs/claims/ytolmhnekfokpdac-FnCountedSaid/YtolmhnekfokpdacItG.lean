/- Contracts: IsPaired, the program, all ways. -/
import Derived.Test.YtolmhnekfokpdacItF
set_option linter.unusedVariables false
namespace Go.Proofs.Ytolmhnekfokpdac
open Go.RowKit Go.Shelf
attribute [local go_sem] Oper.semAt_some

def ok_IsPaired (fs : List Int) (k : Int) : Bool := deckB fs && decide (1 ≤ k) && decide ((fs.length : Int) % k = 0)
def res_IsPaired (fs : List Int) (k : Int) : Bool := ok_IsPaired fs k && (List.range (fs.length / k.toNat)).all (pairG fs k.toNat)

set_option maxRecDepth 100000 in
set_option maxHeartbeats 4000000 in
theorem paired_b1 (fs : List Int) (k : Int) (v : Value) (w : World) (hn : fs.length ≤ 1048576) (hd : deckB fs = false) (h : Sl (Value.int .i64) 0 w v fs) :
    CallsIn Fence.wide 3 Try.prog 33 #[v, .int .i64 k] w fun e w' => e = .returned (.tuple #[.bool false, .bool false]) ∧ Below w.heap.size w w' := by
  have HD := Lib.hid (fun z (hz : Below w.heap.size w z) => deckI_no fs _ z (by omega) (h.later hz) hd)
  obtain ⟨p, cap, rfl, -⟩ := h
  obtain ⟨L, hL⟩ : ∃ L, L = fs.length := ⟨_, rfl⟩
  rw [← hL] at HD ⊢
  clear hL
  clear hd
  have hro : Fence.wide.round = none := rfl
  obtain ⟨w0, hw0⟩ : ∃ z, z = ((w.alloc (.cells #[.int .i64 k] 2)).alloc (.cells #[.bool false] 4)).alloc (.cells #[.bool false] 4) := ⟨_, rfl⟩
  have hb0 : Below w.heap.size w w0 := by rw [hw0]; exact (((Below.refl _ w).alloc (Nat.le_refl _) _).alloc (by simp) _).alloc (by simp; omega) _
  have hz0 : w0.heap.size = w.heap.size + 3 := by rw [hw0]; simp
  have bK : Boxed w0 w.heap.size 2 (.int .i64 k) := by rw [hw0]; exact ((Boxed.new w _ _).alloc _).alloc _
  have b1 : Boxed w0 (w.heap.size + 1) 4 (.bool false) := by
    have := (Boxed.new (w.alloc (.cells #[.int .i64 k] 2)) 4 (.bool false)).alloc (.cells #[.bool false] 4)
    rw [World.size_alloc] at this
    rw [hw0]; exact this
  have b2 : Boxed w0 (w.heap.size + 1 + 1) 4 (.bool false) := by
    have := Boxed.new ((w.alloc (.cells #[.int .i64 k] 2)).alloc (.cells #[.bool false] 4)) 4 (.bool false)
    rw [World.size_alloc, World.size_alloc] at this
    rw [hw0]; exact this
  refine callsIn_of_wp_marks Try.func33 rfl trivial ?_ hro
  simp only [Try.ntmps33, List.size_toArray, List.length_cons, List.length_nil, Nat.reduceAdd, Nat.reduceSub, Array.replicate_succ, Array.replicate_zero, List.push_toArray, List.append_toArray, List.nil_append, List.cons_append]
  have cK := bK.cell
  have HD1 := Lib.hid (HD.out w0 hb0)
  rw [hw0] at cK
  gi_wp2
  refine ⟨trivial, ?_⟩
  rw [← hw0]
  refine (callsIn_wide.2 HD1.out).mono ?_
  rintro e w1 ⟨rfl, hb1⟩
  have bK1 := bK.kept (row := none) ⟨hb1.os, hb1.tape, hb1.output, hb1.size, fun i hi _ => hb1.block i hi⟩ (by simp)
  have b11 := b1.kept (row := none) ⟨hb1.os, hb1.tape, hb1.output, hb1.size, fun i hi _ => hb1.block i hi⟩ (by simp)
  have b21 := b2.kept (row := none) ⟨hb1.os, hb1.tape, hb1.output, hb1.size, fun i hi _ => hb1.block i hi⟩ (by simp)
  have f1 := b11.frozen
  have f2 := b21.frozen
  have e1 := b11.cell
  have e2 := b21.cell
  have cK1 := bK1.cell
  have hz1 := hb1.size
  have Hb1 := Lib.hid (hb0.trans (hb1.mono (by omega)))
  clear cK
  gi_wp2
  have hc5 := ((b11.set (.bool false)).other (B' := w.heap.size + 1 + 1) (by simp) (.bool false)).cell
  have hc6 := ((b21.other (B' := w.heap.size + 1) (by simp) (.bool false)).set (.bool false)).cell
  refine ⟨.tuple #[.bool false, .bool false], ?_, rfl, (Hb1.out.setCell (p := ⟨w.heap.size + 1, 0, none⟩) (by simp) _).setCell (p := ⟨w.heap.size + 1 + 1, 0, none⟩) (by simp; omega) _⟩
  simp [results, Try.f33, go_sem, hc5, hc6]

set_option maxRecDepth 100000 in
set_option maxHeartbeats 4000000 in
theorem paired_b2 (fs : List Int) (k : Int) (v : Value) (w : World) (hn : fs.length ≤ 1048576) (hd : deckB fs = true) (hk : k < 1) (h : Sl (Value.int .i64) 0 w v fs) :
    CallsIn Fence.wide 3 Try.prog 33 #[v, .int .i64 k] w fun e w' => e = .returned (.tuple #[.bool false, .bool false]) ∧ Below w.heap.size w w' := by
  have HD := Lib.hid (fun z (hz : Below w.heap.size w z) => deckI_yes fs _ z (by omega) (h.later hz) hd)
  obtain ⟨p, cap, rfl, -⟩ := h
  obtain ⟨L, hL⟩ : ∃ L, L = fs.length := ⟨_, rfl⟩
  rw [← hL] at HD ⊢
  clear hL
  clear hd
  have dk : decide (k < 1) = true := decide_eq_true hk
  have hro : Fence.wide.round = none := rfl
  obtain ⟨w0, hw0⟩ : ∃ z, z = ((w.alloc (.cells #[.int .i64 k] 2)).alloc (.cells #[.bool false] 4)).alloc (.cells #[.bool false] 4) := ⟨_, rfl⟩
  have hb0 : Below w.heap.size w w0 := by rw [hw0]; exact (((Below.refl _ w).alloc (Nat.le_refl _) _).alloc (by simp) _).alloc (by simp; omega) _
  have hz0 : w0.heap.size = w.heap.size + 3 := by rw [hw0]; simp
  have bK : Boxed w0 w.heap.size 2 (.int .i64 k) := by rw [hw0]; exact ((Boxed.new w _ _).alloc _).alloc _
  have b1 : Boxed w0 (w.heap.size + 1) 4 (.bool false) := by
    have := (Boxed.new (w.alloc (.cells #[.int .i64 k] 2)) 4 (.bool false)).alloc (.cells #[.bool false] 4)
    rw [World.size_alloc] at this
    rw [hw0]; exact this
  have b2 : Boxed w0 (w.heap.size + 1 + 1) 4 (.bool false) := by
    have := Boxed.new ((w.alloc (.cells #[.int .i64 k] 2)).alloc (.cells #[.bool false] 4)) 4 (.bool false)
    rw [World.size_alloc, World.size_alloc] at this
    rw [hw0]; exact this
  refine callsIn_of_wp_marks Try.func33 rfl trivial ?_ hro
  simp only [Try.ntmps33, List.size_toArray, List.length_cons, List.length_nil, Nat.reduceAdd, Nat.reduceSub, Array.replicate_succ, Array.replicate_zero, List.push_toArray, List.append_toArray, List.nil_append, List.cons_append]
  have cK := bK.cell
  have HD1 := Lib.hid (HD.out w0 hb0)
  rw [hw0] at cK
  gi_wp2
  refine ⟨trivial, ?_⟩
  rw [← hw0]
  refine (callsIn_wide.2 HD1.out).mono ?_
  rintro e w1 ⟨rfl, hb1⟩
  have bK1 := bK.kept (row := none) ⟨hb1.os, hb1.tape, hb1.output, hb1.size, fun i hi _ => hb1.block i hi⟩ (by simp)
  have b11 := b1.kept (row := none) ⟨hb1.os, hb1.tape, hb1.output, hb1.size, fun i hi _ => hb1.block i hi⟩ (by simp)
  have b21 := b2.kept (row := none) ⟨hb1.os, hb1.tape, hb1.output, hb1.size, fun i hi _ => hb1.block i hi⟩ (by simp)
  have f1 := b11.frozen
  have f2 := b21.frozen
  have e1 := b11.cell
  have e2 := b21.cell
  have cK1 := bK1.cell
  have hz1 := hb1.size
  have Hb1 := Lib.hid (hb0.trans (hb1.mono (by omega)))
  clear cK
  gi_wp2
  have hc5 := ((b11.set (.bool false)).other (B' := w.heap.size + 1 + 1) (by simp) (.bool false)).cell
  have hc6 := ((b21.other (B' := w.heap.size + 1) (by simp) (.bool false)).set (.bool false)).cell
  refine ⟨.tuple #[.bool false, .bool false], ?_, rfl, (Hb1.out.setCell (p := ⟨w.heap.size + 1, 0, none⟩) (by simp) _).setCell (p := ⟨w.heap.size + 1 + 1, 0, none⟩) (by simp; omega) _⟩
  simp [results, Try.f33, go_sem, hc5, hc6]

set_option maxRecDepth 100000 in
set_option maxHeartbeats 4000000 in
theorem paired_b3 (fs : List Int) (k : Nat) (v : Value) (w : World) (hn : fs.length ≤ 1048576) (hd : deckB fs = true) (hk : 1 ≤ k) (hq : ¬ (fs.length : Int) % (k : Int) = 0) (h : Sl (Value.int .i64) 0 w v fs) :
    CallsIn Fence.wide 3 Try.prog 33 #[v, .int .i64 (k : Int)] w fun e w' => e = .returned (.tuple #[.bool false, .bool false]) ∧ Below w.heap.size w w' := by
  have HD := Lib.hid (fun z (hz : Below w.heap.size w z) => deckI_yes fs _ z (by omega) (h.later hz) hd)
  obtain ⟨p, cap, rfl, -⟩ := h
  obtain ⟨L, hL⟩ : ∃ L, L = fs.length := ⟨_, rfl⟩
  rw [← hL] at HD hq ⊢
  clear hL
  clear hd
  have dk : decide ((k : Int) < 1) = false := decide_eq_false (by omega)
  have dz : ((k : Int) = 0) = False := eq_false (by omega)
  have hqn := eq_false hq
  have hro : Fence.wide.round = none := rfl
  obtain ⟨w0, hw0⟩ : ∃ z, z = ((w.alloc (.cells #[.int .i64 (k : Int)] 2)).alloc (.cells #[.bool false] 4)).alloc (.cells #[.bool false] 4) := ⟨_, rfl⟩
  have hb0 : Below w.heap.size w w0 := by rw [hw0]; exact (((Below.refl _ w).alloc (Nat.le_refl _) _).alloc (by simp) _).alloc (by simp; omega) _
  have hz0 : w0.heap.size = w.heap.size + 3 := by rw [hw0]; simp
  have bK : Boxed w0 w.heap.size 2 (.int .i64 (k : Int)) := by rw [hw0]; exact ((Boxed.new w _ _).alloc _).alloc _
  have b1 : Boxed w0 (w.heap.size + 1) 4 (.bool false) := by
    have := (Boxed.new (w.alloc (.cells #[.int .i64 (k : Int)] 2)) 4 (.bool false)).alloc (.cells #[.bool false] 4)
    rw [World.size_alloc] at this
    rw [hw0]; exact this
  have b2 : Boxed w0 (w.heap.size + 1 + 1) 4 (.bool false) := by
    have := Boxed.new ((w.alloc (.cells #[.int .i64 (k : Int)] 2)).alloc (.cells #[.bool false] 4)) 4 (.bool false)
    rw [World.size_alloc, World.size_alloc] at this
    rw [hw0]; exact this
  refine callsIn_of_wp_marks Try.func33 rfl trivial ?_ hro
  simp only [Try.ntmps33, List.size_toArray, List.length_cons, List.length_nil, Nat.reduceAdd, Nat.reduceSub, Array.replicate_succ, Array.replicate_zero, List.push_toArray, List.append_toArray, List.nil_append, List.cons_append]
  have cK := bK.cell
  have HD1 := Lib.hid (HD.out w0 hb0)
  rw [hw0] at cK
  gi_wp2
  refine ⟨trivial, ?_⟩
  rw [← hw0]
  refine (callsIn_wide.2 HD1.out).mono ?_
  rintro e w1 ⟨rfl, hb1⟩
  have bK1 := bK.kept (row := none) ⟨hb1.os, hb1.tape, hb1.output, hb1.size, fun i hi _ => hb1.block i hi⟩ (by simp)
  have b11 := b1.kept (row := none) ⟨hb1.os, hb1.tape, hb1.output, hb1.size, fun i hi _ => hb1.block i hi⟩ (by simp)
  have b21 := b2.kept (row := none) ⟨hb1.os, hb1.tape, hb1.output, hb1.size, fun i hi _ => hb1.block i hi⟩ (by simp)
  have f1 := b11.frozen
  have f2 := b21.frozen
  have e1 := b11.cell
  have e2 := b21.cell
  have cK1 := bK1.cell
  have hz1 := hb1.size
  have Hb1 := Lib.hid (hb0.trans (hb1.mono (by omega)))
  clear cK
  gi_wp2
  have hc5 := ((b11.set (.bool false)).other (B' := w.heap.size + 1 + 1) (by simp) (.bool false)).cell
  have hc6 := ((b21.other (B' := w.heap.size + 1) (by simp) (.bool false)).set (.bool false)).cell
  refine ⟨.tuple #[.bool false, .bool false], ?_, rfl, (Hb1.out.setCell (p := ⟨w.heap.size + 1, 0, none⟩) (by simp) _).setCell (p := ⟨w.heap.size + 1 + 1, 0, none⟩) (by simp; omega) _⟩
  simp [results, Try.f33, go_sem, hc5, hc6]
end Go.Proofs.Ytolmhnekfokpdac
