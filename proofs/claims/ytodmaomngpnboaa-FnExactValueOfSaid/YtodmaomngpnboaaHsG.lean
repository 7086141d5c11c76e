/- Contracts: the value of what five cards look like, in the program. -/
import Derived.Test.YtodmaomngpnboaaHsF
set_option linter.unusedVariables false
namespace Go.Proofs.Ytodmaomngpnboaa
open Go.RowKit

theorem kindV_le (row one : Bool) (m q : Nat) : kindV row one m q ≤ 8 := by
  unfold kindV
  repeat (first | omega | split)
def pvV (K : Nat) (ds : List Nat) : Nat → Nat
  | 0 => K
  | k + 1 => 13 * pvV K ds k + ds.getD k 0
theorem pvV_next (K : Nat) (ds : List Nat) (k : Nat) : pvV K ds (k + 1) = 13 * pvV K ds k + ds.getD k 0 := rfl
theorem pvV_bd (K : Nat) (ds : List Nat) (hK : K ≤ 8) (hd : ∀ j, j < 5 → ds.getD j 0 ≤ 12) (k : Nat) (hk : k ≤ 5) : pvV K ds k ≤ 5000000 := by
  have h0 := hd 0 (by omega)
  have h1 := hd 1 (by omega)
  have h2 := hd 2 (by omega)
  have h3 := hd 3 (by omega)
  have h4 := hd 4 (by omega)
  obtain rfl | rfl | rfl | rfl | rfl | rfl : k = 0 ∨ k = 1 ∨ k = 2 ∨ k = 3 ∨ k = 4 ∨ k = 5 := by omega
  all_goals (unfold pvV; try unfold pvV; try unfold pvV; try unfold pvV; try unfold pvV; try unfold pvV)
  all_goals omega
theorem idx5_0 (a b c d e : Int) (W : World) : (Instr.index 96 (.agg #[.int .i64 a, .int .i64 b, .int .i64 c, .int .i64 d, .int .i64 e]) (.int .i64 0)).run Try.prog W = .ok (.int .i64 a) W := by
  have a3 := Try.isAgg2
  have z3 := Try.sizeOf2
  simp [Instr.index, run_underlying und5, asIntOf, part, a3, z3, go_sem]
theorem idx5_1 (a b c d e : Int) (W : World) : (Instr.index 96 (.agg #[.int .i64 a, .int .i64 b, .int .i64 c, .int .i64 d, .int .i64 e]) (.int .i64 1)).run Try.prog W = .ok (.int .i64 b) W := by
  have a3 := Try.isAgg2
  have z3 := Try.sizeOf2
  simp [Instr.index, run_underlying und5, asIntOf, part, a3, z3, go_sem]
theorem idx5_2 (a b c d e : Int) (W : World) : (Instr.index 96 (.agg #[.int .i64 a, .int .i64 b, .int .i64 c, .int .i64 d, .int .i64 e]) (.int .i64 2)).run Try.prog W = .ok (.int .i64 c) W := by
  have a3 := Try.isAgg2
  have z3 := Try.sizeOf2
  simp [Instr.index, run_underlying und5, asIntOf, part, a3, z3, go_sem]
theorem idx5_3 (a b c d e : Int) (W : World) : (Instr.index 96 (.agg #[.int .i64 a, .int .i64 b, .int .i64 c, .int .i64 d, .int .i64 e]) (.int .i64 3)).run Try.prog W = .ok (.int .i64 d) W := by
  have a3 := Try.isAgg2
  have z3 := Try.sizeOf2
  simp [Instr.index, run_underlying und5, asIntOf, part, a3, z3, go_sem]
theorem idx5_4 (a b c d e : Int) (W : World) : (Instr.index 96 (.agg #[.int .i64 a, .int .i64 b, .int .i64 c, .int .i64 d, .int .i64 e]) (.int .i64 4)).run Try.prog W = .ok (.int .i64 e) W := by
  have a3 := Try.isAgg2
  have z3 := Try.sizeOf2
  simp [Instr.index, run_underlying und5, asIntOf, part, a3, z3, go_sem]
theorem five_le {a b c d e : Nat} (h0 : a ≤ 12) (h1 : b ≤ 12) (h2 : c ≤ 12) (h3 : d ≤ 12) (h4 : e ≤ 12) : ∀ j, j < 5 → [a, b, c, d, e].getD j 0 ≤ 12 := by
  intro j hj
  obtain rfl | rfl | rfl | rfl | rfl : j = 0 ∨ j = 1 ∨ j = 2 ∨ j = 3 ∨ j = 4 := by omega
  all_goals assumption
set_option maxRecDepth 100000 in
set_option maxHeartbeats 8000000 in
theorem value_any (s0 s1 s2 s3 s4 m q : Nat) (one : Bool) (w : World) (h0 : s0 ≤ 12) (h1 : s1 ≤ 12) (h2 : s2 ≤ 12) (h3 : s3 ≤ 12) (h4 : s4 ≤ 12) (hm : m ≤ 5) (hq : q ≤ 5) :
    Calls Try.prog 112 #[(.agg #[.int .i64 (s0 : Int), .int .i64 (s1 : Int), .int .i64 (s2 : Int), .int .i64 (s3 : Int), .int .i64 (s4 : Int), .int .i64 (m : Int), .int .i64 (q : Int), .bool one])] w fun e w' => e = .returned (.int .i64 (pvV (kindV (rowV s0 s1 s2 s3 s4 m).2 one m q) (if (rowV s0 s1 s2 s3 s4 m).2 = true then [(rowV s0 s1 s2 s3 s4 m).1, 0, 0, 0, 0] else [s0, s1, s2, s3, s4]) 5 : Nat)) ∧ Below w.heap.size w w' := by
  have HT := Lib.hid (fun z => rowTop_any s0 s1 s2 s3 s4 m q one z h0 h4 hm)
  have HK := Lib.hid (fun z => kind_any s0 s1 s2 s3 s4 m q one z h0 h4 hm hq)
  have htop : (rowV s0 s1 s2 s3 s4 m).1 ≤ 12 := by unfold rowV; split <;> first | exact h0 | omega
  generalize (rowV s0 s1 s2 s3 s4 m).1 = top at *
  generalize (rowV s0 s1 s2 s3 s4 m).2 = row at *
  have hK8 := kindV_le row one m q
  generalize kindV row one m q = K at *
  obtain ⟨W2, hW2⟩ : ∃ z, z = (w.alloc (.cells #[.int .i64 (s0 : Int), .int .i64 (s1 : Int), .int .i64 (s2 : Int), .int .i64 (s3 : Int), .int .i64 (s4 : Int), .int .i64 (m : Int), .int .i64 (q : Int), .bool one] 98)).alloc (.cells #[.int .i64 (s0 : Int), .int .i64 (s1 : Int), .int .i64 (s2 : Int), .int .i64 (s3 : Int), .int .i64 (s4 : Int)] 96) := ⟨_, rfl⟩
  have hz2 : W2.heap.size = w.heap.size + 2 := by rw [hW2]; simp
  have b2 : Below w.heap.size w W2 := by rw [hW2]; exact ((Below.refl _ w).alloc (Nat.le_refl _) _).alloc (by simp) _
  have a2 : W2.heap[w.heap.size]? = some (.cells [.int .i64 (s0 : Int), .int .i64 (s1 : Int), .int .i64 (s2 : Int), .int .i64 (s3 : Int), .int .i64 (s4 : Int), .int .i64 (m : Int), .int .i64 (q : Int), .bool one].toArray 98 (0, 0)) := by rw [hW2]; exact (Below.heap_alloc _ _ _ (by simp)).trans (World.alloc_heap_new w _)
  have d2 : W2.heap[w.heap.size + 1]? = some (.cells [.int .i64 (s0 : Int), .int .i64 (s1 : Int), .int .i64 (s2 : Int), .int .i64 (s3 : Int), .int .i64 (s4 : Int)].toArray 96 (0, 0)) := by
    rw [hW2]
    have := World.alloc_heap_new (w.alloc (.cells #[.int .i64 (s0 : Int), .int .i64 (s1 : Int), .int .i64 (s2 : Int), .int .i64 (s3 : Int), .int .i64 (s4 : Int), .int .i64 (m : Int), .int .i64 (q : Int), .bool one] 98)) (.cells #[.int .i64 (s0 : Int), .int .i64 (s1 : Int), .int .i64 (s2 : Int), .int .i64 (s3 : Int), .int .i64 (s4 : Int)] 96)
    rw [show (w.alloc (.cells #[.int .i64 (s0 : Int), .int .i64 (s1 : Int), .int .i64 (s2 : Int), .int .i64 (s3 : Int), .int .i64 (s4 : Int), .int .i64 (m : Int), .int .i64 (q : Int), .bool one] 98)).heap.size = w.heap.size + 1 by simp] at this
    exact this
  have HW2 := Lib.hid hW2
  have HB2 := Lib.hid (fun z (hz : Below W2.heap.size W2 z) => b2.trans (hz.mono (by omega)))
  have HA2 := Lib.hid (fun z (hz : Below W2.heap.size W2 z) => (hz.block w.heap.size (by omega)).trans a2)
  have HD2 := Lib.hid (fun z (hz : Below W2.heap.size W2 z) => (hz.block (w.heap.size + 1) (by omega)).trans d2)
  have HI5 := Lib.hid inf5
  clear b2 a2 d2 hW2
  cases row
  · rw [if_neg Bool.false_ne_true]
    have HP := Lib.hid (pvV_bd K [s0, s1, s2, s3, s4] hK8 (five_le h0 h1 h2 h3 h4))
    have HN0 : Hid (pvV K [s0, s1, s2, s3, s4] 0 = K) := Lib.hid rfl
    go_enter Try.func112, Try.ntmps112
    go_wp2_with fail
    rw [← HW2.out]
    refine (HT.out _).mono ?_
    rintro e w3 ⟨rfl, hb3⟩
    have ha3 := HA2.out _ hb3
    have g0 : w3.cell? ⟨w.heap.size, 0, none⟩ = _ := heap_cell ha3 0 _ rfl
    have g1 : w3.cell? ⟨w.heap.size, 1, none⟩ = _ := heap_cell ha3 1 _ rfl
    have g2 : w3.cell? ⟨w.heap.size, 2, none⟩ = _ := heap_cell ha3 2 _ rfl
    have g3 : w3.cell? ⟨w.heap.size, 3, none⟩ = _ := heap_cell ha3 3 _ rfl
    have g4 : w3.cell? ⟨w.heap.size, 4, none⟩ = _ := heap_cell ha3 4 _ rfl
    have g5 : w3.cell? ⟨w.heap.size, 5, none⟩ = _ := heap_cell ha3 5 _ rfl
    have g6 : w3.cell? ⟨w.heap.size, 6, none⟩ = _ := heap_cell ha3 6 _ rfl
    have g7 : w3.cell? ⟨w.heap.size, 7, none⟩ = _ := heap_cell ha3 7 _ rfl
    have Hb3 := Lib.hid hb3
    clear hb3 ha3
    go_wp2_with fail
    refine (HK.out _).mono ?_
    rintro e w5 ⟨rfl, hb5⟩
    have hb6 : Below W2.heap.size W2 w5 := Hb3.out.trans (hb5.mono Hb3.out.size)
    have hd5 := HD2.out _ hb6
    have t0 : w5.cell? ⟨w.heap.size + 1, 0, none⟩ = _ := heap_cell hd5 0 _ rfl
    have t1 : w5.cell? ⟨w.heap.size + 1, 1, none⟩ = _ := heap_cell hd5 1 _ rfl
    have t2 : w5.cell? ⟨w.heap.size + 1, 2, none⟩ = _ := heap_cell hd5 2 _ rfl
    have t3 : w5.cell? ⟨w.heap.size + 1, 3, none⟩ = _ := heap_cell hd5 3 _ rfl
    have t4 : w5.cell? ⟨w.heap.size + 1, 4, none⟩ = _ := heap_cell hd5 4 _ rfl
    have Hb6 := Lib.hid (HB2.out _ hb6)
    clear hb5 hb6 hd5 g0 g1 g2 g3 g4 g5 g6 g7
    go_wp2
    go_loopw [6, 22] (fun x i wr => ∃ k : Nat, k ≤ 5 ∧ x = .int .i64 (pvV K [s0, s1, s2, s3, s4] k : Nat) ∧ i = .int .i64 (k : Int) ∧ Hid (wr = w5)) (fun _ i _ => 5 - (intOf i).toNat)
    case atStart => exact ⟨0, by omega, by rw [HN0.out], rfl, Lib.hid rfl⟩
    case round =>
      obtain ⟨k, hk, rfl, rfl, hw⟩ := hrel
      obtain rfl := hw.out
      clear HT HK HA2 HD2 HI5 HB2 HW2 Hb3
      have hp := HP.out k hk
      by_cases hlt : k < 5
      · have hn := pvV_next K [s0, s1, s2, s3, s4] k
        have hp2 := HP.out (k + 1) (by omega)
        rw [hn] at hp2
        have Hn := Lib.hid hn
        clear hn
        generalize pvV K [s0, s1, s2, s3, s4] k = p at *
        have x0 := fun W => idx5_0 (s0 : Int) s1 s2 s3 s4 W
        have x1 := fun W => idx5_1 (s0 : Int) s1 s2 s3 s4 W
        have x2 := fun W => idx5_2 (s0 : Int) s1 s2 s3 s4 W
        have x3 := fun W => idx5_3 (s0 : Int) s1 s2 s3 s4 W
        have x4 := fun W => idx5_4 (s0 : Int) s1 s2 s3 s4 W
        obtain rfl | rfl | rfl | rfl | rfl : k = 0 ∨ k = 1 ∨ k = 2 ∨ k = 3 ∨ k = 4 := by omega
        all_goals (
          simp only [List.getD_cons_zero, List.getD_cons_succ] at hp2
          go_wp2
          go_roundw
          case rel => first | exact ⟨0 + 1, by omega, (by have h := Hn.out; simp only [List.getD_cons_zero, List.getD_cons_succ] at h; rw [h]; go_num), by first | rfl | go_num, Lib.hid (by first | rfl | trivial)⟩ | exact ⟨1 + 1, by omega, (by have h := Hn.out; simp only [List.getD_cons_zero, List.getD_cons_succ] at h; rw [h]; go_num), by first | rfl | go_num, Lib.hid (by first | rfl | trivial)⟩ | exact ⟨2 + 1, by omega, (by have h := Hn.out; simp only [List.getD_cons_zero, List.getD_cons_succ] at h; rw [h]; go_num), by first | rfl | go_num, Lib.hid (by first | rfl | trivial)⟩ | exact ⟨3 + 1, by omega, (by have h := Hn.out; simp only [List.getD_cons_zero, List.getD_cons_succ] at h; rw [h]; go_num), by first | rfl | go_num, Lib.hid (by first | rfl | trivial)⟩ | exact ⟨4 + 1, by omega, (by have h := Hn.out; simp only [List.getD_cons_zero, List.getD_cons_succ] at h; rw [h]; go_num), by first | rfl | go_num, Lib.hid (by first | rfl | trivial)⟩
          case measure => simp [intOf])
      · obtain rfl : k = 5 := by omega
        generalize hpp : pvV K [s0, s1, s2, s3, s4] 5 = p at *
        have Hpp := Lib.hid hpp
        clear hpp
        go_wp2
        go_ret
        exact ⟨ret_int (by rw [Hpp.out]), Hb6.out⟩
  · rw [if_pos rfl]
    have HP := Lib.hid (pvV_bd K [top, 0, 0, 0, 0] hK8 (five_le htop (by omega) (by omega) (by omega) (by omega)))
    have HN0 : Hid (pvV K [top, 0, 0, 0, 0] 0 = K) := Lib.hid rfl
    have H1 : Hid (#[Value.int .i64 (top : Int), .int .i64 0, .int .i64 0, .int .i64 0, .int .i64 0].all (·.oneCell') = true) := Lib.hid (by first | kernel_rfl | simp [Value.oneCell'])
    go_enter Try.func112, Try.ntmps112
    go_wp2_with fail
    rw [← HW2.out]
    refine (HT.out _).mono ?_
    rintro e w3 ⟨rfl, hb3⟩
    have ha3 := (setRow_other w3 (w.heap.size + 1) w.heap.size #[Value.int .i64 (top : Int), .int .i64 0, .int .i64 0, .int .i64 0, .int .i64 0] (by omega)).trans (HA2.out _ hb3)
    have HD3 := Lib.hid (HD2.out _ hb3)
    have g0 : (w3.setRow (w.heap.size + 1) #[Value.int .i64 (top : Int), .int .i64 0, .int .i64 0, .int .i64 0, .int .i64 0]).cell? ⟨w.heap.size, 0, none⟩ = _ := heap_cell ha3 0 _ rfl
    have g1 : (w3.setRow (w.heap.size + 1) #[Value.int .i64 (top : Int), .int .i64 0, .int .i64 0, .int .i64 0, .int .i64 0]).cell? ⟨w.heap.size, 1, none⟩ = _ := heap_cell ha3 1 _ rfl
    have g2 : (w3.setRow (w.heap.size + 1) #[Value.int .i64 (top : Int), .int .i64 0, .int .i64 0, .int .i64 0, .int .i64 0]).cell? ⟨w.heap.size, 2, none⟩ = _ := heap_cell ha3 2 _ rfl
    have g3 : (w3.setRow (w.heap.size + 1) #[Value.int .i64 (top : Int), .int .i64 0, .int .i64 0, .int .i64 0, .int .i64 0]).cell? ⟨w.heap.size, 3, none⟩ = _ := heap_cell ha3 3 _ rfl
    have g4 : (w3.setRow (w.heap.size + 1) #[Value.int .i64 (top : Int), .int .i64 0, .int .i64 0, .int .i64 0, .int .i64 0]).cell? ⟨w.heap.size, 4, none⟩ = _ := heap_cell ha3 4 _ rfl
    have g5 : (w3.setRow (w.heap.size + 1) #[Value.int .i64 (top : Int), .int .i64 0, .int .i64 0, .int .i64 0, .int .i64 0]).cell? ⟨w.heap.size, 5, none⟩ = _ := heap_cell ha3 5 _ rfl
    have g6 : (w3.setRow (w.heap.size + 1) #[Value.int .i64 (top : Int), .int .i64 0, .int .i64 0, .int .i64 0, .int .i64 0]).cell? ⟨w.heap.size, 6, none⟩ = _ := heap_cell ha3 6 _ rfl
    have g7 : (w3.setRow (w.heap.size + 1) #[Value.int .i64 (top : Int), .int .i64 0, .int .i64 0, .int .i64 0, .int .i64 0]).cell? ⟨w.heap.size, 7, none⟩ = _ := heap_cell ha3 7 _ rfl
    have HB4 := Lib.hid (below_setRow (g := w.heap.size + 1) (HB2.out _ hb3) (Nat.le_succ _) #[Value.int .i64 (top : Int), .int .i64 0, .int .i64 0, .int .i64 0, .int .i64 0])
    have HG4 := Lib.hid (setRow_heap w3 (w.heap.size + 1) _ #[Value.int .i64 (top : Int), .int .i64 0, .int .i64 0, .int .i64 0, .int .i64 0] _ _ HD3.out)
    clear hb3 ha3
    obtain ⟨W4, hW4⟩ : ∃ z, z = w3.setRow (w.heap.size + 1) #[Value.int .i64 (top : Int), .int .i64 0, .int .i64 0, .int .i64 0, .int .i64 0] := ⟨_, rfl⟩
    go_wp2_with (refine wpList_store_row (o := ⟨none, .store 96 _ _, _, _, _, _⟩) rfl 96 (.tmp 3) (.tmp 18) rfl (w.heap.size + 1) #[Value.int .i64 (top : Int), .int .i64 0, .int .i64 0, .int .i64 0, .int .i64 0] rfl rfl 96 _ HD3.out HI5.out rfl H1.out ?_)
    rw [← hW4] at HB4 HG4 ⊢
    refine (HK.out _).mono ?_
    rintro e w5 ⟨rfl, hb5⟩
    have hlt4 : w.heap.size + 1 < W4.heap.size := (Array.getElem?_eq_some_iff.1 HG4.out).1
    have hd5 := (hb5.block (w.heap.size + 1) hlt4).trans HG4.out
    have t0 : w5.cell? ⟨w.heap.size + 1, 0, none⟩ = some (.int .i64 (top : Int)) := heap_cell (cur := [.int .i64 (top : Int), .int .i64 0, .int .i64 0, .int .i64 0, .int .i64 0]) hd5 0 _ rfl
    have t1 : w5.cell? ⟨w.heap.size + 1, 1, none⟩ = some (.int .i64 0) := heap_cell (cur := [.int .i64 (top : Int), .int .i64 0, .int .i64 0, .int .i64 0, .int .i64 0]) hd5 1 _ rfl
    have t2 : w5.cell? ⟨w.heap.size + 1, 2, none⟩ = some (.int .i64 0) := heap_cell (cur := [.int .i64 (top : Int), .int .i64 0, .int .i64 0, .int .i64 0, .int .i64 0]) hd5 2 _ rfl
    have t3 : w5.cell? ⟨w.heap.size + 1, 3, none⟩ = some (.int .i64 0) := heap_cell (cur := [.int .i64 (top : Int), .int .i64 0, .int .i64 0, .int .i64 0, .int .i64 0]) hd5 3 _ rfl
    have t4 : w5.cell? ⟨w.heap.size + 1, 4, none⟩ = some (.int .i64 0) := heap_cell (cur := [.int .i64 (top : Int), .int .i64 0, .int .i64 0, .int .i64 0, .int .i64 0]) hd5 4 _ rfl
    have Hb6 := Lib.hid (HB4.out.trans (hb5.mono HB4.out.size))
    clear hb5 hd5 g0 g1 g2 g3 g4 g5 g6 g7 hW4
    go_wp2
    go_loopw [6, 22] (fun x i wr => ∃ k : Nat, k ≤ 5 ∧ x = .int .i64 (pvV K [top, 0, 0, 0, 0] k : Nat) ∧ i = .int .i64 (k : Int) ∧ Hid (wr = w5)) (fun _ i _ => 5 - (intOf i).toNat)
    case atStart => exact ⟨0, by omega, by rw [HN0.out], rfl, Lib.hid rfl⟩
    case round =>
      obtain ⟨k, hk, rfl, rfl, hw⟩ := hrel
      obtain rfl := hw.out
      clear HT HK HA2 HD2 HI5 HB2 HW2 HD3 HB4 HG4 H1 hlt4
      have hp := HP.out k hk
      by_cases hlt : k < 5
      · have hn := pvV_next K [top, 0, 0, 0, 0] k
        have hp2 := HP.out (k + 1) (by omega)
        rw [hn] at hp2
        have Hn := Lib.hid hn
        clear hn
        generalize pvV K [top, 0, 0, 0, 0] k = p at *
        have x0 := fun W => idx5_0 (top : Int) 0 0 0 0 W
        have x1 := fun W => idx5_1 (top : Int) 0 0 0 0 W
        have x2 := fun W => idx5_2 (top : Int) 0 0 0 0 W
        have x3 := fun W => idx5_3 (top : Int) 0 0 0 0 W
        have x4 := fun W => idx5_4 (top : Int) 0 0 0 0 W
        obtain rfl | rfl | rfl | rfl | rfl : k = 0 ∨ k = 1 ∨ k = 2 ∨ k = 3 ∨ k = 4 := by omega
        all_goals (
          simp only [List.getD_cons_zero, List.getD_cons_succ] at hp2
          go_wp2
          go_roundw
          case rel => first | exact ⟨0 + 1, by omega, (by have h := Hn.out; simp only [List.getD_cons_zero, List.getD_cons_succ] at h; rw [h]; go_num), by first | rfl | go_num, Lib.hid (by first | rfl | trivial)⟩ | exact ⟨1 + 1, by omega, (by have h := Hn.out; simp only [List.getD_cons_zero, List.getD_cons_succ] at h; rw [h]; go_num), by first | rfl | go_num, Lib.hid (by first | rfl | trivial)⟩ | exact ⟨2 + 1, by omega, (by have h := Hn.out; simp only [List.getD_cons_zero, List.getD_cons_succ] at h; rw [h]; go_num), by first | rfl | go_num, Lib.hid (by first | rfl | trivial)⟩ | exact ⟨3 + 1, by omega, (by have h := Hn.out; simp only [List.getD_cons_zero, List.getD_cons_succ] at h; rw [h]; go_num), by first | rfl | go_num, Lib.hid (by first | rfl | trivial)⟩ | exact ⟨4 + 1, by omega, (by have h := Hn.out; simp only [List.getD_cons_zero, List.getD_cons_succ] at h; rw [h]; go_num), by first | rfl | go_num, Lib.hid (by first | rfl | trivial)⟩
          case measure => simp [intOf])
      · obtain rfl : k = 5 := by omega
        generalize hpp : pvV K [top, 0, 0, 0, 0] 5 = p at *
        have Hpp := Lib.hid hpp
        clear hpp
        go_wp2
        go_ret
        exact ⟨ret_int (by rw [Hpp.out]), Hb6.out⟩
end Go.Proofs.Ytodmaomngpnboaa
