/- Contracts: plain dice, in both texts. -/
import Derived.Test.YtaimbadajgjhaabMc
set_option linter.unusedVariables false
namespace Go.Proofs.Ytaimbadajgjhaab
open Go.RowKit

def plainF (k : Nat) : Int := (k : Int) + 1
def ok_PlainDie (a : Int) : Bool := decide (1 ≤ a) && decide (a ≤ 12)
def res_PlainDie (a : Int) : List Int := if ok_PlainDie a = true then tab a.toNat plainF else []
theorem zeros_tab7 (n : Nat) : (madeCells (Value.int .i64 0).cells (n * 1)).toList = (filled n plainF 0).map (Value.int .i64) := by
  rw [filled_zero, Nat.mul_one, List.map_replicate]
  exact made1 _ n
theorem own_add6 {w : World} {base : Nat} {e : TypeId} {v : Value} {l : List Int} {x : Int} (h : w.ownsRow base e 1 v (l.length + 1) (l.map (Value.int .i64) ++ [.int .i64 x])) : w.ownsRow base e 1 v (l ++ [x]).length ((l ++ [x]).map (Value.int .i64)) := by
  rw [List.length_append, List.map_append]; exact h
theorem box_far {w : World} {B b o : Nat} {t : TypeId} {v : Value} (h : Boxed w B t v) (x : Value) (hne : B ≠ b) : Boxed (w.setCell ⟨b, o, none⟩ x) B t v := (Below.heap_setCell _ _ _ _ (fun e => hne e)).trans h
set_option maxRecDepth 100000 in
set_option maxHeartbeats 4000000 in
theorem impl_PlainDie (a : Int) (al : -9223372036854775808 ≤ a) (au : a ≤ 9223372036854775807) (w : World) :
    Calls Try.prog 21 #[.int .i64 a] w fun e w' => ∃ s, e = .returned (.tuple #[.agg #[s], .bool (ok_PlainDie a)]) ∧ Sw (Value.int .i64) 0 w' s (res_PlainDie a) w.heap.size w'.heap.size ∧ Below w.heap.size w w' := by
  have H := Lib.hid (fun z => withinB_any a 1 12 z)
  unfold res_PlainDie
  have hb0 := Lib.hid ((Below.refl _ w).alloc (Nat.le_refl _) (.cells #[.slice none 0 0] 27))
  have b1 := Boxed.new w 27 (.slice none 0 0)
  by_cases hA : 1 ≤ a ∧ a ≤ 12
  · have E : ok_PlainDie a = true := by unfold ok_PlainDie; rw [decide_eq_true hA.1, decide_eq_true hA.2]; rfl
    rw [E, if_pos rfl]
    rw [decide_eq_true hA.1, decide_eq_true hA.2] at H
    obtain ⟨n, rfl⟩ : ∃ n : Nat, a = n := ⟨a.toNat, by omega⟩
    rw [Int.toNat_natCast]
    obtain ⟨i0, hi, hz0, hz1, hz2⟩ := info_parts (show (Try.prog.info? 2).map (fun i => (i.zero, i.size, i.bytes)) = some (some (.int .i64 0), 1, 8) by kernel_rfl)
    clear E
    have B1 := Lib.hid b1
    clear b1
    go_enter Try.func21, Try.ntmps21
    go_wp2_with fail
    refine (H.out _).mono ?_
    rintro e w1 ⟨rfl, rfl⟩
    generalize hW : w.alloc (.cells #[.slice none 0 0] 27) = W at *
    have HWs : Hid (W.heap.size = w.heap.size + 1) := Lib.hid (by rw [← hW]; simp)
    have hWs : w.heap.size < W.heap.size := by have := HWs.out; omega
    clear hW
    go_wp2_with (at_make; refine wpList_make_full _ rfl _ _ 22 rfl W.heap.size 2 i0 (.int .i64 0) 1 (by kernel_rfl) hi hz0 hz1 .i64 .i64 n n n rfl rfl rfl rfl (by rw [hz2]; omega) (by unfold maxLen; omega) (Nat.le_refl _) ?_; intro w1 hrow hgrow)
    have hbel := hb0.out.grown hgrow hb0.out.size (by simp)
    have hB2 := B1.out.kept hgrow (by simp)
    have Hrow := Lib.hid hrow
    have Hbel := Lib.hid hbel
    have HB2 := Lib.hid hB2
    clear hrow hbel hgrow hB2
    go_loopw [14] (fun i wr => ∃ k : Nat, k ≤ n ∧ i = .int .i64 k ∧ Hid (wr.ownsRow W.heap.size 2 1 (.slice (some ⟨W.heap.size, 0, none⟩) n n) n ((filled n plainF k).map (Value.int .i64))) ∧ Hid (Boxed wr w.heap.size 27 (.slice none 0 0)) ∧ Hid (Below w.heap.size w wr)) (fun i _ => n - (intOf i).toNat)
    case atStart =>
      refine ⟨0, Nat.zero_le _, rfl, ?_, HB2, Hbel⟩
      have h0 := Hrow.out
      rw [zeros_tab7] at h0
      exact Lib.hid h0
    case round =>
      obtain ⟨k, hk, rfl, hrow, hB, hb⟩ := hrel
      have hrlt := (hrow.out.lt _ rfl).2
      by_cases hlt : k < n
      · have c2 : wr.cell? ⟨W.heap.size, k, none⟩ = some (.int .i64 0) := by
          rw [hrow.out.cellAt k (by omega), List.getElem?_map, filled_at n _ k hlt]; rfl
        have c3 := hrow.out.frozenAt k
        obtain ⟨hs1, _⟩ := hrow.out.stored k (.int .i64 ((k : Int) + 1))
        rw [← List.map_set, show (filled n plainF k).set k ((k : Int) + 1) = filled n plainF (k + 1) from filled_set n plainF k hlt] at hs1
        have Hs1 := Lib.hid hs1
        clear hs1
        go_wp2
        go_roundw
        case rel => exact ⟨k + 1, by omega, by go_num, Hs1, Lib.hid (box_far hB.out _ (by omega)), Lib.hid (hb.out.setCell (by show _ ≤ W.heap.size; omega) _)⟩
        case measure => simp [intOf]; omega
      · obtain rfl : k = n := by omega
        have c1 := hB.out.cell
        have f1 := hB.out.frozen
        have h0 := hrow.out
        rw [filled_done] at h0
        have hS := Sw.of_owns (d := 0) h0 (tab_len _ _)
        have hR : Hid (Sw (Value.int .i64) 0 (wr.setCell ⟨w.heap.size, 0, none⟩ (.slice (some ⟨W.heap.size, 0, none⟩) k k)) (.slice (some ⟨W.heap.size, 0, none⟩) k k) (tab k plainF) w.heap.size wr.heap.size) := Lib.hid ((hS.apart ((Only.refl 0 W.heap.size wr).step' ⟨w.heap.size, 0, none⟩ _ (Nat.zero_le _) (by show w.heap.size < _; omega)) (.inr (Nat.le_refl _))).mono (by omega) (Nat.le_refl _) (by simp))
        have q1 : (wr.setCell ⟨w.heap.size, 0, none⟩ (.slice (some ⟨W.heap.size, 0, none⟩) k k)).cell? ⟨w.heap.size, 0, none⟩ = some (.slice (some ⟨W.heap.size, 0, none⟩) k k) := (box_set hB.out _).cell
        clear h0 hS
        go_wp2
        refine bodyPost_ret (v := .tuple #[.agg #[.slice (some ⟨W.heap.size, 0, none⟩) k k], .bool true]) ?_ rfl ⟨_, rfl, ?_, ?_⟩
        · simp [results, Try.results21, go_sem, q1]
        · have := hR.out; simpa using this
        · exact hb.out.setCell (Nat.le_refl _) _
  · have E : ok_PlainDie a = false := by unfold ok_PlainDie; simpa using hA
    rw [E, if_neg Bool.false_ne_true]
    rw [show (decide (1 ≤ a) && decide (a ≤ 12)) = false by simpa using hA] at H
    clear E hA
    have c1 := b1.cell
    have f1 := b1.frozen
    go_enter Try.func21, Try.ntmps21
    go_wp2_with fail
    refine (H.out _).mono ?_
    rintro e w1 ⟨rfl, rfl⟩
    go_wp2
    refine bodyPost_ret (v := .tuple #[.agg #[.slice none 0 0], .bool false]) ?_ rfl ⟨_, rfl, Sw.nil _ _ _ _ _ _ _, ?_⟩
    · simp [results, Try.results21, go_sem]
    · exact hb0.out

set_option maxRecDepth 100000 in
set_option maxHeartbeats 4000000 in
theorem plain_spec (n : Nat) (w : World) (h1 : 1 ≤ n) (h12 : n ≤ 12) :
    Calls Try.prog 59 #[.int .i64 (n : Int)] w fun e w' => ∃ s, e = .returned (.agg #[s]) ∧ Sw (Value.int .i64) 0 w' s (tab n plainF) w.heap.size w'.heap.size ∧ Below w.heap.size w w' := by
  obtain ⟨i0, hi, hz0, hz1, hz2⟩ := info_parts (show (Try.prog.info? 2).map (fun i => (i.zero, i.size, i.bytes)) = some (some (.int .i64 0), 1, 8) by kernel_rfl)
  have hb0 := Lib.hid (((Below.refl _ w).alloc (Nat.le_refl _) (.cells #[.slice none 0 0] 27)).alloc (by simp) (.cells #[.slice none 0 0] 27))
  have b1 := Lib.hid ((Boxed.new w 27 (.slice none 0 0)).alloc (.cells #[.slice none 0 0] 27))
  have b2 := Boxed.new (w.alloc (.cells #[.slice none 0 0] 27)) 27 (.slice none 0 0)
  rw [World.size_alloc] at b2
  have B2 := Lib.hid b2
  clear b2
  go_enter Try.func59, Try.ntmps59
  go_wp2
  go_loopw [4] (fun i wr => ∃ (k : Nat) (v : Value), k ≤ n ∧ i = .int .i64 ((k : Int) + 1) ∧ Hid (Boxed wr w.heap.size 27 (.slice none 0 0)) ∧ Hid (Boxed wr (w.heap.size + 1) 27 v) ∧ (k = 0 → v = .slice none 0 0) ∧ Hid (wr.ownsRow (w.heap.size + 1 + 1) 2 1 v (tab k plainF).length ((tab k plainF).map (Value.int .i64))) ∧ w.heap.size + 1 + 1 ≤ wr.heap.size ∧ Hid (Below w.heap.size w wr)) (fun i _ => n + 1 - (intOf i).toNat)
  case atStart => exact ⟨0, _, Nat.zero_le _, by go_num, b1, B2, fun _ => rfl, Lib.hid (World.ownsRow_nil _ _ _ _), by simp, hb0⟩
  case round =>
    obtain ⟨k, v, hk, rfl, hB1, hB2, hv0, hown, hsz, hb⟩ := hrel
    have c2 := hB2.out.cell
    have f2 := hB2.out.frozen
    have hl := tab_len k plainF
    by_cases hlt : k < n
    · have hown2 := hown.out
      go_wp2_with (at_builtin; refine wpList_append_own _ rfl _ _ 22 rfl (w.heap.size + 1 + 1) 2 i0 (.int .i64 0) 1 8 (by kernel_rfl) hi hz0 hz1 hz2 rfl (by decide) _ _ _ rfl (hown2.alloc _) ⟨wr.heap.size, 0, none⟩ 1 1 [.int .i64 ((k : Int) + 1)] rfl rfl (cell_one_new _ _ _) (one_int _) (by unfold maxLen; omega) (by omega) (by simp; omega) ?_; intro v2 w2 hown3 hgrow2 hne2; clear hne2; have Hown3 := Lib.hid hown3; obtain ⟨g3, cap3, rfl⟩ := ownsRow_succ hown3; have B1b := (hB1.out.alloc (.cells #[.int .i64 ((k : Int) + 1)] 2)).kept hgrow2 (fun e => by have := (hown2.lt _ e.symm).1; omega); have B2b := (hB2.out.alloc (.cells #[.int .i64 ((k : Int) + 1)] 2)).kept hgrow2 (fun e => by have := (hown2.lt _ e.symm).1; omega); have c3 := B2b.cell; have f3 := B2b.frozen; have hz2' := hgrow2.size; have Hb2 := Lib.hid ((hb.out.alloc hb.out.size (.cells #[.int .i64 ((k : Int) + 1)] 2)).grown hgrow2 (by have := hb.out.size; simp; omega) (fun b hb => by have := (hown2.lt b hb).1; omega)); have HB1 := Lib.hid B1b; have HB2 := Lib.hid B2b; clear hgrow2 B1b B2b hown3)
      go_roundw
      case rel =>
        refine ⟨k + 1, _, by omega, by go_num, Lib.hid (box_far HB1.out _ (by omega)), Lib.hid (box_set HB2.out _), fun h => by omega, ?_, by simp at hz2' ⊢; omega, Lib.hid (Hb2.out.setCell (by show _ ≤ w.heap.size + 1; omega) _)⟩
        have h5 := own_add6 (x := (k : Int) + 1) Hown3.out
        have h6 := h5.kept (grownBy_setCell' w2 (w.heap.size + 1) (.slice (some ⟨g3, 0, none⟩) ((tab k plainF).length + 1) cap3)) (.inr (fun e => by have e2 : g3 = w.heap.size + 1 := Option.some.inj e; have := (h5.lt g3 rfl).1; omega))
        rw [hl] at h6
        rw [tab_succ]
        exact Lib.hid h6
      case measure => simp [intOf]; omega
    · obtain rfl : k = n := by omega
      have c1 := hB1.out.cell
      have f1 := hB1.out.frozen
      have hS := Sw.of_owns (d := 0) hown.out rfl
      have HS := Lib.hid hS
      obtain ⟨p, cap, rfl, -⟩ := hS
      rw [hl] at HS
      have q1 : (wr.setCell ⟨w.heap.size, 0, none⟩ (.slice p k cap)).cell? ⟨w.heap.size, 0, none⟩ = some (.slice p k cap) := (box_set hB1.out _).cell
      have hR := Lib.hid ((HS.out.apart ((Only.refl 0 (w.heap.size + 1 + 1) wr).step' ⟨w.heap.size, 0, none⟩ (.slice p k cap) (Nat.zero_le _) (by show w.heap.size < _; omega)) (.inr (Nat.le_refl _))).mono (by omega : w.heap.size ≤ _) (Nat.le_refl _) (by simp))
      go_wp2
      refine bodyPost_ret (v := .agg #[.slice p k cap]) ?_ rfl ⟨_, rfl, ?_, ?_⟩
      · simp [results, Try.results59, go_sem, q1]
      · have := hR.out; simpa using this
      · exact hb.out.setCell (Nat.le_refl _) _
end Go.Proofs.Ytaimbadajgjhaab
