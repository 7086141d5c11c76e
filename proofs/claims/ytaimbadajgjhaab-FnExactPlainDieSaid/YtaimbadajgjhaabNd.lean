/- Contracts: plain dice, the model, whole. -/
import Derived.Test.YtaimbadajgjhaabNc
set_option linter.unusedVariables false
namespace Go.Proofs.Ytaimbadajgjhaab
open Go.RowKit

theorem len_PlainDie (a : Int) : (res_PlainDie a).length ≤ 1048576 := by
  unfold res_PlainDie
  cases h : ok_PlainDie a
  · simp
  · rw [if_pos rfl, tab_len]
    unfold ok_PlainDie at h
    simp only [Bool.and_eq_true, decide_eq_true_eq] at h
    omega
set_option maxRecDepth 100000 in
set_option maxHeartbeats 4000000 in
theorem spec_PlainDie (a : Int) (al : -9223372036854775808 ≤ a) (au : a ≤ 9223372036854775807) (w : World) :
    Calls Try.prog 20 #[.int .i64 a] w fun e w' => ∃ s, e = .returned (.tuple #[.agg #[s], .bool (ok_PlainDie a)]) ∧ Sw (Value.int .i64) 0 w' s (res_PlainDie a) w.heap.size w'.heap.size ∧ Below w.heap.size w w' := by
  have H := Lib.hid (fun z => inB_any a 1 12 z)
  unfold res_PlainDie
  have hb0 := Lib.hid ((Below.refl _ w).alloc (Nat.le_refl _) (.cells #[.slice none 0 0] 27))
  have b1 := Boxed.new w 27 (.slice none 0 0)
  by_cases hA : 1 ≤ a ∧ a ≤ 12
  · have E : ok_PlainDie a = true := by unfold ok_PlainDie; rw [decide_eq_true hA.1, decide_eq_true hA.2]; rfl
    rw [E, if_pos rfl]
    rw [decide_eq_true hA.1, decide_eq_true hA.2] at H
    obtain ⟨n, rfl⟩ : ∃ n : Nat, a = n := ⟨a.toNat, by omega⟩
    rw [Int.toNat_natCast]
    have HP := Lib.hid (fun z => plain_spec n z (by omega) (by omega))
    have hl := tab_len n plainF
    generalize hR : tab n plainF = R at *
    clear E hR
    have B1 := Lib.hid b1
    clear b1
    go_enter Try.func20, Try.ntmps20
    go_wp2_with fail
    refine (H.out _).mono ?_
    rintro e w1 ⟨rfl, rfl⟩
    go_wp2_with fail
    refine (HP.out _).mono ?_
    rintro e w2 ⟨s, rfl, hs, hb⟩
    have HB := Lib.hid (box_below B1.out hb B1.out.lt)
    have Hb := Lib.hid (below_step hb0.out hb (Nat.le_refl _))
    have hsz := hb.size
    simp only [World.size_alloc] at hs hsz
    have Hs := Lib.hid hs
    obtain ⟨p, cap, rfl, -⟩ := hs
    have c1 := HB.out.cell
    have f1 := HB.out.frozen
    rw [hl] at Hs
    clear hb B1
    have q1 : (w2.setCell ⟨w.heap.size, 0, none⟩ (.slice p n cap)).cell? ⟨w.heap.size, 0, none⟩ = some (.slice p n cap) := (box_set HB.out _).cell
    have hR := Lib.hid ((Hs.out.apart ((Only.refl 0 (w.heap.size + 1) w2).step' ⟨w.heap.size, 0, none⟩ (.slice p n cap) (Nat.zero_le _) (by show w.heap.size < _; omega)) (.inr (Nat.le_refl _))).mono (by omega : w.heap.size ≤ _) (Nat.le_refl _) (by simp))
    go_wp2
    refine bodyPost_ret (v := .tuple #[.agg #[.slice p n cap], .bool true]) ?_ rfl ⟨_, rfl, ?_, ?_⟩
    · simp [results, Try.results20, go_sem, q1]
    · have := hR.out; simpa using this
    · exact Hb.out.setCell (Nat.le_refl _) _
  · have E : ok_PlainDie a = false := by unfold ok_PlainDie; simpa using hA
    rw [E, if_neg Bool.false_ne_true]
    rw [show (decide (1 ≤ a) && decide (a ≤ 12)) = false by simpa using hA] at H
    clear E hA
    have c1 := b1.cell
    have f1 := b1.frozen
    go_enter Try.func20, Try.ntmps20
    go_wp2_with fail
    refine (H.out _).mono ?_
    rintro e w1 ⟨rfl, rfl⟩
    go_wp2
    refine bodyPost_ret (v := .tuple #[.agg #[.slice none 0 0], .bool false]) ?_ rfl ⟨_, rfl, Sw.nil _ _ _ _ _ _ _, ?_⟩
    · simp [results, Try.results20, go_sem]
    · exact hb0.out
end Go.Proofs.Ytaimbadajgjhaab
