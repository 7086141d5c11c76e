/- Contracts: cards turned on a clock: ClockDeal, both whole. -/
import Derived.Test.YtglmahgbdgbbpaaYm
set_option linter.unusedVariables false
namespace Go.Proofs.Ytglmahgbdgbbpaa
open Go.RowKit

set_option maxHeartbeats 2000000 in
theorem impl_ClockDeal (fs : List Int) (v : Value) (a : Int) (al : -9223372036854775808 ≤ a) (au : a ≤ 9223372036854775807) (w : World) (hn : fs.length ≤ 1048576) (h : Sl (Value.int .i64) 0 w v fs) :
    Calls Try.prog 26 #[v, .int .i64 a] w fun e w' => e = .returned (.tuple #[.int .i64 (res_ClockDeal fs a), .bool (res2_ClockDeal fs a), .bool (ok_ClockDeal fs a)]) ∧ Below w.heap.size w w' := by
  unfold res_ClockDeal res2_ClockDeal ok_ClockDeal
  cases hd : deckB fs
  · have HD := Lib.hid (deckI_no fs v w hn h hd)
    have e0 : okCD fs a = false := by unfold okCD; rw [hd]; rfl
    rw [e0, if_neg Bool.false_ne_true, if_neg Bool.false_ne_true]
    obtain ⟨p, cap, rfl, -⟩ := h
    clear hd e0
    generalize fs.length = L at *
    go_enter Try.func26, Try.ntmps26
    go_wp2
    go_step3
    go_wp2_with (go_at_call 61; (with_reducible refine HD.out.mono ?_); rintro e w1 ⟨rfl, hb⟩; have Hb := Lib.hid hb; clear hb)
    try rw [Exit.noGoto_ret]
    go_ret3
    exact ⟨rfl, Hb.out⟩
  · have HD := Lib.hid (deckI_yes fs v w hn h hd)
    by_cases ha : 1 ≤ a ∧ a ≤ 13
    · by_cases hm : (fs.length : Int) % a = 0
      · have e0 : okCD fs a = true := by unfold okCD; rw [hd, decide_eq_true ha.1, decide_eq_true ha.2, decide_eq_true hm]; rfl
        rw [e0, if_pos (by rfl), if_pos (by rfl)]
        obtain ⟨p, rfl⟩ : ∃ p : Nat, a = p := ⟨a.toNat, by omega⟩
        have hm' : fs.length % p = 0 := by omega
        unfold numCD
        rw [Int.toNat_natCast]
        exact clock_impl fs v p (fs.length / p) w hn h hd (by omega) (by omega) (by have := Nat.div_add_mod fs.length p; omega)
      · have e0 : okCD fs a = false := by unfold okCD; rw [decide_eq_false hm, Bool.and_false, Bool.and_false]
        rw [e0, if_neg Bool.false_ne_true, if_neg Bool.false_ne_true]
        have HA := Lib.hid (fun z => within_yes a 1 13 z ha.1 ha.2)
        obtain ⟨a1, a2⟩ := ha
        obtain ⟨p, cap, rfl, -⟩ := h
        have d1 : ((fs.length : Int) % a == 0) = false := by simpa using hm
        have d3 : (a = 0) = False := eq_false (by omega)
        have d4 : (a == 0) = false := by rw [beq_eq_false_iff_ne]; omega
        clear hd e0 hm
        generalize fs.length = L at *
        go_enter Try.func26, Try.ntmps26
        go_wp2
        go_step3
        go_wp2_with (first | (go_at_call 61; (with_reducible refine HD.out.mono ?_); rintro e w1 ⟨rfl, hb⟩; have Hb := Lib.hid hb; clear hb) | (go_at_call 62; (with_reducible refine (HA.out _).mono ?_); rintro e w3 ⟨rfl, rfl⟩))
        try rw [Exit.noGoto_ret]
        go_ret3
        exact ⟨rfl, Hb.out⟩
    · have e0 : okCD fs a = false := by unfold okCD; rw [show (decide (1 ≤ a) && decide (a ≤ 13)) = false by simpa using ha, Bool.false_and, Bool.and_false]
      rw [e0, if_neg Bool.false_ne_true, if_neg Bool.false_ne_true]
      have HA := Lib.hid (fun z => within_no a 1 13 z (by omega))
      obtain ⟨p, cap, rfl, -⟩ := h
      clear hd e0 ha
      generalize fs.length = L at *
      go_enter Try.func26, Try.ntmps26
      go_wp2
      go_step3
      go_wp2_with (first | (go_at_call 61; (with_reducible refine HD.out.mono ?_); rintro e w1 ⟨rfl, hb⟩; have Hb := Lib.hid hb; clear hb) | (go_at_call 62; (with_reducible refine (HA.out _).mono ?_); rintro e w3 ⟨rfl, rfl⟩))
      try rw [Exit.noGoto_ret]
      go_ret3
      exact ⟨rfl, Hb.out⟩
set_option maxHeartbeats 2000000 in
theorem spec_ClockDeal (fs : List Int) (v : Value) (a : Int) (al : -9223372036854775808 ≤ a) (au : a ≤ 9223372036854775807) (w : World) (hn : fs.length ≤ 1048576) (h : Sl (Value.int .i64) 0 w v fs) :
    Calls Try.prog 25 #[v, .int .i64 a] w fun e w' => e = .returned (.tuple #[.int .i64 (res_ClockDeal fs a), .bool (res2_ClockDeal fs a), .bool (ok_ClockDeal fs a)]) ∧ Below w.heap.size w w' := by
  unfold res_ClockDeal res2_ClockDeal ok_ClockDeal
  cases hd : deckB fs
  · have HD := Lib.hid (deck_no fs v w hn h hd)
    have e0 : okCD fs a = false := by unfold okCD; rw [hd]; rfl
    rw [e0, if_neg Bool.false_ne_true, if_neg Bool.false_ne_true]
    obtain ⟨p, cap, rfl, -⟩ := h
    clear hd e0
    generalize fs.length = L at *
    go_enter Try.func25, Try.ntmps25
    go_wp2_with (go_at_call 60; (with_reducible refine HD.out.mono ?_); rintro e w1 ⟨rfl, hb⟩; have Hb := Lib.hid (hb.below w.heap.size); clear hb)
    go_ret3
    exact ⟨rfl, Hb.out⟩
  · have HD := Lib.hid (deck_yes fs v w hn h hd)
    by_cases ha : 1 ≤ a ∧ a ≤ 13
    · by_cases hm : (fs.length : Int) % a = 0
      · have e0 : okCD fs a = true := by unfold okCD; rw [hd, decide_eq_true ha.1, decide_eq_true ha.2, decide_eq_true hm]; rfl
        rw [e0, if_pos (by rfl), if_pos (by rfl)]
        obtain ⟨p, rfl⟩ : ∃ p : Nat, a = p := ⟨a.toNat, by omega⟩
        have hm' : fs.length % p = 0 := by omega
        unfold numCD
        rw [Int.toNat_natCast]
        exact clock_spec fs v p (fs.length / p) w hn h hd (by omega) (by omega) (by have := Nat.div_add_mod fs.length p; omega)
      · have e0 : okCD fs a = false := by unfold okCD; rw [decide_eq_false hm, Bool.and_false, Bool.and_false]
        rw [e0, if_neg Bool.false_ne_true, if_neg Bool.false_ne_true]
        have HA := Lib.hid (fun z => in_yes a 1 13 z ha.1 ha.2)
        obtain ⟨a1, a2⟩ := ha
        obtain ⟨p, cap, rfl, -⟩ := h
        have d1 : ((fs.length : Int) % a == 0) = false := by simpa using hm
        have d3 : (a = 0) = False := eq_false (by omega)
        have d4 : (a == 0) = false := by rw [beq_eq_false_iff_ne]; omega
        clear hd e0 hm
        generalize fs.length = L at *
        go_enter Try.func25, Try.ntmps25
        go_wp2_with (first | (go_at_call 60; (with_reducible refine HD.out.mono ?_); rintro e w1 ⟨rfl, hb⟩; have Hb := Lib.hid (hb.below w.heap.size); clear hb) | (go_at_call 46; (with_reducible refine (HA.out _).mono ?_); rintro e w3 ⟨rfl, rfl⟩))
        go_ret3
        exact ⟨rfl, Hb.out⟩
    · have e0 : okCD fs a = false := by unfold okCD; rw [show (decide (1 ≤ a) && decide (a ≤ 13)) = false by simpa using ha, Bool.false_and, Bool.and_false]
      rw [e0, if_neg Bool.false_ne_true, if_neg Bool.false_ne_true]
      have HA := Lib.hid (fun z => in_no a 1 13 z (by omega))
      obtain ⟨p, cap, rfl, -⟩ := h
      clear hd e0 ha
      generalize fs.length = L at *
      go_enter Try.func25, Try.ntmps25
      go_wp2_with (first | (go_at_call 60; (with_reducible refine HD.out.mono ?_); rintro e w1 ⟨rfl, hb⟩; have Hb := Lib.hid (hb.below w.heap.size); clear hb) | (go_at_call 46; (with_reducible refine (HA.out _).mono ?_); rintro e w3 ⟨rfl, rfl⟩))
      go_ret3
      exact ⟨rfl, Hb.out⟩
end Go.Proofs.Ytglmahgbdgbbpaa
