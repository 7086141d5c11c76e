/- Contracts: thrown dice, the model, whole. -/
import Derived.Test.YtaimbadajgjhaabMr
set_option linter.unusedVariables false
namespace Go.Proofs.Ytaimbadajgjhaab
open Go.RowKit

set_option maxHeartbeats 4000000 in
theorem spec_RollDice (ds : List (List Int)) (v : Value) (s : Int) (sl : -9223372036854775808 ≤ s) (su : s ≤ 9223372036854775807) (c : Int) (cl : -9223372036854775808 ≤ c) (cu : c ≤ 9223372036854775807) (w : World) (hn : ds.length ≤ 1048576) (hm : totD ds ds.length ≤ 1048576) (h : SlD w v ds) :
    Calls Try.prog 36 #[v, .int .i64 s, .int .i64 c] w fun e w' => ∃ r, e = .returned (.tuple #[r, .int .i64 (res2_RollDice ds s c), .bool (ok_RollDice ds s c)]) ∧ Sw (Value.int .i64) 0 w' r (res_RollDice ds s c) w.heap.size w'.heap.size ∧ Below w.heap.size w w' := by
  have E : okRoll ds s c = ((diceB ds && (decide (0 ≤ s) && decide (s ≤ 4294967295))) && (decide (1 ≤ c) && decide (c ≤ 256))) := rfl
  have Hv := Lib.hid (diceS_any ds v w hn hm h)
  cases hb : diceB ds
  · rw [hb] at Hv E
    obtain ⟨e0, e1, e2⟩ := roll_no (E.trans (by rw [Bool.false_and, Bool.false_and]))
    rw [e0, e1, e2]
    obtain ⟨q, cap, rfl, -⟩ := h
    clear e0 e1 e2 E hb hm hn
    generalize ds.length = n at *
    go_enter Try.func36, Try.ntmps36
    go_wp2_with fail
    refine (Hv.out).mono ?_
    rintro e w2 ⟨rfl, hd⟩
    have Hd := Lib.hid hd
    clear hd
    go_wp2
    go_ret3
    exact ⟨_, rfl, Sw.nil _ _ _ _ _ _ _, Hd.out.below _⟩
  · by_cases hs : 0 ≤ s ∧ s ≤ 4294967295
    · by_cases hc : 1 ≤ c ∧ c ≤ 256
      · rw [hb, decide_eq_true hs.1, decide_eq_true hs.2, decide_eq_true hc.1, decide_eq_true hc.2] at E
        unfold ok_RollDice res_RollDice res2_RollDice
        rw [E, if_pos (by rfl), if_pos (by rfl)]
        obtain ⟨C, rfl⟩ : ∃ C : Nat, c = C := ⟨c.toNat, by omega⟩
        rw [Int.toNat_natCast]
        exact roll_spec_yes ds v s C w hn hm h hb hs.1 hs.2 (by omega) (by omega)
      · rw [hb] at Hv E
        obtain ⟨e0, e1, e2⟩ := roll_no (E.trans (by rw [show (decide (1 ≤ c) && decide (c ≤ 256)) = false by simpa using hc, Bool.and_false]))
        rw [e0, e1, e2]
        have HS := Lib.hid (fun z => in_yes s 0 4294967295 z hs.1 hs.2)
        have HC := Lib.hid (fun z => in_no c 1 256 z (by omega))
        obtain ⟨q, cap, rfl, -⟩ := h
        clear e0 e1 e2 E hb hm hn hc
        generalize ds.length = n at *
        go_enter Try.func36, Try.ntmps36
        go_wp2_with fail
        refine (Hv.out).mono ?_
        rintro e w2 ⟨rfl, hd⟩
        have Hd := Lib.hid hd
        clear hd
        go_wp2_with fail
        refine (HS.out _).mono ?_
        rintro e w3 ⟨rfl, rfl⟩
        go_wp2_with fail
        refine (HC.out _).mono ?_
        rintro e w3 ⟨rfl, rfl⟩
        go_wp2
        go_ret3
        exact ⟨_, rfl, Sw.nil _ _ _ _ _ _ _, Hd.out.below _⟩
    · rw [hb] at Hv E
      obtain ⟨e0, e1, e2⟩ := roll_no (E.trans (by rw [show (decide (0 ≤ s) && decide (s ≤ 4294967295)) = false by simpa using hs, Bool.and_false, Bool.false_and]))
      rw [e0, e1, e2]
      have HS := Lib.hid (fun z => in_no s 0 4294967295 z (by omega))
      obtain ⟨q, cap, rfl, -⟩ := h
      clear e0 e1 e2 E hb hm hn hs
      generalize ds.length = n at *
      go_enter Try.func36, Try.ntmps36
      go_wp2_with fail
      refine (Hv.out).mono ?_
      rintro e w2 ⟨rfl, hd⟩
      have Hd := Lib.hid hd
      clear hd
      go_wp2_with fail
      refine (HS.out _).mono ?_
      rintro e w3 ⟨rfl, rfl⟩
      go_wp2
      go_ret3
      exact ⟨_, rfl, Sw.nil _ _ _ _ _ _ _, Hd.out.below _⟩
end Go.Proofs.Ytaimbadajgjhaab
