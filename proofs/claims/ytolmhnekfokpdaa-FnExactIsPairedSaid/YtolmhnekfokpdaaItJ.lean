/- Contracts: IsPaired, the model, all ways. -/
import Derived.Test.YtolmhnekfokpdaaItI
set_option linter.unusedVariables false
namespace Go.Proofs.Ytolmhnekfokpdaa
open Go.RowKit Go.Shelf
attribute [local go_sem] Oper.semAt_some

set_option maxRecDepth 100000 in
set_option maxHeartbeats 4000000 in
theorem spec_IsPaired (fs : List Int) (v : Value) (a : Int) (w : World) (hn : fs.length ≤ 1048576) (h : Sl (Value.int .i64) 0 w v fs) :
    Calls Try.prog 15 #[v, .int .i64 a] w fun e w' => e = .returned (.tuple #[.bool (res_IsPaired fs a), .bool (ok_IsPaired fs a)]) ∧ Below w.heap.size w w' := by
  unfold res_IsPaired ok_IsPaired
  cases hd : deckB fs
  · have HD := Lib.hid (deck_no fs v w hn h hd)
    obtain ⟨p, cap, rfl, -⟩ := h
    simp only [Bool.false_and]
    clear hd
    generalize fs.length = L at *
    go_enter Try.func15, Try.ntmps15
    go_wp2_with (first | (go_at_call 48; refine HD.out.mono ?_; rintro e w1 ⟨rfl, hd1⟩; have Hd1 := Lib.hid hd1; clear hd1))
    go_ret2
    exact ⟨rfl, Hd1.out.below _⟩
  · by_cases hk : 1 ≤ a ∧ a ≤ (fs.length : Int)
    · obtain ⟨k, rfl⟩ : ∃ k : Nat, a = (k : Int) := ⟨a.toNat, by omega⟩
      obtain ⟨hk, hkl⟩ := hk
      by_cases hq : (fs.length : Int) % (k : Int) = 0
      · rw [decide_eq_true hk, decide_eq_true hq]
        simp only [Bool.and_true, Bool.true_and, Int.toNat_natCast]
        have hq2 : fs.length % k = 0 := by exact_mod_cast hq
        exact (paired_spec fs k v w hn h hd (by omega) (by omega) hq2).mono fun e w' ⟨h1, h2⟩ => ⟨h1, h2.below _⟩
      · rw [decide_eq_true hk, decide_eq_false hq]
        simp only [Bool.and_false, Bool.false_and]
        have HD := Lib.hid (deck_yes fs v w hn h hd)
        have Hin := Lib.hid (fun z => in_yes (k : Int) 1 (fs.length : Int) z (by omega) (by omega))
        obtain ⟨p, cap, rfl, -⟩ := h
        clear hd
        have hqn : ((fs.length : Int) % (k : Int) != 0) = true := by simpa using hq
        have dz : ((k : Int) = 0) = False := eq_false (by omega)
        clear hq
        generalize fs.length = L at *
        go_enter Try.func15, Try.ntmps15
        go_wp2_with (first | (go_at_call 48; refine HD.out.mono ?_; rintro e w1 ⟨rfl, hd1⟩; have Hd1 := Lib.hid hd1; clear hd1) | (go_at_call 49; refine (Hin.out _).mono ?_; rintro e w' ⟨rfl, rfl⟩))
        go_ret2
        exact ⟨rfl, Hd1.out.below _⟩
    · have hno : (decide (1 ≤ a) && decide ((fs.length : Int) % a = 0)) = false := by
        by_cases h1 : 1 ≤ a
        · have h2 : ¬ (fs.length : Int) % a = 0 := by
            have := (deckB_len hd).1
            rw [Int.emod_eq_of_lt (by omega) (by omega)]; omega
          rw [decide_eq_false h2, Bool.and_false]
        · rw [decide_eq_false h1]; rfl
      rw [Bool.true_and, hno]
      simp only [Bool.false_and]
      have HD := Lib.hid (deck_yes fs v w hn h hd)
      have Hin := Lib.hid (fun z => in_no a 1 (fs.length : Int) z (by omega))
      obtain ⟨p, cap, rfl, -⟩ := h
      clear hd hno hk
      generalize fs.length = L at *
      go_enter Try.func15, Try.ntmps15
      go_wp2_with (first | (go_at_call 48; refine HD.out.mono ?_; rintro e w1 ⟨rfl, hd1⟩; have Hd1 := Lib.hid hd1; clear hd1) | (go_at_call 49; refine (Hin.out _).mono ?_; rintro e w' ⟨rfl, rfl⟩))
      go_ret2
      exact ⟨rfl, Hd1.out.below _⟩
end Go.Proofs.Ytolmhnekfokpdaa
