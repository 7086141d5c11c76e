/- Contracts: hands that a stack pays, in both texts. -/
import Derived.Test.YtadbblidmmekiaaIa
import Derived.Test.YtadbblidmmekiaaIc
set_option linter.unusedVariables false
namespace Go.Proofs.Ytadbblidmmekiaa
open Go.RowKit

def stakesB (fs : List Int) : Bool := fs.all fun x => decide (0 ≤ x) && decide (x ≤ 1000000)
theorem stakesB_at {fs : List Int} (h : stakesB fs = true) (k : Nat) (hk : k < fs.length) : 0 ≤ fs.getD k 0 ∧ fs.getD k 0 ≤ 1000000 := by
  rw [getD_lt fs 0 k hk]
  have := List.all_eq_true.1 h _ (List.getElem_mem hk)
  simpa using this
theorem stakesB_of {fs : List Int} (h : ∀ k, k < fs.length → 0 ≤ fs.getD k 0 ∧ fs.getD k 0 ≤ 1000000) : stakesB fs = true := by
  refine List.all_eq_true.2 fun x hx => ?_
  obtain ⟨i, hi, rfl⟩ := List.getElem_of_mem hx
  have := h i hi
  rw [getD_lt fs 0 i hi] at this
  simpa using this
theorem stakesB_bad {fs : List Int} (k : Nat) (hk : k < fs.length) (h : fs.getD k 0 < 0 ∨ 1000000 < fs.getD k 0) : stakesB fs = false := by
  rw [Bool.eq_false_iff]; intro h'; have := stakesB_at h' k hk; omega
theorem stakes_any (fs : List Int) (v : Value) (w : World) (hn : fs.length ≤ 1048576) (h : Sl (Value.int .i64) 0 w v fs) :
    Calls Try.prog 50 #[v] w fun e w' => e = .returned (.bool (stakesB fs)) ∧ w = w' := by
  obtain ⟨p, cap, rfl, hf⟩ := h
  have Hf := Lib.hid hf
  have Hat := Lib.hid (fun k hk g => stakesB_bad (fs := fs) k hk g)
  have Hof := Lib.hid (stakesB_of (fs := fs))
  clear hf
  generalize fs.length = n at *
  generalize stakesB fs = B at *
  go_enter Try.func50, Try.ntmps50
  go_wp2
  go_loop [7] (fun i => ∃ k : Nat, k ≤ n ∧ i = .int .i64 k ∧ Hid (∀ j, j < k → 0 ≤ fs.getD j 0 ∧ fs.getD j 0 ≤ 1000000)) (fun i => n - (intOf i).toNat)
  case atStart => exact ⟨0, Nat.zero_le _, rfl, fun j hj => absurd hj (by omega)⟩
  case round =>
    obtain ⟨k, hk, rfl, hp⟩ := hrel
    by_cases hlt : k < n
    · obtain ⟨hcap, b, off, rfl, hbs, hc⟩ := Hf.out (by omega)
      have c1 := hc k hlt
      clear hc
      by_cases hx : 0 ≤ fs.getD k 0 ∧ fs.getD k 0 ≤ 1000000
      · have Hp2 : Hid (∀ j, j < k + 1 → 0 ≤ fs.getD j 0 ∧ fs.getD j 0 ≤ 1000000) := Lib.hid (fun j hj => by
          by_cases e : j = k
          · subst e; exact hx
          · exact hp.out j (by omega))
        have Hs := Lib.hid (fun z => stake_yes (fs.getD k 0) z hx.1 hx.2)
        clear hx
        generalize fs.getD k 0 = x at *
        go_wp2_with (go_at_call 88; refine (Hs.out _).mono ?_; rintro e w' ⟨rfl, rfl⟩)
        go_round
        case rel => exact ⟨k + 1, by omega, by go_num, Hp2⟩
        case measure => simp [intOf]; omega
      · have Hs := Lib.hid (fun z => stake_no (fs.getD k 0) z (by omega))
        have HB := Lib.hid (Hat.out k hlt (by omega))
        clear hx
        generalize fs.getD k 0 = x at *
        go_wp2_with (go_at_call 88; refine (Hs.out _).mono ?_; rintro e w' ⟨rfl, rfl⟩)
        go_ret
        exact ⟨ret_bool HB.out.symm, rfl⟩
    · obtain rfl : k = n := by omega
      have HB := Lib.hid (Hof.out hp.out)
      go_wp2
      go_ret
      exact ⟨ret_bool HB.out.symm, rfl⟩

abbrev okH (a b c d e : Int) : Prop := ((0 ≤ a ∧ a ≤ 1000000) ∧ (0 ≤ b ∧ b ≤ 1000000) ∧ (0 ≤ c ∧ c ≤ 1000000) ∧ (0 ≤ d ∧ d ≤ 1000000)) ∧ (2 ≤ e ∧ e ≤ 6) ∧ 1 ≤ b + c + d


theorem four (x0 x1 x2 x3 : Int) (w : World) (t : TypeId) : Sl (Value.int .i64) 0 (w.alloc (.cells #[.int .i64 x0, .int .i64 x1, .int .i64 x2, .int .i64 x3] t)) (.slice (some ⟨w.heap.size, 0, none⟩) 4 4) [x0, x1, x2, x3] := by
  refine ⟨_, 4, rfl, fun _ => ⟨by simp, w.heap.size, 0, rfl, by simp, fun i hi => ?_⟩⟩
  have hi' : i < 4 := hi
  obtain rfl | rfl | rfl | rfl : i = 0 ∨ i = 1 ∨ i = 2 ∨ i = 3 := by omega
  all_goals go_simp

