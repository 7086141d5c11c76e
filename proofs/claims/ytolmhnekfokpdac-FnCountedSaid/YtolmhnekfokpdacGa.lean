/- Contracts: rows of bits, in both texts. -/
import Derived.Test.YtolmhnekfokpdacDk
import Derived.BigQuiet
set_option linter.unusedVariables false
namespace Go.Proofs.Ytolmhnekfokpdac
open Go.RowKit

def bitB (x : Int) : Bool := decide (x = 0) || decide (x = 1)
def bitsB (fs : List Int) (m : Nat) : Bool := decide (1 ≤ fs.length) && decide (fs.length ≤ m) && fs.all bitB
theorem bits_short (fs : List Int) (m : Nat) (h : ¬ (1 ≤ fs.length)) : bitsB fs m = false := by unfold bitsB; rw [decide_eq_false h]; rfl
theorem bits_long (fs : List Int) (m : Nat) (h : ¬ (fs.length ≤ m)) : bitsB fs m = false := by unfold bitsB; rw [decide_eq_false h, Bool.and_false]; rfl
theorem bits_yes (fs : List Int) (m n : Nat) (hn : fs.length = n) (h1 : 1 ≤ n) (h2 : n ≤ m) (h : ∀ j, j < n → bitB (fs.getD j 0) = true) : bitsB fs m = true := by
  subst hn
  unfold bitsB
  rw [decide_eq_true h1, decide_eq_true h2]
  simp only [Bool.true_and, List.all_eq_true]
  intro x hx
  obtain ⟨i, hi, rfl⟩ := List.getElem_of_mem hx
  have := h i hi
  rw [getD_lt fs 0 i hi] at this
  exact this
theorem bits_bad (fs : List Int) (m k : Nat) (hk : k < fs.length) (h : bitB (fs.getD k 0) = false) : bitsB fs m = false := by
  rw [Bool.eq_false_iff]
  intro h'
  unfold bitsB at h'
  simp only [Bool.and_eq_true, List.all_eq_true] at h'
  rw [getD_lt fs 0 k hk] at h
  rw [h'.2 _ (List.getElem_mem hk)] at h
  exact Bool.noConfusion h
theorem bitB_no (x : Int) (h0 : x ≠ 0) (h1 : x ≠ 1) : bitB x = false := by unfold bitB; rw [decide_eq_false h0, decide_eq_false h1]; rfl
theorem bits_at (fs : List Int) (m k : Nat) (h : bitsB fs m = true) (hk : k < fs.length) : fs.getD k 0 = 0 ∨ fs.getD k 0 = 1 := by
  unfold bitsB at h
  simp only [Bool.and_eq_true, List.all_eq_true] at h
  have := h.2 _ (List.getElem_mem hk)
  rw [getD_lt fs 0 k hk]
  unfold bitB at this
  simpa using this
theorem bits_len (fs : List Int) (m : Nat) (h : bitsB fs m = true) : 1 ≤ fs.length ∧ fs.length ≤ m := by
  unfold bitsB at h
  simp only [Bool.and_eq_true, decide_eq_true_eq] at h
  exact h.1


set_option maxRecDepth 100000 in
set_option maxHeartbeats 1000000 in
theorem bits_impl (fs : List Int) (v : Value) (m : Nat) (w : World) (hm : m ≤ 64) (hn : fs.length ≤ 1048576) (h : Sl (Value.int .i64) 0 w v fs) :
    Calls Try.prog 89 #[v, .int .i64 (m : Int)] w fun e w' => e = .returned (.bool (bitsB fs m)) ∧ w = w' := by
  obtain ⟨p, cap, rfl, hf⟩ := h
  have Hf := Lib.hid hf
  clear hf
  generalize hlen : fs.length = n at *
  have Hlen := Lib.hid hlen
  clear hlen
  by_cases h1 : 1 ≤ n
  · have d1 : decide ((n : Int) < 1) = false := decide_eq_false (by omega)
    by_cases h2 : n ≤ m
    · have d2 : decide ((m : Int) < (n : Int)) = false := decide_eq_false (by omega)
      have d3 : decide (m < n) = false := decide_eq_false (by omega)
      go_enter Try.func89, Try.ntmps89
      go_wp2
      go_loop [18] (fun i => ∃ k : Nat, k ≤ n ∧ i = .int .i64 (k : Int) ∧ Hid (∀ j, j < k → bitB (fs.getD j 0) = true)) (fun i => n - (intOf i).toNat)
      case atStart => exact ⟨0, Nat.zero_le _, rfl, fun j hj => absurd hj (by omega)⟩
      case round =>
        obtain ⟨k, hk, rfl, hp⟩ := hrel
        by_cases hlt : k < n
        · obtain ⟨hcap, b, off, rfl, hbs, hc⟩ := Hf.out (by omega)
          have c1 := hc k hlt
          clear hc
          have Hbad := Lib.hid (bits_bad fs m k (by rw [Hlen.out]; exact hlt))
          have Hno := Lib.hid (bitB_no (fs.getD k 0))
          have Hyes : Hid ((fs.getD k 0 = 0 ∨ fs.getD k 0 = 1) → bitB (fs.getD k 0) = true) := Lib.hid (fun h => by unfold bitB; rcases h with h | h <;> rw [h] <;> rfl)
          generalize hg : fs.getD k 0 = y at *
          have Hg := Lib.hid hg
          clear hg
          by_cases hb0 : y = 0
          · have Hy := Lib.hid (Hyes.out (.inl hb0))
            subst hb0
            go_wp2
            go_round
            case rel => exact ⟨k + 1, by omega, by go_num, Lib.hid fun j hj => by
              by_cases e : j = k
              · subst e; rw [Hg.out]; exact Hy.out
              · exact hp.out j (by omega)⟩
            case measure => simp [intOf]; omega
          · by_cases hb1 : y = 1
            · have Hy := Lib.hid (Hyes.out (.inr hb1))
              subst hb1
              go_wp2
              go_round
              case rel => exact ⟨k + 1, by omega, by go_num, Lib.hid fun j hj => by
                by_cases e : j = k
                · subst e; rw [Hg.out]; exact Hy.out
                · exact hp.out j (by omega)⟩
              case measure => simp [intOf]; omega
            · have Hb := Lib.hid (Hbad.out (Hno.out hb0 hb1))
              have e0 : (y != 0) = true := by simpa using hb0
              have e1 : (y != 1) = true := by simpa using hb1
              go_wp2
              go_ret
              exact ⟨ret_bool Hb.out.symm, rfl⟩
        · obtain rfl : k = n := by omega
          have Hy := Lib.hid (bits_yes fs m k Hlen.out h1 h2 hp.out)
          clear hp
          go_wp2
          go_ret
          exact ⟨ret_bool Hy.out.symm, rfl⟩
    · have d2 : decide ((m : Int) < (n : Int)) = true := decide_eq_true (by omega)
      have d3 : decide (m < n) = true := decide_eq_true (by omega)
      have Hb := Lib.hid (bits_long fs m (by rw [Hlen.out]; exact h2))
      go_enter Try.func89, Try.ntmps89
      go_wp2
      go_ret
      exact ⟨ret_bool Hb.out.symm, rfl⟩
  · have d1 : decide ((n : Int) < 1) = true := decide_eq_true (by omega)
    have Hb := Lib.hid (bits_short fs m (by rw [Hlen.out]; exact h1))
    go_enter Try.func89, Try.ntmps89
    go_wp2
    go_ret
    exact ⟨ret_bool Hb.out.symm, rfl⟩
end Go.Proofs.Ytolmhnekfokpdac
