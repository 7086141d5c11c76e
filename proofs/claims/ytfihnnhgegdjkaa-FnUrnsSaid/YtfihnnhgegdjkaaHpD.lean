/- The helpers of the law of heaps. -/
import Derived.Test.YtfihnnhgegdjkaaTe
set_option linter.unusedVariables false
namespace Go.Proofs.Ytfihnnhgegdjkaa
open Go.RowKit
attribute [local go_sem] Oper.semAt_some

/-- the number that the byte at k chooses -/
def r8V (bs : List Int) (k n : Nat) : Nat := if n ≤ 1 then 0 else if k < bs.length then (bs.getD k 0).toNat % n else 0
theorem r8V_lt (bs : List Int) (k n : Nat) (h : 1 ≤ n) : r8V bs k n < n := by
  unfold r8V
  split
  · omega
  · split
    · exact Nat.mod_lt _ (by omega)
    · omega
set_option maxHeartbeats 1000000 in
theorem long8_any (fs gs : List Int) (v v2 : Value) (w : World) (hn : fs.length ≤ maxLen) (hn2 : gs.length ≤ maxLen) (h : Sl (Value.int .u8) 0 w v fs) (h2 : Sl (Value.int .u8) 0 w v2 gs) :
    Calls Try.prog 5 #[v, v2] w fun e w' => e = .returned (.bool (decide (48 < fs.length) || decide (48 < gs.length))) ∧ w = w' := by
  obtain ⟨p, cap, rfl, -⟩ := h
  obtain ⟨p2, cap2, rfl, -⟩ := h2
  unfold maxLen at hn hn2
  generalize fs.length = n at *
  generalize gs.length = m at *
  by_cases h1 : 48 < n
  · have d1 : decide ((48 : Int) < (n : Int)) = true := decide_eq_true (by omega)
    go_enter Try.func5, Try.ntmps5
    go_wp2
    go_ret
    exact ⟨ret_bool (by simp [h1]), rfl⟩
  · have d1 : decide ((48 : Int) < (n : Int)) = false := decide_eq_false (by omega)
    by_cases h2 : 48 < m
    · have d2 : decide ((48 : Int) < (m : Int)) = true := decide_eq_true (by omega)
      go_enter Try.func5, Try.ntmps5
      go_wp2
      go_ret
      exact ⟨ret_bool (by simp [h1, h2]), rfl⟩
    · have d2 : decide ((48 : Int) < (m : Int)) = false := decide_eq_false (by omega)
      go_enter Try.func5, Try.ntmps5
      go_wp2
      go_ret
      exact ⟨ret_bool (by simp [h1, h2]), rfl⟩

set_option maxHeartbeats 1000000 in
theorem at8_any (gs : List Int) (v : Value) (k n : Nat) (w : World) (hn : 1 ≤ n) (hn2 : n ≤ 1000000) (hk : k ≤ 1000) (hl : gs.length ≤ maxLen) (hb : BsB gs) (h : Sl (Value.int .u8) 0 w v gs) :
    Calls Try.prog 6 #[v, .int .i64 (k : Int), .int .i64 (n : Int)] w fun e w' => e = .returned (.int .i64 ((r8V gs k n : Nat) : Int)) ∧ w = w' := by
  obtain ⟨p, cap, rfl, hc⟩ := h
  unfold maxLen at hl
  unfold r8V
  by_cases h1 : n ≤ 1
  · rw [if_pos h1]
    clear hc hb
    generalize gs.length = m at *
    have d1 : decide ((n : Int) ≤ 1) = true := decide_eq_true (by omega)
    go_enter Try.func6, Try.ntmps6
    go_wp2
    go_ret
    exact ⟨rfl, rfl⟩
  · rw [if_neg h1]
    have d1 : decide ((n : Int) ≤ 1) = false := decide_eq_false (by omega)
    have dz : ((n : Int) = 0) = False := eq_false (by omega)
    by_cases h2 : k < gs.length
    · rw [if_pos h2]
      obtain ⟨hcap, b, off, rfl, hb', hcs⟩ := hc (by omega)
      have c1 := hcs k (by omega)
      have hx := hb.at k (by omega)
      clear hc hcs hb
      generalize gs.getD k 0 = x at *
      obtain ⟨y, rfl⟩ : ∃ y : Nat, x = (y : Int) := ⟨x.toNat, by omega⟩
      generalize gs.length = m at *
      have d2 : decide (k < m) = true := decide_eq_true (by omega)
      go_enter Try.func6, Try.ntmps6
      go_wp2
      go_ret
      exact ⟨by simp, rfl⟩
    · rw [if_neg h2]
      clear hc hb
      generalize gs.length = m at *
      have d2 : decide (k < m) = false := decide_eq_false (by omega)
      go_enter Try.func6, Try.ntmps6
      go_wp2
      go_ret
      exact ⟨by simp, rfl⟩


end Go.Proofs.Ytfihnnhgegdjkaa
