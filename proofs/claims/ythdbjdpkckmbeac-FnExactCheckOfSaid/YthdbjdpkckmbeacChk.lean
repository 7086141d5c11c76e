/- Contracts: the check number of a text, in both texts. -/
import Derived.Test.YthdbjdpkckmbeacNum
set_option linter.unusedVariables false
namespace Go.Proofs.Ythdbjdpkckmbeac
open Go.RowKit Fl

def chk (c : Int) (l : List UInt8) : Int := l.foldl (fun c b => (983 * c + (b.toNat : Int) + 239) % 65003) c
theorem chk_snoc (c : Int) (l : List UInt8) (b : UInt8) : chk c (l ++ [b]) = (983 * chk c l + (b.toNat : Int) + 239) % 65003 := by unfold chk; rw [List.foldl_append]; rfl
theorem chk_bd (c : Int) (h0 : 0 ≤ c) (h1 : c < 65003) (l : List UInt8) : 0 ≤ chk c l ∧ chk c l < 65003 := by
  induction l generalizing c with
  | nil => exact ⟨h0, h1⟩
  | cons b l ih => exact ih ((983 * c + (b.toNat : Int) + 239) % 65003) (by omega) (by omega)
theorem take_snoc (s : ByteArray) (k : Nat) (h : k < s.size) : s.data.toList.take (k + 1) = s.data.toList.take k ++ [s[k]] := by
  rw [List.take_succ_eq_append_getElem (by simpa using h)]; rfl

set_option maxHeartbeats 400000 in
theorem check_spec (c : Int) (s : ByteArray) (hs : s.size ≤ maxLen) (h0 : 0 ≤ c) (h1 : c < 65003) (w : World) :
    Calls Try.prog 43 #[.int .i64 c, .string s] w fun e w' => e = .returned (.int .i64 (chk c s.data.toList)) ∧ w' = w := by
  unfold maxLen at hs
  go_enter Try.func43, Try.ntmps43
  go_wp2
  go_loop [0, 5] (fun n i => ∃ k : Nat, k ≤ s.size ∧ i = .int .i64 k ∧ n = .int .i64 (chk c (s.data.toList.take k))) (fun _ i => s.size - (intOf i).toNat)
  case atStart => exact ⟨0, Nat.zero_le _, rfl, rfl⟩
  case round =>
    obtain ⟨k, hk, rfl, rfl⟩ := hrel
    obtain ⟨b0, b1⟩ := chk_bd c h0 h1 (s.data.toList.take k)
    by_cases hlt : k < s.size
    · have HS : Hid (chk c (s.data.toList.take (k + 1)) = (983 * chk c (s.data.toList.take k) + (s[k].toNat : Int) + 239) % 65003) := by rw [take_snoc s k hlt]; exact chk_snoc _ _ _
      generalize chk c (s.data.toList.take k) = v at *
      have hbyte : (s[k].toNat : Int) < 256 := by have := s[k].toNat_lt; omega
      go_wp2
      go_round
      case rel => exact ⟨k + 1, by omega, by go_num, by rw [HS.out]⟩
      case measure => simp [intOf]; omega
    · obtain rfl : k = s.size := by omega
      go_wp2
      go_ret
      exact ⟨ret_int (by rw [List.take_of_length_le (by simp)]), rfl⟩

set_option maxHeartbeats 400000 in
theorem check_yes (c : Int) (s : ByteArray) (hs : s.size ≤ maxLen) (h0 : 0 ≤ c) (h1 : c < 65003) (w : World) :
    Calls Try.prog 19 #[.int .i64 c, .string s] w fun e w' => e = .returned (.tuple #[.int .i64 (chk c s.data.toList), .bool true]) ∧ w' = w := by
  unfold maxLen at hs
  have d1 : decide (c < 0) = false := decide_eq_false (by omega)
  have d2 : decide (65003 ≤ c) = false := decide_eq_false (by omega)
  go_enter Try.func19, Try.ntmps19
  go_wp2
  go_loop [6, 17] (fun n i => ∃ k : Nat, k ≤ s.size ∧ i = .int .i64 k ∧ n = .int .i64 (chk c (s.data.toList.take k))) (fun _ i => s.size - (intOf i).toNat)
  case atStart => exact ⟨0, Nat.zero_le _, rfl, rfl⟩
  case round =>
    obtain ⟨k, hk, rfl, rfl⟩ := hrel
    obtain ⟨b0, b1⟩ := chk_bd c h0 h1 (s.data.toList.take k)
    by_cases hlt : k < s.size
    · have HS : Hid (chk c (s.data.toList.take (k + 1)) = (983 * chk c (s.data.toList.take k) + (s[k].toNat : Int) + 239) % 65003) := by rw [take_snoc s k hlt]; exact chk_snoc _ _ _
      generalize chk c (s.data.toList.take k) = v at *
      have hbyte : (s[k].toNat : Int) < 256 := by have := s[k].toNat_lt; omega
      go_wp2
      go_round
      case rel => exact ⟨k + 1, by omega, by go_num, by rw [HS.out]⟩
      case measure => simp [intOf]; omega
    · obtain rfl : k = s.size := by omega
      go_wp2
      go_ret2
      refine ⟨?_, rfl⟩
      rw [List.take_of_length_le (by simp)]
      rfl
theorem check_no (c : Int) (s : ByteArray) (hs : s.size ≤ maxLen) (h : c < 0 ∨ 65003 ≤ c) (w : World) :
    Calls Try.prog 19 #[.int .i64 c, .string s] w fun e w' => e = .returned (.tuple #[.int .i64 0, .bool false]) ∧ w' = w := by
  unfold maxLen at hs
  have d1 : (decide (c < 0) || decide (65003 ≤ c)) = true := by simpa using h
  rcases h with h | h
  · have d2 : decide (65003 ≤ c) = false := decide_eq_false (by omega)
    go_enter Try.func19, Try.ntmps19
    go_wp2
    go_ret2
    exact ⟨rfl, rfl⟩
  · have d2 : decide (c < 0) = false := decide_eq_false (by omega)
    go_enter Try.func19, Try.ntmps19
    go_wp2
    go_ret2
    exact ⟨rfl, rfl⟩
end Go.Proofs.Ythdbjdpkckmbeac
