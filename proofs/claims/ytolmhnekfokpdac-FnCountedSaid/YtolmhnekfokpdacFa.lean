/- Contracts: how far riffles are from even, in both texts. -/
import Derived.Test.YtolmhnekfokpdacEf
import Derived.Test.YtolmhnekfokpdacEh
import Derived.Lib.MinMax
set_option linter.unusedVariables false
namespace Go.Proofs.Ytolmhnekfokpdac
open Go.RowKit

theorem max_any (a b : Int) (w : World) :
    Calls Try.prog 144 #[.int .i64 a, .int .i64 b] w fun e w' => e = .returned (.int .i64 (max a b)) ∧ w = w' := by
  by_cases h : b < a
  · rw [Int.max_def, if_neg (by omega)]
    go_enter Try.func144, Try.ntmps144
    go_wp2
    go_ret
    exact ⟨rfl, rfl⟩
  · rw [Int.max_def, if_pos (by omega)]
    go_enter Try.func144, Try.ntmps144
    go_wp2
    go_ret
    exact ⟨rfl, rfl⟩
theorem gcd_step (a b : Nat) : Nat.gcd b (a % b) = Nat.gcd a b := by rw [Nat.gcd_comm b, ← Nat.gcd_rec, Nat.gcd_comm]
theorem gcd_impl (a b : Nat) (w : World) (ha : a ≤ 9007199254740992) (hb : b ≤ 9007199254740992) :
    Calls Try.prog 84 #[.int .i64 (a : Int), .int .i64 (b : Int)] w fun e w' => e = .returned (.int .i64 ((Nat.gcd a b : Nat) : Int)) ∧ Drawn w w' := by
  have Hst := Lib.hid gcd_step
  generalize hG : Nat.gcd a b = G
  have HG := Lib.hid hG
  clear hG
  go_enter Try.func84, Try.ntmps84
  go_wp2
  go_loopw [0, 1] (fun x y wr => ∃ c d : Nat, x = .int .i64 (c : Int) ∧ y = .int .i64 (d : Int) ∧ c ≤ 9007199254740992 ∧ d ≤ 9007199254740992 ∧ Hid (Nat.gcd c d = G) ∧ Drawn w wr) (fun _ y _ => (intOf y).toNat)
  case atStart => exact ⟨a, b, rfl, rfl, ha, hb, HG, Drawn.refl _⟩
  case round =>
    obtain ⟨c, d, rfl, rfl, hc, hd, hg, hw⟩ := hrel
    by_cases h0 : d = 0
    · subst h0
      go_wp2
      go_ret
      exact ⟨ret_int (by rw [← hg.out, Nat.gcd_zero_right]), hw⟩
    · have dne : ((d : Int) = 0) = False := eq_false (by omega)
      have hm : c % d < d := Nat.mod_lt _ (by omega)
      have hcm : (c : Int) % (d : Int) = ((c % d : Nat) : Int) := rfl
      have Hn := Lib.hid (show Nat.gcd d (c % d) = G by rw [Hst.out c d]; exact hg.out)
      have Hcm := Lib.hid hcm
      generalize c % d = m at *
      go_wp2
      go_region
      all_goals
        go_wp2
        go_roundw
        case rel => exact ⟨d, m, rfl, by go_num, by omega, by omega, Hn, hw.more _⟩
        case measure => simp [intOf]; omega
end Go.Proofs.Ytolmhnekfokpdac
