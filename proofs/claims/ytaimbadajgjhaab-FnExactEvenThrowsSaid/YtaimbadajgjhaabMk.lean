/- Contracts: common factors, fractions, powers of chapter 5's model. -/
import Derived.Test.YtaimbadajgjhaabQa
set_option linter.unusedVariables false
namespace Go.Proofs.Ytaimbadajgjhaab
open Go.RowKit

theorem gcd5_spec (a b : Nat) (w : World) (ha : (a : Int) ≤ 9223372036854775807) (hb : (b : Int) ≤ 9223372036854775807) :
    Calls Try.prog 85 #[.int .i64 (a : Int), .int .i64 (b : Int)] w fun e w' => e = .returned (.int .i64 ((Nat.gcd a b : Nat) : Int)) ∧ Drawn w w' := by
  have Hst := Lib.hid gcd_step
  generalize hG : Nat.gcd a b = G
  have HG := Lib.hid hG
  clear hG
  go_enter Try.func85, Try.ntmps85
  go_wp2
  go_loopw [0, 1] (fun x y wr => ∃ c d : Nat, x = .int .i64 (c : Int) ∧ y = .int .i64 (d : Int) ∧ (c : Int) ≤ 9223372036854775807 ∧ (d : Int) ≤ 9223372036854775807 ∧ Hid (Nat.gcd c d = G) ∧ Drawn w wr) (fun _ y _ => (intOf y).toNat)
  case atStart => exact ⟨a, b, rfl, rfl, ha, hb, HG, Drawn.refl _⟩
  case round =>
    obtain ⟨c, d, rfl, rfl, hc, hd, hg, hw⟩ := hrel
    by_cases h0 : d = 0
    · subst h0
      go_wp2
      go_ret
      exact ⟨ret_int (by rw [← hg.out, Nat.gcd_zero_right]), hw⟩
    · have dne : ((d : Int) = 0) = False := eq_false (by omega)
      have hm : c % d < d := Nat.mod_lt _ (by omega)
      have hcm : (c : Int) % (d : Int) = ((c % d : Nat) : Int) := rfl
      have Hn := Lib.hid (show Nat.gcd d (c % d) = G by rw [Hst.out c d]; exact hg.out)
      have Hcm := Lib.hid hcm
      generalize c % d = m at *
      go_wp2
      go_roundw
      case rel => exact ⟨d, m, rfl, by go_num, by omega, by omega, Hn, hw⟩
      case measure => simp [intOf]; omega


