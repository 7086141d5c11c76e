/- Contracts: common factors, fractions, powers of chapter 5's model. -/
import Derived.Test.YtodmaomngpnboaaQa
set_option linter.unusedVariables false
namespace Go.Proofs.Ytodmaomngpnboaa
open Go.RowKit

theorem gcd5_spec (a b : Nat) (w : World) (ha : (a : Int) ≤ 9223372036854775807) (hb : (b : Int) ≤ 9223372036854775807) :
    Calls Try.prog 135 #[.int .i64 (a : Int), .int .i64 (b : Int)] w fun e w' => e = .returned (.int .i64 ((Nat.gcd a b : Nat) : Int)) ∧ Drawn w w' := by
  have Hst := Lib.hid gcd_step
  generalize hG : Nat.gcd a b = G
  have HG := Lib.hid hG
  clear hG
  go_enter Try.func135, Try.ntmps135
  go_wp2
  go_loopw [0, 1] (fun x y wr => ∃ c d : Nat, x = .int .i64 (c : Int) ∧ y = .int .i64 (d : Int) ∧ (c : Int) ≤ 9223372036854775807 ∧ (d : Int) ≤ 9223372036854775807 ∧ Hid (Nat.gcd c d = G) ∧ Drawn w wr) (fun _ y _ => (intOf y).toNat)
  case atStart => exact ⟨a, b, rfl, rfl, ha, hb, HG, Drawn.refl _⟩
  case round =>
    obtain ⟨c, d, rfl, rfl, hc, hd, hg, hw⟩ := hrel
    by_cases h0 : d = 0
    · subst h0
      go_wp2
      go_ret
      exact ⟨ret_int (by rw [← hg.out, Nat.gcd_zero_right]), hw⟩
    · have dne : ((d : Int) = 0) = False := eq_false (by omega)
      have hm : c % d < d := Nat.mod_lt _ (by omega)
      have hcm : (c : Int) % (d : Int) = ((c % d : Nat) : Int) := rfl
      have Hn := Lib.hid (show Nat.gcd d (c % d) = G by rw [Hst.out c d]; exact hg.out)
      have Hcm := Lib.hid hcm
      generalize c % d = m at *
      go_wp2
      go_roundw
      case rel => exact ⟨d, m, rfl, by go_num, by omega, by omega, Hn, hw⟩
      case measure => simp [intOf]; omega

theorem frac5_any (f wh : Int) (w : World) (f0 : 0 ≤ f) (f1 : f ≤ 9223372036854775807) (w0 : 1 ≤ wh) (w1 : wh ≤ 9223372036854775807) :
    Calls Try.prog 80 #[.int .i64 f, .int .i64 wh] w fun e w' => e = .returned (.tuple #[.int .i64 (f / gcdI f wh), .int .i64 (wh / gcdI f wh)]) ∧ Drawn w w' := by
  have hb := gcdI_bd f wh w0
  have hc := gcd5_spec f.toNat wh.toNat w (by omega) (by omega)
  rw [show ((Nat.gcd f.toNat wh.toNat : Nat) : Int) = gcdI f wh from rfl, Int.toNat_of_nonneg (by omega), Int.toNat_of_nonneg (by omega)] at hc
  have Hc := Lib.hid hc
  clear hc
  obtain ⟨g0, g1⟩ := hb
  generalize gcdI f wh = g at *
  go_enter Try.func80, Try.ntmps80
  go_wp2_with fail
  refine Hc.out.mono ?_
  rintro e w2 ⟨rfl, hd⟩
  have Hd := Lib.hid hd
  clear hd
  go_wp2_with fail
  go_region
  all_goals
    go_wp2
    go_ret2
    exact ⟨rfl, Hd.out.more _⟩

theorem power5_any (b : Int) (n : Nat) (w : World) (hn : n ≤ 1048576) (hbd : ∀ k, k ≤ n → -9223372036854775808 ≤ pwI b k ∧ pwI b k ≤ 9223372036854775807) :
    Calls Try.prog 82 #[.int .i64 b, .int .i64 (n : Int)] w fun e w' => e = .returned (.int .i64 (pwI b n)) ∧ w = w' := by
  have Hbd := Lib.hid hbd
  clear hbd
  go_enter Try.func82, Try.ntmps82
  go_wp2
  go_loop [1, 5] (fun i c => ∃ k : Nat, k ≤ n ∧ i = .int .i64 ((n : Int) - k) ∧ c = .int .i64 (pwI b k)) (fun i _ => (intOf i).toNat)
  case atStart => exact ⟨0, Nat.zero_le _, by go_num, rfl⟩
  case round =>
    obtain ⟨k, hk, rfl, rfl⟩ := hrel
    by_cases hlt : k < n
    · have hm := Hbd.out (k + 1) (by omega)
      have hm0 : pwI b (k + 1) = pwI b k * b := rfl
      rw [hm0] at hm
      obtain ⟨m0, m1⟩ := hm
      have Hm0 := Lib.hid hm0
      clear hm0
      generalize pwI b k = P at *
      go_wp2
      go_round
      case rel => exact ⟨k + 1, by omega, by go_num, by rw [Hm0.out]⟩
      case measure => simp [intOf]; omega
    · obtain rfl : k = n := by omega
      go_wp2
      go_ret
      exact ⟨rfl, rfl⟩
end Go.Proofs.Ytodmaomngpnboaa
