/- Contracts: bounds, fractions without a common factor, products by a function, powers, in both texts. -/
import Derived.Test.YtaimbadajgjhaabDk
import Derived.Test.YtaimbadajgjhaabDb
import Derived.Lib.MinMax
set_option linter.unusedVariables false
namespace Go.Proofs.Ytaimbadajgjhaab
open Go.RowKit

theorem within_yes (n lo hi : Int) (w : World) (h1 : lo ≤ n) (h2 : n ≤ hi) : Calls Try.prog 60 #[.int .i64 n, .int .i64 lo, .int .i64 hi] w fun e w' => e = .returned (.bool true) ∧ w = w' := by
  go_enter Try.func60, Try.ntmps60
  go_wp2
  go_ret
  exact ⟨rfl, rfl⟩
theorem within_no (n lo hi : Int) (w : World) (h : n < lo ∨ hi < n) : Calls Try.prog 60 #[.int .i64 n, .int .i64 lo, .int .i64 hi] w fun e w' => e = .returned (.bool false) ∧ w = w' := by
  by_cases h1 : n < lo
  · clear h
    have d : decide (lo ≤ n) = false := decide_eq_false (by omega)
    go_enter Try.func60, Try.ntmps60
    go_wp2
    go_ret
    exact ⟨rfl, rfl⟩
  · have h2 : hi < n := by omega
    have h1' : lo ≤ n := by omega
    clear h
    have d : decide (n ≤ hi) = false := decide_eq_false (by omega)
    go_enter Try.func60, Try.ntmps60
    go_wp2
    go_ret
    exact ⟨rfl, rfl⟩

theorem gcd_step (a b : Nat) : Nat.gcd b (a % b) = Nat.gcd a b := by rw [Nat.gcd_comm b, ← Nat.gcd_rec, Nat.gcd_comm]
theorem gcdQ_impl (a b : Nat) (w : World) (ha : (a : Int) ≤ 9223372036854775807) (hb : (b : Int) ≤ 9223372036854775807) :
    Calls Try.prog 88 #[.int .i64 (a : Int), .int .i64 (b : Int)] w fun e w' => e = .returned (.int .i64 ((Nat.gcd a b : Nat) : Int)) ∧ Drawn w w' := by
  have Hst := Lib.hid gcd_step
  generalize hG : Nat.gcd a b = G
  have HG := Lib.hid hG
  clear hG
  go_enter Try.func88, Try.ntmps88
  go_wp2
  go_loopw [0, 1] (fun x y wr => ∃ c d : Nat, x = .int .i64 (c : Int) ∧ y = .int .i64 (d : Int) ∧ (c : Int) ≤ 9223372036854775807 ∧ (d : Int) ≤ 9223372036854775807 ∧ Hid (Nat.gcd c d = G) ∧ Drawn w wr) (fun _ y _ => (intOf y).toNat)
  case atStart => exact ⟨a, b, rfl, rfl, ha, hb, HG, Drawn.refl _⟩
  case round =>
    obtain ⟨c, d, rfl, rfl, hc, hd, hg, hw⟩ := hrel
    by_cases h0 : d = 0
    · subst h0
      go_wp2
      go_ret
      exact ⟨ret_int (by rw [← hg.out, Nat.gcd_zero_right]), hw⟩
    · have dne : ((d : Int) = 0) = False := eq_false (by omega)
      have hm : c % d < d := Nat.mod_lt _ (by omega)
      have hcm : (c : Int) % (d : Int) = ((c % d : Nat) : Int) := rfl
      have Hn := Lib.hid (show Nat.gcd d (c % d) = G by rw [Hst.out c d]; exact hg.out)
      have Hcm := Lib.hid hcm
      generalize c % d = m at *
      go_wp2
      go_region
      all_goals
        go_wp2
        go_roundw
        case rel => exact ⟨d, m, rfl, by go_num, by omega, by omega, Hn, hw.more _⟩
        case measure => simp [intOf]; omega

def gcdI (f g : Int) : Int := ((Nat.gcd f.toNat g.toNat : Nat) : Int)
theorem gcdI_bd (f g : Int) (g0 : 1 ≤ g) : 1 ≤ gcdI f g ∧ gcdI f g ≤ g := by
  unfold gcdI
  have h1 := Nat.gcd_pos_of_pos_right f.toNat (show 0 < g.toNat by omega)
  have h2 := Nat.le_of_dvd (show 0 < g.toNat by omega) (Nat.gcd_dvd_right f.toNat g.toNat)
  omega

def prodR (g : Nat → Int) : Nat → Int
  | 0 => 1
  | k + 1 => prodR g k * g k

def pwI (b : Int) : Nat → Int
  | 0 => 1
  | k + 1 => pwI b k * b
theorem pwI_prod (b : Int) (k : Nat) : prodR (fun _ => b) k = pwI b k := by
  induction k with
  | zero => rfl
  | succ k ih => rw [prodR, pwI, ih]
