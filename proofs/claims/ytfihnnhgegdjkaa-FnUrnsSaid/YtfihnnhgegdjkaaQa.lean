/- Contracts: bounds, fractions without a common factor, products by a function, powers, in both texts. -/
import Derived.Test.YtfihnnhgegdjkaaDk
import Derived.Test.YtfihnnhgegdjkaaDb
import Derived.Lib.MinMax
set_option linter.unusedVariables false
namespace Go.Proofs.Ytfihnnhgegdjkaa
open Go.RowKit

theorem within_yes (n lo hi : Int) (w : World) (h1 : lo ≤ n) (h2 : n ≤ hi) : Calls Try.prog 23 #[.int .i64 n, .int .i64 lo, .int .i64 hi] w fun e w' => e = .returned (.bool true) ∧ w = w' := by
  go_enter Try.func23, Try.ntmps23
  go_wp2
  go_ret
  exact ⟨rfl, rfl⟩
theorem within_no (n lo hi : Int) (w : World) (h : n < lo ∨ hi < n) : Calls Try.prog 23 #[.int .i64 n, .int .i64 lo, .int .i64 hi] w fun e w' => e = .returned (.bool false) ∧ w = w' := by
  by_cases h1 : n < lo
  · clear h
    have d : decide (lo ≤ n) = false := decide_eq_false (by omega)
    go_enter Try.func23, Try.ntmps23
    go_wp2
    go_ret
    exact ⟨rfl, rfl⟩
  · have h2 : hi < n := by omega
    have h1' : lo ≤ n := by omega
    clear h
    have d : decide (n ≤ hi) = false := decide_eq_false (by omega)
    go_enter Try.func23, Try.ntmps23
    go_wp2
    go_ret
    exact ⟨rfl, rfl⟩

theorem gcd_step (a b : Nat) : Nat.gcd b (a % b) = Nat.gcd a b := by rw [Nat.gcd_comm b, ← Nat.gcd_rec, Nat.gcd_comm]
theorem gcdQ_impl (a b : Nat) (w : World) (ha : (a : Int) ≤ 9223372036854775807) (hb : (b : Int) ≤ 9223372036854775807) :
    Calls Try.prog 43 #[.int .i64 (a : Int), .int .i64 (b : Int)] w fun e w' => e = .returned (.int .i64 ((Nat.gcd a b : Nat) : Int)) ∧ Drawn w w' := by
  have Hst := Lib.hid gcd_step
  generalize hG : Nat.gcd a b = G
  have HG := Lib.hid hG
  clear hG
  go_enter Try.func43, Try.ntmps43
  go_wp2
  go_loopw [0, 1] (fun x y wr => ∃ c d : Nat, x = .int .i64 (c : Int) ∧ y = .int .i64 (d : Int) ∧ (c : Int) ≤ 9223372036854775807 ∧ (d : Int) ≤ 9223372036854775807 ∧ Hid (Nat.gcd c d = G) ∧ Drawn w wr) (fun _ y _ => (intOf y).toNat)
  case atStart => exact ⟨a, b, rfl, rfl, ha, hb, HG, Drawn.refl _⟩
  case round =>
    obtain ⟨c, d, rfl, rfl, hc, hd, hg, hw⟩ := hrel
    by_cases h0 : d = 0
    · subst h0
      go_wp2
      go_ret
      exact ⟨ret_int (by rw [← hg.out, Nat.gcd_zero_right]), hw⟩
    · have dne : ((d : Int) = 0) = False := eq_false (by omega)
      have hm : c % d < d := Nat.mod_lt _ (by omega)
      have hcm : (c : Int) % (d : Int) = ((c % d : Nat) : Int) := rfl
      have Hn := Lib.hid (show Nat.gcd d (c % d) = G by rw [Hst.out c d]; exact hg.out)
      have Hcm := Lib.hid hcm
      generalize c % d = m at *
      go_wp2
      go_region
      all_goals
        go_wp2
        go_roundw
        case rel => exact ⟨d, m, rfl, by go_num, by omega, by omega, Hn, hw.more _⟩
        case measure => simp [intOf]; omega

def gcdI (f g : Int) : Int := ((Nat.gcd f.toNat g.toNat : Nat) : Int)
theorem gcdI_bd (f g : Int) (g0 : 1 ≤ g) : 1 ≤ gcdI f g ∧ gcdI f g ≤ g := by
  unfold gcdI
  have h1 := Nat.gcd_pos_of_pos_right f.toNat (show 0 < g.toNat by omega)
  have h2 := Nat.le_of_dvd (show 0 < g.toNat by omega) (Nat.gcd_dvd_right f.toNat g.toNat)
  omega
theorem lowQ_any (f wh : Int) (w : World) (f0 : 0 ≤ f) (f1 : f ≤ 9223372036854775807) (w0 : 1 ≤ wh) (w1 : wh ≤ 9223372036854775807) :
    Calls Try.prog 35 #[.int .i64 f, .int .i64 wh] w fun e w' => e = .returned (.tuple #[.int .i64 (f / gcdI f wh), .int .i64 (wh / gcdI f wh)]) ∧ Drawn w w' := by
  have hb := gcdI_bd f wh w0
  have hc := gcdQ_impl f.toNat wh.toNat w (by omega) (by omega)
  rw [show ((Nat.gcd f.toNat wh.toNat : Nat) : Int) = gcdI f wh from rfl, Int.toNat_of_nonneg (by omega), Int.toNat_of_nonneg (by omega)] at hc
  have Hc := Lib.hid hc
  clear hc
  obtain ⟨g0, g1⟩ := hb
  generalize gcdI f wh = g at *
  go_enter Try.func35, Try.ntmps35
  go_wp2_with fail
  refine Hc.out.mono ?_
  rintro e w2 ⟨rfl, hd⟩
  have Hd := Lib.hid hd
  clear hd
  go_wp2_with fail
  go_region
  all_goals
    go_wp2
    go_ret2
    exact ⟨rfl, Hd.out.more _⟩
theorem fracQ_any (f wh : Int) (w : World) (f0 : 0 ≤ f) (f1 : f ≤ 9223372036854775807) (w0 : 1 ≤ wh) (w1 : wh ≤ 9223372036854775807) :
    Calls Try.prog 24 #[.int .i64 f, .int .i64 wh] w fun e w' => e = .returned (.tuple #[.int .i64 (f / gcdI f wh), .int .i64 (wh / gcdI f wh), .bool true]) ∧ Drawn w w' := by
  have H := Lib.hid (lowQ_any f wh w f0 f1 w0 w1)
  go_enter Try.func24, Try.ntmps24
  go_wp2_with fail
  refine H.out.mono ?_
  rintro e w2 ⟨rfl, m, rfl⟩
  go_wp2
  go_ret3
  exact ⟨rfl, _, rfl⟩

def prodR (g : Nat → Int) : Nat → Int
  | 0 => 1
  | k + 1 => prodR g k * g k

set_option maxHeartbeats 1000000 in
theorem prodF_any (n K : Nat) (bound caps : Array Value) (g : Nat → Int) (w : World) (hn : n ≤ 1048576)
    (hbd : ∀ k, k ≤ n → -9223372036854775808 ≤ prodR g k ∧ prodR g k ≤ 9223372036854775807)
    (hent : ∀ args w, (callFunc K args).run Try.prog w = .ok (.enter K args) w)
    (hc : ∀ k w', k < n → Below w.heap.size w w' → Calls Try.prog K (bound ++ #[.int .i64 (k : Int)] ++ caps) w' fun e w'' => e = .returned (.int .i64 (g k)) ∧ Below w'.heap.size w' w'') :
    Calls Try.prog 31 #[.int .i64 (n : Int), .func (.func K) bound caps] w fun e w' => e = .returned (.int .i64 (prodR g n)) ∧ Below w.heap.size w w' := by
  have Hc := Lib.hid hc
  have Hbd := Lib.hid hbd
  clear hc hbd
  go_enter Try.func31, Try.ntmps31
  go_wp2
  go_loopw [5, 8] (fun c i wr => ∃ k : Nat, k ≤ n ∧ i = .int .i64 (k : Int) ∧ c = .int .i64 (prodR g k) ∧ Below w.heap.size w wr) (fun _ i _ => n - (intOf i).toNat)
  case atStart => exact ⟨0, Nat.zero_le _, rfl, rfl, Below.refl _ _⟩
  case round =>
    obtain ⟨k, hk, rfl, rfl, hd⟩ := hrel
    have Hd := Lib.hid hd
    have hsz := hd.size
    clear hd
    by_cases hlt : k < n
    · have Hcall := Lib.hid (Hc.out k wr hlt Hd.out)
      have hm := Hbd.out (k + 1) (by omega)
      have hm0 : prodR g (k + 1) = prodR g k * g k := rfl
      rw [hm0] at hm
      obtain ⟨m0, m1⟩ := hm
      have Hm0 := Lib.hid hm0
      clear hm0
      generalize prodR g k = P at *
      generalize g k = G at *
      go_wp2_with (refine (Hcall.out).mono ?_; rintro e w' ⟨rfl, hb2⟩; have Hb2 := Lib.hid hb2; clear hb2)
      go_roundw
      case rel => exact ⟨k + 1, by omega, by go_num, by rw [Hm0.out], Hd.out.trans (Hb2.out.mono hsz)⟩
      case measure => simp [intOf]; omega
    · obtain rfl : k = n := by omega
      go_wp2
      go_ret
      exact ⟨rfl, Hd.out⟩
def pwI (b : Int) : Nat → Int
  | 0 => 1
  | k + 1 => pwI b k * b
theorem pwI_prod (b : Int) (k : Nat) : prodR (fun _ => b) k = pwI b k := by
  induction k with
  | zero => rfl
  | succ k ih => rw [prodR, pwI, ih]
