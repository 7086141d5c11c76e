/- Contracts: stakes and fractions, in both texts. -/
import Derived.Test.YtfihnnhgegdjkaaDc
import Derived.Lib.MinMax
set_option linter.unusedVariables false
namespace Go.Proofs.Ytfihnnhgegdjkaa
open Go.RowKit

theorem gcd_step (a b : Nat) : Nat.gcd b (a % b) = Nat.gcd a b := by rw [Nat.gcd_comm b, ← Nat.gcd_rec, Nat.gcd_comm]
theorem gcd_impl (a b : Nat) (w : World) (ha : a ≤ 9007199254740992) (hb : b ≤ 9007199254740992) :
    Calls Try.prog 43 #[.int .i64 (a : Int), .int .i64 (b : Int)] w fun e w' => e = .returned (.int .i64 ((Nat.gcd a b : Nat) : Int)) ∧ Drawn w w' := by
  have Hst := Lib.hid gcd_step
  generalize hG : Nat.gcd a b = G
  have HG := Lib.hid hG
  clear hG
  go_enter Try.func43, Try.ntmps43
  go_wp2
  go_loopw [0, 1] (fun x y wr => ∃ c d : Nat, x = .int .i64 (c : Int) ∧ y = .int .i64 (d : Int) ∧ c ≤ 9007199254740992 ∧ d ≤ 9007199254740992 ∧ Hid (Nat.gcd c d = G) ∧ Drawn w wr) (fun _ y _ => (intOf y).toNat)
  case atStart => exact ⟨a, b, rfl, rfl, ha, hb, HG, Drawn.refl _⟩
  case round =>
    obtain ⟨c, d, rfl, rfl, hc, hd, hg, hw⟩ := hrel
    by_cases h0 : d = 0
    · subst h0
      go_wp2
      go_ret
      exact ⟨ret_int (by rw [← hg.out, Nat.gcd_zero_right]), hw⟩
    · have dne : ((d : Int) = 0) = False := eq_false (by omega)
      have hm : c % d < d := Nat.mod_lt _ (by omega)
      have hcm : (c : Int) % (d : Int) = ((c % d : Nat) : Int) := rfl
      have Hn := Lib.hid (show Nat.gcd d (c % d) = G by rw [Hst.out c d]; exact hg.out)
      have Hcm := Lib.hid hcm
      generalize c % d = m at *
      go_wp2
      go_region
      all_goals
        go_wp2
        go_roundw
        case rel => exact ⟨d, m, rfl, by go_num, by omega, by omega, Hn, hw.more _⟩
        case measure => simp [intOf]; omega
theorem ret2b {v : Value} {a b : Bool} (h : a = b) : Ending.returned (.tuple #[v, .bool a]) = .returned (.tuple #[v, .bool b]) := by rw [h]
theorem ret2i {v : Value} {a b : Int} (h : a = b) : Ending.returned (.tuple #[.int .i64 a, v]) = .returned (.tuple #[.int .i64 b, v]) := by rw [h]

def gcdI (f g : Int) : Int := ((Nat.gcd f.toNat g.toNat : Nat) : Int)
theorem gcdI_bd (f g : Int) (f0 : 1 ≤ f) (f1 : f ≤ 1000000000000000) (g0 : 1 ≤ g) : 1 ≤ gcdI f g ∧ gcdI f g ≤ 1000000000000000 := by
  unfold gcdI
  have h1 := Nat.gcd_pos_of_pos_left g.toNat (show 0 < f.toNat by omega)
  have h2 := Nat.le_of_dvd (show 0 < f.toNat by omega) (Nat.gcd_dvd_left f.toNat g.toNat)
  omega
theorem lowest_any (f wh : Int) (w : World) (f0 : 1 ≤ f) (f1 : f ≤ 1000000000000000) (w0 : 1 ≤ wh) (w1 : wh ≤ 1000000000000000) :
    Calls Try.prog 35 #[.int .i64 f, .int .i64 wh] w fun e w' => e = .returned (.tuple #[.int .i64 (f / gcdI f wh), .int .i64 (wh / gcdI f wh)]) ∧ Drawn w w' := by
  have hb := gcdI_bd f wh f0 f1 w0
  have hc := gcd_impl f.toNat wh.toNat w (by omega) (by omega)
  rw [show ((Nat.gcd f.toNat wh.toNat : Nat) : Int) = gcdI f wh from rfl, Int.toNat_of_nonneg (by omega), Int.toNat_of_nonneg (by omega)] at hc
  have Hc := Lib.hid hc
  clear hc
  obtain ⟨g0, g1⟩ := hb
  generalize gcdI f wh = g at *
  go_enter Try.func35, Try.ntmps35
  go_wp2_with fail
  refine Hc.out.mono ?_
  rintro e w2 ⟨rfl, hd⟩
  have Hd := Lib.hid hd
  clear hd
  go_wp2_with fail
  go_region
  all_goals
    go_wp2
    go_ret2
    exact ⟨rfl, Hd.out.more _⟩

abbrev okP (a b : Int) : Prop := (0 ≤ a ∧ a ≤ 1000000) ∧ 1 ≤ b ∧ b ≤ 1000000
def ok_CallShare (a b : Int) : Bool := decide (okP a b)
def res_CallShare (a b : Int) : Int := if okP a b then b / gcdI b (a + b) else 0
def res2_CallShare (a b : Int) : Int := if okP a b then (a + b) / gcdI b (a + b) else 0
def ok_BluffShare (a b : Int) : Bool := decide (okP a b)
def res_BluffShare (a b : Int) : Int := if okP a b then b / gcdI b (a + 2 * b) else 0
def res2_BluffShare (a b : Int) : Int := if okP a b then (a + 2 * b) / gcdI b (a + 2 * b) else 0
