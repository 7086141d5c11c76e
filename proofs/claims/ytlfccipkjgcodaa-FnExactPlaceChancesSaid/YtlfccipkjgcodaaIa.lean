/- Contracts: stakes and fractions, in both texts. -/
import Derived.Test.YtlfccipkjgcodaaDc
import Derived.Lib.MinMax
set_option linter.unusedVariables false
namespace Go.Proofs.Ytlfccipkjgcodaa
open Go.RowKit

theorem gcd_step (a b : Nat) : Nat.gcd b (a % b) = Nat.gcd a b := by rw [Nat.gcd_comm b, ← Nat.gcd_rec, Nat.gcd_comm]
theorem gcd_impl (a b : Nat) (w : World) (ha : a ≤ 9007199254740992) (hb : b ≤ 9007199254740992) :
    Calls Try.prog 81 #[.int .i64 (a : Int), .int .i64 (b : Int)] w fun e w' => e = .returned (.int .i64 ((Nat.gcd a b : Nat) : Int)) ∧ Drawn w w' := by
  have Hst := Lib.hid gcd_step
  generalize hG : Nat.gcd a b = G
  have HG := Lib.hid hG
  clear hG
  go_enter Try.func81, Try.ntmps81
  go_wp2
  go_loopw [0, 1] (fun x y wr => ∃ c d : Nat, x = .int .i64 (c : Int) ∧ y = .int .i64 (d : Int) ∧ c ≤ 9007199254740992 ∧ d ≤ 9007199254740992 ∧ Hid (Nat.gcd c d = G) ∧ Drawn w wr) (fun _ y _ => (intOf y).toNat)
  case atStart => exact ⟨a, b, rfl, rfl, ha, hb, HG, Drawn.refl _⟩
  case round =>
    obtain ⟨c, d, rfl, rfl, hc, hd, hg, hw⟩ := hrel
    by_cases h0 : d = 0
    · subst h0
      go_wp2
      go_ret
      exact ⟨ret_int (by rw [← hg.out, Nat.gcd_zero_right]), hw⟩
    · have dne : ((d : Int) = 0) = False := eq_false (by omega)
      have hm : c % d < d := Nat.mod_lt _ (by omega)
      have hcm : (c : Int) % (d : Int) = ((c % d : Nat) : Int) := rfl
      have Hn := Lib.hid (show Nat.gcd d (c % d) = G by rw [Hst.out c d]; exact hg.out)
      have Hcm := Lib.hid hcm
      generalize c % d = m at *
      go_wp2
      go_region
      all_goals
        go_wp2
        go_roundw
        case rel => exact ⟨d, m, rfl, by go_num, by omega, by omega, Hn, hw.more _⟩
        case measure => simp [intOf]; omega
theorem ret2b {v : Value} {a b : Bool} (h : a = b) : Ending.returned (.tuple #[v, .bool a]) = .returned (.tuple #[v, .bool b]) := by rw [h]
theorem ret2i {v : Value} {a b : Int} (h : a = b) : Ending.returned (.tuple #[.int .i64 a, v]) = .returned (.tuple #[.int .i64 b, v]) := by rw [h]
theorem stake_yes (n : Int) (w : World) (h1 : 0 ≤ n) (h2 : n ≤ 1000000) : Calls Try.prog 52 #[.int .i64 n] w fun e w' => e = .returned (.bool true) ∧ w = w' := by
  go_enter Try.func52, Try.ntmps52
  go_wp2
  go_ret
  exact ⟨rfl, rfl⟩
theorem stake_no (n : Int) (w : World) (h : n < 0 ∨ 1000000 < n) : Calls Try.prog 52 #[.int .i64 n] w fun e w' => e = .returned (.bool false) ∧ w = w' := by
  by_cases h1 : n < 0
  · clear h
    have d : decide (0 ≤ n) = false := decide_eq_false (by omega)
    go_enter Try.func52, Try.ntmps52
    go_wp2
    go_ret
    exact ⟨rfl, rfl⟩
  · have h2 : 1000000 < n := by omega
    have h1' : 0 ≤ n := by omega
    clear h
    have d : decide (n ≤ 1000000) = false := decide_eq_false (by omega)
    go_enter Try.func52, Try.ntmps52
    go_wp2
    go_ret
    exact ⟨rfl, rfl⟩
theorem bet_yes (n : Int) (w : World) (h1 : 1 ≤ n) (h2 : n ≤ 1000000) : Calls Try.prog 53 #[.int .i64 n] w fun e w' => e = .returned (.bool true) ∧ w = w' := by
  have Hs := Lib.hid (stake_yes n w (by omega) h2)
  have h3 : 0 < n := by omega
  go_enter Try.func53, Try.ntmps53
  go_wp2_with fail
  refine Hs.out.mono ?_
  rintro e w' ⟨rfl, rfl⟩
  go_wp2
  go_ret
  exact ⟨rfl, rfl⟩
theorem bet_no (n : Int) (w : World) (h : n < 1 ∨ 1000000 < n) : Calls Try.prog 53 #[.int .i64 n] w fun e w' => e = .returned (.bool false) ∧ w = w' := by
  by_cases h0 : n = 0
  · subst h0
    have Hs := Lib.hid (stake_yes 0 w (by omega) (by omega))
    clear h
    go_enter Try.func53, Try.ntmps53
    go_wp2_with fail
    refine Hs.out.mono ?_
    rintro e w' ⟨rfl, rfl⟩
    go_wp2
    go_ret
    exact ⟨rfl, rfl⟩
  · have Hs := Lib.hid (stake_no n w (by omega))
    clear h h0
    go_enter Try.func53, Try.ntmps53
    go_wp2_with fail
    refine Hs.out.mono ?_
    rintro e w' ⟨rfl, rfl⟩
    go_wp2
    go_ret
    exact ⟨rfl, rfl⟩
theorem pot_yes (a b : Int) (w : World) (a1 : 0 ≤ a) (a2 : a ≤ 1000000) (b1 : 1 ≤ b) (b2 : b ≤ 1000000) : Calls Try.prog 50 #[.int .i64 a, .int .i64 b] w fun e w' => e = .returned (.bool true) ∧ w = w' := by
  have H1 := Lib.hid (in_yes a 0 1000000 w a1 a2)
  have H2 := Lib.hid (in_yes b 1 1000000 w b1 b2)
  go_enter Try.func50, Try.ntmps50
  go_wp2_with fail
  refine H1.out.mono ?_
  rintro e w' ⟨rfl, rfl⟩
  go_wp2_with fail
  refine H2.out.mono ?_
  rintro e w' ⟨rfl, rfl⟩
  go_wp2
  go_ret
  exact ⟨rfl, rfl⟩
theorem pot_no (a b : Int) (w : World) (h : ¬ ((0 ≤ a ∧ a ≤ 1000000) ∧ 1 ≤ b ∧ b ≤ 1000000)) : Calls Try.prog 50 #[.int .i64 a, .int .i64 b] w fun e w' => e = .returned (.bool false) ∧ w = w' := by
  by_cases g : 0 ≤ a ∧ a ≤ 1000000
  · have H1 := Lib.hid (in_yes a 0 1000000 w g.1 g.2)
    have H2 := Lib.hid (in_no b 1 1000000 w (by
      by_cases h6 : 1 ≤ b ∧ b ≤ 1000000
      · exact absurd ⟨g, h6⟩ h
      · omega))
    clear h g
    go_enter Try.func50, Try.ntmps50
    go_wp2_with fail
    refine H1.out.mono ?_
    rintro e w' ⟨rfl, rfl⟩
    go_wp2_with fail
    refine H2.out.mono ?_
    rintro e w' ⟨rfl, rfl⟩
    go_wp2
    go_ret
    exact ⟨rfl, rfl⟩
  · have H1 := Lib.hid (in_no a 0 1000000 w (by omega))
    clear h g
    go_enter Try.func50, Try.ntmps50
    go_wp2_with fail
    refine H1.out.mono ?_
    rintro e w' ⟨rfl, rfl⟩
    go_wp2
    go_ret
    exact ⟨rfl, rfl⟩

def gcdI (f g : Int) : Int := ((Nat.gcd f.toNat g.toNat : Nat) : Int)
theorem gcdI_bd (f g : Int) (f0 : 1 ≤ f) (f1 : f ≤ 1000000000000000) (g0 : 1 ≤ g) : 1 ≤ gcdI f g ∧ gcdI f g ≤ 1000000000000000 := by
  unfold gcdI
  have h1 := Nat.gcd_pos_of_pos_left g.toNat (show 0 < f.toNat by omega)
  have h2 := Nat.le_of_dvd (show 0 < f.toNat by omega) (Nat.gcd_dvd_left f.toNat g.toNat)
  omega
theorem lowest_any (f wh : Int) (w : World) (f0 : 1 ≤ f) (f1 : f ≤ 1000000000000000) (w0 : 1 ≤ wh) (w1 : wh ≤ 1000000000000000) :
    Calls Try.prog 54 #[.int .i64 f, .int .i64 wh] w fun e w' => e = .returned (.tuple #[.int .i64 (f / gcdI f wh), .int .i64 (wh / gcdI f wh)]) ∧ Drawn w w' := by
  have hb := gcdI_bd f wh f0 f1 w0
  have hc := gcd_impl f.toNat wh.toNat w (by omega) (by omega)
  rw [show ((Nat.gcd f.toNat wh.toNat : Nat) : Int) = gcdI f wh from rfl, Int.toNat_of_nonneg (by omega), Int.toNat_of_nonneg (by omega)] at hc
  have Hc := Lib.hid hc
  clear hc
  obtain ⟨g0, g1⟩ := hb
  generalize gcdI f wh = g at *
  go_enter Try.func54, Try.ntmps54
  go_wp2_with fail
  refine Hc.out.mono ?_
  rintro e w2 ⟨rfl, hd⟩
  have Hd := Lib.hid hd
  clear hd
  go_wp2_with fail
  go_region
  all_goals
    go_wp2
    go_ret2
    exact ⟨rfl, Hd.out.more _⟩
theorem fraction_any (f wh : Int) (w : World) (f0 : 1 ≤ f) (f1 : f ≤ 9007199254740992) (w0 : 1 ≤ wh) (w1 : wh ≤ 9007199254740992) :
    Calls Try.prog 51 #[.int .i64 f, .int .i64 wh] w fun e w' => e = .returned (.tuple #[.int .i64 (f / gcdI f wh), .int .i64 (wh / gcdI f wh)]) ∧ Drawn w w' := by
  have Hst := Lib.hid gcd_step
  obtain ⟨a, rfl⟩ : ∃ n : Nat, f = n := ⟨f.toNat, by omega⟩
  obtain ⟨b, rfl⟩ : ∃ n : Nat, wh = n := ⟨wh.toNat, by omega⟩
  have hg0 : 1 ≤ Nat.gcd a b := Nat.gcd_pos_of_pos_left b (by omega)
  have e : gcdI a b = ((Nat.gcd a b : Nat) : Int) := by unfold gcdI; rw [Int.toNat_natCast, Int.toNat_natCast]
  rw [e]
  clear e
  generalize hG : Nat.gcd a b = G at *
  have HG := Lib.hid hG
  clear hG
  go_enter Try.func51, Try.ntmps51
  go_wp2
  go_loop [6, 7] (fun x y => ∃ c d : Nat, x = .int .i64 (c : Int) ∧ y = .int .i64 (d : Int) ∧ c ≤ 9007199254740992 ∧ d ≤ 9007199254740992 ∧ Hid (Nat.gcd c d = G)) (fun _ y => (intOf y).toNat)
  case atStart => exact ⟨a, b, rfl, rfl, by omega, by omega, HG⟩
  case round =>
    obtain ⟨c, d, rfl, rfl, hc, hd, hg⟩ := hrel
    by_cases h0 : d = 0
    · subst h0
      have hg2 := hg.out
      rw [Nat.gcd_zero_right] at hg2
      subst hg2
      have c0 : (1 : Int) ≤ (c : Int) := by omega
      have q0 : 0 ≤ (a : Int) / (c : Int) := Int.ediv_nonneg (by omega) (by omega)
      have q1 : (a : Int) / (c : Int) ≤ 9007199254740992 := Int.le_trans (Int.ediv_le_self _ (by omega)) (by omega)
      have q2 : 0 ≤ (b : Int) / (c : Int) := Int.ediv_nonneg (by omega) (by omega)
      have q3 : (b : Int) / (c : Int) ≤ 9007199254740992 := Int.le_trans (Int.ediv_le_self _ (by omega)) (by omega)
      go_wp2
      go_region
      all_goals
        go_wp2
        go_ret2
        exact ⟨rfl, (Drawn.refl w).more _⟩
    · have dne : ((d : Int) = 0) = False := eq_false (by omega)
      have hm : c % d < d := Nat.mod_lt _ (by omega)
      have hcm : (c : Int) % (d : Int) = ((c % d : Nat) : Int) := rfl
      have Hn := Lib.hid (show Nat.gcd d (c % d) = G by rw [Hst.out c d]; exact hg.out)
      generalize c % d = m at *
      go_wp2
      go_round
      case rel => exact ⟨d, m, rfl, by go_num, by omega, by omega, Hn⟩
      case measure => simp [intOf]; omega

abbrev okP (a b : Int) : Prop := (0 ≤ a ∧ a ≤ 1000000) ∧ 1 ≤ b ∧ b ≤ 1000000
def ok_CallShare (a b : Int) : Bool := decide (okP a b)
def res_CallShare (a b : Int) : Int := if okP a b then b / gcdI b (a + b) else 0
def res2_CallShare (a b : Int) : Int := if okP a b then (a + b) / gcdI b (a + b) else 0
theorem impl_CallShare (a : Int) (al : -9223372036854775808 ≤ a) (au : a ≤ 9223372036854775807) (b : Int) (bl : -9223372036854775808 ≤ b) (bu : b ≤ 9223372036854775807) (w : World) :
    Calls Try.prog 16 #[.int .i64 a, .int .i64 b] w fun e w' => e = .returned (.tuple #[.int .i64 (res_CallShare a b), .int .i64 (res2_CallShare a b), .bool (ok_CallShare a b)]) ∧ Below w.heap.size w w' := by
  unfold res_CallShare res2_CallShare ok_CallShare
  by_cases h : okP a b
  · rw [if_pos h, if_pos h, decide_eq_true h]
    obtain ⟨⟨a1, a2⟩, b1, b2⟩ := h
    have H1 := Lib.hid (stake_yes a w a1 a2)
    have H2 := Lib.hid (bet_yes b w b1 b2)
    have H3 := Lib.hid (lowest_any b (a + b) w (by omega) (by omega) (by omega) (by omega))
    go_enter Try.func16, Try.ntmps16
    go_wp2_with fail
    refine H1.out.mono ?_
    rintro e w' ⟨rfl, rfl⟩
    go_wp2_with fail
    refine H2.out.mono ?_
    rintro e w' ⟨rfl, rfl⟩
    go_wp2_with fail
    refine H3.out.mono ?_
    rintro e w2 ⟨rfl, hd⟩
    have Hd := Lib.hid hd
    clear hd
    go_wp2
    go_ret3
    exact ⟨rfl, Hd.out.below _⟩
  · rw [if_neg h, if_neg h, decide_eq_false h]
    by_cases g : 0 ≤ a ∧ a ≤ 1000000
    · have H1 := Lib.hid (stake_yes a w g.1 g.2)
      have H2 := Lib.hid (bet_no b w (by
        by_cases h6 : 1 ≤ b ∧ b ≤ 1000000
        · exact absurd ⟨g, h6⟩ h
        · omega))
      clear h g
      go_enter Try.func16, Try.ntmps16
      go_wp2_with fail
      refine H1.out.mono ?_
      rintro e w' ⟨rfl, rfl⟩
      go_wp2_with fail
      refine H2.out.mono ?_
      rintro e w' ⟨rfl, rfl⟩
      go_wp2
      go_ret3
      exact ⟨rfl, Below.refl _ _⟩
    · have H1 := Lib.hid (stake_no a w (by omega))
      clear h g
      go_enter Try.func16, Try.ntmps16
      go_wp2_with fail
      refine H1.out.mono ?_
      rintro e w' ⟨rfl, rfl⟩
      go_wp2
      go_ret3
      exact ⟨rfl, Below.refl _ _⟩
theorem spec_CallShare (a : Int) (al : -9223372036854775808 ≤ a) (au : a ≤ 9223372036854775807) (b : Int) (bl : -9223372036854775808 ≤ b) (bu : b ≤ 9223372036854775807) (w : World) :
    Calls Try.prog 15 #[.int .i64 a, .int .i64 b] w fun e w' => e = .returned (.tuple #[.int .i64 (res_CallShare a b), .int .i64 (res2_CallShare a b), .bool (ok_CallShare a b)]) ∧ Below w.heap.size w w' := by
  unfold res_CallShare res2_CallShare ok_CallShare
  by_cases h : okP a b
  · rw [if_pos h, if_pos h, decide_eq_true h]
    obtain ⟨⟨a1, a2⟩, b1, b2⟩ := h
    have H1 := Lib.hid (pot_yes a b w a1 a2 b1 b2)
    have H3 := Lib.hid (fraction_any b (a + b) w (by omega) (by omega) (by omega) (by omega))
    go_enter Try.func15, Try.ntmps15
    go_wp2_with fail
    refine H1.out.mono ?_
    rintro e w' ⟨rfl, rfl⟩
    go_wp2_with fail
    refine H3.out.mono ?_
    rintro e w2 ⟨rfl, hd⟩
    have Hd := Lib.hid hd
    clear hd
    go_wp2
    go_ret3
    exact ⟨rfl, Hd.out.below _⟩
  · rw [if_neg h, if_neg h, decide_eq_false h]
    have H1 := Lib.hid (pot_no a b w h)
    clear h
    go_enter Try.func15, Try.ntmps15
    go_wp2_with fail
    refine H1.out.mono ?_
    rintro e w' ⟨rfl, rfl⟩
    go_wp2
    go_ret3
    exact ⟨rfl, Below.refl _ _⟩
def ok_BluffShare (a b : Int) : Bool := decide (okP a b)
def res_BluffShare (a b : Int) : Int := if okP a b then b / gcdI b (a + 2 * b) else 0
def res2_BluffShare (a b : Int) : Int := if okP a b then (a + 2 * b) / gcdI b (a + 2 * b) else 0
theorem impl_BluffShare (a : Int) (al : -9223372036854775808 ≤ a) (au : a ≤ 9223372036854775807) (b : Int) (bl : -9223372036854775808 ≤ b) (bu : b ≤ 9223372036854775807) (w : World) :
    Calls Try.prog 18 #[.int .i64 a, .int .i64 b] w fun e w' => e = .returned (.tuple #[.int .i64 (res_BluffShare a b), .int .i64 (res2_BluffShare a b), .bool (ok_BluffShare a b)]) ∧ Below w.heap.size w w' := by
  unfold res_BluffShare res2_BluffShare ok_BluffShare
  by_cases h : okP a b
  · rw [if_pos h, if_pos h, decide_eq_true h]
    obtain ⟨⟨a1, a2⟩, b1, b2⟩ := h
    have H1 := Lib.hid (stake_yes a w a1 a2)
    have H2 := Lib.hid (bet_yes b w b1 b2)
    have H3 := Lib.hid (lowest_any b (a + 2 * b) w (by omega) (by omega) (by omega) (by omega))
    go_enter Try.func18, Try.ntmps18
    go_wp2_with fail
    refine H1.out.mono ?_
    rintro e w' ⟨rfl, rfl⟩
    go_wp2_with fail
    refine H2.out.mono ?_
    rintro e w' ⟨rfl, rfl⟩
    go_wp2_with fail
    refine H3.out.mono ?_
    rintro e w2 ⟨rfl, hd⟩
    have Hd := Lib.hid hd
    clear hd
    go_wp2
    go_ret3
    exact ⟨rfl, Hd.out.below _⟩
  · rw [if_neg h, if_neg h, decide_eq_false h]
    by_cases g : 0 ≤ a ∧ a ≤ 1000000
    · have H1 := Lib.hid (stake_yes a w g.1 g.2)
      have H2 := Lib.hid (bet_no b w (by
        by_cases h6 : 1 ≤ b ∧ b ≤ 1000000
        · exact absurd ⟨g, h6⟩ h
        · omega))
      clear h g
      go_enter Try.func18, Try.ntmps18
      go_wp2_with fail
      refine H1.out.mono ?_
      rintro e w' ⟨rfl, rfl⟩
      go_wp2_with fail
      refine H2.out.mono ?_
      rintro e w' ⟨rfl, rfl⟩
      go_wp2
      go_ret3
      exact ⟨rfl, Below.refl _ _⟩
    · have H1 := Lib.hid (stake_no a w (by omega))
      clear h g
      go_enter Try.func18, Try.ntmps18
      go_wp2_with fail
      refine H1.out.mono ?_
      rintro e w' ⟨rfl, rfl⟩
      go_wp2
      go_ret3
      exact ⟨rfl, Below.refl _ _⟩
theorem spec_BluffShare (a : Int) (al : -9223372036854775808 ≤ a) (au : a ≤ 9223372036854775807) (b : Int) (bl : -9223372036854775808 ≤ b) (bu : b ≤ 9223372036854775807) (w : World) :
    Calls Try.prog 17 #[.int .i64 a, .int .i64 b] w fun e w' => e = .returned (.tuple #[.int .i64 (res_BluffShare a b), .int .i64 (res2_BluffShare a b), .bool (ok_BluffShare a b)]) ∧ Below w.heap.size w w' := by
  unfold res_BluffShare res2_BluffShare ok_BluffShare
  by_cases h : okP a b
  · rw [if_pos h, if_pos h, decide_eq_true h]
    obtain ⟨⟨a1, a2⟩, b1, b2⟩ := h
    have H1 := Lib.hid (pot_yes a b w a1 a2 b1 b2)
    have H3 := Lib.hid (fraction_any b (a + 2 * b) w (by omega) (by omega) (by omega) (by omega))
    go_enter Try.func17, Try.ntmps17
    go_wp2_with fail
    refine H1.out.mono ?_
    rintro e w' ⟨rfl, rfl⟩
    go_wp2_with fail
    refine H3.out.mono ?_
    rintro e w2 ⟨rfl, hd⟩
    have Hd := Lib.hid hd
    clear hd
    go_wp2
    go_ret3
    exact ⟨rfl, Hd.out.below _⟩
  · rw [if_neg h, if_neg h, decide_eq_false h]
    have H1 := Lib.hid (pot_no a b w h)
    clear h
    go_enter Try.func17, Try.ntmps17
    go_wp2_with fail
    refine H1.out.mono ?_
    rintro e w' ⟨rfl, rfl⟩
    go_wp2
    go_ret3
    exact ⟨rfl, Below.refl _ _⟩
end Go.Proofs.Ytlfccipkjgcodaa
