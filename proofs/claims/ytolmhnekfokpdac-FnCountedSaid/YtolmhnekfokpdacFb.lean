/- Contracts: how far riffles are from even, in both texts. -/
import Derived.Test.YtolmhnekfokpdacFa
import Derived.RegionTactic
import Derived.BigQuiet
set_option linter.unusedVariables false
namespace Go.Proofs.Ytolmhnekfokpdac
open Go.RowKit

def dkI (i : Nat) : Int := ((fct i : Nat) : Int)
def parI (t : Nat) : Int := ((2 ^ t : Nat) : Int)
def pwF (t : Nat) : Nat → Int
  | 0 => 1
  | i + 1 => pwF t i * parI t
def wyI (n t k : Nat) : Int := ((setsR (2 ^ t + n - (k + 1)) n : Nat) : Int)
def farI (n t : Nat) : Nat → Int
  | 0 => 0
  | k + 1 => farI n t k + eulI (n - 1) k * max (dkI n * wyI n t k - pwF t n) (pwF t n - dkI n * wyI n t k)

theorem far_step (n t k : Nat) : farI n t (k + 1) = farI n t k + eulI (n - 1) k * max (dkI n * wyI n t k - pwF t n) (pwF t n - dkI n * wyI n t k) := rfl
theorem far_stepS (n t k : Nat) : farI n t (k + 1) = farI n t k + eulI (n - 1) k * max (wyI n t k * dkI n - pwF t n) (-(wyI n t k * dkI n - pwF t n)) := by
  rw [far_step, Int.mul_comm (dkI n), Int.neg_sub]
def farB (n t k : Nat) : Bool := decide (0 ≤ dkI n * wyI n t k) && decide (dkI n * wyI n t k ≤ 1000000000000) && decide (0 ≤ eulI (n - 1) k * max (dkI n * wyI n t k - pwF t n) (pwF t n - dkI n * wyI n t k)) && decide (eulI (n - 1) k * max (dkI n * wyI n t k - pwF t n) (pwF t n - dkI n * wyI n t k) ≤ 1000000000000000) && decide (0 ≤ farI n t k) && decide (farI n t (k + 1) ≤ 1000000000000000) && decide (0 ≤ wyI n t k) && decide (wyI n t k ≤ 1000000000) && decide (0 ≤ max (dkI n * wyI n t k - pwF t n) (pwF t n - dkI n * wyI n t k)) && decide (max (dkI n * wyI n t k - pwF t n) (pwF t n - dkI n * wyI n t k) ≤ 1000000000000)
theorem far_allB : ∀ n, n < 9 → ∀ t, t < 5 → ∀ k, k < n → farB n t k = true := by decide +kernel
theorem far_all (n : Nat) (hn : n < 9) (t : Nat) (ht : t < 5) (k : Nat) (hk : k < n) : (0 ≤ dkI n * wyI n t k ∧ dkI n * wyI n t k ≤ 1000000000000) ∧ (0 ≤ eulI (n - 1) k * max (dkI n * wyI n t k - pwF t n) (pwF t n - dkI n * wyI n t k) ∧ eulI (n - 1) k * max (dkI n * wyI n t k - pwF t n) (pwF t n - dkI n * wyI n t k) ≤ 1000000000000000) ∧ (0 ≤ farI n t k ∧ farI n t (k + 1) ≤ 1000000000000000) ∧ (0 ≤ wyI n t k ∧ wyI n t k ≤ 1000000000) ∧ (0 ≤ max (dkI n * wyI n t k - pwF t n) (pwF t n - dkI n * wyI n t k) ∧ max (dkI n * wyI n t k - pwF t n) (pwF t n - dkI n * wyI n t k) ≤ 1000000000000) := by
  have h := far_allB n hn t ht k hk
  unfold farB at h
  simp only [Bool.and_eq_true, decide_eq_true_eq] at h
  obtain ⟨⟨⟨⟨⟨⟨⟨⟨⟨h0, h1⟩, h2⟩, h3⟩, h4⟩, h5⟩, h6⟩, h7⟩, h8⟩, h9⟩ := h
  exact ⟨⟨h0, h1⟩, ⟨h2, h3⟩, ⟨h4, h5⟩, ⟨h6, h7⟩, h8, h9⟩
theorem pw_all : ∀ t, t < 5 → ∀ i, i < 9 → (1 ≤ pwF t i ∧ pwF t i ≤ 1000000000000) ∧ 0 ≤ pwF t i * parI t ∧ pwF t i * parI t ≤ 1000000000000 := by decide +kernel
theorem dk_all : ∀ i, i < 9 → (1 ≤ dkI i ∧ dkI i ≤ 1000000) ∧ 0 ≤ dkI i * ((i : Int) + 1) ∧ dkI i * ((i : Int) + 1) ≤ 1000000 ∧ dkI (i + 1) = dkI i * ((i : Int) + 1) := by decide +kernel
def whoI (n t : Nat) : Int := 2 * pwF t n * dkI n
theorem who_all : ∀ n, n < 9 → ∀ t, t < 5 → (1 ≤ whoI n t ∧ whoI n t ≤ 1000000000000000) ∧ (0 ≤ farI n t n ∧ farI n t n ≤ 1000000000000000) := by decide +kernel
theorem who_eq (n t : Nat) : 2 * dkI n * pwF t n = whoI n t := by unfold whoI; rw [Int.mul_assoc, Int.mul_comm (dkI n), ← Int.mul_assoc]
def farG (n t : Nat) : Int := ((Nat.gcd (farI n t n).toNat (whoI n t).toNat : Nat) : Int)
theorem farG_bd (n t : Nat) (hn : n < 9) (ht : t < 5) : 1 ≤ farG n t ∧ farG n t ≤ 1000000000000000 := by
  have h := (who_all n hn t ht).1
  have h1 : 0 < (whoI n t).toNat := by omega
  have h2 := Nat.gcd_pos_of_pos_right (farI n t n).toNat h1
  have h3 := Nat.gcd_le_right (farI n t n).toNat h1
  unfold farG; omega
abbrev okF (a b : Int) : Prop := (1 ≤ a ∧ a ≤ 8) ∧ (1 ≤ b ∧ b ≤ 4)
def ok_FarFromEven (a b : Int) : Bool := decide (okF a b)
def res_FarFromEven (a b : Int) : Int := if okF a b then farI a.toNat b.toNat a.toNat / farG a.toNat b.toNat else 0
def res2_FarFromEven (a b : Int) : Int := if okF a b then whoI a.toNat b.toNat / farG a.toNat b.toNat else 0
theorem far_yes (a b : Int) (h : okF a b) : ok_FarFromEven a b = true ∧ res_FarFromEven a b = farI a.toNat b.toNat a.toNat / farG a.toNat b.toNat ∧ res2_FarFromEven a b = whoI a.toNat b.toNat / farG a.toNat b.toNat := ⟨decide_eq_true h, if_pos h, if_pos h⟩
theorem far_no (a b : Int) (h : ¬ okF a b) : ok_FarFromEven a b = false ∧ res_FarFromEven a b = 0 ∧ res2_FarFromEven a b = 0 := ⟨decide_eq_false h, if_neg h, if_neg h⟩


set_option maxRecDepth 100000 in
set_option maxHeartbeats 4000000 in
theorem fe_impl (n t : Nat) (w : World) (n1 : 1 ≤ n) (n8 : n ≤ 8) (t1 : 1 ≤ t) (t4 : t ≤ 4) :
    Calls Try.prog 26 #[.int .i64 (n : Int), .int .i64 (t : Int)] w fun e w' => e = .returned (.tuple #[.int .i64 (farI n t n / farG n t), .int .i64 (whoI n t / farG n t), .bool true]) ∧ Below w.heap.size w w' := by
  have Hdc := Lib.hid (dct_impl n w n1 (by omega))
  have Ht := Lib.hid (fun z => times_yes (t : Int) z (by omega) (by omega))
  have Hp : Hid (∀ z, Calls Try.prog 82 #[.int .i64 (t : Int)] z fun e w' => e = .returned (.int .i64 (parI t)) ∧ z = w') := Lib.hid (fun z => parts_any t z t1 t4)
  have Hw : Hid (∀ k, k < n → ∀ z, Calls Try.prog 83 #[.int .i64 (n : Int), .int .i64 ((k : Int) + 1), .int .i64 (t : Int)] z fun e w' => e = .returned (.int .i64 (wyI n t k)) ∧ z = w') := Lib.hid (fun k hk z => ways_impl n (k + 1) t z (by omega) t1 t4 (by omega) (by omega))
  have Hpw := Lib.hid (pw_all t (by omega))
  have Hdk := Lib.hid dk_all
  have Hps := Lib.hid (fun i => (show pwF t (i + 1) = pwF t i * parI t from rfl))
  have Hfa := Lib.hid (far_all n (by omega) t (by omega))
  have Hfs := Lib.hid (far_step n t)
  have Hwe := Lib.hid (who_eq n t)
  have Hwb := Lib.hid (who_all n (by omega) t (by omega))
  have Hgb := Lib.hid (farG_bd n t (by omega) (by omega))
  have Hg : Hid (∀ z, Calls Try.prog 84 #[.int .i64 (farI n t n), .int .i64 (whoI n t)] z fun e w' => e = .returned (.int .i64 (farG n t)) ∧ Drawn z w') := Lib.hid (fun z => by
    obtain ⟨⟨a1, a2⟩, a3, a4⟩ := Hwb.out
    have h := gcd_impl (farI n t n).toNat (whoI n t).toNat z (by omega) (by omega)
    rw [Int.toNat_of_nonneg (by omega), Int.toNat_of_nonneg (by omega)] at h
    exact h)
  have d8 : decide (8 < (n : Int)) = false := decide_eq_false (by omega)
  go_enter Try.func26, Try.ntmps26
  go_wp2_with fail
  refine Hdc.out.mono ?_
  rintro e w1 ⟨r, rfl, hs, hb⟩
  have Hb := Lib.hid hb
  clear hb
  obtain ⟨pr, capr, rfl, hfr⟩ := hs
  have hs : Sw (Value.int .i64) 0 w1 (.slice pr (tab n (eulI (n - 1))).length capr) (tab n (eulI (n - 1))) w.heap.size w1.heap.size := ⟨pr, capr, rfl, hfr⟩
  obtain ⟨b, off, rfl, -, -, -⟩ := hs.open' 0 (by rw [tab_len]; omega)
  have Hcl : Hid (∀ k, k < n → w1.cell? ⟨b, off + k, none⟩ = some (.int .i64 (eulI (n - 1) k))) := Lib.hid (fun k hk => by
    obtain ⟨b', off', e', -, -, c, -⟩ := hs.open' k (by rw [tab_len]; omega)
    cases e'
    rw [tab_get _ _ _ hk] at c
    exact c)
  clear hfr hs
  rw [tab_len]
  go_wp2_with (go_at_call 81; refine (Ht.out _).mono ?_; rintro e w' ⟨rfl, rfl⟩)
  go_loop [9, 10, 35] (fun d a i => ∃ j : Nat, j ≤ n ∧ i = .int .i64 (j : Int) ∧ d = .int .i64 (dkI j) ∧ a = .int .i64 (pwF t j)) (fun _ _ i => n - (intOf i).toNat)
  case atStart => exact ⟨0, Nat.zero_le _, rfl, rfl, rfl⟩
  case round =>
    obtain ⟨j, hj, rfl, rfl, rfl⟩ := hrel
    by_cases hlt : j < n
    · obtain ⟨⟨p0, p1⟩, p2, p3⟩ := Hpw.out j (by omega)
      obtain ⟨⟨q0, q1⟩, q2, q3, hq⟩ := Hdk.out j (by omega)
      have Hq := Lib.hid hq
      have Hs := Lib.hid (Hps.out j)
      clear hq
      generalize dkI j = D at *
      generalize pwF t j = A at *
      go_wp2_with (go_at_call 82; refine (Hp.out _).mono ?_; rintro e w' ⟨rfl, rfl⟩)
      go_round
      case rel => exact ⟨j + 1, by omega, by go_num, by rw [Hq.out], by rw [Hs.out]⟩
      case measure => simp [intOf]; omega
    · obtain rfl : j = n := by omega
      obtain ⟨⟨p0, p1⟩, -, -⟩ := Hpw.out j (by omega)
      obtain ⟨⟨q0, q1⟩, -, -, -⟩ := Hdk.out j (by omega)
      go_wp2
      go_loop [12, 49] (fun f i => ∃ k : Nat, k ≤ j ∧ i = .int .i64 (k : Int) ∧ f = .int .i64 (farI j t k)) (fun _ i => j - (intOf i).toNat)
      case atStart => exact ⟨0, Nat.zero_le _, rfl, rfl⟩
      case round =>
        obtain ⟨k, hk, rfl, rfl⟩ := hrel
        by_cases hlt2 : k < j
        · obtain ⟨⟨a0, a1⟩, ⟨b0, b1⟩, ⟨c0, c1⟩, ⟨e0, e1⟩, e2, e3⟩ := Hfa.out k hlt2
          rw [Hfs.out k] at c1
          have Hs := Lib.hid (Hfs.out k)
          have c := Hcl.out k hlt2
          have Hwk := Lib.hid (Hw.out k hlt2)
          generalize dkI j = D at *
          generalize pwF t j = A at *
          generalize wyI j t k = Y at *
          generalize eulI (j - 1) k = E at *
          go_wp2_with (go_at_call 83; refine (Hwk.out _).mono ?_; rintro e w' ⟨rfl, rfl⟩)
          go_round
          case rel => exact ⟨k + 1, by omega, by go_num, by rw [Hs.out]⟩
          case measure => simp [intOf]; omega
        · obtain rfl : k = j := by omega
          obtain ⟨⟨a1, a2⟩, a3, a4⟩ := Hwb.out
          obtain ⟨g1, g2⟩ := Hgb.out
          have we := Hwe.out
          generalize hF : farI k t k = F at *
          generalize hW : whoI k t = W at *
          generalize hG : farG k t = G at *
          have hx : 0 ≤ 2 * dkI k * pwF t k ∧ 2 * dkI k * pwF t k ≤ 1000000000000000 := by rw [we]; omega
          obtain ⟨x0, x1⟩ := hx
          have We := Lib.hid we
          have HF := Lib.hid hF
          have HW := Lib.hid hW
          have HG := Lib.hid hG
          clear we hF hW hG
          generalize dkI k = D at *
          generalize pwF t k = A at *
          go_wp2_with fail
          rw [We.out]
          refine (Hg.out _).mono ?_
          rintro e w2 ⟨rfl, hd⟩
          have Hd := Lib.hid hd
          clear hd
          clear x0 x1
          go_wp2_with fail
          go_region
          all_goals
            go_wp2
            go_ret3
            exact ⟨by rw [HF.out, HW.out, HG.out]; rfl, below_drewN (Hb.out.trans (Hd.out.below _)) _⟩

theorem impl_FarFromEven (a : Int) (al : -9223372036854775808 ≤ a) (au : a ≤ 9223372036854775807) (b : Int) (bl : -9223372036854775808 ≤ b) (bu : b ≤ 9223372036854775807) (w : World) :
    Calls Try.prog 26 #[.int .i64 a, .int .i64 b] w fun e w' => e = .returned (.tuple #[.int .i64 (res_FarFromEven a b), .int .i64 (res2_FarFromEven a b), .bool (ok_FarFromEven a b)]) ∧ Below w.heap.size w w' := by
  by_cases h : okF a b
  · obtain ⟨e1, e2, e3⟩ := far_yes a b h
    rw [e1, e2, e3]
    obtain ⟨⟨a1, a2⟩, b1, b2⟩ := h
    obtain ⟨n, rfl⟩ : ∃ n : Nat, a = n := ⟨a.toNat, by omega⟩
    obtain ⟨t, rfl⟩ : ∃ n : Nat, b = n := ⟨b.toNat, by omega⟩
    rw [Int.toNat_natCast, Int.toNat_natCast]
    exact fe_impl n t w (by omega) (by omega) (by omega) (by omega)
  · obtain ⟨e1, e2, e3⟩ := far_no a b h
    rw [e1, e2, e3]
    have Hd := Lib.hid (impl_DescentCounts a al au w)
    clear e1 e2 e3
    by_cases hr : okC a
    · have ho := (dct_yes a hr).1
      rw [ho] at Hd
      clear ho
      by_cases h8 : 8 < a
      · have d8 : decide (8 < a) = true := decide_eq_true h8
        clear h
        go_enter Try.func26, Try.ntmps26
        go_wp2_with fail
        refine Hd.out.mono ?_
        rintro e w1 ⟨r, rfl, -, hb⟩
        have Hb := Lib.hid hb
        clear hb
        go_wp2
        go_ret3
        exact ⟨rfl, Hb.out⟩
      · have d8 : decide (8 < a) = false := decide_eq_false h8
        have Ht := Lib.hid (fun z => times_no b z (by
          by_cases h6 : 1 ≤ b ∧ b ≤ 4
          · exact absurd ⟨⟨hr.1, by omega⟩, h6⟩ h
          · omega))
        clear h
        go_enter Try.func26, Try.ntmps26
        go_wp2_with fail
        refine Hd.out.mono ?_
        rintro e w1 ⟨r, rfl, -, hb⟩
        have Hb := Lib.hid hb
        clear hb
        go_wp2_with (go_at_call 81; refine (Ht.out _).mono ?_; rintro e w' ⟨rfl, rfl⟩)
        go_ret3
        exact ⟨rfl, Hb.out⟩
    · have ho := (dct_no a hr).1
      rw [ho] at Hd
      clear ho h
      go_enter Try.func26, Try.ntmps26
      go_wp2_with fail
      refine Hd.out.mono ?_
      rintro e w1 ⟨r, rfl, -, hb⟩
      have Hb := Lib.hid hb
      clear hb
      go_wp2
      go_ret3
      exact ⟨rfl, Hb.out⟩





