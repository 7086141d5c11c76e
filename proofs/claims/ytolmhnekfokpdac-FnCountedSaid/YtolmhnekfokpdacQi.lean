/- Contracts: chances of matches, in both texts. -/
import Derived.Test.YtolmhnekfokpdacQe
import Derived.Test.YtolmhnekfokpdacEg
import Derived.BigQuiet
set_option linter.unusedVariables false
namespace Go.Proofs.Ytolmhnekfokpdac
open Go.RowKit

theorem fct_prod (n : Nat) : prodR (fun i => (i : Int) + 1) n = ((fct n : Nat) : Int) := by
  induction n with
  | zero => rfl
  | succ n ih =>
    show prodR (fun i => (i : Int) + 1) n * ((n : Int) + 1) = _
    rw [ih, fct, Int.natCast_mul, Int.mul_comm]; rfl
theorem matG_bd0 : ((List.range 21).all fun n => (List.range (n + 1)).all fun k => decide (setsR n k * aw (n - k) ≤ 2432902008176640000)) = true := by decide +kernel
theorem matG_bd (n k : Nat) (hn : n ≤ 20) (hk : k ≤ n) : 0 ≤ matG n k ∧ matG n k ≤ 2432902008176640000 := by
  have := List.all_eq_true.1 (List.all_eq_true.1 matG_bd0 n (List.mem_range.2 (by omega))) k (List.mem_range.2 (by omega))
  simp only [decide_eq_true_eq] at this
  unfold matG; omega
theorem fctI_bd (n : Nat) (hn : n ≤ 20) : 1 ≤ ((fct n : Nat) : Int) ∧ ((fct n : Nat) : Int) ≤ 2432902008176640000 := by
  have h1 := fct_20 n hn
  have h2 := fct_pos n
  omega
theorem clo_next (k : Nat) (w : World) (hk : k ≤ 60) : Calls Try.prog 87 #[.int .i64 (k : Int)] w fun e w' => e = .returned (.int .i64 ((k : Int) + 1)) ∧ Drawn w w' := by
  go_enter Try.func87, Try.ntmps87
  go_wp2
  go_ret
  exact ⟨rfl, Drawn.refl _⟩
def okMC (a b : Int) : Prop := (1 ≤ a ∧ a ≤ 20) ∧ (0 ≤ b ∧ b ≤ a)
instance (a b : Int) : Decidable (okMC a b) := by unfold okMC; infer_instance
def ok_MatchChance (a b : Int) : Bool := decide (okMC a b)
def res_MatchChance (a b : Int) : Int := if okMC a b then (matG a.toNat b.toNat) / gcdI (matG a.toNat b.toNat) (((fct a.toNat : Nat) : Int)) else 0
def res2_MatchChance (a b : Int) : Int := if okMC a b then (((fct a.toNat : Nat) : Int)) / gcdI (matG a.toNat b.toNat) (((fct a.toNat : Nat) : Int)) else 0
set_option maxRecDepth 100000 in
set_option maxHeartbeats 2000000 in
theorem match_impl_yes (n k : Nat) (w : World) (h1 : 1 ≤ n) (h2 : n ≤ 20) (hk : k ≤ n) :
    Calls Try.prog 28 #[.int .i64 (n : Int), .int .i64 (k : Int)] w fun e w' => e = .returned (.tuple #[.int .i64 (matG n k / gcdI (matG n k) ((fct n : Nat) : Int)), .int .i64 (((fct n : Nat) : Int) / gcdI (matG n k) ((fct n : Nat) : Int)), .bool true]) ∧ Below w.heap.size w w' := by
  have H0 := Lib.hid (mat_impl_yes n w h1 h2)
  have H1 := Lib.hid (fun z => within_yes (k : Int) 0 (n : Int) z (by omega) (by omega))
  have hg := matG_bd n k h2 hk
  have hf := fctI_bd n h2
  have HF := Lib.hid (fun z => fracQ_any (matG n k) ((fct n : Nat) : Int) z hg.1 (by omega) hf.1 (by omega))
  have HP := prodF_any n 87 #[] #[] (fun i => (i : Int) + 1)
  have HP := Lib.hid (fun z => HP z (by omega) (fun j hj => by rw [fct_prod]; have := fctI_bd j (by omega); omega) (run_enter Try.func87 (by kernel_rfl) (by kernel_rfl)) (fun j w' hj _ => (clo_next j w' (by omega)).mono fun e w'' ⟨h1, h2⟩ => ⟨h1, h2.below _⟩))
  rw [fct_prod] at HP
  have Hat := Lib.hid (show (tab (n + 1) (matG n)).getD k 0 = matG n k from tab_get _ _ _ (by omega))
  go_enter Try.func28, Try.ntmps28
  go_wp2_with fail
  refine H0.out.mono ?_
  rintro e w1 ⟨r, rfl, hs, hb1⟩
  have Hb1 := Lib.hid hb1
  have hz1 := hb1.size
  have Hs := Lib.hid hs.sl
  clear hb1 hs
  go_wp2_with fail
  refine (H1.out _).mono ?_
  rintro e w2 ⟨rfl, rfl⟩
  go_wp2_with fail
  refine (HP.out _).mono ?_
  rintro e w3 ⟨rfl, hb3⟩
  have hs3 := Hs.out.later hb3
  have Hb3 := Lib.hid (Hb1.out.trans (hb3.mono hz1))
  clear hb3
  obtain ⟨p, cap, rfl, hf3⟩ := hs3
  rw [tab_len] at hf3
  obtain ⟨hcap, b, off, rfl, hbs, hc⟩ := hf3 (by omega)
  have c1 := hc k (by omega)
  rw [Hat.out] at c1
  clear hc hf3
  rw [tab_len]
  go_wp2_with fail
  refine (HF.out _).mono ?_
  rintro e w4 ⟨rfl, hd⟩
  have Hd := Lib.hid hd
  clear hd
  go_wp2
  go_ret3
  exact ⟨rfl, Hb3.out.trans (Hd.out.below _)⟩
theorem match_impl_no1 (a b : Int) (al : -9223372036854775808 ≤ a) (au : a ≤ 9223372036854775807) (w : World) (h : ¬ okM a) :
    Calls Try.prog 28 #[.int .i64 a, .int .i64 b] w fun e w' => e = .returned (.tuple #[.int .i64 0, .int .i64 0, .bool false]) ∧ Below w.heap.size w w' := by
  have H0 := impl_MatchCounts a al au w
  rw [(mat_no a h).1] at H0
  have H0 := Lib.hid H0
  clear h
  go_enter Try.func28, Try.ntmps28
  go_wp2_with fail
  refine H0.out.mono ?_
  rintro e w1 ⟨r, rfl, -, hb1⟩
  have Hb1 := Lib.hid hb1
  clear hb1
  go_wp2
  go_ret3
  exact ⟨rfl, Hb1.out⟩
theorem match_impl_no2 (a b : Int) (al : -9223372036854775808 ≤ a) (au : a ≤ 9223372036854775807) (w : World) (h : okM a) (hb : b < 0 ∨ a < b) :
    Calls Try.prog 28 #[.int .i64 a, .int .i64 b] w fun e w' => e = .returned (.tuple #[.int .i64 0, .int .i64 0, .bool false]) ∧ Below w.heap.size w w' := by
  have H0 := impl_MatchCounts a al au w
  rw [(mat_yes a h).1] at H0
  have H0 := Lib.hid H0
  have H1 := Lib.hid (fun z => within_no b 0 a z hb)
  clear h hb
  go_enter Try.func28, Try.ntmps28
  go_wp2_with fail
  refine H0.out.mono ?_
  rintro e w1 ⟨r, rfl, -, hb1⟩
  have Hb1 := Lib.hid hb1
  clear hb1
  go_wp2_with fail
  refine (H1.out _).mono ?_
  rintro e w2 ⟨rfl, rfl⟩
  go_wp2
  go_ret3
  exact ⟨rfl, Hb1.out⟩
theorem impl_MatchChance (a : Int) (al : -9223372036854775808 ≤ a) (au : a ≤ 9223372036854775807) (b : Int) (bl : -9223372036854775808 ≤ b) (bu : b ≤ 9223372036854775807) (w : World) :
    Calls Try.prog 28 #[.int .i64 a, .int .i64 b] w fun e w' => e = .returned (.tuple #[.int .i64 (res_MatchChance a b), .int .i64 (res2_MatchChance a b), .bool (ok_MatchChance a b)]) ∧ Below w.heap.size w w' := by
  unfold res_MatchChance res2_MatchChance ok_MatchChance
  by_cases h : okMC a b
  · rw [if_pos h, if_pos h, decide_eq_true h]
    obtain ⟨⟨x0, y0⟩, ⟨x1, y1⟩⟩ := h
    obtain ⟨n, rfl⟩ : ∃ m : Nat, a = m := ⟨a.toNat, by omega⟩
    obtain ⟨k, rfl⟩ : ∃ m : Nat, b = m := ⟨b.toNat, by omega⟩
    rw [Int.toNat_natCast, Int.toNat_natCast]
    exact match_impl_yes n k w (by omega) (by omega) (by omega)
  · rw [if_neg h, if_neg h, decide_eq_false h]
    unfold okMC at h
    by_cases h1 : okM a
    · exact match_impl_no2 a b al au w h1 (by
        by_cases h2 : 0 ≤ b ∧ b ≤ a
        · exact absurd ⟨h1, h2⟩ h
        · omega)
    · exact match_impl_no1 a b al au w h1
