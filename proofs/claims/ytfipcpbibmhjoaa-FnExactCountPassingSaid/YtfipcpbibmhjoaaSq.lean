/- Contracts: lists of tests, passed and counted, in both texts. -/
import Derived.Test.YtfipcpbibmhjoaaSp
set_option linter.unusedVariables false
namespace Go.Proofs.Ytfipcpbibmhjoaa
open Go.RowKit
set_option maxHeartbeats 1000000 in
theorem tests_impl (n : Nat) (fs : List Int) (v : Value) (w : World) (hn : n ≤ 1048576) (h : SlK 3 w v n fs) :
    Calls Try.prog 81 #[v] w fun e w' => e = .returned (.bool (testsB n fs)) ∧ Below w.heap.size w w' := by
  have H1 := Lib.hid (fun z => withinR_any (n : Int) 1 6 z)
  have H2 := Lib.hid (countTest_any n fs v 41 #[] #[] (teAt fs) w hn h (run_enter Try.func41 (by kernel_rfl) (by kernel_rfl)) (fun k w' hk hb => test_impl (fs.getD (k * 3) 0) (fs.getD (k * 3 + 1) 0) (fs.getD (k * 3 + 2) 0) w'))
  have E := Lib.hid (show testsB n fs = (rB (n : Int) 1 6 && (List.range n).all (teAt fs)) from rfl)
  have Hall := Lib.hid (cntQ_all (teAt fs) n)
  have Hle := cntQ_le (teAt fs) n
  obtain ⟨-, p, cap, rfl, -⟩ := h
  generalize testsB n fs = R at *
  generalize (List.range n).all (teAt fs) = A at *
  generalize cntQ (teAt fs) n = C at *
  generalize rB (n : Int) 1 6 = r1 at *
  cases r1
  · have E2 := Lib.hid (show R = false by rw [E.out]; simp)
    go_enter Try.func81, Try.ntmps81
    go_wp2_with (refine (H1.out _).mono ?_; rintro e w' ⟨rfl, rfl⟩)
    go_ret
    exact ⟨ret_bool E2.out.symm, Below.refl _ _⟩
  have E2 := Lib.hid (show R = A by rw [E.out]; simp)
  go_enter Try.func81, Try.ntmps81
  go_wp2_with (first | (go_at_call 69; refine (H1.out _).mono ?_; rintro e w' ⟨rfl, rfl⟩) | (go_at_call 95; refine (H2.out).mono ?_; rintro e w' ⟨rfl, hb⟩; have Hb2 := Lib.hid hb; clear hb))
  go_ret
  exact ⟨ret_bool (by rw [E2.out, ← Hall.out]), Hb2.out⟩
set_option maxRecDepth 100000 in
set_option maxHeartbeats 2000000 in
theorem tests_spec (n : Nat) (fs : List Int) (v : Value) (w : World) (hn : n ≤ 1048576) (h : SlK 3 w v n fs) :
    Calls Try.prog 78 #[v] w fun e w' => e = .returned (.bool (testsB n fs)) ∧ w = w' := by
  obtain ⟨-, p, cap, rfl, hf⟩ := h
  have Hf := Lib.hid hf
  clear hf
  have Hno := Lib.hid (fun k (hk : k < n) h => show testsB n fs = false by unfold testsB; rw [all_not (p := teAt fs) k hk h, Bool.and_false])
  have Hyes := Lib.hid (fun h => show testsB n fs = (decide (1 ≤ (n : Int)) && decide ((n : Int) ≤ 6)) by unfold testsB; rw [all_of (p := teAt fs) h, Bool.and_true]; rfl)
  have Hat := Lib.hid (fun k => show teAt fs k = teB (fs.getD (k * 3) 0) (fs.getD (k * 3 + 1) 0) (fs.getD (k * 3 + 2) 0) from rfl)
  generalize testsB n fs = R at *
  go_enter Try.func78, Try.ntmps78
  go_wp2
  go_loopw [6] (fun i wr => ∃ k : Nat, k ≤ n ∧ i = .int .i64 (k : Int) ∧ Hid (∀ j, j < k → teAt fs j = true) ∧ Hid (wr = w)) (fun i _ => n - (intOf i).toNat)
  case atStart => exact ⟨0, Nat.zero_le _, rfl, Lib.hid (fun j h => absurd h (by omega)), Lib.hid rfl⟩
  case round =>
    obtain ⟨k, hk, rfl, hdn, hww⟩ := hrel
    obtain rfl := hww.out
    by_cases hlt : k < n
    · obtain ⟨hcap, b, off, rfl, hbs, hc⟩ := Hf.out (by omega)
      have Ht := Lib.hid (test_spec (fs.getD (k * 3) 0) (fs.getD (k * 3 + 1) 0) (fs.getD (k * 3 + 2) 0) b (off + k * 3) wr (hc (k * 3) (by omega)) (hc (k * 3 + 1) (by omega)) (hc (k * 3 + 2) (by omega)))
      rw [← Hat.out k] at Ht
      have Hno2 := Lib.hid (fun h => Hno.out k hlt h)
      have HD : Hid (teAt fs k = true → ∀ j, j < k + 1 → teAt fs j = true) := Lib.hid (fun hg j hj => by
        by_cases e : j = k
        · subst e; exact hg
        · exact hdn.out j (by omega))
      clear hc Hno Hyes Hat hdn
      generalize teAt fs k = g at *
      cases g
      · have HR := Lib.hid (Hno2.out rfl)
        clear Hno2 HD
        go_wp2_with (refine (Ht.out).mono ?_; rintro e w' ⟨rfl, rfl⟩)
        go_ret
        exact ⟨ret_bool HR.out.symm, rfl⟩
      have HD2 := Lib.hid (HD.out rfl)
      clear Hno2 HD
      go_wp2_with (refine (Ht.out).mono ?_; rintro e w' ⟨rfl, rfl⟩)
      go_roundw
      case rel => exact ⟨k + 1, by omega, by go_num, HD2, Lib.hid (by first | trivial | rfl)⟩
      case measure => simp [intOf]; omega
    · obtain rfl : k = n := by omega
      have HR := Lib.hid (Hyes.out hdn.out)
      clear Hno Hyes Hat hdn
      by_cases h1 : 1 ≤ (k : Int)
      · have hd1 : decide (1 ≤ (k : Int)) = true := decide_eq_true h1
        rw [hd1, Bool.true_and] at HR
        go_wp2
        go_ret
        exact ⟨ret_bool HR.out.symm, rfl⟩
      · have hd1 : decide (1 ≤ (k : Int)) = false := decide_eq_false h1
        rw [hd1, Bool.false_and] at HR
        obtain rfl : k = 0 := by omega
        go_wp2
        go_ret
        exact ⟨ret_bool HR.out.symm, rfl⟩
def ok_PassesTests (n : Nat) (fs : List Int) (c : Int) : Bool := testsB n fs && rB c 0 51
def res_PassesTests (n : Nat) (fs : List Int) (c : Int) : Bool := (testsB n fs && rB c 0 51) && passB n fs c.toNat
theorem ret2b {a b c d : Bool} (h : a = c) (g : b = d) : Ending.returned (.tuple #[.bool a, .bool b]) = .returned (.tuple #[.bool c, .bool d]) := by rw [h, g]
set_option maxHeartbeats 2000000 in
theorem impl_PassesTests (n : Nat) (fs : List Int) (v : Value) (c : Int) (al : -9223372036854775808 ≤ c) (au : c ≤ 9223372036854775807) (w : World) (hn : n ≤ 1048576) (h : SlK 3 w v n fs) :
    Calls Try.prog 45 #[v, .int .i64 c] w fun e w' => e = .returned (.tuple #[.bool (res_PassesTests n fs c), .bool (ok_PassesTests n fs c)]) ∧ Below w.heap.size w w' := by
  unfold res_PassesTests ok_PassesTests
  have Ht := Lib.hid (tests_impl n fs v w hn h)
  have Hc := Lib.hid (fun u => card_any c u)
  cases hv : testsB n fs
  · rw [hv] at Ht
    obtain ⟨-, p, cap, rfl, -⟩ := h
    go_enter Try.func45, Try.ntmps45
    go_wp2_with (go_at_call 81; refine (Ht.out).mono ?_; rintro e w1 ⟨rfl, hb⟩; have Hb1 := Lib.hid hb; have hz1 := hb.size; clear hb)
    go_ret2
    exact ⟨ret2b (by simp) (by simp), Hb1.out⟩
  rw [hv] at Ht
  cases hr : rB c 0 51
  · rw [hr] at Hc
    obtain ⟨-, p, cap, rfl, -⟩ := h
    clear hv hr
    go_enter Try.func45, Try.ntmps45
    go_wp2_with (first | (go_at_call 81; refine (Ht.out).mono ?_; rintro e w1 ⟨rfl, hb⟩; have Hb1 := Lib.hid hb; have hz1 := hb.size; clear hb) | (go_at_call 77; refine (Hc.out _).mono ?_; rintro e w2 ⟨rfl, rfl⟩))
    go_ret2
    exact ⟨ret2b (by simp) (by simp), Hb1.out⟩
  rw [hr] at Hc
  obtain ⟨m, rfl⟩ : ∃ m : Nat, c = (m : Int) := ⟨c.toNat, by have := rB_yes hr; omega⟩
  have hm : m ≤ 51 := by have := rB_yes hr; omega
  rw [Int.toNat_natCast]
  have Hp := Lib.hid (fun u (hu : Below w.heap.size w u) => passes_any n fs v m u hn (h.later hu) hv hm)
  obtain ⟨-, p, cap, rfl, -⟩ := h
  clear hv hr
  generalize passB n fs m = R at *
  go_enter Try.func45, Try.ntmps45
  go_wp2_with (first | (go_at_call 81; refine (Ht.out).mono ?_; rintro e w1 ⟨rfl, hb⟩; have Hb1 := Lib.hid hb; have hz1 := hb.size; clear hb) | (go_at_call 77; refine (Hc.out _).mono ?_; rintro e w2 ⟨rfl, rfl⟩) | (go_at_call 82; refine (Hp.out _ Hb1.out).mono ?_; rintro e w3 ⟨rfl, hb⟩; have Hb3 := Lib.hid (below_step Hb1.out hb (Nat.le_refl _)); clear hb))
  go_ret2
  exact ⟨ret2b (by simp) (by simp), Hb3.out⟩
set_option maxHeartbeats 2000000 in
theorem spec_PassesTests (n : Nat) (fs : List Int) (v : Value) (c : Int) (al : -9223372036854775808 ≤ c) (au : c ≤ 9223372036854775807) (w : World) (hn : n ≤ 1048576) (h : SlK 3 w v n fs) :
    Calls Try.prog 43 #[v, .int .i64 c] w fun e w' => e = .returned (.tuple #[.bool (res_PassesTests n fs c), .bool (ok_PassesTests n fs c)]) ∧ Below w.heap.size w w' := by
  unfold res_PassesTests ok_PassesTests
  have Ht := Lib.hid (tests_spec n fs v w hn h)
  have Hc := Lib.hid (fun u => inR_any c 0 51 u)
  cases hv : testsB n fs
  · rw [hv] at Ht
    obtain ⟨-, p, cap, rfl, -⟩ := h
    go_enter Try.func43, Try.ntmps43
    go_wp2_with (go_at_call 78; refine (Ht.out).mono ?_; rintro e w1 ⟨rfl, rfl⟩)
    go_ret2
    exact ⟨ret2b (by simp) (by simp), Below.refl _ _⟩
  rw [hv] at Ht
  cases hr : rB c 0 51
  · rw [hr] at Hc
    obtain ⟨-, p, cap, rfl, -⟩ := h
    clear hv hr
    go_enter Try.func43, Try.ntmps43
    go_wp2_with (first | (go_at_call 78; refine (Ht.out).mono ?_; rintro e w1 ⟨rfl, rfl⟩) | (go_at_call 79; refine (Hc.out _).mono ?_; rintro e w2 ⟨rfl, rfl⟩))
    go_ret2
    exact ⟨ret2b (by simp) (by simp), Below.refl _ _⟩
  rw [hr] at Hc
  obtain ⟨m, rfl⟩ : ∃ m : Nat, c = (m : Int) := ⟨c.toNat, by have := rB_yes hr; omega⟩
  have hm : m ≤ 51 := by have := rB_yes hr; omega
  rw [Int.toNat_natCast]
  have Hp := Lib.hid (fun u (hu : Below w.heap.size w u) => passes_spec n fs v m u hn (h.later hu) hv hm)
  obtain ⟨-, p, cap, rfl, -⟩ := h
  clear hv hr
  generalize passB n fs m = R at *
  go_enter Try.func43, Try.ntmps43
  go_wp2_with (first | (go_at_call 78; refine (Ht.out).mono ?_; rintro e w1 ⟨rfl, rfl⟩) | (go_at_call 79; refine (Hc.out _).mono ?_; rintro e w2 ⟨rfl, rfl⟩) | (go_at_call 80; refine (Hp.out _ (Below.refl _ _)).mono ?_; rintro e w3 ⟨rfl, hd⟩; have Hb3 := Lib.hid (hd.below w.heap.size); clear hd))
  go_ret2
  exact ⟨ret2b (by simp) (by simp), Hb3.out⟩
end Go.Proofs.Ytfipcpbibmhjoaa
