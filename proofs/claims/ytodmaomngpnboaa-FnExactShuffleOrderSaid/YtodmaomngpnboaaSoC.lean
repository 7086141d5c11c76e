/- Contracts: how many perfect shuffles make a deck again, the program. -/
import Derived.Test.YtodmaomngpnboaaSoB
set_option linter.unusedVariables false
namespace Go.Proofs.Ytodmaomngpnboaa
open Go.RowKit

theorem guard_arr (x y : Operand) (L M : List Int) (w : World) : (eqGuard .eql 111 x y (av L) (av M)).run Try.prog w = .ok () w := by
  have h : Try.prog.eqGuardType Try.prog.depth 111 = false := by kernel_rfl
  unfold eqGuard av
  simp [go_sem, h]
theorem bin_arr (L M : List Int) (hL : L.length = 52) (hM : M.length = 52) (w : World) : (binOp .eql 111 (av L) (av M)).run Try.prog w = .ok (.bool (decide (L = M))) w := by
  have h := eq_arr L M hL hM w
  have e : binOp .eql 111 (av L) (av M) = (do pure (.bool (← Op.equalIn 10000 111 (av L) (av M)))) := rfl
  rw [e, Sem.run_bind, h]
  rfl
set_option maxRecDepth 100000 in
set_option maxHeartbeats 4000000 in
theorem impl_ShuffleOrder (a : Int) (al : -9223372036854775808 ≤ a) (au : a ≤ 9223372036854775807) (b : Bool) (w : World) :
    Calls Try.prog 66 #[.int .i64 a, .bool b] w fun e w' => e = .returned (.tuple #[.int .i64 (res_ShuffleOrder a b), .bool (ok_ShuffleOrder a b)]) ∧ Below w.heap.size w w' := by
  by_cases hin : 1 ≤ a ∧ a ≤ 52
  · obtain ⟨n, rfl⟩ : ∃ n : Nat, a = n := ⟨a.toNat, by omega⟩
    have HN := Lib.hid (fun z => new_impl_yes n z (by omega) (by omega))
    by_cases he : n % 2 = 0
    · obtain ⟨e1, e2⟩ := so_yes b (by omega) (by omega) he
      obtain ⟨t1, t2, t3, t4⟩ := ordT_spec n (by omega) he b
      have E1 := Lib.hid e1
      have E2 := Lib.hid e2
      have HP := Lib.hid (fun j v z hz => perf_impl_yes (iterP b (iotaL n) j) v b z (by rw [iterP_len, iota_len]; omega) hz (iter_deck b n (by omega) (by omega) he j) (by rw [iterP_len, iota_len]; exact he))
      have Hs := Lib.hid (fun j => (show tab (iterP b (iotaL n) j).length (perfG (iterP b (iotaL n) j) b) = iterP b (iotaL n) (j + 1) from rfl))
      have HC := Lib.hid (fun j v z h1 => cards_any (iterP b (iotaL n) j) v z (by rw [iterP_len, iota_len]; omega) (by rw [iterP_len, iota_len]; omega) h1)
      have hg := fun x y j z => guard_arr x y (pad52 (iterP b (iotaL n) j)) (pad52 (iterP b (iotaL n) 0)) z
      have HE := Lib.hid (fun j z => bin_arr (pad52 (iterP b (iotaL n) j)) (pad52 (iterP b (iotaL n) 0)) (pad52_len _ (by rw [iterP_len, iota_len]; omega)) (pad52_len _ (by rw [iterP_len, iota_len]; omega)) z)
      have HI := Lib.hid (fun j => pad52_inj (iterP b (iotaL n) j) (iterP b (iotaL n) 0) (by rw [iterP_len, iterP_len]))
      have H0 := Lib.hid (show iterP b (iotaL n) 0 = iotaL n from rfl)
      have T1 := Lib.hid t1
      have T4 := Lib.hid t4
      obtain ⟨n1, n2⟩ := hin
      clear t1 t4 e1 e2 he
      go_enter Try.func66, Try.ntmps66
      go_wp2_with fail
      refine (HN.out _).mono ?_
      rintro e w1 ⟨r1, rfl, hr1, hb1⟩
      have Hr1 : Hid (Sl (Value.int .i64) 0 w1 r1 (iterP b (iotaL n) 0)) := Lib.hid hr1.sl
      have Hb1 := Lib.hid hb1
      clear hr1 hb1
      go_wp2_with fail
      go_loopw [8, 9] (fun x c wr => ∃ j : Nat, j + 1 ≤ ordT n b ∧ c = .int .i64 ((j : Int) + 1) ∧ Hid (Sl (Value.int .i64) 0 wr x (iterP b (iotaL n) j)) ∧ Hid (Below w1.heap.size w1 wr)) (fun _ c _ => ordT n b + 1 - (intOf c).toNat)
      case atStart => exact ⟨0, t3, rfl, Hr1, Lib.hid (Below.refl _ _)⟩
      case round =>
        obtain ⟨j, j2, rfl, hx, hB⟩ := hrel
        go_wp2_with fail
        refine (HP.out j _ _ hx.out).mono ?_
        rintro e w2 ⟨r2, rfl, hr2, hb2⟩
        rw [Hs.out] at hr2
        have Hr2 := Lib.hid hr2.sl
        have HB2 := Lib.hid (hB.out.trans (hb2.mono hB.out.size))
        clear hr2 hb2
        go_wp2_with fail
        refine (HC.out (j + 1) _ _ Hr2.out).mono ?_
        rintro e w3 ⟨rfl, hb3⟩
        have Hr3 := Lib.hid (Hr2.out.later hb3)
        have HB3 := Lib.hid (HB2.out.trans (hb3.mono HB2.out.size))
        clear hb3 Hr2 HB2
        go_wp2_with fail
        refine (HC.out 0 _ _ (Hr1.out.later HB3.out)).mono ?_
        rintro e w4 ⟨rfl, hb4⟩
        have Hr4 := Lib.hid (Hr3.out.later hb4)
        have HB4 := Lib.hid (HB3.out.trans (hb4.mono HB3.out.size))
        have he := fun z => HE.out (j + 1) z
        simp only [HI.out (j + 1)] at he
        clear hb4 Hr3 HB3
        by_cases hj : j + 1 = ordT n b
        · have e := T1.out
          rw [← hj] at e
          have e' : decide (iterP b (iotaL n) (j + 1) = iterP b (iotaL n) 0) = true := decide_eq_true (by rw [H0.out]; exact e)
          simp only [e'] at he
          have E3 := Lib.hid (show (j : Int) + 1 = res_ShuffleOrder (n : Int) b by rw [E2.out, ← hj]; omega)
          have HEn := Lib.hid (Hb1.out.trans (HB4.out.mono Hb1.out.size))
          clear e e' hj
          go_wp2
          go_ret2
          exact ⟨ret_ib E3.out E1.out.symm, HEn.out⟩
        · have e := T4.out (j + 1) (by omega) (by omega)
          have e' : decide (iterP b (iotaL n) (j + 1) = iterP b (iotaL n) 0) = false := decide_eq_false (by rw [H0.out]; exact e)
          simp only [e'] at he
          clear e e'
          go_wp2
          go_roundw
          case rel => exact ⟨j + 1, by omega, by go_num, Hr4, HB4⟩
          case measure => simp [intOf]; omega
    · obtain ⟨e1, e2⟩ := so_no (a := (n : Int)) b (by omega)
      rw [e1, e2]
      have HP := Lib.hid (fun v z hz => impl_PerfectShuffle (iotaL n) v b z (by rw [iota_len]; omega) hz)
      obtain ⟨p1, p2⟩ := perf_no (iotaL n) b (fun h => he (by have := h.2; rw [iota_len] at this; exact this))
      rw [p1] at HP
      clear e1 e2 he p1 p2
      go_enter Try.func66, Try.ntmps66
      go_wp2_with fail
      refine (HN.out _).mono ?_
      rintro e w1 ⟨r1, rfl, hr1, hb1⟩
      have Hr1 : Hid (Sl (Value.int .i64) 0 w1 r1 (iotaL n)) := Lib.hid hr1.sl
      have Hb1 := Lib.hid hb1
      clear hr1 hb1
      go_wp2_with fail
      go_loopw [8, 9] (fun x c wr => x = r1 ∧ c = .int .i64 1 ∧ Hid (wr = w1)) (fun _ c _ => 0)
      case atStart => exact ⟨rfl, rfl, Lib.hid rfl⟩
      case round =>
        obtain ⟨rfl, rfl, hw⟩ := hrel
        obtain rfl := hw.out
        go_wp2_with fail
        refine (HP.out _ _ Hr1.out).mono ?_
        rintro e w2 ⟨r2, rfl, hr2, hb2⟩
        have HB2 := Lib.hid (Hb1.out.trans (hb2.mono Hb1.out.size))
        clear hr2 hb2
        go_wp2
        go_ret2
        exact ⟨rfl, HB2.out⟩
  · obtain ⟨e1, e2⟩ := so_no b (fun h => hin h.1)
    rw [e1, e2]
    have HN := Lib.hid (fun z => new_impl_no a z (by omega))
    clear e1 e2 hin
    go_enter Try.func66, Try.ntmps66
    go_wp2_with (go_at_call 122; refine (HN.out _).mono ?_; rintro e w' ⟨rfl, rfl⟩)
    go_ret2
    exact ⟨rfl, Below.refl _ _⟩
end Go.Proofs.Ytodmaomngpnboaa
