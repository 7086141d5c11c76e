/- Contracts: cards of tricks: WinsTrick, in both texts. -/
import Derived.Test.YtglmahgbdgbbpaaQa
import Derived.Test.YtglmahgbdgbbpaaDk
set_option linter.unusedVariables false
namespace Go.Proofs.Ytglmahgbdgbbpaa
open Go.RowKit

/-- the card led wins -/
def winF (a b c : Int) : Bool := if b / 13 = a / 13 then decide (b < a) else decide (b / 13 ≠ c)
def okWT (a b c : Int) : Prop := (0 ≤ a ∧ a ≤ 51) ∧ (0 ≤ b ∧ b ≤ 51) ∧ b ≠ a ∧ (-1 ≤ c ∧ c ≤ 3)
instance (a b c : Int) : Decidable (okWT a b c) := by unfold okWT; infer_instance
def ok_WinsTrick (a b c : Int) : Bool := decide (okWT a b c)
def res_WinsTrick (a b c : Int) : Bool := if okWT a b c then winF a b c else false
theorem card_yes (n : Int) (w : World) (h1 : 0 ≤ n) (h2 : n ≤ 51) : Calls Try.prog 48 #[.int .i64 n] w fun e w' => e = .returned (.bool true) ∧ w = w' := by
  have H := Lib.hid (within_yes n 0 51 w h1 h2)
  go_enter Try.func48, Try.ntmps48
  go_wp2_with fail
  refine H.out.mono ?_
  rintro e w' ⟨rfl, rfl⟩
  go_wp2
  go_ret
  exact ⟨rfl, rfl⟩
theorem card_no (n : Int) (w : World) (h : n < 0 ∨ 51 < n) : Calls Try.prog 48 #[.int .i64 n] w fun e w' => e = .returned (.bool false) ∧ w = w' := by
  have H := Lib.hid (within_no n 0 51 w h)
  clear h
  go_enter Try.func48, Try.ntmps48
  go_wp2_with fail
  refine H.out.mono ?_
  rintro e w' ⟨rfl, rfl⟩
  go_wp2
  go_ret
  exact ⟨rfl, rfl⟩
theorem trump_yes (n : Int) (w : World) (h1 : -1 ≤ n) (h2 : n ≤ 3) : Calls Try.prog 49 #[.int .i64 n] w fun e w' => e = .returned (.bool true) ∧ w = w' := by
  have H := Lib.hid (within_yes n (-1) 3 w h1 h2)
  go_enter Try.func49, Try.ntmps49
  go_wp2_with fail
  refine H.out.mono ?_
  rintro e w' ⟨rfl, rfl⟩
  go_wp2
  go_ret
  exact ⟨rfl, rfl⟩
theorem trump_no (n : Int) (w : World) (h : n < -1 ∨ 3 < n) : Calls Try.prog 49 #[.int .i64 n] w fun e w' => e = .returned (.bool false) ∧ w = w' := by
  have H := Lib.hid (within_no n (-1) 3 w h)
  clear h
  go_enter Try.func49, Try.ntmps49
  go_wp2_with fail
  refine H.out.mono ?_
  rintro e w' ⟨rfl, rfl⟩
  go_wp2
  go_ret
  exact ⟨rfl, rfl⟩
theorem suit_any (n : Int) (w : World) (h1 : 0 ≤ n) (h2 : n ≤ 51) : Calls Try.prog 84 #[.int .i64 n] w fun e w' => e = .returned (.int .i64 (n / 13)) ∧ w = w' := by
  go_enter Try.func84, Try.ntmps84
  go_wp2
  go_ret
  exact ⟨rfl, rfl⟩
set_option maxHeartbeats 1000000 in
theorem wins_impl (a b c : Int) (w : World) (a0 : 0 ≤ a) (a1 : a ≤ 51) (b0 : 0 ≤ b) (b1 : b ≤ 51) : Calls Try.prog 50 #[.int .i64 a, .int .i64 b, .int .i64 c] w fun e w' => e = .returned (.bool (winF a b c)) ∧ w = w' := by
  unfold winF
  have Hs := Lib.hid (fun z => suit_any b z b0 b1)
  have Ht := Lib.hid (fun z => suit_any a z a0 a1)
  by_cases h : b / 13 = a / 13
  · rw [if_pos h]
    rw [h] at Hs
    generalize a / 13 = q at *
    clear h
    go_enter Try.func50, Try.ntmps50
    go_wp2_with fail
    refine (Hs.out _).mono ?_
    rintro e w' ⟨rfl, rfl⟩
    go_wp2_with fail
    refine (Ht.out _).mono ?_
    rintro e w' ⟨rfl, rfl⟩
    go_wp2
    go_ret
    exact ⟨rfl, rfl⟩
  · rw [if_neg h]
    have d : (b / 13 == a / 13) = false := by simpa using h
    clear h
    generalize a / 13 = q at *
    generalize b / 13 = r at *
    go_enter Try.func50, Try.ntmps50
    go_wp2_with fail
    refine (Hs.out _).mono ?_
    rintro e w' ⟨rfl, rfl⟩
    go_wp2_with fail
    refine (Ht.out _).mono ?_
    rintro e w' ⟨rfl, rfl⟩
    go_wp2_with fail
    refine (Hs.out _).mono ?_
    rintro e w' ⟨rfl, rfl⟩
    go_wp2
    go_ret
    exact ⟨ret_bool (by rw [Bool.eq_iff_iff]; simp), rfl⟩
set_option maxHeartbeats 1000000 in
theorem wins_spec (a b c : Int) (w : World) (a0 : 0 ≤ a) (a1 : a ≤ 51) (b0 : 0 ≤ b) (b1 : b ≤ 51) : Calls Try.prog 47 #[.int .i64 a, .int .i64 b, .int .i64 c] w fun e w' => e = .returned (.bool (winF a b c)) ∧ w = w' := by
  unfold winF
  by_cases h : b / 13 = a / 13
  · rw [if_pos h]
    have d : (a / 13 == b / 13) = true := by simpa using h.symm
    clear h
    go_enter Try.func47, Try.ntmps47
    go_wp2
    go_ret
    exact ⟨rfl, rfl⟩
  · rw [if_neg h]
    have d : (a / 13 == b / 13) = false := by simpa using fun e => h e.symm
    clear h
    go_enter Try.func47, Try.ntmps47
    go_wp2
    go_ret
    exact ⟨ret_bool (by rw [Bool.eq_iff_iff]; simp), rfl⟩
set_option maxHeartbeats 1000000 in
theorem impl_WinsTrick (a : Int) (al : -9223372036854775808 ≤ a) (au : a ≤ 9223372036854775807) (b : Int) (bl : -9223372036854775808 ≤ b) (bu : b ≤ 9223372036854775807) (c : Int) (cl : -9223372036854775808 ≤ c) (cu : c ≤ 9223372036854775807) (w : World) :
    Calls Try.prog 16 #[.int .i64 a, .int .i64 b, .int .i64 c] w fun e w' => e = .returned (.tuple #[.bool (res_WinsTrick a b c), .bool (ok_WinsTrick a b c)]) ∧ Below w.heap.size w w' := by
  unfold res_WinsTrick ok_WinsTrick
  by_cases ha : 0 ≤ a ∧ a ≤ 51
  · by_cases hb : 0 ≤ b ∧ b ≤ 51
    · by_cases hab : b = a
      · obtain rfl := hab
        have hk : ¬ okWT b b c := by unfold okWT; omega
        rw [if_neg hk, decide_eq_false hk]
        clear hk
        have H1 := Lib.hid (card_yes b w ha.1 ha.2)
        have H2 := H1
        clear ha hb
        go_enter Try.func16, Try.ntmps16
        go_wp2_with fail
        refine H1.out.mono ?_
        rintro e w' ⟨rfl, rfl⟩
        go_wp2_with fail
        refine H2.out.mono ?_
        rintro e w' ⟨rfl, rfl⟩
        go_wp2
        go_ret2
        exact ⟨rfl, Below.refl _ _⟩
      · by_cases hc : -1 ≤ c ∧ c ≤ 3
        · have hk : okWT a b c := ⟨ha, hb, hab, hc⟩
          rw [if_pos hk, decide_eq_true hk]
          clear hk
          have H1 := Lib.hid (card_yes a w ha.1 ha.2)
          have H2 := Lib.hid (card_yes b w hb.1 hb.2)
          have H4 := Lib.hid (trump_yes c w hc.1 hc.2)
          have HW := Lib.hid (wins_impl a b c w ha.1 ha.2 hb.1 hb.2)
          have d1 : (b == a) = false := by simpa using hab
          have d2 : (a == b) = false := by simpa using fun e => hab e.symm
          clear ha hb hab hc
          go_enter Try.func16, Try.ntmps16
          go_wp2_with fail
          refine H1.out.mono ?_
          rintro e w' ⟨rfl, rfl⟩
          go_wp2_with fail
          refine H2.out.mono ?_
          rintro e w' ⟨rfl, rfl⟩
          go_wp2_with fail
          refine H4.out.mono ?_
          rintro e w' ⟨rfl, rfl⟩
          go_wp2_with fail
          refine HW.out.mono ?_
          rintro e w' ⟨rfl, rfl⟩
          go_wp2
          go_ret2
          exact ⟨rfl, Below.refl _ _⟩
        · have hk : ¬ okWT a b c := by unfold okWT; omega
          rw [if_neg hk, decide_eq_false hk]
          clear hk
          have H1 := Lib.hid (card_yes a w ha.1 ha.2)
          have H2 := Lib.hid (card_yes b w hb.1 hb.2)
          have H4 := Lib.hid (trump_no c w (by omega))
          have d1 : (b == a) = false := by simpa using hab
          have d2 : (a == b) = false := by simpa using fun e => hab e.symm
          clear ha hb hab hc
          go_enter Try.func16, Try.ntmps16
          go_wp2_with fail
          refine H1.out.mono ?_
          rintro e w' ⟨rfl, rfl⟩
          go_wp2_with fail
          refine H2.out.mono ?_
          rintro e w' ⟨rfl, rfl⟩
          go_wp2_with fail
          refine H4.out.mono ?_
          rintro e w' ⟨rfl, rfl⟩
          go_wp2
          go_ret2
          exact ⟨rfl, Below.refl _ _⟩
    · have hk : ¬ okWT a b c := by unfold okWT; omega
      rw [if_neg hk, decide_eq_false hk]
      clear hk
      have H1 := Lib.hid (card_yes a w ha.1 ha.2)
      have H2 := Lib.hid (card_no b w (by omega))
      clear ha hb
      go_enter Try.func16, Try.ntmps16
      go_wp2_with fail
      refine H1.out.mono ?_
      rintro e w' ⟨rfl, rfl⟩
      go_wp2_with fail
      refine H2.out.mono ?_
      rintro e w' ⟨rfl, rfl⟩
      go_wp2
      go_ret2
      exact ⟨rfl, Below.refl _ _⟩
  · have hk : ¬ okWT a b c := by unfold okWT; omega
    rw [if_neg hk, decide_eq_false hk]
    clear hk
    have H1 := Lib.hid (card_no a w (by omega))
    clear ha
    go_enter Try.func16, Try.ntmps16
    go_wp2_with fail
    refine H1.out.mono ?_
    rintro e w' ⟨rfl, rfl⟩
    go_wp2
    go_ret2
    exact ⟨rfl, Below.refl _ _⟩
set_option maxHeartbeats 1000000 in
theorem spec_WinsTrick (a : Int) (al : -9223372036854775808 ≤ a) (au : a ≤ 9223372036854775807) (b : Int) (bl : -9223372036854775808 ≤ b) (bu : b ≤ 9223372036854775807) (c : Int) (cl : -9223372036854775808 ≤ c) (cu : c ≤ 9223372036854775807) (w : World) :
    Calls Try.prog 15 #[.int .i64 a, .int .i64 b, .int .i64 c] w fun e w' => e = .returned (.tuple #[.bool (res_WinsTrick a b c), .bool (ok_WinsTrick a b c)]) ∧ Below w.heap.size w w' := by
  unfold res_WinsTrick ok_WinsTrick
  by_cases ha : 0 ≤ a ∧ a ≤ 51
  · by_cases hb : 0 ≤ b ∧ b ≤ 51
    · by_cases hab : b = a
      · obtain rfl := hab
        have hk : ¬ okWT b b c := by unfold okWT; omega
        rw [if_neg hk, decide_eq_false hk]
        clear hk
        have H1 := Lib.hid (in_yes b (0) 51 w ha.1 ha.2)
        have H2 := H1
        clear ha hb
        go_enter Try.func15, Try.ntmps15
        go_wp2_with fail
        refine H1.out.mono ?_
        rintro e w' ⟨rfl, rfl⟩
        go_wp2_with fail
        refine H2.out.mono ?_
        rintro e w' ⟨rfl, rfl⟩
        go_wp2
        go_ret2
        exact ⟨rfl, Below.refl _ _⟩
      · by_cases hc : -1 ≤ c ∧ c ≤ 3
        · have hk : okWT a b c := ⟨ha, hb, hab, hc⟩
          rw [if_pos hk, decide_eq_true hk]
          clear hk
          have H1 := Lib.hid (in_yes a (0) 51 w ha.1 ha.2)
          have H2 := Lib.hid (in_yes b (0) 51 w hb.1 hb.2)
          have H4 := Lib.hid (in_yes c (-1) 3 w hc.1 hc.2)
          have HW := Lib.hid (wins_spec a b c w ha.1 ha.2 hb.1 hb.2)
          have d1 : (b == a) = false := by simpa using hab
          have d2 : (a == b) = false := by simpa using fun e => hab e.symm
          clear ha hb hab hc
          go_enter Try.func15, Try.ntmps15
          go_wp2_with fail
          refine H1.out.mono ?_
          rintro e w' ⟨rfl, rfl⟩
          go_wp2_with fail
          refine H2.out.mono ?_
          rintro e w' ⟨rfl, rfl⟩
          go_wp2_with fail
          refine H4.out.mono ?_
          rintro e w' ⟨rfl, rfl⟩
          go_wp2_with fail
          refine HW.out.mono ?_
          rintro e w' ⟨rfl, rfl⟩
          go_wp2
          go_ret2
          exact ⟨rfl, Below.refl _ _⟩
        · have hk : ¬ okWT a b c := by unfold okWT; omega
          rw [if_neg hk, decide_eq_false hk]
          clear hk
          have H1 := Lib.hid (in_yes a (0) 51 w ha.1 ha.2)
          have H2 := Lib.hid (in_yes b (0) 51 w hb.1 hb.2)
          have H4 := Lib.hid (in_no c (-1) 3 w (by omega))
          have d1 : (b == a) = false := by simpa using hab
          have d2 : (a == b) = false := by simpa using fun e => hab e.symm
          clear ha hb hab hc
          go_enter Try.func15, Try.ntmps15
          go_wp2_with fail
          refine H1.out.mono ?_
          rintro e w' ⟨rfl, rfl⟩
          go_wp2_with fail
          refine H2.out.mono ?_
          rintro e w' ⟨rfl, rfl⟩
          go_wp2_with fail
          refine H4.out.mono ?_
          rintro e w' ⟨rfl, rfl⟩
          go_wp2
          go_ret2
          exact ⟨rfl, Below.refl _ _⟩
    · have hk : ¬ okWT a b c := by unfold okWT; omega
      rw [if_neg hk, decide_eq_false hk]
      clear hk
      have H1 := Lib.hid (in_yes a (0) 51 w ha.1 ha.2)
      have H2 := Lib.hid (in_no b (0) 51 w (by omega))
      clear ha hb
      go_enter Try.func15, Try.ntmps15
      go_wp2_with fail
      refine H1.out.mono ?_
      rintro e w' ⟨rfl, rfl⟩
      go_wp2_with fail
      refine H2.out.mono ?_
      rintro e w' ⟨rfl, rfl⟩
      go_wp2
      go_ret2
      exact ⟨rfl, Below.refl _ _⟩
  · have hk : ¬ okWT a b c := by unfold okWT; omega
    rw [if_neg hk, decide_eq_false hk]
    clear hk
    have H1 := Lib.hid (in_no a (0) 51 w (by omega))
    clear ha
    go_enter Try.func15, Try.ntmps15
    go_wp2_with fail
    refine H1.out.mono ?_
    rintro e w' ⟨rfl, rfl⟩
    go_wp2
    go_ret2
    exact ⟨rfl, Below.refl _ _⟩
end Go.Proofs.Ytglmahgbdgbbpaa
