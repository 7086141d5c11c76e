/- Contracts: decks of ranks, whole. -/
import Derived.Test.YtcoehcoohppbjaaUg
import Derived.Test.YtcoehcoohppbjaaUi
set_option linter.unusedVariables false
namespace Go.Proofs.Ytcoehcoohppbjaa
open Go.RowKit
def rkOk (a b : Int) : Prop := 1 ≤ a ∧ a ≤ 20 ∧ 0 ≤ b ∧ b.toNat < fct a.toNat
instance (a b : Int) : Decidable (rkOk a b) := by unfold rkOk; infer_instance
def ok_DeckOfRank (a b : Int) : Bool := decide (rkOk a b)
def res_DeckOfRank (a b : Int) : List Int := if rkOk a b then tab a.toNat (rkG a.toNat b.toNat) else []
theorem rkk_yes (a b : Int) (h : rkOk a b) : ok_DeckOfRank a b = true ∧ res_DeckOfRank a b = tab a.toNat (rkG a.toNat b.toNat) := ⟨decide_eq_true h, if_pos h⟩
theorem rkk_no (a b : Int) (h : ¬ rkOk a b) : ok_DeckOfRank a b = false ∧ res_DeckOfRank a b = [] := ⟨decide_eq_false h, if_neg h⟩
theorem len_DeckOfRank (a b : Int) : (res_DeckOfRank a b).length ≤ 1048576 := by
  unfold res_DeckOfRank
  split
  · rename_i h
    rw [tab_len]; have := h.2.1; omega
  · exact Nat.zero_le _
set_option maxHeartbeats 1000000 in
theorem rk_spec_no (a b : Int) (w : World) (h : ¬ rkOk a b) :
    Calls Try.prog 58 #[.int .i64 a, .int .i64 b] w fun e w' => ∃ v, e = .returned (.tuple #[v, .bool false]) ∧ Sw (Value.int .i64) 0 w' v [] w.heap.size w'.heap.size ∧ Below w.heap.size w w' := by
  by_cases ha : 1 ≤ a ∧ a ≤ 20
  · obtain ⟨n, rfl⟩ : ∃ n : Nat, a = n := ⟨a.toNat, by omega⟩
    have hb : b < 0 ∨ ((fct n : Nat) : Int) - 1 < b := by
      by_cases h0 : 0 ≤ b
      · right
        have : ¬ b.toNat < fct n := fun h1 => h ⟨ha.1, ha.2, h0, by rw [Int.toNat_natCast]; exact h1⟩
        omega
      · exact .inl (by omega)
    have Hin := Lib.hid (fun z => in_yes (n : Int) 1 20 z (by omega) (by omega))
    have Hin2 := Lib.hid (fun z => in_no b 0 (((fct n : Nat) : Int) - 1) z hb)
    have Hpn := Lib.hid (fun z => product_any n z (by omega))
    have hfn := fct_20 n (by omega)
    generalize fct n = Fn at *
    clear h hb
    go_enter Try.func58, Try.ntmps58
    go_wp2_with (first | (go_at_call 83; first | (with_reducible refine (Hin.out _).mono ?_; rintro e w' ⟨rfl, rfl⟩) | (with_reducible refine (Hin2.out _).mono ?_; rintro e w' ⟨rfl, rfl⟩)) | (go_at_call 106; refine (Hpn.out _).mono ?_; rintro e w' ⟨rfl, rfl⟩))
    go_ret2
    exact ⟨_, rfl, Sw.nil _ _ _ _ _ _ _, Below.refl _ _⟩
  · have Hin := Lib.hid (fun z => in_no a 1 20 z (by omega))
    clear h ha
    go_enter Try.func58, Try.ntmps58
    go_wp2_with (go_at_call 83; refine (Hin.out _).mono ?_; rintro e w' ⟨rfl, rfl⟩)
    go_ret2
    exact ⟨_, rfl, Sw.nil _ _ _ _ _ _ _, Below.refl _ _⟩
theorem spec_DeckOfRank (a : Int) (al : -9223372036854775808 ≤ a) (au : a ≤ 9223372036854775807) (b : Int) (bl : -9223372036854775808 ≤ b) (bu : b ≤ 9223372036854775807) (w : World) :
    Calls Try.prog 58 #[.int .i64 a, .int .i64 b] w fun e w' => ∃ r, e = .returned (.tuple #[r, .bool (ok_DeckOfRank a b)]) ∧ Sw (Value.int .i64) 0 w' r (res_DeckOfRank a b) w.heap.size w'.heap.size ∧ Below w.heap.size w w' := by
  by_cases h : rkOk a b
  · obtain ⟨e1, e2⟩ := rkk_yes a b h
    rw [e1, e2]
    obtain ⟨h1, h2, h3, h4⟩ := h
    obtain ⟨n, rfl⟩ : ∃ n : Nat, a = n := ⟨a.toNat, by omega⟩
    obtain ⟨r, rfl⟩ : ∃ r : Nat, b = r := ⟨b.toNat, by omega⟩
    rw [Int.toNat_natCast, Int.toNat_natCast] at *
    exact rk_spec n r w (by omega) (by omega) h4
  · obtain ⟨e1, e2⟩ := rkk_no a b h
    rw [e1, e2]
    exact rk_spec_no a b w h
set_option maxHeartbeats 1000000 in
theorem rk_impl_no (a b : Int) (bl : -9223372036854775808 ≤ b) (bu : b ≤ 9223372036854775807) (w : World) (h : ¬ (1 ≤ a ∧ a ≤ 20 ∧ 0 ≤ b)) :
    Calls Try.prog 59 #[.int .i64 a, .int .i64 b] w fun e w' => ∃ v, e = .returned (.tuple #[v, .bool false]) ∧ Sw (Value.int .i64) 0 w' v [] w.heap.size w'.heap.size ∧ Below w.heap.size w w' := by
  by_cases ha : 1 ≤ a ∧ a ≤ 52
  · obtain ⟨n, rfl⟩ : ∃ n : Nat, a = n := ⟨a.toNat, by omega⟩
    have Hn := Lib.hid (new_impl_own n w (by omega) (by omega))
    by_cases h2 : n ≤ 20
    · have Hrs := Lib.hid (fun z => rsize_yes (n : Int) z (by omega) (by omega))
      have hb0 : decide (b < 0) = true := decide_eq_true (by omega)
      clear h
      go_enter Try.func59, Try.ntmps59
      go_wp2_with fail
      refine Hn.out.mono ?_
      rintro e w1 ⟨v, rfl, hs, hb⟩
      obtain ⟨b0, c0, rfl, hb0, hb1⟩ := hs.form (by omega)
      have Hb := Lib.hid hb
      have hsz := hb.size
      clear hs hb
      have HB1 := Lib.hid (Hb.out.alloc hsz (.cells #[.slice (some ⟨b0, 0, none⟩) n c0] 22))
      go_wp2_with (go_at_call 107; refine (Hrs.out _).mono ?_; rintro e w' ⟨rfl, rfl⟩)
      go_ret2
      exact ⟨_, rfl, Sw.nil _ _ _ _ _ _ _, HB1.out⟩
    · have Hrs := Lib.hid (fun z => rsize_no (n : Int) z (by omega))
      clear h
      go_enter Try.func59, Try.ntmps59
      go_wp2_with fail
      refine Hn.out.mono ?_
      rintro e w1 ⟨v, rfl, hs, hb⟩
      obtain ⟨b0, c0, rfl, hb0, hb1⟩ := hs.form (by omega)
      have Hb := Lib.hid hb
      have hsz := hb.size
      clear hs hb
      have HB1 := Lib.hid (Hb.out.alloc hsz (.cells #[.slice (some ⟨b0, 0, none⟩) n c0] 22))
      go_wp2_with (go_at_call 107; refine (Hrs.out _).mono ?_; rintro e w' ⟨rfl, rfl⟩)
      go_ret2
      exact ⟨_, rfl, Sw.nil _ _ _ _ _ _ _, HB1.out⟩
  · have N0 := Lib.hid (new_impl_no a w (by omega))
    clear h ha
    go_enter Try.func59, Try.ntmps59
    go_wp2_with fail
    refine N0.out.mono ?_
    rintro e w' ⟨rfl, rfl⟩
    go_wp2
    go_ret2
    exact ⟨_, rfl, Sw.nil _ _ _ _ _ _ _, (Below.refl _ _).alloc (Nat.le_refl _) _⟩
theorem impl_DeckOfRank (a : Int) (al : -9223372036854775808 ≤ a) (au : a ≤ 9223372036854775807) (b : Int) (bl : -9223372036854775808 ≤ b) (bu : b ≤ 9223372036854775807) (w : World) :
    Calls Try.prog 59 #[.int .i64 a, .int .i64 b] w fun e w' => ∃ r, e = .returned (.tuple #[r, .bool (ok_DeckOfRank a b)]) ∧ Sw (Value.int .i64) 0 w' r (res_DeckOfRank a b) w.heap.size w'.heap.size ∧ Below w.heap.size w w' := by
  by_cases h : 1 ≤ a ∧ a ≤ 20 ∧ 0 ≤ b
  · obtain ⟨n, rfl⟩ : ∃ n : Nat, a = n := ⟨a.toNat, by omega⟩
    obtain ⟨r, rfl⟩ : ∃ r : Nat, b = r := ⟨b.toNat, by omega⟩
    have e : ok_DeckOfRank (n : Int) (r : Int) = decide (r < fct n) ∧ res_DeckOfRank (n : Int) (r : Int) = if r < fct n then tab n (rkG n r) else [] := by
      by_cases hr : r < fct n
      · obtain ⟨e1, e2⟩ := rkk_yes (n : Int) (r : Int) ⟨h.1, h.2.1, h.2.2, by rw [Int.toNat_natCast, Int.toNat_natCast]; exact hr⟩
        rw [e1, e2, decide_eq_true hr, if_pos hr, Int.toNat_natCast, Int.toNat_natCast]
        exact ⟨rfl, rfl⟩
      · obtain ⟨e1, e2⟩ := rkk_no (n : Int) (r : Int) (fun hh => hr (by have := hh.2.2.2; rw [Int.toNat_natCast, Int.toNat_natCast] at this; exact this))
        rw [e1, e2, decide_eq_false hr, if_neg hr]
        exact ⟨rfl, rfl⟩
    rw [e.1, e.2]
    exact rk_impl n r w (by omega) (by omega) (by omega)
  · obtain ⟨e1, e2⟩ := rkk_no a b (fun hh => h ⟨hh.1, hh.2.1, hh.2.2.1⟩)
    rw [e1, e2]
    exact rk_impl_no a b bl bu w h
end Go.Proofs.Ytcoehcoohppbjaa
