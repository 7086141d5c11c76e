/- Contracts: the order of players, the model's, for every two lists. -/
import Derived.Test.YtfipcpbibmhjoaaAg
set_option linter.unusedVariables false
namespace Go.Proofs.Ytfipcpbibmhjoaa
open Go.RowKit
set_option maxRecDepth 100000 in
set_option maxHeartbeats 4000000 in
/-- a number is out of its bounds -/
theorem tie_out (s o : List Int) (vs vo : Value) (n : Nat) (w : World) (hs : Sl (Value.int .i64) 0 w vs s) (ho : Sl (Value.int .i64) 0 w vo o) (hn : s.length = n) (hl : o.length = n) (h2 : 2 ≤ n) (h16 : n ≤ 16) (hg : ¬ (allB 0 1000 s = true ∧ allB 0 1000000 o = true)) :
    Calls Try.prog 55 #[vs, vo] w fun e w' => ∃ r, e = .returned (.tuple #[r, .bool false]) ∧ Sw (Value.int .i64) 0 w' r [] w.heap.size w'.heap.size ∧ Below w.heap.size w w' := by
  obtain ⟨p1, cap1, rfl, hf1⟩ := hs
  obtain ⟨hcap1, b1, off1, rfl, hbs1, hc1⟩ := hf1 (by omega)
  obtain ⟨p2, cap2, rfl, hf2⟩ := ho
  obtain ⟨hcap2, b2, off2, rfl, hbs2, hc2⟩ := hf2 (by omega)
  have HG := Lib.hid (show ¬ ∀ k, k < n → rB (s.getD k 0) 0 1000 = true ∧ rB (o.getD k 0) 0 1000000 = true from fun h => hg ⟨allB_all (fun k hk => (h k (by omega)).1), allB_all (fun k hk => (h k (by omega)).2)⟩)
  have HC1 := Lib.hid hc1
  have HC2 := Lib.hid hc2
  clear hf1 hf2 hc1 hc2 hg
  rw [hn] at *
  rw [hl] at *
  clear hn hl
  go_enter Try.func55, Try.ntmps55
  go_wp2
  go_loopw [28] (fun iv wr => ∃ k : Nat, k ≤ n ∧ iv = .int .i64 (k : Int) ∧ Hid (∀ j, j < k → rB (s.getD j 0) 0 1000 = true ∧ rB (o.getD j 0) 0 1000000 = true) ∧ Hid (w = wr)) (fun iv _ => n - (intOf iv).toNat)
  case atStart => exact ⟨0, Nat.zero_le _, rfl, Lib.hid (fun j h => absurd h (by omega)), Lib.hid rfl⟩
  case round =>
    obtain ⟨k, hk, rfl, Hj, hw⟩ := hrel
    obtain rfl := hw.out
    by_cases hlt : k < n
    · have c1 := HC1.out k hlt
      have c2 := HC2.out k hlt
      have HN : Hid (rB (s.getD k 0) 0 1000 = true → rB (o.getD k 0) 0 1000000 = true → ∀ j, j < k + 1 → rB (s.getD j 0) 0 1000 = true ∧ rB (o.getD j 0) 0 1000000 = true) := Lib.hid (fun h1 h2 j hj => by
        by_cases e : j = k
        · rw [e]; exact ⟨h1, h2⟩
        · exact Hj.out j (by omega))
      cases q1 : rB (s.getD k 0) 0 1000
      · have HA := Lib.hid (fun z => inF_any q1 z)
        clear HN Hj HG q1
        generalize s.getD k 0 = x1 at *
        generalize o.getD k 0 = x2 at *
        go_wp2_with (go_at_call 79; (with_reducible refine (HA.out _).mono ?_); rintro e w' ⟨rfl, rfl⟩)
        go_ret2
        exact ⟨_, rfl, Sw.nil _ _ _ _ _ _ _, Below.refl _ _⟩
      · cases q2 : rB (o.getD k 0) 0 1000000
        · have HA := Lib.hid (fun z => inT_any q1 z)
          have HBo := Lib.hid (fun z => inF_any q2 z)
          clear HN Hj HG q1 q2
          generalize s.getD k 0 = x1 at *
          generalize o.getD k 0 = x2 at *
          go_wp2_with (first | (go_at_call 79; (with_reducible refine (HA.out _).mono ?_); rintro e w' ⟨rfl, rfl⟩) | (go_at_call 79; (with_reducible refine (HBo.out _).mono ?_); rintro e w' ⟨rfl, rfl⟩))
          go_ret2
          exact ⟨_, rfl, Sw.nil _ _ _ _ _ _ _, Below.refl _ _⟩
        · have HA := Lib.hid (fun z => inT_any q1 z)
          have HBo := Lib.hid (fun z => inT_any q2 z)
          have HN2 := Lib.hid (HN.out q1 q2)
          clear HN Hj q1 q2
          generalize hx1 : s.getD k 0 = x1 at c1 HA
          generalize hx2 : o.getD k 0 = x2 at c2 HBo
          clear hx1 hx2
          go_wp2_with (first | (go_at_call 79; (with_reducible refine (HA.out _).mono ?_); rintro e w' ⟨rfl, rfl⟩) | (go_at_call 79; (with_reducible refine (HBo.out _).mono ?_); rintro e w' ⟨rfl, rfl⟩))
          go_roundw
          case rel => exact ⟨k + 1, by omega, by go_num, HN2, Lib.hid (by first | trivial | rfl)⟩
          case measure => simp [intOf]; omega
    · obtain rfl : k = n := by omega
      exact absurd Hj.out HG.out
set_option maxRecDepth 100000 in
set_option maxHeartbeats 4000000 in
theorem tie_len (s o : List Int) (vs vo : Value) (w : World) (hs : Sl (Value.int .i64) 0 w vs s) (ho : Sl (Value.int .i64) 0 w vo o) (hg : ¬ (2 ≤ s.length ∧ s.length ≤ 16 ∧ o.length = s.length)) (hn1 : s.length ≤ 1048576) (hn2 : o.length ≤ 1048576) :
    Calls Try.prog 55 #[vs, vo] w fun e w' => ∃ r, e = .returned (.tuple #[r, .bool false]) ∧ Sw (Value.int .i64) 0 w' r [] w.heap.size w'.heap.size ∧ Below w.heap.size w w' := by
  obtain ⟨p1, cap1, rfl, -⟩ := hs
  obtain ⟨p2, cap2, rfl, -⟩ := ho
  generalize s.length = n at *
  generalize o.length = m at *
  by_cases h1 : n < 2
  · have d1 : decide ((n : Int) < 2) = true := decide_eq_true (by omega)
    clear hg
    go_enter Try.func55, Try.ntmps55
    go_wp2
    go_ret2
    exact ⟨_, rfl, Sw.nil _ _ _ _ _ _ _, Below.refl _ _⟩
  · have d1 : decide ((n : Int) < 2) = false := decide_eq_false (by omega)
    by_cases h3 : 16 < n
    · have d2 : decide ((16 : Int) < (n : Int)) = true := decide_eq_true (by omega)
      clear hg
      go_enter Try.func55, Try.ntmps55
      go_wp2
      go_ret2
      exact ⟨_, rfl, Sw.nil _ _ _ _ _ _ _, Below.refl _ _⟩
    · have d2 : decide ((16 : Int) < (n : Int)) = false := decide_eq_false (by omega)
      have hne : ((m : Int) != (n : Int)) = true := by simp; omega
      have hne2 : ((m : Int) = (n : Int)) = False := eq_false (by omega)
      have hne3 : (m = n) = False := eq_false (by omega)
      clear hg
      go_enter Try.func55, Try.ntmps55
      go_wp2
      go_ret2
      exact ⟨_, rfl, Sw.nil _ _ _ _ _ _ _, Below.refl _ _⟩
theorem spec_TieOrder (s : List Int) (vs : Value) (o : List Int) (vo : Value) (w : World) (hn1 : s.length ≤ 1048576) (hs : Sl (Value.int .i64) 0 w vs s) (hn2 : o.length ≤ 1048576) (ho : Sl (Value.int .i64) 0 w vo o) :
    Calls Try.prog 55 #[vs, vo] w fun e w' => ∃ r, e = .returned (.tuple #[r, .bool (ok_TieOrder s o)]) ∧ Sw (Value.int .i64) 0 w' r (res_TieOrder s o) w.heap.size w'.heap.size ∧ Below w.heap.size w w' := by
  cases hok : ok_TieOrder s o
  · rw [show res_TieOrder s o = [] by unfold res_TieOrder; rw [hok]; rfl]
    by_cases hlen : 2 ≤ s.length ∧ s.length ≤ 16 ∧ o.length = s.length
    · refine tie_out s o vs vo s.length w hs ho rfl hlen.2.2 hlen.1 hlen.2.1 (fun h => ?_)
      have : ok_TieOrder s o = true := by
        unfold ok_TieOrder rB
        rw [h.1, h.2, decide_eq_true hlen.2.2, decide_eq_true (show (2 : Int) ≤ (s.length : Int) by omega), decide_eq_true (show (s.length : Int) ≤ 16 by omega)]; rfl
      rw [hok] at this
      cases this
    · exact tie_len s o vs vo w hs ho hlen hn1 hn2
  · have h := hok
    unfold ok_TieOrder at h
    simp only [Bool.and_eq_true, decide_eq_true_eq] at h
    obtain ⟨h1, h2, h3, h4⟩ := h
    have h5 := rB_of h1
    refine (tie_spec s o vs vo s.length w hs ho rfl h2 h5.1 h5.2 h3 h4).mono ?_
    rintro e w' ⟨r, l, rfl, hl, hr, hb⟩
    exact ⟨r, rfl, by unfold res_TieOrder; rw [if_pos hok, tieL_eq hl]; exact hr, hb⟩
end Go.Proofs.Ytfipcpbibmhjoaa
