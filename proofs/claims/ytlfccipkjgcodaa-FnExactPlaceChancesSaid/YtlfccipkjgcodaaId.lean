/- Contracts: hands that a stack pays, in both texts. -/
import Derived.Test.YtlfccipkjgcodaaIa
import Derived.Test.YtlfccipkjgcodaaIc
set_option linter.unusedVariables false
namespace Go.Proofs.Ytlfccipkjgcodaa
open Go.RowKit

def stakesB (fs : List Int) : Bool := fs.all fun x => decide (0 ≤ x) && decide (x ≤ 1000000)
theorem stakesB_at {fs : List Int} (h : stakesB fs = true) (k : Nat) (hk : k < fs.length) : 0 ≤ fs.getD k 0 ∧ fs.getD k 0 ≤ 1000000 := by
  rw [getD_lt fs 0 k hk]
  have := List.all_eq_true.1 h _ (List.getElem_mem hk)
  simpa using this
theorem stakesB_of {fs : List Int} (h : ∀ k, k < fs.length → 0 ≤ fs.getD k 0 ∧ fs.getD k 0 ≤ 1000000) : stakesB fs = true := by
  refine List.all_eq_true.2 fun x hx => ?_
  obtain ⟨i, hi, rfl⟩ := List.getElem_of_mem hx
  have := h i hi
  rw [getD_lt fs 0 i hi] at this
  simpa using this
theorem stakesB_bad {fs : List Int} (k : Nat) (hk : k < fs.length) (h : fs.getD k 0 < 0 ∨ 1000000 < fs.getD k 0) : stakesB fs = false := by
  rw [Bool.eq_false_iff]; intro h'; have := stakesB_at h' k hk; omega
theorem stakes_any (fs : List Int) (v : Value) (w : World) (hn : fs.length ≤ 1048576) (h : Sl (Value.int .i64) 0 w v fs) :
    Calls Try.prog 56 #[v] w fun e w' => e = .returned (.bool (stakesB fs)) ∧ w = w' := by
  obtain ⟨p, cap, rfl, hf⟩ := h
  have Hf := Lib.hid hf
  have Hat := Lib.hid (fun k hk g => stakesB_bad (fs := fs) k hk g)
  have Hof := Lib.hid (stakesB_of (fs := fs))
  clear hf
  generalize fs.length = n at *
  generalize stakesB fs = B at *
  go_enter Try.func56, Try.ntmps56
  go_wp2
  go_loop [7] (fun i => ∃ k : Nat, k ≤ n ∧ i = .int .i64 k ∧ Hid (∀ j, j < k → 0 ≤ fs.getD j 0 ∧ fs.getD j 0 ≤ 1000000)) (fun i => n - (intOf i).toNat)
  case atStart => exact ⟨0, Nat.zero_le _, rfl, fun j hj => absurd hj (by omega)⟩
  case round =>
    obtain ⟨k, hk, rfl, hp⟩ := hrel
    by_cases hlt : k < n
    · obtain ⟨hcap, b, off, rfl, hbs, hc⟩ := Hf.out (by omega)
      have c1 := hc k hlt
      clear hc
      by_cases hx : 0 ≤ fs.getD k 0 ∧ fs.getD k 0 ≤ 1000000
      · have Hp2 : Hid (∀ j, j < k + 1 → 0 ≤ fs.getD j 0 ∧ fs.getD j 0 ≤ 1000000) := Lib.hid (fun j hj => by
          by_cases e : j = k
          · subst e; exact hx
          · exact hp.out j (by omega))
        have Hs := Lib.hid (fun z => stake_yes (fs.getD k 0) z hx.1 hx.2)
        clear hx
        generalize fs.getD k 0 = x at *
        go_wp2_with (go_at_call 52; refine (Hs.out _).mono ?_; rintro e w' ⟨rfl, rfl⟩)
        go_round
        case rel => exact ⟨k + 1, by omega, by go_num, Hp2⟩
        case measure => simp [intOf]; omega
      · have Hs := Lib.hid (fun z => stake_no (fs.getD k 0) z (by omega))
        have HB := Lib.hid (Hat.out k hlt (by omega))
        clear hx
        generalize fs.getD k 0 = x at *
        go_wp2_with (go_at_call 52; refine (Hs.out _).mono ?_; rintro e w' ⟨rfl, rfl⟩)
        go_ret
        exact ⟨ret_bool HB.out.symm, rfl⟩
    · obtain rfl : k = n := by omega
      have HB := Lib.hid (Hof.out hp.out)
      go_wp2
      go_ret
      exact ⟨ret_bool HB.out.symm, rfl⟩

abbrev okH (a b c d e : Int) : Prop := ((0 ≤ a ∧ a ≤ 1000000) ∧ (0 ≤ b ∧ b ≤ 1000000) ∧ (0 ≤ c ∧ c ≤ 1000000) ∧ (0 ≤ d ∧ d ≤ 1000000)) ∧ (2 ≤ e ∧ e ≤ 6) ∧ 1 ≤ b + c + d

set_option maxHeartbeats 1000000 in
theorem hl_spec_yes (st small big ante : Int) (S N : Nat) (w : World) (hst : 0 ≤ st ∧ st ≤ 1000000) (hs : 0 ≤ small ∧ small ≤ 1000000) (hb : 0 ≤ big ∧ big ≤ 1000000) (ha : 0 ≤ ante ∧ ante ≤ 1000000) (hS : 2 ≤ S ∧ S ≤ 6) (h1 : 1 ≤ small + big + ante)
    (hN : N ≤ 7000000) (hp : ∀ i, i < N → costR big small ante S i ≤ st - preR (costR big small ante S) i) (hz : st - preR (costR big small ante S) N < costR big small ante S N) :
    Calls Try.prog 24 #[.int .i64 st, .int .i64 small, .int .i64 big, .int .i64 ante, .int .i64 (S : Int)] w fun e w' => e = .returned (.tuple #[.int .i64 (N : Int), .bool true]) ∧ Below w.heap.size w w' := by
  have H1 := Lib.hid (in_yes st 0 1000000 w hst.1 hst.2)
  have H2 := Lib.hid (in_yes small 0 1000000 w hs.1 hs.2)
  have H3 := Lib.hid (in_yes big 0 1000000 w hb.1 hb.2)
  have H4 := Lib.hid (in_yes ante 0 1000000 w ha.1 ha.2)
  have H5 := Lib.hid (in_yes (S : Int) 2 6 w (by omega) (by omega))
  have Hp := Lib.hid hp
  have Hz := Lib.hid hz
  have Hc0 : Hid (∀ k, k % S = 0 → costR big small ante S k = ante + big) := Lib.hid (fun k e => by unfold costR; rw [if_pos e])
  have Hc1 : Hid (∀ k, k % S = 1 → costR big small ante S k = ante + small) := Lib.hid (fun k e => by unfold costR; rw [if_neg (by omega), if_pos e])
  have Hc2 : Hid (∀ k, k % S ≠ 0 → k % S ≠ 1 → costR big small ante S k = ante) := Lib.hid (fun k e f => by unfold costR; rw [if_neg e, if_neg f])
  have Hst := Lib.hid (fun k => (show preR (costR big small ante S) (k + 1) = preR (costR big small ante S) k + costR big small ante S k from rfl))
  have Hp0 := Lib.hid (show preR (costR big small ante S) 0 = 0 from rfl)
  have Hnn := Lib.hid (fun k => preR_mono (costR big small ante S) (fun n => costR_nn big small ante S n hb.1 hs.1 ha.1) 0 k)
  have Hle : Hid (∀ k, k ≤ N → 0 ≤ st - preR (costR big small ante S) k) := Lib.hid (fun k hk => by
    cases k with
    | zero => rw [Hp0.out]; omega
    | succ k => have := Hp.out k hk; rw [Hst.out]; omega)
  clear hp hz
  obtain ⟨hst0, hst1⟩ := hst
  obtain ⟨hs0, hs1⟩ := hs
  obtain ⟨hb0, hb1⟩ := hb
  obtain ⟨ha0, ha1⟩ := ha
  obtain ⟨hS2, hS6⟩ := hS
  have hSi : (1 : Int) ≤ (S : Int) := by omega
  have z0 : (small + big + ante == 0) = false := by
    rw [Bool.eq_false_iff]; intro e; rw [beq_iff_eq] at e; omega
  go_enter Try.func24, Try.ntmps24
  go_wp2_with fail
  refine H1.out.mono ?_
  rintro e w' ⟨rfl, rfl⟩
  go_wp2_with fail
  refine H2.out.mono ?_
  rintro e w' ⟨rfl, rfl⟩
  go_wp2_with fail
  refine H3.out.mono ?_
  rintro e w' ⟨rfl, rfl⟩
  go_wp2_with fail
  refine H4.out.mono ?_
  rintro e w' ⟨rfl, rfl⟩
  go_wp2_with fail
  refine H5.out.mono ?_
  rintro e w' ⟨rfl, rfl⟩
  go_wp2
  go_loop [0, 12] (fun x i => ∃ k : Nat, k ≤ N ∧ i = .int .i64 k ∧ x = .int .i64 (st - preR (costR big small ante S) k)) (fun _ i => N - (intOf i).toNat)
  case atStart => exact ⟨0, Nat.zero_le _, rfl, by rw [Hp0.out]; go_num⟩
  case round =>
    obtain ⟨k, hk, rfl, rfl⟩ := hrel
    have x0 := Hle.out k hk
    have x1 := Hnn.out k
    rw [Hp0.out, Nat.zero_add] at x1
    have hkm : (k : Int) % (S : Int) = ((k % S : Nat) : Int) := rfl
    have Hs := Lib.hid (Hst.out k)
    by_cases hlt : k < N
    · have hpk := Hp.out k hlt
      by_cases e0 : k % S = 0
      · rw [Hc0.out k e0] at Hs hpk
        rw [e0] at hkm
        generalize preR (costR big small ante S) k = Q at *
        clear e0
        go_wp2
        go_round
        case rel => exact ⟨k + 1, by omega, by go_num, by rw [Hs.out]; go_num⟩
        case measure => simp [intOf]; omega
      · by_cases e1 : k % S = 1
        · rw [Hc1.out k e1] at Hs hpk
          rw [e1] at hkm
          generalize preR (costR big small ante S) k = Q at *
          clear e0 e1
          go_wp2
          go_round
          case rel => exact ⟨k + 1, by omega, by go_num, by rw [Hs.out]; go_num⟩
          case measure => simp [intOf]; omega
        · rw [Hc2.out k e0 e1] at Hs hpk
          generalize preR (costR big small ante S) k = Q at *
          have f0 : (((k % S : Nat) : Int) == 0) = false := by rw [Bool.eq_false_iff]; intro e; rw [beq_iff_eq] at e; omega
          have f1 : (((k % S : Nat) : Int) == 1) = false := by rw [Bool.eq_false_iff]; intro e; rw [beq_iff_eq] at e; omega
          have g0 : (((k % S : Nat) : Int) = 0) = False := eq_false (by omega)
          have g1 : (((k % S : Nat) : Int) = 1) = False := eq_false (by omega)
          generalize k % S = m at *
          clear e0 e1
          go_wp2
          go_round
          case rel => exact ⟨k + 1, by omega, by go_num, by rw [Hs.out]; go_num⟩
          case measure => simp [intOf]; omega
    · obtain rfl : k = N := by omega
      have hpk := Hz.out
      by_cases e0 : k % S = 0
      · rw [Hc0.out k e0] at hpk
        rw [e0] at hkm
        generalize preR (costR big small ante S) k = Q at *
        clear e0
        go_wp2
        go_ret2
        exact ⟨rfl, Below.refl _ _⟩
      · by_cases e1 : k % S = 1
        · rw [Hc1.out k e1] at hpk
          rw [e1] at hkm
          generalize preR (costR big small ante S) k = Q at *
          clear e0 e1
          go_wp2
          go_ret2
          exact ⟨rfl, Below.refl _ _⟩
        · rw [Hc2.out k e0 e1] at hpk
          generalize preR (costR big small ante S) k = Q at *
          have f0 : (((k % S : Nat) : Int) == 0) = false := by rw [Bool.eq_false_iff]; intro e; rw [beq_iff_eq] at e; omega
          have f1 : (((k % S : Nat) : Int) == 1) = false := by rw [Bool.eq_false_iff]; intro e; rw [beq_iff_eq] at e; omega
          have g0 : (((k % S : Nat) : Int) = 0) = False := eq_false (by omega)
          have g1 : (((k % S : Nat) : Int) = 1) = False := eq_false (by omega)
          generalize k % S = m at *
          clear e0 e1
          go_wp2
          go_ret2
          exact ⟨rfl, Below.refl _ _⟩

theorem four (x0 x1 x2 x3 : Int) (w : World) (t : TypeId) : Sl (Value.int .i64) 0 (w.alloc (.cells #[.int .i64 x0, .int .i64 x1, .int .i64 x2, .int .i64 x3] t)) (.slice (some ⟨w.heap.size, 0, none⟩) 4 4) [x0, x1, x2, x3] := by
  refine ⟨_, 4, rfl, fun _ => ⟨by simp, w.heap.size, 0, rfl, by simp, fun i hi => ?_⟩⟩
  have hi' : i < 4 := hi
  obtain rfl | rfl | rfl | rfl : i = 0 ∨ i = 1 ∨ i = 2 ∨ i = 3 := by omega
  all_goals go_simp

set_option maxHeartbeats 1000000 in
theorem hl_impl_yes (st small big ante : Int) (S q t : Nat) (R L : Int) (w : World) (hst : 0 ≤ st ∧ st ≤ 1000000) (hs : 0 ≤ small ∧ small ≤ 1000000) (hb : 0 ≤ big ∧ big ≤ 1000000) (ha : 0 ≤ ante ∧ ante ≤ 1000000) (hS : 2 ≤ S ∧ S ≤ 6)
    (hR : (S : Int) * ante + big + small = R) (hR0 : 1 ≤ R) (hR1 : R ≤ 8000000) (hq : (q : Int) = st / R) (hq1 : q ≤ 1000000) (hL : L = st % R) (hL0 : 0 ≤ L) (hL1 : L ≤ 1000000) (ht : t < S)
    (hp : ∀ i, i < t → costR big small ante S i ≤ L - preR (costR big small ante S) i) (hz : L - preR (costR big small ante S) t < costR big small ante S t) :
    Calls Try.prog 25 #[.int .i64 st, .int .i64 small, .int .i64 big, .int .i64 ante, .int .i64 (S : Int)] w fun e w' => e = .returned (.tuple #[.int .i64 ((q : Int) * (S : Int) + (t : Int)), .bool true]) ∧ Below w.heap.size w w' := by
  have Hk := Lib.hid (fun z => stakes_any [st, small, big, ante] _ (z.alloc (.cells #[.int .i64 st, .int .i64 small, .int .i64 big, .int .i64 ante] 2)) (by simp) (four st small big ante z 2))
  have hB : stakesB [st, small, big, ante] = true := by simp [stakesB]; omega
  rw [hB] at Hk
  clear hB
  have Hp := Lib.hid hp
  have Hz := Lib.hid hz
  have Hc0 : Hid (costR big small ante S 0 = ante + big) := Lib.hid (by unfold costR; rw [if_pos (Nat.zero_mod _)])
  have Hc1 : Hid (costR big small ante S 1 = ante + small) := Lib.hid (by unfold costR; rw [if_neg (by rw [Nat.mod_eq_of_lt (by omega)]; omega), if_pos (Nat.mod_eq_of_lt (by omega))])
  have Hc2 : Hid (∀ k, k < S → k ≠ 0 → k ≠ 1 → costR big small ante S k = ante) := Lib.hid (fun k hk e f => by unfold costR; rw [Nat.mod_eq_of_lt hk, if_neg e, if_neg f])
  have Hst := Lib.hid (fun k => (show preR (costR big small ante S) (k + 1) = preR (costR big small ante S) k + costR big small ante S k from rfl))
  have Hp0 := Lib.hid (show preR (costR big small ante S) 0 = 0 from rfl)
  have Hnn := Lib.hid (fun k => preR_mono (costR big small ante S) (fun n => costR_nn big small ante S n hb.1 hs.1 ha.1) 0 k)
  have Hle : Hid (∀ k, k ≤ t → 0 ≤ L - preR (costR big small ante S) k) := Lib.hid (fun k hk => by
    cases k with
    | zero => rw [Hp0.out]; omega
    | succ k => have := Hp.out k hk; rw [Hst.out]; omega)
  clear hp hz
  obtain ⟨hst0, hst1⟩ := hst
  obtain ⟨hs0, hs1⟩ := hs
  obtain ⟨hb0, hb1⟩ := hb
  obtain ⟨ha0, ha1⟩ := ha
  obtain ⟨hS2, hS6⟩ := hS
  have dS1 : decide ((S : Int) < 2) = false := decide_eq_false (by omega)
  have dS2 : decide (6 < (S : Int)) = false := decide_eq_false (by omega)
  have m1 : 0 ≤ (S : Int) * ante ∧ (S : Int) * ante ≤ 6000000 := by
    obtain rfl | rfl | rfl | rfl | rfl : S = 2 ∨ S = 3 ∨ S = 4 ∨ S = 5 ∨ S = 6 := by omega
    all_goals constructor <;> simp <;> omega
  obtain ⟨m10, m11⟩ := m1
  have m2 : 0 ≤ (q : Int) * (S : Int) ∧ (q : Int) * (S : Int) ≤ 6000000 := by
    obtain rfl | rfl | rfl | rfl | rfl : S = 2 ∨ S = 3 ∨ S = 4 ∨ S = 5 ∨ S = 6 := by omega
    all_goals constructor <;> simp <;> omega
  obtain ⟨m20, m21⟩ := m2
  have rz : (R == 0) = false := by rw [Bool.eq_false_iff]; intro e; rw [beq_iff_eq] at e; omega
  have hq' := hq.symm
  have hL' := hL.symm
  clear hq hL
  go_enter Try.func25, Try.ntmps25
  go_wp2_with (go_at_call 56; refine (Hk.out _).mono ?_; rintro e w' ⟨rfl, rfl⟩)
  go_region
  go_wp2
  go_loop [14, 15] (fun l s => ∃ k : Nat, k ≤ t ∧ s = .int .i64 (k : Int) ∧ l = .int .i64 (L - preR (costR big small ante S) k)) (fun _ s => t - (intOf s).toNat)
  case atStart => exact ⟨0, Nat.zero_le _, rfl, by rw [Hp0.out]; go_num⟩
  case round =>
    obtain ⟨k, hk, rfl, rfl⟩ := hrel
    have x0 := Hle.out k hk
    have x1 := Hnn.out k
    rw [Hp0.out, Nat.zero_add] at x1
    have Hs := Lib.hid (Hst.out k)
    by_cases hlt : k < t
    · have hpk := Hp.out k hlt
      by_cases e0 : k = 0
      · have ek : (k : Int) = 0 := by omega
        rw [e0, Hc0.out, ← e0] at hpk
        rw [show costR big small ante S k = ante + big by rw [e0]; exact Hc0.out] at Hs
        generalize preR (costR big small ante S) k = Q at *
        clear e0
        go_wp2
        go_round
        case rel => exact ⟨k + 1, by omega, congrArg (Value.int .i64) (by omega), by rw [Hs.out]; go_num⟩
        case measure => simp [intOf]; omega
      · by_cases e1 : k = 1
        · have ek : (k : Int) = 1 := by omega
          rw [e1, Hc1.out, ← e1] at hpk
          rw [show costR big small ante S k = ante + small by rw [e1]; exact Hc1.out] at Hs
          generalize preR (costR big small ante S) k = Q at *
          clear e0 e1
          go_wp2
          go_round
          case rel => exact ⟨k + 1, by omega, congrArg (Value.int .i64) (by omega), by rw [Hs.out]; go_num⟩
          case measure => simp [intOf]; omega
        · rw [Hc2.out k (by omega) e0 e1] at Hs hpk
          generalize preR (costR big small ante S) k = Q at *
          have f0 : ((k : Int) == 0) = false := by rw [Bool.eq_false_iff]; intro e; rw [beq_iff_eq] at e; omega
          have f1 : ((k : Int) == 1) = false := by rw [Bool.eq_false_iff]; intro e; rw [beq_iff_eq] at e; omega
          have g0 : ((k : Int) = 0) = False := eq_false (by omega)
          have g1 : ((k : Int) = 1) = False := eq_false (by omega)
          clear e0 e1
          go_wp2
          go_round
          case rel => exact ⟨k + 1, by omega, by go_num, by rw [Hs.out]; go_num⟩
          case measure => simp [intOf]; omega
    · obtain rfl : k = t := by omega
      have hpk := Hz.out
      by_cases e0 : k = 0
      · have ek : (k : Int) = 0 := by omega
        rw [e0, Hc0.out, ← e0] at hpk
        generalize preR (costR big small ante S) k = Q at *
        clear e0
        go_wp2
        go_ret2
        exact ⟨ret2i (by omega), below_drewN ((Below.refl _ _).alloc (Nat.le_refl _) _) _⟩
      · by_cases e1 : k = 1
        · have ek : (k : Int) = 1 := by omega
          rw [e1, Hc1.out, ← e1] at hpk
          generalize preR (costR big small ante S) k = Q at *
          clear e0 e1
          go_wp2
          go_ret2
          exact ⟨ret2i (by omega), below_drewN ((Below.refl _ _).alloc (Nat.le_refl _) _) _⟩
        · rw [Hc2.out k (by omega) e0 e1] at hpk
          generalize preR (costR big small ante S) k = Q at *
          have f0 : ((k : Int) == 0) = false := by rw [Bool.eq_false_iff]; intro e; rw [beq_iff_eq] at e; omega
          have f1 : ((k : Int) == 1) = false := by rw [Bool.eq_false_iff]; intro e; rw [beq_iff_eq] at e; omega
          have g0 : ((k : Int) = 0) = False := eq_false (by omega)
          have g1 : ((k : Int) = 1) = False := eq_false (by omega)
          clear e0 e1
          go_wp2
          go_ret2
          exact ⟨rfl, below_drewN ((Below.refl _ _).alloc (Nat.le_refl _) _) _⟩
end Go.Proofs.Ytlfccipkjgcodaa
