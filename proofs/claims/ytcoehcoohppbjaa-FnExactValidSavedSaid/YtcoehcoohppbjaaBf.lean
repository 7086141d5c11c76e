/- Contracts: what is saved is valid, in both texts. -/
import Derived.Test.YtcoehcoohppbjaaBe
import Derived.Test.YtcoehcoohppbjaaBb
import Derived.Test.YtcoehcoohppbjaaMn
import Derived.Test.YtcoehcoohppbjaaName
set_option linter.unusedVariables false
namespace Go.Proofs.Ytcoehcoohppbjaa
open Go.RowKit
set_option maxHeartbeats 400000 in
theorem name7_spec (s : ByteArray) (hs : s.size ≤ maxLen) (w : World) :
    Calls Try.prog 126 #[.string s] w fun e w' => e = .returned (.bool (nameB s.data.toList)) ∧ w = w' := by
  unfold maxLen at hs
  go_enter Try.func126, Try.ntmps126
  go_wp2
  go_loop [3] (fun i => ∃ k : Nat, k ≤ s.size ∧ i = .int .i64 k ∧ Hid (∀ j (h : j < s.size), j < k → 97 ≤ s[j].toNat ∧ s[j].toNat ≤ 122)) (fun i => s.size - (intOf i).toNat)
  case atStart => exact ⟨0, Nat.zero_le _, rfl, fun j h hj => absurd hj (by omega)⟩
  case round =>
    obtain ⟨k, hk, rfl, ha⟩ := hrel
    by_cases hlt : k < s.size
    · by_cases h1 : (s[k].toNat : Int) < 97
      · have hbad := name_bad s k hlt (.inl (by omega))
        have Hbad := Lib.hid hbad
        have d1 : decide ((s[k].toNat : Int) < 97) = true := decide_eq_true h1
        clear hbad
        go_wp2
        go_ret
        exact ⟨ret_bool Hbad.out.symm, rfl⟩
      · have d1 : decide ((s[k].toNat : Int) < 97) = false := decide_eq_false h1
        by_cases h2 : 122 < (s[k].toNat : Int)
        · have hbad := name_bad s k hlt (.inr (by omega))
          have Hbad := Lib.hid hbad
          have d2 : decide (122 < (s[k].toNat : Int)) = true := decide_eq_true h2
          clear hbad
          go_wp2
          go_ret
          exact ⟨ret_bool Hbad.out.symm, rfl⟩
        · have d2 : decide (122 < (s[k].toNat : Int)) = false := decide_eq_false h2
          go_wp2
          go_round
          case rel =>
            refine ⟨k + 1, by omega, by go_num, fun j h hj => ?_⟩
            by_cases e : j = k
            · subst e; omega
            · exact ha.out j h (by omega)
          case measure => simp [intOf]; omega
    · obtain rfl : k = s.size := by omega
      have Hg := Lib.hid (name_good s (fun i h => ha.out i h h))
      clear ha
      by_cases c1 : 1 ≤ s.size
      · have d1 : decide (1 ≤ (s.size : Int)) = true := decide_eq_true (by omega)
        go_wp2
        go_ret
        refine ⟨ret_bool ?_, rfl⟩
        rw [Hg.out, Bool.eq_iff_iff]
        simp
        omega
      · have d1 : decide (1 ≤ (s.size : Int)) = false := decide_eq_false (by omega)
        go_wp2
        go_ret
        refine ⟨ret_bool ?_, rfl⟩
        rw [Hg.out, eq_comm]
        exact decide_eq_false (by omega)

def savedB (s : ByteArray) (fs : List Int) (ds : List (List Int)) : Bool := (nameB s.data.toList && deckB fs) && (decide ((ds.length : Int) = 0) || diceB ds)
set_option maxRecDepth 100000 in
set_option maxHeartbeats 4000000 in
theorem impl_saved (s : ByteArray) (fs : List Int) (ds : List (List Int)) (v : Value) (w : World) (hn0 : s.size ≤ maxLen) (hn1 : fs.length ≤ 1048576) (hn2 : ds.length ≤ 1048576) (hm2 : totD ds ds.length ≤ 1048576) (h : Vv w v s fs ds) :
    Calls Try.prog 29 #[v] w fun e w' => e = .returned (.bool (savedB s fs ds)) ∧ Below w.heap.size w w' := by
  obtain ⟨a, b, rfl, h1, h2⟩ := h
  have H0 := Lib.hid (fun z (hb : Below w.heap.size w z) => name_any s hn0 z)
  have H1 := Lib.hid (fun z (hb : Below w.heap.size w z) => impl_IsDeck fs a z hn1 (h1.later hb))
  have H2 := Lib.hid (fun z (hb : Below w.heap.size w z) => areDice_any ds b z hn2 hm2 (h2.later hb))
  obtain ⟨p2, c2, rfl, -⟩ := h2
  clear h1 hm2
  have E := Lib.hid (show savedB s fs ds = ((nameB s.data.toList && deckB fs) && (decide ((ds.length : Int) = 0) || diceB ds)) from rfl)
  generalize savedB s fs ds = R at *
  generalize nameB s.data.toList = r1 at *
  generalize deckB fs = r2 at *
  generalize diceB ds = r3 at *
  generalize ds.length = n at *
  have Bel0 := Lib.hid ((Below.refl _ w).alloc (Nat.le_refl _) (.cells #[.string s, a, .slice p2 n c2] 42))
  have X0 := Lib.hid (BxK.new w 42 #[.string s, a, .slice p2 n c2])
  go_enter Try.func29, Try.ntmps29
  go_wp2_with fail
  generalize hu : w.alloc (.cells #[.string s, a, .slice p2 n c2] 42) = u at *
  clear hu
  have k0_0 := X0.out.cell 0 rfl
  have k1_0 := X0.out.cell 1 rfl
  have k2_0 := X0.out.cell 2 rfl
  cases r1
  · have E2 := Lib.hid (show R = false by rw [E.out]; simp)
    go_wp2_with (first | (go_at_call 74; (with_reducible refine (H0.out _ ?_).mono ?_); (first | exact Bel0.out | exact below_drewN Bel0.out _); rintro e y1 ⟨rfl, hb⟩; have X1 : Hid (BxK y1 _ _ _) := Lib.hid ((hb.block _ X0.out.lt).trans X0.out); have Bel1 : Hid (Below w.heap.size w y1) := Lib.hid (by first | exact below_step Bel0.out hb (Nat.le_refl _) | exact below_step (below_drewN Bel0.out _) hb (Nat.le_refl _)); have k0_1 := X1.out.cell 0 rfl; have k1_1 := X1.out.cell 1 rfl; have k2_1 := X1.out.cell 2 rfl; clear hb))
    all_goals
      go_ret
      first | exact ⟨ret_bool E2.out.symm, below_drewN Bel1.out _⟩ | exact ⟨ret_bool E2.out.symm, Bel1.out⟩
  cases r2
  · have E2 := Lib.hid (show R = false by rw [E.out]; simp)
    go_wp2_with (first | (go_at_call 74; (with_reducible refine (H0.out _ ?_).mono ?_); (first | exact Bel0.out | exact below_drewN Bel0.out _); rintro e y1 ⟨rfl, hb⟩; have X1 : Hid (BxK y1 _ _ _) := Lib.hid ((hb.block _ X0.out.lt).trans X0.out); have Bel1 : Hid (Below w.heap.size w y1) := Lib.hid (by first | exact below_step Bel0.out hb (Nat.le_refl _) | exact below_step (below_drewN Bel0.out _) hb (Nat.le_refl _)); have k0_1 := X1.out.cell 0 rfl; have k1_1 := X1.out.cell 1 rfl; have k2_1 := X1.out.cell 2 rfl; clear hb) | (go_at_call 64; (with_reducible refine (H1.out _ ?_).mono ?_); (first | exact Bel1.out | exact below_drewN Bel1.out _); rintro e y2 ⟨rfl, hb⟩; have X2 : Hid (BxK y2 _ _ _) := Lib.hid ((hb.block _ X1.out.lt).trans X1.out); have Bel2 : Hid (Below w.heap.size w y2) := Lib.hid (by first | exact below_step Bel1.out hb (Nat.le_refl _) | exact below_step (below_drewN Bel1.out _) hb (Nat.le_refl _)); have k0_2 := X2.out.cell 0 rfl; have k1_2 := X2.out.cell 1 rfl; have k2_2 := X2.out.cell 2 rfl; clear hb))
    all_goals
      go_ret
      first | exact ⟨ret_bool E2.out.symm, below_drewN Bel2.out _⟩ | exact ⟨ret_bool E2.out.symm, Bel2.out⟩
  by_cases hz : (n : Int) = 0
  · have E2 := Lib.hid (show R = true by rw [E.out, decide_eq_true hz]; simp)
    have hz2 : ((n : Int) == 0) = true := by simpa using hz
    have hz3 : n = 0 := by omega
    subst hz3
    clear hz hz2 E H2
    go_wp2_with (first | (go_at_call 74; (with_reducible refine (H0.out _ ?_).mono ?_); (first | exact Bel0.out | exact below_drewN Bel0.out _); rintro e y1 ⟨rfl, hb⟩; have X1 : Hid (BxK y1 _ _ _) := Lib.hid ((hb.block _ X0.out.lt).trans X0.out); have Bel1 : Hid (Below w.heap.size w y1) := Lib.hid (by first | exact below_step Bel0.out hb (Nat.le_refl _) | exact below_step (below_drewN Bel0.out _) hb (Nat.le_refl _)); have k0_1 := X1.out.cell 0 rfl; have k1_1 := X1.out.cell 1 rfl; have k2_1 := X1.out.cell 2 rfl; clear hb) | (go_at_call 64; (with_reducible refine (H1.out _ ?_).mono ?_); (first | exact Bel1.out | exact below_drewN Bel1.out _); rintro e y2 ⟨rfl, hb⟩; have X2 : Hid (BxK y2 _ _ _) := Lib.hid ((hb.block _ X1.out.lt).trans X1.out); have Bel2 : Hid (Below w.heap.size w y2) := Lib.hid (by first | exact below_step Bel1.out hb (Nat.le_refl _) | exact below_step (below_drewN Bel1.out _) hb (Nat.le_refl _)); have k0_2 := X2.out.cell 0 rfl; have k1_2 := X2.out.cell 1 rfl; have k2_2 := X2.out.cell 2 rfl; clear hb))
    all_goals
      go_ret
      first | exact ⟨ret_bool E2.out.symm, below_drewN Bel2.out _⟩ | exact ⟨ret_bool E2.out.symm, Bel2.out⟩
  have E2 := Lib.hid (show R = r3 by rw [E.out, decide_eq_false hz]; simp)
  have hz2 : ((n : Int) == 0) = false := by simpa using hz
  have hz3 : ((n : Int) = 0) = False := eq_false hz
  clear hz E
  go_wp2_with (first | (go_at_call 74; (with_reducible refine (H0.out _ ?_).mono ?_); (first | exact Bel0.out | exact below_drewN Bel0.out _); rintro e y1 ⟨rfl, hb⟩; have X1 : Hid (BxK y1 _ _ _) := Lib.hid ((hb.block _ X0.out.lt).trans X0.out); have Bel1 : Hid (Below w.heap.size w y1) := Lib.hid (by first | exact below_step Bel0.out hb (Nat.le_refl _) | exact below_step (below_drewN Bel0.out _) hb (Nat.le_refl _)); have k0_1 := X1.out.cell 0 rfl; have k1_1 := X1.out.cell 1 rfl; have k2_1 := X1.out.cell 2 rfl; clear hb) | (go_at_call 64; (with_reducible refine (H1.out _ ?_).mono ?_); (first | exact Bel1.out | exact below_drewN Bel1.out _); rintro e y2 ⟨rfl, hb⟩; have X2 : Hid (BxK y2 _ _ _) := Lib.hid ((hb.block _ X1.out.lt).trans X1.out); have Bel2 : Hid (Below w.heap.size w y2) := Lib.hid (by first | exact below_step Bel1.out hb (Nat.le_refl _) | exact below_step (below_drewN Bel1.out _) hb (Nat.le_refl _)); have k0_2 := X2.out.cell 0 rfl; have k1_2 := X2.out.cell 1 rfl; have k2_2 := X2.out.cell 2 rfl; clear hb) | (go_at_call 75; (with_reducible refine (H2.out _ ?_).mono ?_); (first | exact Bel2.out | exact below_drewN Bel2.out _); rintro e y3 ⟨rfl, hb⟩; have X3 : Hid (BxK y3 _ _ _) := Lib.hid ((hb.block _ X2.out.lt).trans X2.out); have Bel3 : Hid (Below w.heap.size w y3) := Lib.hid (by first | exact below_step Bel2.out hb (Nat.le_refl _) | exact below_step (below_drewN Bel2.out _) hb (Nat.le_refl _)); have k0_3 := X3.out.cell 0 rfl; have k1_3 := X3.out.cell 1 rfl; have k2_3 := X3.out.cell 2 rfl; clear hb))
  all_goals
    go_ret
    first | exact ⟨ret_bool E2.out.symm, below_drewN Bel3.out _⟩ | exact ⟨ret_bool E2.out.symm, Bel3.out⟩
set_option maxRecDepth 100000 in
set_option maxHeartbeats 4000000 in
theorem is_saved (s : ByteArray) (fs : List Int) (ds : List (List Int)) (B : Nat) (a b : Value) (w : World) (hn0 : s.size ≤ maxLen) (hn1 : fs.length ≤ 1048576) (hn2 : ds.length ≤ 1048576) (hm2 : totD ds ds.length ≤ 1048576) (hx : BxK w B 42 #[.string s, a, b]) (h1 : Sl (Value.int .i64) 0 w a fs) (h2 : SlD w b ds) :
    Calls Try.prog 72 #[.pointer (some ⟨B, 0, none⟩)] w fun e w' => e = .returned (.bool (savedB s fs ds)) ∧ Drawn w w' := by
  have H0 := Lib.hid (fun z => name7_spec s hn0 z)
  have H1 := Lib.hid (fun z (hd : Drawn w z) => deck_any fs a z hn1 (h1.drawn hd))
  obtain ⟨q, cap, rfl, hf⟩ := h2
  have k0 := hx.cell 0 rfl
  have k1 := hx.cell 1 rfl
  have k2 := hx.cell 2 rfl
  have Hf := Lib.hid hf
  clear hf hx h1
  have Hm := Lib.hid (fun k (h : k < ds.length) => show (ds.getD k []).length ≤ 1048576 by have := totD_at ds h; omega)
  have Hv := Lib.hid (fun fs s b o w hn h hp => valid_spec fs s b o w hn h hp)
  have Hbad := Lib.hid (fun k (hk : k < ds.length) h => show savedB s fs ds = false by
    unfold savedB
    rw [diceB_bad (ds := ds) k hk h, decide_eq_false (show ¬ ((ds.length : Int) = 0) by omega)]; simp)
  have Hok := Lib.hid (show (∀ k, k < ds.length → dieB (ds.getD k []) = true) → savedB s fs ds = ((nameB s.data.toList && deckB fs) && decide ((ds.length : Int) ≤ 6)) from fun h => by
    unfold savedB diceB
    rw [List.all_eq_true.2 (fun k hk => h k (List.mem_range.1 hk)), Bool.and_true]
    congr 1
    by_cases e : (ds.length : Int) = 0
    · rw [decide_eq_true e, show decide ((ds.length : Int) ≤ 6) = true from decide_eq_true (by omega)]; simp
    · rw [decide_eq_false e, decide_eq_true (show 1 ≤ (ds.length : Int) by omega)]; simp)
  clear hm2
  generalize savedB s fs ds = R at *
  generalize nameB s.data.toList = r1 at *
  generalize deckB fs = r2 at *
  obtain ⟨n, hnn⟩ : ∃ n, n = ds.length := ⟨_, rfl⟩
  rw [← hnn] at hn2 Hf Hm Hbad Hok k2
  simp at k0 k1 k2
  clear hnn
  go_enter Try.func72, Try.ntmps72
  go_wp2
  go_loopw [9] (fun i wr => ∃ k : Nat, k ≤ n ∧ i = .int .i64 (k : Int) ∧ Hid (∀ j, j < k → dieB (ds.getD j []) = true) ∧ Drawn w wr) (fun i _ => n - (intOf i).toNat)
  case atStart => exact ⟨0, Nat.zero_le _, rfl, Lib.hid (fun j hj => by omega), Drawn.refl _⟩
  case round =>
    obtain ⟨k, hk, rfl, hdn, hw⟩ := hrel
    have k2' := (hw.cell _).trans k2
    by_cases hlt : k < n
    · obtain ⟨hcap, b, off, rfl, hbs, hcell⟩ := Hf.out (by omega)
      obtain ⟨s, g1, g2⟩ := hcell k hlt
      have Hcall := Lib.hid (Hv.out (ds.getD k []) s b (off + k) wr (Hm.out k hlt) (g2.drawn hw) ((hw.cell _).trans g1))
      clear hcell g1 g2
      cases hr : dieB (ds.getD k [])
      · rw [hr] at Hcall
        have E := Lib.hid (Hbad.out k hlt hr)
        have Hw := Lib.hid hw
        clear hr hw
        go_wp2_with (refine (Hcall.out).mono ?_; rintro e w' ⟨rfl, hd⟩; have Hd := Lib.hid (Hw.out.trans hd); clear hd)
        go_ret
        exact ⟨ret_bool E.out.symm, Hd.out⟩
      · rw [hr] at Hcall
        have Hdn2 : Hid (∀ j, j < k + 1 → dieB (ds.getD j []) = true) := Lib.hid (fun j hj => by
          by_cases e : j = k
          · subst e; exact hr
          · exact hdn.out j (by omega))
        have Hw := Lib.hid hw
        clear hr hw
        go_wp2_with (refine (Hcall.out).mono ?_; rintro e w' ⟨rfl, hd⟩; have Hd := Lib.hid (Hw.out.trans hd); clear hd)
        go_roundw
        case rel => exact ⟨k + 1, by omega, by go_num, Hdn2, Hd.out⟩
        case measure => simp [intOf]; omega
    · obtain rfl : k = n := by omega
      have E := Lib.hid (Hok.out hdn.out)
      clear Hok Hbad hdn
      have k0' := (hw.cell _).trans k0
      have k1' := (hw.cell _).trans k1
      have Hw := Lib.hid hw
      clear hw
      cases r1
      · have E2 := Lib.hid (show R = false by rw [E.out]; simp)
        go_wp2_with (first | (go_at_call 126; (with_reducible refine (H0.out _).mono ?_); rintro e w' ⟨rfl, rfl⟩))
        go_ret
        exact ⟨ret_bool E2.out.symm, Hw.out⟩
      cases r2
      · have E2 := Lib.hid (show R = false by rw [E.out]; simp)
        go_wp2_with (first | (go_at_call 126; (with_reducible refine (H0.out _).mono ?_); rintro e w' ⟨rfl, rfl⟩) | (go_at_call 118; (with_reducible refine (H1.out _ ?_).mono ?_); (exact Hw.out); rintro e w' ⟨rfl, hd⟩; have Hd := Lib.hid (Hw.out.trans hd); clear hd))
        go_ret
        exact ⟨ret_bool E2.out.symm, Hd.out⟩
      have E2 := Lib.hid (show R = decide ((k : Int) ≤ 6) by rw [E.out]; simp)
      go_wp2_with (first | (go_at_call 126; (with_reducible refine (H0.out _).mono ?_); rintro e w' ⟨rfl, rfl⟩) | (go_at_call 118; (with_reducible refine (H1.out _ ?_).mono ?_); (exact Hw.out); rintro e w' ⟨rfl, hd⟩; have Hd := Lib.hid (Hw.out.trans hd); have k2'' := (Hd.out.cell _).trans k2; clear hd))
      go_ret
      exact ⟨ret_bool (by rw [E2.out]), Hd.out⟩
theorem spec_saved (s : ByteArray) (fs : List Int) (ds : List (List Int)) (v : Value) (w : World) (hn0 : s.size ≤ maxLen) (hn1 : fs.length ≤ 1048576) (hn2 : ds.length ≤ 1048576) (hm2 : totD ds ds.length ≤ 1048576) (h : Vv w v s fs ds) :
    Calls Try.prog 27 #[v] w fun e w' => e = .returned (.bool (savedB s fs ds)) ∧ Below w.heap.size w w' := by
  obtain ⟨a, b, rfl, h1, h2⟩ := h
  have hb := (Below.refl _ w).alloc (Nat.le_refl _) (.cells #[.string s, a, b] 42)
  have H := Lib.hid (is_saved s fs ds w.heap.size a b _ hn0 hn1 hn2 hm2 (BxK.new w 42 #[.string s, a, b]) (h1.later hb) (h2.later hb))
  have Hb := Lib.hid hb
  clear hb h1 h2
  go_enter Try.func27, Try.ntmps27
  go_wp2_with fail
  refine H.out.mono ?_
  rintro e y ⟨rfl, hd⟩
  have Hb2 := Lib.hid (below_step Hb.out (hd.below _) (Nat.le_refl _))
  clear hd
  go_wp2
  go_ret
  exact ⟨rfl, Hb2.out⟩
end Go.Proofs.Ytcoehcoohppbjaa
