/- Contracts: pairs of players, the model's, for every two lists. -/
import Derived.Test.YtfipcpbibmhjoabAn
import Derived.BigQuiet
set_option linter.unusedVariables false
namespace Go.Proofs.Ytfipcpbibmhjoab
open Go.RowKit
set_option maxRecDepth 100000 in
set_option maxHeartbeats 4000000 in
theorem swissS_len (s M : List Int) (vs vM : Value) (n : Nat) (w : World) (hn1 : s.length ≤ 1048576) (hn2 : M.length ≤ 1048576) (hs : Sl (Value.int .i64) 0 w vs s) (hM : Sl (Value.int .i64) 0 w vM M) (hn : s.length = n) (hg : ¬ (2 ≤ n ∧ n ≤ 16 ∧ n % 2 = 0 ∧ M.length = n * n)) :
    Calls Try.prog 11 #[vs, vM] w fun e w' => ∃ r, e = .returned (.tuple #[r, .bool false]) ∧ Sw (Value.int .i64) 0 w' r [] w.heap.size w'.heap.size ∧ Below w.heap.size w w' := by
  obtain ⟨p1, cap1, e1, -⟩ := hs
  rw [hn] at e1
  subst e1
  obtain ⟨p2, cap2, rfl, -⟩ := hM
  rw [hn] at hn1
  generalize M.length = m at *
  clear hn
  by_cases h1 : n < 2
  · have d1 : decide ((n : Int) < 2) = true := decide_eq_true (by omega)
    clear hg
    go_enter Try.func11, Try.ntmps11
    go_wp2
    go_ret2
    exact ⟨_, rfl, Sw.nil _ _ _ _ _ _ _, Below.refl _ _⟩
  · have d1 : decide ((n : Int) < 2) = false := decide_eq_false (by omega)
    by_cases h3 : 16 < n
    · have d2 : decide ((16 : Int) < (n : Int)) = true := decide_eq_true (by omega)
      clear hg
      go_enter Try.func11, Try.ntmps11
      go_wp2
      go_ret2
      exact ⟨_, rfl, Sw.nil _ _ _ _ _ _ _, Below.refl _ _⟩
    · have d2 : decide ((16 : Int) < (n : Int)) = false := decide_eq_false (by omega)
      by_cases h4 : n % 2 = 0
      · have hmod : (n : Int).tmod 2 = 0 := by rw [Int.tmod_eq_emod_of_nonneg (by omega)]; omega
        have hq : (n : Int) * (n : Int) = ((n * n : Nat) : Int) := by simp
        have hmn : ¬ m = n * n := fun h => hg ⟨by omega, by omega, h4, h⟩
        have hN : n * n ≤ 256 := mul_le16 (by omega) (by omega)
        generalize n * n = N at *
        have hne : ((m : Int) != (N : Int)) = true := by simp; omega
        have hne2 : ((m : Int) = (N : Int)) = False := eq_false (by omega)
        have hne3 : (m = N) = False := eq_false hmn
        clear hg
        go_enter Try.func11, Try.ntmps11
        go_wp2
        go_ret2
        exact ⟨_, rfl, Sw.nil _ _ _ _ _ _ _, Below.refl _ _⟩
      · have hmod : (n : Int).tmod 2 = 1 := by rw [Int.tmod_eq_emod_of_nonneg (by omega)]; omega
        clear hg
        go_enter Try.func11, Try.ntmps11
        go_wp2
        go_ret2
        exact ⟨_, rfl, Sw.nil _ _ _ _ _ _ _, Below.refl _ _⟩
set_option maxRecDepth 100000 in
set_option maxHeartbeats 4000000 in
theorem swissS_scores (s M : List Int) (vs vM : Value) (n : Nat) (w : World) (hn1 : s.length ≤ 1048576) (hn2 : M.length ≤ 1048576) (hs : Sl (Value.int .i64) 0 w vs s) (hM : Sl (Value.int .i64) 0 w vM M) (hn : s.length = n) (h2 : 2 ≤ n) (h16 : n ≤ 16) (hev : n % 2 = 0) (hml : M.length = n * n) (hg : ¬ allB 0 1000 s = true) :
    Calls Try.prog 11 #[vs, vM] w fun e w' => ∃ r, e = .returned (.tuple #[r, .bool false]) ∧ Sw (Value.int .i64) 0 w' r [] w.heap.size w'.heap.size ∧ Below w.heap.size w w' := by
  have HG := Lib.hid (show ¬ ∀ k, k < n → rB (s.getD k 0) 0 1000 = true from fun h => hg (allB_all (fun k hk => h k (by omega))))
  clear hg
  obtain ⟨p1, cap1, rfl, hf1⟩ := hs
  obtain ⟨hcap1, b1, off1, rfl, hbs1, hc1⟩ := hf1 (by omega)
  have hnn : 0 < n * n := Nat.mul_pos (by omega) (by omega)
  have hm256 : n * n ≤ 256 := mul_le16 h16 h16
  obtain ⟨p2, cap2, rfl, hf2⟩ := hM
  obtain ⟨hcap2, b2, off2, rfl, hbs2, hc2⟩ := hf2 (by omega)
  have HC1 := Lib.hid hc1
  have HC2 := Lib.hid hc2
  have HML := Lib.hid hml
  have hq2 : (n : Int) * (n : Int) = (M.length : Int) := by rw [hml]; simp
  have hne : ((M.length : Int) != (M.length : Int)) = false := by simp
  have hmod : (n : Int).tmod 2 = 0 := by rw [Int.tmod_eq_emod_of_nonneg (by omega)]; omega
  have hmm : M.length ≤ 256 := by omega
  clear hf1 hf2 hc1 hc2 hml hnn hm256
  rw [hn] at *
  clear hn
  go_enter Try.func11, Try.ntmps11
  go_wp2
  clear hq2 hne hmod
  go_loopw [38] (fun iv wr => ∃ k : Nat, k ≤ n ∧ iv = .int .i64 (k : Int) ∧ Hid (∀ j, j < k → rB (s.getD j 0) 0 1000 = true) ∧ Hid (w = wr)) (fun iv _ => n - (intOf iv).toNat)
  case atStart => exact ⟨0, Nat.zero_le _, rfl, Lib.hid (fun j h => absurd h (by omega)), Lib.hid rfl⟩
  case round =>
    obtain ⟨k, hk, rfl, Hj, hw⟩ := hrel
    obtain rfl := hw.out
    by_cases hlt : k < n
    · have c1 := HC1.out k hlt
      cases q1 : rB (s.getD k 0) 0 1000
      · have HA := Lib.hid (fun z => inF_any q1 z)
        clear Hj HG q1
        generalize s.getD k 0 = x1 at *
        go_wp2_with (go_at_call 46; (with_reducible refine (HA.out _).mono ?_); rintro e w' ⟨rfl, rfl⟩)
        go_ret2
        exact ⟨_, rfl, Sw.nil _ _ _ _ _ _ _, Below.refl _ _⟩
      · have HA := Lib.hid (fun z => inT_any q1 z)
        have HN : Hid (∀ j, j < k + 1 → rB (s.getD j 0) 0 1000 = true) := Lib.hid (fun j hj => by
          by_cases e : j = k
          · rw [e]; exact q1
          · exact Hj.out j (by omega))
        clear Hj q1
        generalize hx1 : s.getD k 0 = x1 at c1 HA
        clear hx1
        go_wp2_with (go_at_call 46; (with_reducible refine (HA.out _).mono ?_); rintro e w' ⟨rfl, rfl⟩)
        go_roundw
        case rel => exact ⟨k + 1, by omega, by go_num, HN, Lib.hid (by first | trivial | rfl)⟩
        case measure => simp [intOf]; omega
    · obtain rfl : k = n := by omega
      exact absurd Hj.out HG.out
theorem inT_same {x lo hi : Int} (h : rB x lo hi = true) (w : World) : Calls Try.prog 46 #[.int .i64 x, .int .i64 lo, .int .i64 hi] w fun e w' => e = .returned (.bool true) ∧ w' = w := (inT_any h w).mono fun e w' h => ⟨h.1, h.2.symm⟩
theorem inF_same {x lo hi : Int} (h : rB x lo hi = false) (w : World) : Calls Try.prog 46 #[.int .i64 x, .int .i64 lo, .int .i64 hi] w fun e w' => e = .returned (.bool false) ∧ w' = w := (inF_any h w).mono fun e w' h => ⟨h.1, h.2.symm⟩
/-- what the model asks of a cell of the table -/
def cellG (n : Nat) (M : List Int) (t : Nat) : Prop := rB (M.getD t 0) 0 128 = true ∧ M.getD t 0 = M.getD (t % n * n + t / n) 0 ∧ (t / n = t % n → M.getD t 0 = 0)
theorem cells_met {n : Nat} {M : List Int} (hml : M.length = n * n) (h : ∀ t, t < M.length → cellG n M t) : metP n M := by
  have hd : ∀ i k, k < n → (i * n + k) / n = i ∧ (i * n + k) % n = k := fun i k hk => by
    constructor
    · rw [Nat.mul_comm, Nat.mul_add_div (by omega), Nat.div_eq_of_lt hk, Nat.add_zero]
    · rw [Nat.mul_comm, Nat.mul_add_mod, Nat.mod_eq_of_lt hk]
  refine ⟨hml, allB_all (fun k hk => (h k hk).1), fun i hi => ⟨fun k hk => ?_, ?_⟩⟩
  · have h1 := (h (i * n + k) (by rw [hml]; exact cell_lt hi (by omega))).2.1
    obtain ⟨e1, e2⟩ := hd i k (by omega)
    rw [e1, e2] at h1
    exact h1
  · obtain ⟨e1, e2⟩ := hd i i hi
    exact (h (i * n + i) (by rw [hml]; exact cell_lt hi hi)).2.2 (by rw [e1, e2])
set_option maxRecDepth 100000 in
set_option maxHeartbeats 4000000 in
theorem swissS_met (s M : List Int) (vs vM : Value) (n : Nat) (w : World) (hn1 : s.length ≤ 1048576) (hn2 : M.length ≤ 1048576) (hs : Sl (Value.int .i64) 0 w vs s) (hM : Sl (Value.int .i64) 0 w vM M) (hn : s.length = n) (h2 : 2 ≤ n) (h16 : n ≤ 16) (hev : n % 2 = 0) (hml : M.length = n * n) (ga : allB 0 1000 s = true) (hg : ¬ metP n M) :
    Calls Try.prog 11 #[vs, vM] w fun e w' => ∃ r, e = .returned (.tuple #[r, .bool false]) ∧ Sw (Value.int .i64) 0 w' r [] w.heap.size w'.heap.size ∧ Below w.heap.size w w' := by
  have HG := Lib.hid (show ¬ ∀ t, t < M.length → cellG n M t from fun h => hg (cells_met hml h))
  have HI1 := Lib.hid (fun k (hk : k < s.length) z => inT_any (rB_at ga k hk) z)
  clear hg ga
  obtain ⟨p1, cap1, rfl, hf1⟩ := hs
  obtain ⟨hcap1, b1, off1, rfl, hbs1, hc1⟩ := hf1 (by omega)
  have hnn : 0 < n * n := Nat.mul_pos (by omega) (by omega)
  have hm256 : n * n ≤ 256 := mul_le16 h16 h16
  obtain ⟨p2, cap2, rfl, hf2⟩ := hM
  obtain ⟨hcap2, b2, off2, rfl, hbs2, hc2⟩ := hf2 (by omega)
  have HC1 := Lib.hid hc1
  have HC2 := Lib.hid hc2
  have HML := Lib.hid hml
  have hq2 : (n : Int) * (n : Int) = (M.length : Int) := by rw [hml]; simp
  have hne : ((M.length : Int) != (M.length : Int)) = false := by simp
  have hmod : (n : Int).tmod 2 = 0 := by rw [Int.tmod_eq_emod_of_nonneg (by omega)]; omega
  have hmm : M.length ≤ 256 := by omega
  clear hf1 hf2 hc1 hc2 hml hnn hm256
  rw [hn] at *
  clear hn
  go_enter Try.func11, Try.ntmps11
  go_wp2
  clear hq2 hne hmod
  go_loopw [38] (fun iv wr => ∃ k : Nat, k ≤ n ∧ iv = .int .i64 (k : Int) ∧ Hid (w = wr)) (fun iv _ => n - (intOf iv).toNat)
  case atStart => exact ⟨0, Nat.zero_le _, rfl, Lib.hid rfl⟩
  case round =>
    obtain ⟨k, hk, rfl, hw⟩ := hrel
    obtain rfl := hw.out
    by_cases hlt : k < n
    · have c1 := HC1.out k hlt
      have HA := Lib.hid (HI1.out k hlt)
      generalize s.getD k 0 = x1 at *
      go_wp2_with (go_at_call 46; (with_reducible refine (HA.out _).mono ?_); rintro e w' ⟨rfl, rfl⟩)
      go_roundw
      case rel => exact ⟨k + 1, by omega, by go_num, Lib.hid (by first | trivial | rfl)⟩
      case measure => simp [intOf]; omega
    · obtain rfl : k = n := by omega
      obtain ⟨n, rfl⟩ : ∃ z, z = k := ⟨_, rfl⟩
      clear HI1 hlt hk
      go_wp2
      go_loopw [50] (fun iv wr => ∃ t : Nat, t ≤ M.length ∧ iv = .int .i64 (t : Int) ∧ Hid (∀ j, j < t → cellG n M j) ∧ Hid (Drawn w wr)) (fun iv _ => M.length - (intOf iv).toNat)
      case atStart => exact ⟨0, Nat.zero_le _, rfl, Lib.hid (fun j h => absurd h (by omega)), Lib.hid (Drawn.refl _)⟩
      case round =>
        obtain ⟨t, ht, rfl, Hj, Hnd⟩ := hrel
        by_cases htl : t < M.length
        · have HBw := Lib.hid (drawn_below Hnd.out (Below.refl w.heap.size w))
          have HN0 : Hid (cellG n M t → ∀ j, j < t + 1 → cellG n M j) := Lib.hid (fun h j hj => by
            by_cases e : j = t
            · rw [e]; exact h
            · exact Hj.out j (by omega))
          have HCt : Hid (cellG n M t ↔ rB (M.getD t 0) 0 128 = true ∧ M.getD t 0 = M.getD (t % n * n + t / n) 0 ∧ (t / n = t % n → M.getD t 0 = 0)) := Lib.hid Iff.rfl
          obtain ⟨I, hI⟩ : ∃ I, I = t / n := ⟨_, rfl⟩
          obtain ⟨J, hJ⟩ : ∃ J, J = t % n := ⟨_, rfl⟩
          rw [← hI, ← hJ] at HCt
          have hn0 : 0 < n := by omega
          have hJn : J < n := by rw [hJ]; exact Nat.mod_lt _ hn0
          have hIn : I < n := by rw [hI]; exact (Nat.div_lt_iff_lt_mul hn0).2 (by have := HML.out; omega)
          have e1 : (t : Int).tdiv (n : Int) = (I : Int) := by rw [hI]; rfl
          have e2 : (t : Int).tmod (n : Int) = (J : Int) := by rw [hJ]; rfl
          have e3 : ((n : Int) = 0) = False := eq_false (by omega)
          have e4 : ((n : Int) == 0) = false := by simp; omega
          obtain ⟨V, hV⟩ : ∃ V, V = J * n := ⟨_, rfl⟩
          have hV2 : (J : Int) * (n : Int) = (V : Int) := by rw [hV]; simp
          have hV3 : V ≤ 256 := by rw [hV]; exact mul_le16 (by omega) h16
          have hVI : V + I < M.length := by rw [HML.out, hV]; exact cell_lt hJn hIn
          rw [← hV] at HCt
          have c1 : wr.cell? ⟨b2, off2 + t, none⟩ = some (.int .i64 (M.getD t 0)) := by rw [drawn_cell Hnd.out]; exact HC2.out t htl
          have c2 : wr.cell? ⟨b2, off2 + (V + I), none⟩ = some (.int .i64 (M.getD (V + I) 0)) := by rw [drawn_cell Hnd.out]; exact HC2.out (V + I) hVI
          clear hI hJ hV Hj
          cases q1 : rB (M.getD t 0) 0 128
          · have HA := Lib.hid (fun z => inF_same q1 z)
            clear HN0 HCt HG q1
            generalize M.getD t 0 = y at *
            generalize M.getD (V + I) 0 = y2 at *
            go_wp2
            go_quiet ((go_at_call 46; exact Calls.quiet_of_same (HA.out _)))
            go_wp2
            go_ret2
            exact ⟨_, rfl, Sw.nil _ _ _ _ _ _ _, by first | exact HBw.out | exact below_drewN HBw.out _⟩
          · have HA := Lib.hid (fun z => inT_same q1 z)
            by_cases q2 : M.getD t 0 = M.getD (V + I) 0
            · rw [← q2] at c2 HCt
              by_cases hIJ : I = J
              · by_cases q3 : M.getD t 0 = 0
                · have HN := Lib.hid (HN0.out (HCt.out.2 ⟨q1, rfl, fun _ => q3⟩))
                  rw [q3] at c1 c2 HA
                  subst hIJ
                  clear HN0 HCt q1 q2 q3
                  go_wp2
                  go_quiet ((go_at_call 46; exact Calls.quiet_of_same (HA.out _)))
                  go_wp2
                  go_roundw
                  case rel => exact ⟨t + 1, by omega, by go_num, HN, Lib.hid (by first | exact Hnd.out | exact drawn_more Hnd.out _)⟩
                  case measure => simp [intOf]; omega
                · have e7 : (M.getD t 0 != 0) = true := by simpa using q3
                  have e8 : (M.getD t 0 = 0) = False := eq_false q3
                  subst hIJ
                  clear HN0 HCt HG q1 q2 q3
                  generalize M.getD t 0 = y at *
                  go_wp2
                  go_quiet ((go_at_call 46; exact Calls.quiet_of_same (HA.out _)))
                  go_wp2
                  go_ret2
                  exact ⟨_, rfl, Sw.nil _ _ _ _ _ _ _, by first | exact HBw.out | exact below_drewN HBw.out _⟩
              · have e5 : ((I : Int) == (J : Int)) = false := by simp; omega
                have e6 : ((I : Int) = (J : Int)) = False := eq_false (by omega)
                have HN := Lib.hid (HN0.out (HCt.out.2 ⟨q1, rfl, fun h => absurd h hIJ⟩))
                clear HN0 HCt q1 q2
                generalize hy : M.getD t 0 = y at c1 c2 HA
                clear hy
                go_wp2
                go_quiet ((go_at_call 46; exact Calls.quiet_of_same (HA.out _)))
                go_wp2
                go_roundw
                case rel => exact ⟨t + 1, by omega, by go_num, HN, Lib.hid (by first | exact Hnd.out | exact drawn_more Hnd.out _)⟩
                case measure => simp [intOf]; omega
            · have e7 : (M.getD t 0 != M.getD (V + I) 0) = true := by simpa using q2
              have e8 : (M.getD t 0 = M.getD (V + I) 0) = False := eq_false q2
              clear HN0 HCt HG q1 q2
              generalize M.getD t 0 = y at *
              generalize M.getD (V + I) 0 = y2 at *
              go_wp2
              go_quiet ((go_at_call 46; exact Calls.quiet_of_same (HA.out _)))
              go_wp2
              go_ret2
              exact ⟨_, rfl, Sw.nil _ _ _ _ _ _ _, by first | exact HBw.out | exact below_drewN HBw.out _⟩
        · obtain rfl : t = M.length := by omega
          exact absurd Hj.out HG.out
theorem spec_SwissPairs (s : List Int) (vs : Value) (M : List Int) (vM : Value) (w : World) (hn1 : s.length ≤ 1048576) (hs : Sl (Value.int .i64) 0 w vs s) (hn2 : M.length ≤ 1048576) (hM : Sl (Value.int .i64) 0 w vM M) :
    Calls Try.prog 11 #[vs, vM] w fun e w' => ∃ r, e = .returned (.tuple #[r, .bool (ok_SwissPairs s M)]) ∧ Sw (Value.int .i64) 0 w' r (res_SwissPairs s M) w.heap.size w'.heap.size ∧ Below w.heap.size w w' := by
  unfold ok_SwissPairs res_SwissPairs resO
  by_cases h0 : 2 ≤ s.length ∧ s.length ≤ 16 ∧ s.length % 2 = 0 ∧ M.length = s.length * s.length
  · obtain ⟨a2, a16, hev, hml⟩ := h0
    by_cases ga : allB 0 1000 s = true
    · have h1 : ok_TieOrder s (zerosI s.length) = true := by
        unfold ok_TieOrder rB
        rw [ga, zerosI_all, zerosI_len, decide_eq_true (show (2 : Int) ≤ (s.length : Int) by omega), decide_eq_true (show (s.length : Int) ≤ 16 by omega), decide_eq_true rfl]; rfl
      by_cases h3 : metB s.length M = true
      · rw [if_pos ⟨h1, hev, h3⟩]
        exact swiss_spec s M vs vM s.length w hs hM rfl a2 a16 hev ga (metB_at h3) _ (tieL_ord s _ _) _ rfl
      · rw [if_neg (fun h => h3 h.2.2)]
        exact swissS_met s M vs vM s.length w hn1 hn2 hs hM rfl a2 a16 hev hml ga (fun h => h3 (metB_yes h))
    · rw [if_neg (fun h => ga (ok_tie_n rfl h.1).2.2)]
      exact swissS_scores s M vs vM s.length w hn1 hn2 hs hM rfl a2 a16 hev hml ga
  · rw [if_neg (fun h => h0 ⟨(ok_tie_n rfl h.1).1, (ok_tie_n rfl h.1).2.1, h.2.1, (metB_at h.2.2).1⟩)]
    exact swissS_len s M vs vM s.length w hn1 hn2 hs hM rfl h0
theorem len_SwissPairs (s M : List Int) : (res_SwissPairs s M).length ≤ 1048576 := by
  have hk : ∀ (n : Nat) (M : List Int) (t : Nat) (left out : List Nat) (o : List Nat), pairT n M t left out = some o → o.length ≤ out.length + 2 * t := by
    intro n M t
    induction t with
    | zero => intro left out o h; cases h; omega
    | succ t ih =>
      intro left out o h
      cases left with
      | nil => rw [pairT_nil] at h; cases h; omega
      | cons f rest =>
        cases hf : rest.find? (fun g => M.getD (f * n + g) 0 == 0) with
        | none => rw [pairT_none hf] at h; cases h
        | some g =>
          rw [pairT_some hf] at h
          have := ih _ _ _ h
          simp at this
          omega
  unfold res_SwissPairs resO
  rw [rowI_len]
  split
  · rename_i h
    have h16 := (ok_tie_n rfl h.1).2.1
    cases hp : pairT s.length M s.length (tieL s (zerosI s.length) s.length) [] with
    | none => exact Nat.zero_le _
    | some o => have := hk _ _ _ _ _ _ hp; simp at this; show o.length ≤ _; omega
  · exact Nat.zero_le _
end Go.Proofs.Ytfipcpbibmhjoab
