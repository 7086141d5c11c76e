/- Contracts: clones, stacks, in both texts. -/
import Derived.Test.YtadbblidmmekiaaKc
import Derived.Test.YtadbblidmmekiaaId
import Derived.Test.YtadbblidmmekiaaNum
import Derived.Lib.SliceRun
import Derived.WalkSpells
import Derived.Lib.Walk
set_option linter.unusedVariables false
namespace Go.Proofs.Ytadbblidmmekiaa
open Go.RowKit Fl


set_option maxRecDepth 100000 in
set_option maxHeartbeats 1000000 in
theorem clone_any (fs : List Int) (v : Value) (w : World) (hn : fs.length ≤ 1048576) (h0 : 1 ≤ fs.length) (h : Sl (Value.int .i64) 0 w v fs) :
    Calls Try.prog 81 #[v] w fun e w' => ∃ v', e = .returned v' ∧ Sw (Value.int .i64) 0 w' v' fs w.heap.size w'.heap.size ∧ Below w.heap.size w w' := by
  obtain ⟨i0, hi, hz0, hz1, hz2⟩ := info_parts (show (Try.prog.info? 2).map (fun i => (i.zero, i.size, i.bytes)) = some (some (.int .i64 0), 1, 8) by kernel_rfl)
  obtain ⟨p, cap, rfl, hf⟩ := h
  obtain ⟨hcap, b, off, rfl, hbs, hc⟩ := hf (by omega)
  have q0 : ∀ (w : World) (a : Option Addr) (n c n' c' : Nat), (binOp .eql 22 (.slice a n c) (.slice none n' c')).run Try.prog w = .ok (.bool a.isNone) w := fun w a n c n' c' => Lib.run_eql_slice_nil w _ _ a n c n' c' Try.underlying22
  have Hc : Hid (∀ j u, (fs.map (Value.int .i64))[j]? = some u → w.cell? ⟨b, off + j, none⟩ = some u) := Lib.hid (fun j u hj => by
    rw [List.getElem?_map] at hj
    cases hx : fs[j]? with
    | none => rw [hx] at hj; cases hj
    | some x =>
      rw [hx] at hj
      cases hj
      have hj2 : j < fs.length := (List.getElem?_eq_some_iff.1 hx).1
      have := hc j hj2
      rw [show fs.getD j 0 = x by simp [List.getD, hx]] at this
      exact this)
  have H1 : Hid (∀ u ∈ fs.map (Value.int .i64), u.oneCell' = true) := Lib.hid (fun u hu => by
    obtain ⟨x, -, rfl⟩ := List.mem_map.1 hu; rfl)
  have Hl : Hid ((fs.map (Value.int .i64)).length = fs.length * 1) := Lib.hid (by simp)
  have Hdone : Hid (∀ (w1 : World) v', w1.ownsRow w.heap.size 2 1 v' fs.length (fs.map (Value.int .i64)) → Sw (Value.int .i64) 0 w1 v' fs w.heap.size w1.heap.size) := Lib.hid (fun w1 v' h => Sw.of_owns h rfl)
  clear hf hc
  generalize fs.map (Value.int .i64) = L at *
  generalize fs.length = n at *
  go_enter Try.func81, Try.ntmps81
  go_wp2_with (at_builtin; refine wpList_append_own _ rfl _ _ 22 rfl w.heap.size 2 i0 (.int .i64 0) 1 8 (by kernel_rfl) hi hz0 hz1 hz2 rfl (by decide) _ _ _ rfl (World.ownsRow_made w #[] 0 (Nat.le_refl _) (Nat.zero_le _) (by simp)) ⟨b, off, none⟩ n cap L rfl ?qc1 ?qc2 ?qc3 ?qc4 ?qc5 ?qc6 ?_)
  case qc1 => exact Hl.out
  case qc2 =>
    intro j u hj
    rw [Addr.add_lit]
    exact Lib.cell?_alloc_some _ (Hc.out j u hj)
  case qc3 => exact H1.out
  case qc4 => unfold maxLen; omega
  case qc5 => omega
  case qc6 => simp
  intro v' w1 hown hgrow _
  have Hown := Lib.hid hown
  have Hb := Lib.hid (((Below.refl _ w).alloc (Nat.le_refl _) _).grown hgrow (by simp) (by intro k hk; simp [Value.ownBlock] at hk; omega))
  clear hown hgrow
  go_wp2
  go_ret
  refine ⟨v', rfl, Hdone.out _ _ ?_, Hb.out⟩
  simpa using Hown.out

theorem index_any (fs : List Int) (x : Int) (v : Value) (w : World) (hn : fs.length ≤ 1048576) (h : Sl (Value.int .i64) 0 w v fs) :
    Calls Try.prog 138 #[v, .int .i64 x] w fun e w' => ∃ z : Int, e = .returned (.int .i64 z) ∧ decide (0 ≤ z) = fs.contains x ∧ w = w' := by
  obtain ⟨p, cap, rfl, hf⟩ := h
  have Hf := Lib.hid hf
  have Hno : Hid ((∀ j, j < fs.length → fs.getD j 0 ≠ x) → fs.contains x = false) := Lib.hid (fun hp => by
    rw [Bool.eq_false_iff]
    intro hc
    rw [List.contains_iff_mem] at hc
    obtain ⟨i, hi, e⟩ := List.getElem_of_mem hc
    exact hp i hi (by rw [getD_lt fs 0 i hi, e]))
  have Hyes : Hid (∀ j, j < fs.length → fs.getD j 0 = x → fs.contains x = true) := Lib.hid (fun j hj e => by
    rw [List.contains_iff_mem, ← e, getD_lt fs 0 j hj]; exact List.getElem_mem _)
  clear hf
  generalize fs.contains x = B at *
  generalize fs.length = n at *
  go_enter Try.func138, Try.ntmps138
  go_wp2
  go_loop [8] (fun i => ∃ k : Nat, k ≤ n ∧ i = .int .i64 k ∧ Hid (∀ j, j < k → fs.getD j 0 ≠ x)) (fun i => n - (intOf i).toNat)
  case atStart => exact ⟨0, Nat.zero_le _, rfl, fun j hj => absurd hj (by omega)⟩
  case round =>
    obtain ⟨k, hk, rfl, hp⟩ := hrel
    by_cases hlt : k < n
    · obtain ⟨hcap, b, off, rfl, hbs, hc⟩ := Hf.out (by omega)
      have c1 := hc k hlt
      clear hc
      by_cases hx : fs.getD k 0 = x
      · have HY := Lib.hid (Hyes.out k hlt hx)
        rw [hx] at c1
        clear hx
        have d : (x == x) = true := by simp
        go_wp2
        go_ret
        exact ⟨_, rfl, by rw [HY.out]; exact decide_eq_true (by omega), rfl⟩
      · have Hp2 : Hid (∀ j, j < k + 1 → fs.getD j 0 ≠ x) := Lib.hid (fun j hj => by
          by_cases e : j = k
          · subst e; exact hx
          · exact hp.out j (by omega))
        have d : (x == fs.getD k 0) = false := by rw [Bool.eq_false_iff]; intro e; rw [beq_iff_eq] at e; exact hx e.symm
        have d' : (x = fs.getD k 0) = False := eq_false (fun e => hx e.symm)
        clear hx
        generalize fs.getD k 0 = y at *
        go_wp2
        go_round
        case rel => exact ⟨k + 1, by omega, by go_num, Hp2⟩
        case measure => simp [intOf]; omega
    · obtain rfl : k = n := by omega
      have HN := Lib.hid (Hno.out hp.out)
      go_wp2
      go_ret
      exact ⟨_, rfl, by rw [HN.out]; rfl, rfl⟩
theorem contains_any (fs : List Int) (x : Int) (v : Value) (w : World) (hn : fs.length ≤ 1048576) (h : Sl (Value.int .i64) 0 w v fs) :
    Calls Try.prog 112 #[v, .int .i64 x] w fun e w' => e = .returned (.bool (fs.contains x)) ∧ w = w' := by
  have Hi := Lib.hid (index_any fs x v w hn h)
  obtain ⟨p, cap, rfl, hf⟩ := h
  clear hf
  go_enter Try.func112, Try.ntmps112
  go_wp2_with (go_at_call 138; refine Hi.out.mono ?_; rintro e w' ⟨z, rfl, hz, rfl⟩; have Hz := Lib.hid hz; clear hz)
  go_ret
  exact ⟨ret_bool Hz.out, rfl⟩

theorem all_split (fs : List Int) : (fs.all fun x => decide (1 ≤ x) && decide (x ≤ 1000000)) = ((fs.all fun x => decide (0 ≤ x) && decide (x ≤ 1000000)) && !fs.contains 0) := by
  induction fs with
  | nil => rfl
  | cons a r ih =>
    rw [List.all_cons, ih, List.all_cons, List.contains_cons]
    by_cases h0 : a = 0
    · subst h0; simp
    · have e1 : ((0 : Int) == a) = false := by rw [Bool.eq_false_iff]; intro e; rw [beq_iff_eq] at e; exact h0 e.symm
      have e2 : decide (1 ≤ a) = decide (0 ≤ a) := by rw [decide_eq_decide]; omega
      rw [e1, Bool.false_or, e2]
      cases decide (0 ≤ a) <;> cases decide (a ≤ 1000000) <;> simp
theorem stackB_eq (fs : List Int) : stackB fs = (decide (1 ≤ fs.length) && decide (fs.length ≤ 6) && (stakesB fs && !fs.contains 0)) := by
  unfold stackB stakesB; rw [all_split]
theorem areStacks_any (fs : List Int) (v : Value) (w : World) (hn : fs.length ≤ 1048576) (h : Sl (Value.int .i64) 0 w v fs) :
    Calls Try.prog 86 #[v] w fun e w' => e = .returned (.bool (stackB fs)) ∧ w = w' := by
  have Hs := Lib.hid (fun z (hz : z = w) => by subst hz; exact stakes_any fs v z hn h)
  have Hc := Lib.hid (fun z (hz : z = w) => by subst hz; exact contains_any fs 0 v z hn h)
  obtain ⟨p, cap, rfl, hf⟩ := h
  clear hf
  rw [stackB_eq]
  generalize stakesB fs = S at *
  generalize fs.contains 0 = C at *
  generalize fs.length = n at *
  by_cases h1 : 1 ≤ n
  · have d1 : decide ((1 : Int) ≤ (n : Int)) = true := decide_eq_true (by omega)
    by_cases h2 : n ≤ 6
    · have d2 : decide ((n : Int) ≤ 6) = true := decide_eq_true (by omega)
      rw [decide_eq_true h1, decide_eq_true h2]
      cases S
      · go_enter Try.func86, Try.ntmps86
        go_wp2_with (go_at_call 50; refine (Hs.out _ rfl).mono ?_; rintro e w' ⟨rfl, rfl⟩)
        go_ret
        exact ⟨rfl, rfl⟩
      · go_enter Try.func86, Try.ntmps86
        go_wp2_with (first | (go_at_call 50; refine (Hs.out _ rfl).mono ?_; rintro e w' ⟨rfl, rfl⟩) | (go_at_call 112; refine (Hc.out _ rfl).mono ?_; rintro e w' ⟨rfl, rfl⟩))
        go_ret
        exact ⟨ret_bool (by simp), rfl⟩
    · have d2 : decide ((n : Int) ≤ 6) = false := decide_eq_false (by omega)
      rw [decide_eq_true h1, decide_eq_false h2]
      go_enter Try.func86, Try.ntmps86
      go_wp2
      go_ret
      exact ⟨rfl, rfl⟩
  · have d1 : decide ((1 : Int) ≤ (n : Int)) = false := decide_eq_false (by omega)
    rw [decide_eq_false h1]
    go_enter Try.func86, Try.ntmps86
    go_wp2
    go_ret
    exact ⟨rfl, rfl⟩

theorem stacks_spec (fs : List Int) (v : Value) (w : World) (hn : fs.length ≤ 1048576) (h : Sl (Value.int .i64) 0 w v fs) :
    Calls Try.prog 84 #[v] w fun e w' => e = .returned (.bool (stackB fs)) ∧ w = w' := by
  obtain ⟨p, cap, rfl, hf⟩ := h
  have Hf := Lib.hid hf
  have Hbad := Lib.hid (fun k hk g => stackB_bad (fs := fs) k hk g)
  have Hall := Lib.hid (stackB_all (fs := fs))
  clear hf
  generalize stackB fs = B at *
  generalize fs.length = n at *
  go_enter Try.func84, Try.ntmps84
  go_wp2
  go_loop [6] (fun i => ∃ k : Nat, k ≤ n ∧ i = .int .i64 k ∧ Hid (∀ j, j < k → 1 ≤ fs.getD j 0 ∧ fs.getD j 0 ≤ 1000000)) (fun i => n - (intOf i).toNat)
  case atStart => exact ⟨0, Nat.zero_le _, rfl, fun j hj => absurd hj (by omega)⟩
  case round =>
    obtain ⟨k, hk, rfl, hp⟩ := hrel
    by_cases hlt : k < n
    · obtain ⟨hcap, b, off, rfl, hbs, hc⟩ := Hf.out (by omega)
      have c1 := hc k hlt
      clear hc
      by_cases hx : 1 ≤ fs.getD k 0 ∧ fs.getD k 0 ≤ 1000000
      · have Hp2 : Hid (∀ j, j < k + 1 → 1 ≤ fs.getD j 0 ∧ fs.getD j 0 ≤ 1000000) := Lib.hid (fun j hj => by
          by_cases e : j = k
          · subst e; exact hx
          · exact hp.out j (by omega))
        have Hs := Lib.hid (fun z => in_yes (fs.getD k 0) 1 1000000 z hx.1 hx.2)
        clear hx
        generalize fs.getD k 0 = x at *
        go_wp2_with (go_at_call 48; refine (Hs.out _).mono ?_; rintro e w' ⟨rfl, rfl⟩)
        go_round
        case rel => exact ⟨k + 1, by omega, by go_num, Hp2⟩
        case measure => simp [intOf]; omega
      · have Hs := Lib.hid (fun z => in_no (fs.getD k 0) 1 1000000 z (by omega))
        have HB := Lib.hid (Hbad.out k hlt (by omega))
        clear hx
        generalize fs.getD k 0 = x at *
        go_wp2_with (go_at_call 48; refine (Hs.out _).mono ?_; rintro e w' ⟨rfl, rfl⟩)
        go_ret
        exact ⟨ret_bool HB.out.symm, rfl⟩
    · obtain rfl : k = n := by omega
      have HB := Lib.hid (Hall.out hp.out)
      by_cases h1 : 1 ≤ k
      · by_cases h2 : k ≤ 6
        · rw [decide_eq_true h1, decide_eq_true h2] at HB
          have d2 : decide ((k : Int) ≤ 6) = true := decide_eq_true (by omega)
          go_wp2
          go_ret
          exact ⟨ret_bool HB.out.symm, rfl⟩
        · rw [decide_eq_true h1, decide_eq_false h2] at HB
          have d2 : decide ((k : Int) ≤ 6) = false := decide_eq_false (by omega)
          go_wp2
          go_ret
          exact ⟨ret_bool HB.out.symm, rfl⟩
      · rw [decide_eq_false h1] at HB
        go_wp2
        go_ret
        exact ⟨ret_bool HB.out.symm, rfl⟩
end Go.Proofs.Ytadbblidmmekiaa
