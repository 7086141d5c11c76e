/- Contracts: hands, in both texts. -/
import Derived.Test.YtodmaomngpnboaaDk
import Derived.Test.YtodmaomngpnboaaIg
import Derived.Maps.Own
import Derived.Maps.OwnSet
set_option linter.unusedVariables false
namespace Go.Proofs.Ytodmaomngpnboaa
open Go.RowKit

theorem has00_any (fs : List Int) (x : Int) (v : Value) (w : World) (hn : fs.length ≤ 1048576) (h : Sl (Value.int .i64) 0 w v fs) :
    Calls Try.prog 175 #[v, .int .i64 x] w fun e w' => e = .returned (.bool (fs.contains x)) ∧ Drawn w w' := by
  obtain ⟨p, cap, rfl, hf⟩ := h
  have Hf := Lib.hid hf
  clear hf
  generalize hlen : fs.length = n at *
  have Hlen := Lib.hid hlen
  clear hlen
  go_enter Try.func175, Try.ntmps175
  go_wp2
  go_loopw [5] (fun i wr => ∃ k q : Nat, k ≤ n ∧ i = .int .i64 k ∧ Hid (∀ j, j < k → fs.getD j 0 ≠ x) ∧ wr = w.drewN q) (fun i _ => n - (intOf i).toNat)
  case atStart => exact ⟨0, 0, Nat.zero_le _, rfl, fun j hj => absurd hj (by omega), rfl⟩
  case round =>
    obtain ⟨k, dn, hk, rfl, hp, rfl⟩ := hrel
    by_cases hlt : k < n
    · obtain ⟨hcap, b, off, rfl, hbs, hc⟩ := Hf.out (by omega)
      have c1 := hc k hlt
      clear hc
      generalize hg : fs.getD k 0 = y at *
      have Hg := Lib.hid hg
      clear hg
      by_cases he : y = x
      · obtain rfl := he
        have d : (y == y) = true := by simp
        go_wp2
        go_ret
        refine ⟨ret_bool ?_, _, rfl⟩
        rw [eq_comm, List.contains_iff_mem, ← Hg.out, getD_lt fs 0 k (by rw [Hlen.out]; exact hlt)]
        exact List.getElem_mem _
      · have d : (y == x) = false := by simpa using he
        have He := Lib.hid he
        clear he
        go_wp2
        go_roundw
        case rel => exact ⟨k + 1, _, by omega, by go_num, fun j hj => by
          by_cases e : j = k
          · subst e; rw [Hg.out]; exact He.out
          · exact hp.out j (by omega), rfl⟩
        case measure => simp [intOf]; omega
    · obtain rfl : k = n := by omega
      go_wp2
      go_ret
      refine ⟨ret_bool ?_, _, rfl⟩
      rw [eq_comm, Bool.eq_false_iff]
      intro hc
      rw [List.contains_iff_mem] at hc
      obtain ⟨i, hi, e⟩ := List.getElem_of_mem hc
      refine hp.out i (by rw [← Hlen.out]; exact hi) ?_
      rw [getD_lt fs 0 i hi, e]


theorem lawK : Maps.Keyed Try.prog 2 := Maps.int_keyed Try.underlying2
set_option maxHeartbeats 1000000 in
theorem setOf_any (fs : List Int) (v : Value) (w : World) (hn : fs.length ≤ 1048576) (hr : ∀ k, k < fs.length → 0 ≤ fs.getD k 0 ∧ fs.getD k 0 ≤ 51) (h : Sl (Value.int .i64) 0 w v fs) :
    Calls Try.prog 171 #[v] w fun e w' => e = .returned (.map (some w.heap.size)) ∧ w'.ownsMap Try.prog 2 (plainElem (H := Unit) Try.prog 4) w.heap.size fs.length (Maps.setOf (.lit (.bool true)) (litsI fs)) ∧ Below w.heap.size w w' := by
  obtain ⟨p, cap, rfl, hf⟩ := h
  have Hf := Lib.hid hf
  have Hr := Lib.hid hr
  clear hf hr
  generalize hlen : fs.length = n at *
  have Hlen := Lib.hid hlen
  clear hlen
  have hmm := @run_makeMap Try.prog
  go_enter Try.func171, Try.ntmps171
  go_wp2
  go_loopw [9] (fun i wr => ∃ k : Nat, k ≤ n ∧ i = .int .i64 k ∧ wr.ownsMap Try.prog 2 (plainElem (H := Unit) Try.prog 4) w.heap.size k (Maps.setOf (.lit (.bool true)) (litsI (fs.take k))) ∧ Below w.heap.size w wr) (fun i _ => n - (intOf i).toNat)
  case atStart => exact ⟨0, Nat.zero_le _, rfl, by rw [List.take_zero]; exact World.ownsMap_made _ _ _ _, (Below.refl _ _).alloc (Nat.le_refl _) _⟩
  case round =>
    obtain ⟨k, hk, rfl, hown, hb⟩ := hrel
    have Hown := Lib.hid hown
    have Hb := Lib.hid hb
    clear hown
    by_cases hlt : k < n
    · obtain ⟨hcap, b, off, rfl, hbs, hc⟩ := Hf.out (by omega)
      obtain ⟨x0, x1⟩ := Hr.out k hlt
      have c1 : wr.cell? ⟨b, off + k, none⟩ = some (.int .i64 (fs.getD k 0)) := by rw [hb.cell hbs]; exact hc k hlt
      have Hsn : Hid (litsI (fs.take (k + 1)) = litsI (fs.take k) ++ [Lit.int .i64 (fs.getD k 0)]) := Lib.hid (by
        rw [List.take_succ_eq_append_getElem (by rw [Hlen.out]; exact hlt), litsI, List.map_append, getD_lt fs 0 k (by rw [Hlen.out]; exact hlt)]; rfl)
      have Hkey := Lib.hid (Maps.keyOf_int_mk (P := Try.prog) Try.underlying2 (a := fs.getD k 0) (WalkArith.wf_i64 (by omega)))
      clear hc hb
      generalize fs.getD k 0 = x at *
      go_wp2_with (at_mapUpdate; refine wpList_mapUpdate_own _ rfl _ _ _ 142 rfl 2 4 lawK Try.underlying142 _ w.heap.size k _ rfl Hown.out (by unfold maxLen; omega) _ _ _ rfl rfl Hkey.out _ [] (plainElem_bool Try.underlying4 true) ?_; intro w1 hown1 hgrow1; have Hown1 := Lib.hid hown1; have Hb1 := Lib.hid (Hb.out.grown hgrow1 Hb.out.size (fun j hj => by cases hj; exact Nat.le_refl _)); clear hown1 hgrow1)
      go_roundw
      case rel => exact ⟨k + 1, by omega, by go_num, by rw [Hsn.out, Maps.setOf_snoc]; exact Hown1.out, Hb1.out⟩
      case measure => simp [intOf]; omega
    · obtain rfl : k = n := by omega
      go_wp2
      go_ret
      refine ⟨rfl, ?_, Hb.out⟩
      have := Hown.out
      rw [← Hlen.out, List.take_length] at this
      rw [← Hlen.out]
      exact this

set_option maxRecDepth 100000 in
set_option maxHeartbeats 1000000 in
theorem areCards_any (fs : List Int) (v : Value) (w : World) (hn : fs.length ≤ 1048576) (h : Sl (Value.int .i64) 0 w v fs) :
    Calls Try.prog 147 #[v] w fun e w' => e = .returned (.bool (cardsB fs)) ∧ Below w.heap.size w w' := by
  have Hs := Lib.hid h
  have Hset := Lib.hid (fun hr => setOf_any fs v w hn hr h)
  have Hsz := Lib.hid (fun hr => size_cards (.lit (.bool true) : DataW Unit) fs hr)
  have Hbad := Lib.hid (fun k hk e => cardsB_bad (fs := fs) k hk (handAt_out fs k e))
  obtain ⟨p, cap, rfl, hf⟩ := h
  have Hf := Lib.hid hf
  clear hf
  generalize hlen : fs.length = n at *
  generalize cardsB fs = B at *
  have Hlen := Lib.hid hlen
  clear hlen
  go_enter Try.func147, Try.ntmps147
  go_wp2
  go_loop [7] (fun i => ∃ k : Nat, k ≤ n ∧ i = .int .i64 k ∧ Hid (∀ j, j < k → 0 ≤ fs.getD j 0 ∧ fs.getD j 0 ≤ 51)) (fun i => n - (intOf i).toNat)
  case atStart => exact ⟨0, Nat.zero_le _, rfl, fun j hj => absurd hj (by omega)⟩
  case round =>
    obtain ⟨k, hk, rfl, hp⟩ := hrel
    by_cases hlt : k < n
    · obtain ⟨hcap, b, off, rfl, hbs, hc⟩ := Hf.out (by omega)
      have c1 := hc k hlt
      clear hc
      by_cases hx : fs.getD k 0 < 0
      · have HB := Lib.hid (Hbad.out k hlt (.inl hx))
        have d1 : decide (fs.getD k 0 < 0) = true := decide_eq_true hx
        generalize fs.getD k 0 = x at *
        go_wp2
        go_ret
        exact ⟨ret_bool HB.out.symm, Below.refl _ _⟩
      · by_cases hy : 52 ≤ fs.getD k 0
        · have HB := Lib.hid (Hbad.out k hlt (.inr (by omega)))
          have d1 : decide (fs.getD k 0 < 0) = false := decide_eq_false hx
          have d2 : decide (52 ≤ fs.getD k 0) = true := decide_eq_true hy
          generalize fs.getD k 0 = x at *
          go_wp2
          go_ret
          exact ⟨ret_bool HB.out.symm, Below.refl _ _⟩
        · have Hp2 : Hid (∀ j, j < k + 1 → 0 ≤ fs.getD j 0 ∧ fs.getD j 0 ≤ 51) := Lib.hid (fun j hj => by
            by_cases e : j = k
            · subst e; omega
            · exact hp.out j (by omega))
          have d1 : decide (fs.getD k 0 < 0) = false := decide_eq_false hx
          have d2 : decide (52 ≤ fs.getD k 0) = false := decide_eq_false hy
          generalize fs.getD k 0 = x at *
          go_wp2
          go_round
          case rel => exact ⟨k + 1, by omega, by go_num, Hp2⟩
          case measure => simp [intOf]; omega
    · obtain rfl : k = n := by omega
      have Hz := Lib.hid (Hsz.out hp.out)
      have Hs2 := Lib.hid (Hset.out hp.out)
      go_wp2_with fail
      refine Hs2.out.mono ?_
      rintro e w' ⟨rfl, hown, hb⟩
      have Hb := Lib.hid hb
      have Hown := Lib.hid hown
      clear hb hown
      go_wp2_with (at_len; refine wpList_len_own _ rfl _ 142 rfl 2 4 Try.underlying142 _ w.heap.size k _ rfl Hown.out ?_)
      go_ret
      refine ⟨ret_bool ?_, Hb.out⟩
      rw [← Hz.out]
      rw [Bool.eq_iff_iff]; simp; omega

theorem handOf_any (fs : List Int) (v : Value) (lo hi : Nat) (w : World) (hn : fs.length ≤ 1048576) (hlo : lo ≤ 100) (hhi : hi ≤ 100) (h : Sl (Value.int .i64) 0 w v fs) :
    Calls Try.prog 96 #[v, .int .i64 (lo : Int), .int .i64 (hi : Int)] w fun e w' => e = .returned (.bool (handB lo hi fs)) ∧ Below w.heap.size w w' := by
  have Hs := Lib.hid (areCards_any fs v w hn h)
  obtain ⟨p, cap, rfl, hf⟩ := h
  clear hf
  unfold handB
  generalize cardsB fs = B at *
  generalize fs.length = n at *
  by_cases h1 : lo ≤ n
  · have d1 : decide ((lo : Int) ≤ (n : Int)) = true := decide_eq_true (by omega)
    by_cases h2 : n ≤ hi
    · rw [decide_eq_true h1, decide_eq_true h2]
      go_enter Try.func96, Try.ntmps96
      go_wp2_with (go_at_call 147; refine Hs.out.mono ?_; rintro e w' ⟨rfl, hb⟩; have Hb := Lib.hid hb; clear hb)
      go_ret
      exact ⟨ret_bool (by simp), Hb.out⟩
    · rw [decide_eq_true h1, decide_eq_false h2]
      go_enter Try.func96, Try.ntmps96
      go_wp2
      go_ret
      exact ⟨ret_bool (by simp), Below.refl _ _⟩
  · rw [decide_eq_false h1]
    go_enter Try.func96, Try.ntmps96
    go_wp2
    go_ret
    exact ⟨ret_bool (by simp), Below.refl _ _⟩

set_option maxHeartbeats 1000000 in
theorem hand_spec (fs : List Int) (v : Value) (w : World) (hn : fs.length ≤ 1048576) (h : Sl (Value.int .i64) 0 w v fs) :
    Calls Try.prog 154 #[v] w fun e w' => e = .returned (.bool (handB 1 7 fs)) ∧ Drawn w w' := by
  have Hs := Lib.hid h
  obtain ⟨p, cap, rfl, hf⟩ := h
  have Hf := Lib.hid hf
  have Hbad : Hid (∀ k, k < fs.length → handAt fs k = false → handB 1 7 fs = false) := Lib.hid (fun k hk e => by unfold handB; rw [cardsB_bad k hk e, Bool.and_false])
  have Hgd : Hid ((∀ k, k < fs.length → handAt fs k = true) → handB 1 7 fs = (decide (1 ≤ fs.length) && decide (fs.length ≤ 7))) := Lib.hid (fun hk => by unfold handB; rw [cardsB_of hk, Bool.and_true])
  clear hf
  generalize handB 1 7 fs = B at *
  generalize hlen : fs.length = n at *
  have Hlen := Lib.hid hlen
  clear hlen
  go_enter Try.func154, Try.ntmps154
  go_wp2
  go_loopw [6] (fun i wr => ∃ k : Nat, k ≤ n ∧ i = .int .i64 k ∧ Hid (∀ j, j < k → handAt fs j = true) ∧ Drawn w wr) (fun i _ => n - (intOf i).toNat)
  case atStart => exact ⟨0, Nat.zero_le _, rfl, fun j hj => absurd hj (by omega), Drawn.refl _⟩
  case round =>
    obtain ⟨k, hk, rfl, hp, hd⟩ := hrel
    have Hd := Lib.hid hd
    clear hd
    by_cases hlt : k < n
    · obtain ⟨hcap, b, off, rfl, hbs, hc⟩ := Hf.out (by omega)
      have Hs' := Lib.hid ((Hs.out.take k (by rw [Hlen.out]; omega) cap (by omega)).drawn Hd.out)
      have c1 : wr.cell? ⟨b, off + k, none⟩ = some (.int .i64 (fs.getD k 0)) := by rw [Hd.out.cell]; exact hc k hlt
      clear hc
      have hgo := handAt_out fs k
      have hgi := handAt_in fs k
      have hob := Hbad.out k hlt
      have hhas := has00_any (fs.take k) (fs.getD k 0)
      generalize fs.getD k 0 = y at *
      by_cases hx : y < 0 ∨ 51 < y
      · have HB : Hid (B = false) := Lib.hid (hob (hgo hx))
        clear hgo hgi hob hhas
        have Hin := Lib.hid (fun z => in_no y 0 51 z (by omega))
        go_wp2_with fail
        go_quiet ((go_at_call 68; exact quiet_same (Hin.out _)))
        go_wp2
        go_ret
        exact ⟨ret_bool HB.out.symm, Hd.out.more _⟩
      · have Hgood := Lib.hid (hgi (by omega) (by omega))
        have Hob := Lib.hid hob
        have Hhas := Lib.hid hhas
        clear hgo hgi hob hhas
        cases hB : (fs.take k).contains y
        all_goals
          have HB := Lib.hid hB
          clear hB
          have Hh := Lib.hid (fun z => Hhas.out _ (wr.drewN z) (by rw [List.length_take]; omega) (Hs'.out.drewN z))
          rw [HB.out] at Hh
          have Hin := Lib.hid (fun z => in_yes y 0 51 z (by omega) (by omega))
          go_wp2_with fail
          go_quiet ((first | (go_at_call 68; exact quiet_same (Hin.out _)) | (go_at_call 175; exact Calls.quiet_of (Hh.out _))))
          go_wp2
        · go_roundw
          case rel => exact ⟨k + 1, by omega, by go_num, fun j hj => by
            by_cases e : j = k
            · subst e; rw [Hgood.out, HB.out]; rfl
            · exact hp.out j (by omega), Hd.out.more _⟩
          case measure => simp [intOf]; omega
        · go_ret
          exact ⟨ret_bool (Hob.out (by rw [Hgood.out, HB.out]; rfl)).symm, Hd.out.more _⟩
    · obtain rfl : k = n := by omega
      have HB := Lib.hid (Hgd.out hp.out)
      by_cases h1 : 1 ≤ k
      · by_cases h2 : k ≤ 7
        · rw [decide_eq_true h1, decide_eq_true h2] at HB
          have d2 : decide ((k : Int) ≤ 7) = true := decide_eq_true (by omega)
          go_wp2
          go_ret
          exact ⟨ret_bool HB.out.symm, Hd.out⟩
        · rw [decide_eq_true h1, decide_eq_false h2] at HB
          have d2 : decide ((k : Int) ≤ 7) = false := decide_eq_false (by omega)
          go_wp2
          go_ret
          exact ⟨ret_bool HB.out.symm, Hd.out⟩
      · rw [decide_eq_false h1] at HB
        go_wp2
        go_ret
        exact ⟨ret_bool HB.out.symm, Hd.out⟩
def ok_IsHand (fs : List Int) : Bool := handB 1 7 fs
