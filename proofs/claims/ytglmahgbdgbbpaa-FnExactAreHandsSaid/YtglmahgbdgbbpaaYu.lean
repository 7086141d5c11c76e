/- Contracts: hands of tricks: AreHands, in both texts. -/
import Derived.Test.YtglmahgbdgbbpaaYt
import Derived.Test.YtglmahgbdgbbpaaIh
import Derived.Laws.IdiomCopy
set_option linter.unusedVariables false
namespace Go.Proofs.Ytglmahgbdgbbpaa
open Go.RowKit

set_option maxHeartbeats 1000000 in
theorem cards_spec (fs : List Int) (v : Value) (w : World) (hn : fs.length ≤ 1048576) (h : Sl (Value.int .i64) 0 w v fs) :
    Calls Try.prog 54 #[v] w fun e w' => e = .returned (.bool (cardsB fs)) ∧ Drawn w w' := by
  have Hs := Lib.hid h
  obtain ⟨p, cap, rfl, hf⟩ := h
  have Hf := Lib.hid hf
  have Hbad : Hid (∀ k, k < fs.length → handAt fs k = false → cardsB fs = false) := Lib.hid (fun k hk e => cardsB_bad k hk e)
  have Hgd : Hid ((∀ k, k < fs.length → handAt fs k = true) → cardsB fs = true) := Lib.hid (fun hk => cardsB_of hk)
  clear hf
  generalize cardsB fs = B at *
  generalize hlen : fs.length = n at *
  have Hlen := Lib.hid hlen
  clear hlen
  go_enter Try.func54, Try.ntmps54
  go_wp2
  go_loopw [3] (fun i wr => ∃ k : Nat, k ≤ n ∧ i = .int .i64 k ∧ Hid (∀ j, j < k → handAt fs j = true) ∧ Drawn w wr) (fun i _ => n - (intOf i).toNat)
  case atStart => exact ⟨0, Nat.zero_le _, rfl, fun j hj => absurd hj (by omega), Drawn.refl _⟩
  case round =>
    obtain ⟨k, hk, rfl, hp, hd⟩ := hrel
    have Hd := Lib.hid hd
    clear hd
    by_cases hlt : k < n
    · obtain ⟨hcap, b, off, rfl, hbs, hc⟩ := Hf.out (by omega)
      have Hs' := Lib.hid ((Hs.out.take k (by rw [Hlen.out]; omega) cap (by omega)).drawn Hd.out)
      have c1 : wr.cell? ⟨b, off + k, none⟩ = some (.int .i64 (fs.getD k 0)) := by rw [Hd.out.cell]; exact hc k hlt
      clear hc
      have hgo := handAt_out fs k
      have hgi := handAt_in fs k
      have hob := Hbad.out k hlt
      have hhas := has_any (fs.take k) (fs.getD k 0)
      generalize fs.getD k 0 = y at *
      by_cases hx : y < 0 ∨ 51 < y
      · have HB : Hid (B = false) := Lib.hid (hob (hgo hx))
        clear hgo hgi hob hhas
        have Hin := Lib.hid (fun z => in_no y 0 51 z (by omega))
        go_wp2_with fail
        go_quiet ((go_at_call 46; exact quiet_same (Hin.out _)))
        go_wp2
        go_ret
        exact ⟨ret_bool HB.out.symm, Hd.out.more _⟩
      · have Hgood := Lib.hid (hgi (by omega) (by omega))
        have Hob := Lib.hid hob
        have Hhas := Lib.hid hhas
        clear hgo hgi hob hhas
        cases hB : (fs.take k).contains y
        all_goals
          have HB := Lib.hid hB
          clear hB
          have Hh := Lib.hid (fun z => Hhas.out _ (wr.drewN z) (by rw [List.length_take]; omega) (Hs'.out.drewN z))
          rw [HB.out] at Hh
          have Hin := Lib.hid (fun z => in_yes y 0 51 z (by omega) (by omega))
          go_wp2_with fail
          go_quiet ((first | (go_at_call 46; exact quiet_same (Hin.out _)) | (go_at_call 87; exact Calls.quiet_of (Hh.out _))))
          go_wp2
        · go_roundw
          case rel => exact ⟨k + 1, by omega, by go_num, fun j hj => by
            by_cases e : j = k
            · subst e; rw [Hgood.out, HB.out]; rfl
            · exact hp.out j (by omega), Hd.out.more _⟩
          case measure => simp [intOf]; omega
        · go_ret
          exact ⟨ret_bool (Hob.out (by rw [Hgood.out, HB.out]; rfl)).symm, Hd.out.more _⟩
    · obtain rfl : k = n := by omega
      have HB := Lib.hid (Hgd.out hp.out)
      go_wp2
      go_ret
      exact ⟨ret_bool HB.out.symm, Hd.out⟩

def handsB (fs gs : List Int) : Bool := decide (fs.length = gs.length) && (decide (fs.length ≤ 6) && cardsB (fs ++ gs))
set_option maxRecDepth 100000 in
set_option maxHeartbeats 2000000 in
theorem grow_zero (w : World) : Calls Try.prog 86 #[.slice none 0 0, .int .i64 0] w fun e w' => e = .returned (.slice none 0 0) ∧ w = w' := by
  go_enter Try.func86, Try.ntmps86
  go_wp2
  go_ret
  exact ⟨rfl, rfl⟩
set_option maxRecDepth 100000 in
set_option maxHeartbeats 2000000 in
theorem concat_empty (p q : Option Addr) (c c' b : Nat) (w : World) (c0 : w.cell? ⟨b, 0, none⟩ = some (.slice p 0 c)) (c1 : w.cell? ⟨b, 1, none⟩ = some (.slice q 0 c')) :
    Calls Try.prog 53 #[.slice (some ⟨b, 0, none⟩) 2 2] w fun e w' => e = .returned (.slice none 0 0) ∧ w = w' := by
  obtain ⟨i0, hi, hz0, hz1, hz2⟩ := info_parts (show (Try.prog.info? 2).map (fun i => (i.zero, i.size, i.bytes)) = some (some (.int .i64 0), 1, 8) by kernel_rfl)
  have C0 := Lib.hid c0
  have C1 := Lib.hid c1
  clear c0 c1
  have HR := Lib.hid (fun (p : Option Addr) (c : Nat) (ty : TypeId) => show (Builtin.append_ #[25, 25] ty #[.slice none 0 0, .slice p 0 c]).run Try.prog w = .ok (.slice none 0 0) w by
    have hu : Try.prog.underlying 25 = some (.slice 2) := by kernel_rfl
    have hl : ∀ (x : Addr), (loadCells x 0).run Try.prog w = .ok #[] w := fun x => by simpa using run_loadCells_list (P := Try.prog) w x [] (by simp)
    cases p <;> simp [Builtin.append_, run_underlying hu, Builtin.lenOf, Builtin.firstCells, sizeOf, typeInfo, hi, hl])
  go_enter Try.func53, Try.ntmps53
  go_wp2
  go_loop [3, 11] (fun s i => (i = .int .i64 0 ∧ s = .int .i64 0) ∨ (i = .int .i64 1 ∧ s = .int .i64 0) ∨ (i = .int .i64 2 ∧ s = .int .i64 0)) (fun _ i => 2 - (intOf i).toNat)
  case atStart => exact .inl ⟨rfl, rfl⟩
  case round =>
    rcases hrel with ⟨rfl, rfl⟩ | ⟨rfl, rfl⟩ | ⟨rfl, rfl⟩
    · have c0 := C0.out
      go_wp2
      go_round
      case rel => exact .inr (.inl ⟨rfl, rfl⟩)
      case measure => simp [intOf]
    · have c1 := C1.out
      go_wp2
      go_round
      case rel => exact .inr (.inr ⟨rfl, rfl⟩)
      case measure => simp [intOf]
    · go_wp2_with (go_at_call 86; (with_reducible refine (grow_zero _).mono ?_); rintro e w1 ⟨rfl, rfl⟩)
      go_loop [6, 27] (fun x i => x = .slice none 0 0 ∧ (i = .int .i64 0 ∨ i = .int .i64 1 ∨ i = .int .i64 2)) (fun _ i => 2 - (intOf i).toNat)
      case atStart => exact ⟨rfl, .inl rfl⟩
      case round =>
        obtain ⟨rfl, hh⟩ := hrel
        rcases hh with rfl | rfl | rfl
        · have c0 := C0.out
          go_wp2_with (at_builtin; refine Lib.wpList_append_run _ rfl _ _ _ _ rfl _ _ rfl rfl _ _ (HR.out _ _ _) ?_)
          go_round
          case rel => exact ⟨rfl, .inr (.inl rfl)⟩
          case measure => simp [intOf]
        · have c1 := C1.out
          go_wp2_with (at_builtin; refine Lib.wpList_append_run _ rfl _ _ _ _ rfl _ _ rfl rfl _ _ (HR.out _ _ _) ?_)
          go_round
          case rel => exact ⟨rfl, .inr (.inr rfl)⟩
          case measure => simp [intOf]
        · go_wp2
          go_ret
          exact ⟨rfl, rfl⟩
theorem cards_nil : cardsB [] = true := rfl
theorem append_none (w : World) (p0 p : Option Addr) (c0 c : Nat) (ty : TypeId) : (Builtin.append_ #[25, 25] ty #[.slice p0 0 c0, .slice p 0 c]).run Try.prog w = .ok (.slice p0 0 c0) w := by
  obtain ⟨i0, hi, hz0, hz1, hz2⟩ := info_parts (show (Try.prog.info? 2).map (fun i => (i.zero, i.size, i.bytes)) = some (some (.int .i64 0), 1, 8) by kernel_rfl)
  have hu : Try.prog.underlying 25 = some (.slice 2) := by kernel_rfl
  have hl : ∀ (x : Addr), (loadCells x 0).run Try.prog w = .ok #[] w := fun x => by simpa using run_loadCells_list (P := Try.prog) w x [] (by simp)
  cases p <;> cases p0 <;> simp [Builtin.append_, run_underlying hu, Builtin.lenOf, Builtin.firstCells, sizeOf, typeInfo, hi, hl, storeCells]
set_option maxRecDepth 100000 in
set_option maxHeartbeats 4000000 in
theorem hands_impl (fs : List Int) (v : Value) (gs : List Int) (u : Value) (w : World) (hn : fs.length ≤ 1048576) (h : Sl (Value.int .i64) 0 w v fs) (hm : gs.length ≤ 1048576) (h' : Sl (Value.int .i64) 0 w u gs) :
    Calls Try.prog 19 #[v, u] w fun e w' => e = .returned (.bool (handsB fs gs)) ∧ Below w.heap.size w w' := by
  by_cases hl : fs.length = gs.length
  · by_cases h6 : fs.length ≤ 6
    · have e0 : handsB fs gs = cardsB (fs ++ gs) := by unfold handsB; rw [decide_eq_true hl, decide_eq_true h6]; rfl
      rw [e0]
      have HC := Lib.hid (fun x z hz => areCards_any (fs ++ gs) x z (by rw [List.length_append]; omega) hz)
      by_cases h0 : fs.length = 0
      · obtain rfl := List.eq_nil_of_length_eq_zero h0
        obtain rfl : gs = [] := List.eq_nil_of_length_eq_zero (by omega)
        obtain ⟨p, cap, rfl, -⟩ := h
        obtain ⟨q, cap', rfl, -⟩ := h'
        have HW := Lib.hid ((Below.refl w.heap.size w).alloc (Nat.le_refl _) (.cells #[.slice p 0 cap, .slice q 0 cap'] 25))
        have HE := Lib.hid (concat_empty p q cap cap' w.heap.size (w.alloc (.cells #[.slice p 0 cap, .slice q 0 cap'] 25)) (World.cell?_alloc_at _ _ _ _ rfl) (World.cell?_alloc_at _ _ _ _ rfl))
        rw [List.append_nil] at HC
        rw [List.append_nil]
        clear e0 hl h6 h0 hn hm
        generalize cardsB [] = R at *
        go_enter Try.func19, Try.ntmps19
        go_wp2_with (first | (go_at_call 53; (refine HE.out.mono ?_); rintro e w1 ⟨rfl, rfl⟩) | (go_at_call 52; (with_reducible refine (HC.out _ _ (Sl.nil _ _ _ _ _)).mono ?_); rintro e w2 ⟨rfl, hb⟩; have Hb := Lib.hid (HW.out.trans (hb.mono HW.out.size)); clear hb))
        go_ret
        exact ⟨rfl, Hb.out⟩
      · have HW := Lib.hid ((Below.refl w.heap.size w).alloc (Nat.le_refl _) (.cells #[v, u] 25))
        have HE := Lib.hid (concat_two fs gs v u w.heap.size (w.alloc (.cells #[v, u] 25)) (by omega) (by omega) (by omega) (by omega) (h.later HW.out) (h'.later HW.out) (World.cell?_alloc_at _ _ _ _ rfl) (World.cell?_alloc_at _ _ _ _ rfl))
        obtain ⟨p, cap, rfl, -⟩ := h
        obtain ⟨q, cap', rfl, -⟩ := h'
        generalize fs ++ gs = R at *
        rw [← hl] at HE HW ⊢
        clear e0 hl h0 hm
        generalize fs.length = n at *
        have d6 : decide (n ≤ 6) = true := decide_eq_true h6
        have d7 : decide ((n : Int) ≤ 6) = true := decide_eq_true (by omega)
        go_enter Try.func19, Try.ntmps19
        go_wp2_with (first | (go_at_call 53; (refine HE.out.mono ?_); rintro e w1 ⟨r, rfl, hr, hb⟩; have Hr := Lib.hid hr.sl; have Hb1 := Lib.hid (HW.out.trans (hb.mono HW.out.size)); clear hr hb) | (go_at_call 52; (with_reducible refine (HC.out _ _ Hr.out).mono ?_); rintro e w2 ⟨rfl, hb⟩; have Hb := Lib.hid (Hb1.out.trans (hb.mono Hb1.out.size)); clear hb))
        go_ret
        exact ⟨rfl, Hb.out⟩
    · have e0 : handsB fs gs = false := by unfold handsB; rw [decide_eq_false h6, Bool.false_and, Bool.and_false]
      rw [e0]
      obtain ⟨p, cap, rfl, -⟩ := h
      obtain ⟨q, cap', rfl, -⟩ := h'
      rw [← hl]
      clear e0 hl hm
      generalize fs.length = n at *
      have d7 : decide ((n : Int) ≤ 6) = false := decide_eq_false (by omega)
      go_enter Try.func19, Try.ntmps19
      go_wp2
      go_ret
      exact ⟨rfl, Below.refl _ _⟩
  · have e0 : handsB fs gs = false := by unfold handsB; rw [decide_eq_false hl, Bool.false_and]
    rw [e0]
    obtain ⟨p, cap, rfl, -⟩ := h
    obtain ⟨q, cap', rfl, -⟩ := h'
    have d : ((fs.length : Int) == (gs.length : Int)) = false := by rw [beq_eq_false_iff_ne]; omega
    have d2 : (fs.length == gs.length) = false := by rw [beq_eq_false_iff_ne]; omega
    clear e0 hl
    generalize fs.length = n at *
    generalize gs.length = m at *
    go_enter Try.func19, Try.ntmps19
    go_wp2
    go_ret
    exact ⟨rfl, Below.refl _ _⟩
set_option maxRecDepth 100000 in
set_option maxHeartbeats 4000000 in
theorem hands_spec (fs : List Int) (v : Value) (gs : List Int) (u : Value) (w : World) (hn : fs.length ≤ 1048576) (h : Sl (Value.int .i64) 0 w v fs) (hm : gs.length ≤ 1048576) (h' : Sl (Value.int .i64) 0 w u gs) :
    Calls Try.prog 51 #[v, u] w fun e w' => e = .returned (.bool (handsB fs gs)) ∧ Below w.heap.size w w' := by
  obtain ⟨i0, hi, hz0, hz1, hz2⟩ := info_parts (show (Try.prog.info? 2).map (fun i => (i.zero, i.size, i.bytes)) = some (some (.int .i64 0), 1, 8) by kernel_rfl)
  by_cases hl : fs.length = gs.length
  · by_cases h6 : fs.length ≤ 6
    · have e0 : handsB fs gs = cardsB (fs ++ gs) := by unfold handsB; rw [decide_eq_true hl, decide_eq_true h6]; rfl
      rw [e0]
      have HC := Lib.hid (fun x z hz => cards_spec (fs ++ gs) x z (by rw [List.length_append]; omega) hz)
      by_cases h0 : fs.length = 0
      · obtain rfl := List.eq_nil_of_length_eq_zero h0
        obtain rfl : gs = [] := List.eq_nil_of_length_eq_zero (by omega)
        obtain ⟨p, cap, rfl, -⟩ := h
        obtain ⟨q, cap', rfl, -⟩ := h'
        have HW := Lib.hid ((Below.refl w.heap.size w).alloc (Nat.le_refl _) (.cells #[] 2))
        have HN := Lib.hid append_none
        rw [List.append_nil] at HC
        rw [List.append_nil]
        clear e0 hl h6 h0 hn hm
        generalize cardsB [] = R at *
        go_enter Try.func51, Try.ntmps51
        go_wp2_with (first | (at_builtin; refine Lib.wpList_append_run _ rfl _ _ _ _ rfl _ _ rfl rfl _ _ (HN.out _ _ _ _ _ _) ?_) | (go_at_call 54; (with_reducible refine (HC.out _ _ (Sl.nil _ _ _ _ _)).mono ?_); rintro e w2 ⟨rfl, hd⟩; have Hb := Lib.hid (HW.out.trans ((hd.below w.heap.size))); clear hd))
        go_ret
        exact ⟨rfl, Hb.out⟩
      · have Hv := Lib.hid h
        have Hu := Lib.hid h'
        obtain ⟨p, cap, rfl, hf⟩ := h
        obtain ⟨q, cap', rfl, hg⟩ := h'
        obtain ⟨hcap, bf, of', rfl, hbf, -⟩ := hf (Nat.pos_of_ne_zero h0)
        obtain ⟨hcap', bg, og, rfl, hbg, -⟩ := hg (by rw [← hl]; exact Nat.pos_of_ne_zero h0)
        clear hf hg
        have N1 := Lib.hid (fun z (hb : Below w.heap.size w z) => sl_news (Hv.out.later hb))
        have N2 := Lib.hid (fun z (hb : Below w.heap.size w z) => sl_news (Hu.out.later hb))
        have O1 := Lib.hid (all_one fs)
        have O2 := Lib.hid (all_one gs)
        have N1l : Hid ((fs.map (Value.int .i64)).length = fs.length * 1) := Lib.hid (by simp)
        have N2l : Hid ((gs.map (Value.int .i64)).length = fs.length * 1) := Lib.hid (by simp [hl])
        have Hcat := Lib.hid (fun (w2 : World) v2 (h : w2.ownsRow w.heap.size 2 1 v2 (fs.length + gs.length) (fs.map (Value.int .i64) ++ gs.map (Value.int .i64))) => (Sw.of_owns (d := (0 : Int)) (own_cat h) rfl : Sw (Value.int .i64) 0 w2 v2 (fs ++ gs) w.heap.size w2.heap.size))
        rw [← hl] at Hcat hcap' ⊢
        generalize fs ++ gs = R at *
        generalize fs.map (Value.int .i64) = F at *
        generalize gs.map (Value.int .i64) = G at *
        clear e0 hl h0 hm Hv Hu
        generalize fs.length = n at *
        have d7 : decide (6 < (n : Int)) = false := decide_eq_false (by omega)
        have d8 : ((n : Int) != (n : Int)) = false := by simp
        have HW := Lib.hid ((Below.refl w.heap.size w).alloc (Nat.le_refl _) (.cells #[] 2))
        have H00 := Lib.hid (show (w.alloc (.cells #[] 2)).ownsRow w.heap.size 2 1 (.slice (some ⟨w.heap.size, 0, none⟩) 0 0) 0 [] from World.ownsRow_made w #[] 0 (Nat.le_refl _) (Nat.zero_le _) rfl)
        have N1w := Lib.hid (N1.out _ HW.out)
        go_enter Try.func51, Try.ntmps51
        go_wp2_with (first | (at_builtin; refine wpList_append_own _ rfl (.tmp 15) (.tmp 16) 25 rfl w.heap.size 2 i0 (.int .i64 0) 1 8 (by kernel_rfl) hi hz0 hz1 hz2 rfl (by decide) _ _ _ rfl H00.out ⟨bf, of', none⟩ n cap F rfl N1l.out N1w.out O1.out (by unfold maxLen; omega) (by omega) (by simp) ?_; intro v2 w2 hown2 hgrow2 _; have Hown2 := Lib.hid (show w2.ownsRow w.heap.size 2 1 v2 n F by simpa using hown2); have Hb2 := Lib.hid (HW.out.grown hgrow2 HW.out.size (fun b hb => (H00.out.lt b hb).1)); clear hown2 hgrow2; have hz2' := Hb2.out.size; have N2w := Lib.hid (N2.out _ Hb2.out)) | (at_builtin; refine wpList_append_own _ rfl (.tmp 17) (.tmp 18) 25 rfl w.heap.size 2 i0 (.int .i64 0) 1 8 (by kernel_rfl) hi hz0 hz1 hz2 rfl (by decide) _ _ _ rfl Hown2.out ⟨bg, og, none⟩ n cap' G rfl N2l.out N2w.out O2.out (by unfold maxLen; omega) (by omega) (by omega) ?_; intro v3 w3 hown3 hgrow3 _; have Hs3 := Lib.hid (Hcat.out _ _ hown3).sl; have Hb3 := Lib.hid (Hb2.out.grown hgrow3 hz2' (fun b hb => (Hown2.out.lt b hb).1)); clear hown3 hgrow3) | (go_at_call 54; (with_reducible refine (HC.out _ _ Hs3.out).mono ?_); rintro e w4 ⟨rfl, hd⟩; have Hb := Lib.hid (Hb3.out.trans (hd.below w.heap.size)); clear hd))
        go_ret
        exact ⟨rfl, Hb.out⟩
    · have e0 : handsB fs gs = false := by unfold handsB; rw [decide_eq_false h6, Bool.false_and, Bool.and_false]
      rw [e0]
      obtain ⟨p, cap, rfl, -⟩ := h
      obtain ⟨q, cap', rfl, -⟩ := h'
      rw [← hl]
      clear e0 hl hm
      generalize fs.length = n at *
      have d7 : decide (6 < (n : Int)) = true := decide_eq_true (by omega)
      have d8 : ((n : Int) != (n : Int)) = false := by simp
      go_enter Try.func51, Try.ntmps51
      go_wp2
      go_ret
      exact ⟨rfl, Below.refl _ _⟩
  · have e0 : handsB fs gs = false := by unfold handsB; rw [decide_eq_false hl, Bool.false_and]
    rw [e0]
    obtain ⟨p, cap, rfl, -⟩ := h
    obtain ⟨q, cap', rfl, -⟩ := h'
    have d : ((fs.length : Int) != (gs.length : Int)) = true := by rw [bne_iff_ne]; omega
    have d1 : (fs.length = gs.length) = False := eq_false hl
    have d2 : (fs.length == gs.length) = false := by rw [beq_eq_false_iff_ne]; omega
    clear e0 hl
    generalize fs.length = n at *
    generalize gs.length = m at *
    go_enter Try.func51, Try.ntmps51
    go_wp2
    go_ret
    exact ⟨rfl, Below.refl _ _⟩
def ok_AreHands (fs gs : List Int) : Bool := handsB fs gs
theorem impl_AreHands (fs : List Int) (v : Value) (gs : List Int) (u : Value) (w : World) (hn : fs.length ≤ 1048576) (h : Sl (Value.int .i64) 0 w v fs) (hm : gs.length ≤ 1048576) (h' : Sl (Value.int .i64) 0 w u gs) :
    Calls Try.prog 19 #[v, u] w fun e w' => e = .returned (.bool (ok_AreHands fs gs)) ∧ Below w.heap.size w w' := hands_impl fs v gs u w hn h hm h'
theorem spec_AreHands (fs : List Int) (v : Value) (gs : List Int) (u : Value) (w : World) (hn : fs.length ≤ 1048576) (h : Sl (Value.int .i64) 0 w v fs) (hm : gs.length ≤ 1048576) (h' : Sl (Value.int .i64) 0 w u gs) :
    Calls Try.prog 17 #[v, u] w fun e w' => e = .returned (.bool (ok_AreHands fs gs)) ∧ Below w.heap.size w w' := by
  have H := Lib.hid (hands_spec fs v gs u w hn h hm h')
  obtain ⟨p, cap, rfl, -⟩ := h
  obtain ⟨q, cap', rfl, -⟩ := h'
  unfold ok_AreHands
  go_enter Try.func17, Try.ntmps17
  go_wp2_with (go_at_call 51; (with_reducible refine H.out.mono ?_); rintro e w2 ⟨rfl, hb⟩; have Hb := Lib.hid hb; clear hb)
  go_ret
  exact ⟨rfl, Hb.out⟩
end Go.Proofs.Ytglmahgbdgbbpaa
