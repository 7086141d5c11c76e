/- Contracts: lists of integers read, the program's function. -/
import Derived.Test.YtcoehcoohppbjacDoorCo
set_option linter.unusedVariables false
namespace Go.Proofs.YtcoehcoohppbjacDoor
open Go.RowKit Go.Shelf
def ok_ReadList (s : ByteArray) : Bool := decide (s = noneS) || (decide (Lib.countB s commaB < 64) && (parts s).all ok_ReadDecimal)
def res_ReadList (s : ByteArray) : List Int := if s = noneS then [] else if ok_ReadList s = true then (parts s).map res_ReadDecimal else []
theorem rl_none (s : ByteArray) (h : s = noneS) : ok_ReadList s = true ∧ res_ReadList s = [] := ⟨by unfold ok_ReadList; rw [decide_eq_true h]; rfl, if_pos h⟩
theorem rl_bad (s : ByteArray) (h : ¬ s = noneS) (h1 : ok_ReadList s = false) : res_ReadList s = [] := by unfold res_ReadList; rw [if_neg h, if_neg (by rw [h1]; simp)]
theorem rl_many (s : ByteArray) (h : ¬ s = noneS) (h1 : 64 ≤ Lib.countB s commaB) : ok_ReadList s = false := by
  unfold ok_ReadList; rw [decide_eq_false h, decide_eq_false (p := Lib.countB s commaB < 64) (by omega)]; rfl
theorem rl_no (s : ByteArray) (h : ¬ s = noneS) (k : Nat) (hk : k < (parts s).length) (h1 : ok_ReadDecimal ((parts s).getD k ⟨#[]⟩) = false) : ok_ReadList s = false := by
  unfold ok_ReadList
  rw [decide_eq_false h, Bool.false_or, Bool.and_eq_false_iff]
  right
  rw [Bool.eq_false_iff]
  intro ha
  have := List.all_eq_true.1 ha _ (List.getElem_mem hk)
  rw [getD_lt _ _ _ hk] at h1
  rw [h1] at this; cases this
theorem rl_yes (s : ByteArray) (h : ¬ s = noneS) (h0 : Lib.countB s commaB < 64) (h1 : ∀ k, k < (parts s).length → ok_ReadDecimal ((parts s).getD k ⟨#[]⟩) = true) : ok_ReadList s = true ∧ res_ReadList s = (parts s).map res_ReadDecimal := by
  have e : ok_ReadList s = true := by
    unfold ok_ReadList
    rw [decide_eq_false h, decide_eq_true h0, Bool.false_or, Bool.true_and, List.all_eq_true]
    intro t ht
    obtain ⟨k, hk, rfl⟩ := List.getElem_of_mem ht
    have := h1 k hk
    rw [getD_lt _ _ _ hk] at this
    exact this
  exact ⟨e, by unfold res_ReadList; rw [if_neg h, if_pos e]⟩
theorem len_ReadList (s : ByteArray) : (res_ReadList s).length ≤ 1048576 := by
  by_cases h : s = noneS
  · rw [(rl_none s h).2]; exact Nat.zero_le _
  · cases e : ok_ReadList s
    · rw [rl_bad s h e]; exact Nat.zero_le _
    · unfold res_ReadList
      rw [if_neg h, if_pos e, List.length_map, parts_len]
      unfold ok_ReadList at e
      rw [decide_eq_false h, Bool.false_or, Bool.and_eq_true] at e
      have := of_decide_eq_true e.1
      omega
theorem noneS_list : noneS.toList = [110, 111, 110, 101] := by rw [Go.Lib.toList_data]; rfl
theorem bytes_eq {s t : ByteArray} (h : s = t) : (s.toList == t.toList) = true := by rw [h]; simp
def TabL (w : World) : Prop := TabE w ∧ MaxP w
theorem TabL.stays {w w' : World} (h : TabL w) (hb : Below w.heap.size w w') : TabL w' := ⟨h.1.stays hb, h.2.stays hb⟩
theorem block_cells (w : World) (P : List ByteArray) (k : Nat) (hk : k < P.length) : (w.alloc (.cells (P.map Value.string).toArray 9)).cell? ⟨w.heap.size, k, none⟩ = some (.string (P.getD k ⟨#[]⟩)) := by
  rw [cell_of_row _ w.heap.size k _ _ _ (heap_alloc_new w _)]
  simp [List.getD, hk]
set_option maxRecDepth 100000 in
set_option maxHeartbeats 1000000 in
theorem items_read (s : ByteArray) (w : World) (hs : s.size ≤ 1048576) (ht : TabL w) :
    Calls Tryd.prog 55 #[.string s, .int .i64 64, .func (.func 15) #[] #[]] w fun e w' => ∃ r, e = .returned (.tuple #[r, .bool (ok_ReadList s)]) ∧ Sw (Value.int .i64) 0 w' r (res_ReadList s) w.heap.size w'.heap.size ∧ Below w.heap.size w w' := by
  have hent : ∀ args w, (callFunc 15 args).run Tryd.prog w = .ok (.enter 15 args) w := run_enter2 Tryd.func15 (by kernel_rfl) (by kernel_rfl)
  by_cases h0 : s = noneS
  · obtain ⟨e1, e2⟩ := rl_none s h0
    rw [e1, e2]
    have d0 : (s.toList == [110, 111, 110, 101]) = true := by rw [← noneS_list]; exact bytes_eq h0
    clear e1 e2 h0 ht hent
    go_enter Tryd.func55, Tryd.ntmps55
    go_wp2
    go_ret2
    exact ⟨_, rfl, Sw.nil _ _ _ _ _ _ _, (Below.refl _ _).alloc (Nat.le_refl _) _⟩
  have d0 : (s.toList == [110, 111, 110, 101]) = false := by rw [← noneS_list]; exact bytes_ne h0
  have Hcnt := Lib.hid (count_any s hs w ht.2)
  by_cases h64 : 64 ≤ Lib.countB s commaB
  · have e1 := rl_many s h0 h64
    have e2 := rl_bad s h0 e1
    rw [e1, e2]
    clear e1 e2 h0 ht hent
    generalize Lib.countB s commaB = C at *
    have d1 : decide ((64 : Int) ≤ (C : Int)) = true := decide_eq_true (by omega)
    go_enter Tryd.func55, Tryd.ntmps55
    go_wp2_with (go_at_call 86; refine (Hcnt.out).mono ?_; rintro e w' ⟨rfl, rfl⟩)
    go_ret2
    exact ⟨_, rfl, Sw.nil _ _ _ _ _ _ _, Below.refl _ _⟩
  have Hspl := Lib.hid (split_any s hs w ht.2)
  have Hbad := Lib.hid (rl_bad s h0)
  have Hno := Lib.hid (rl_no s h0)
  have Hyes := Lib.hid (rl_yes s h0 (by omega))
  have Hpl := Lib.hid (parts_len s)
  have Hps := Lib.hid (fun k (hk : k < (parts s).length) => show ((parts s).getD k ⟨#[]⟩).size ≤ 1048576 from Nat.le_trans (by rw [getD_lt _ _ _ hk]; exact parts_size s _ (List.getElem_mem hk)) hs)
  have Hbc := Lib.hid (fun k hk => block_cells w (parts s) k hk)
  have Ht := Lib.hid (fun z (hz : Below w.heap.size w z) => (ht.stays hz).1)
  have hC : Lib.countB s commaB < 64 := by omega
  have hCi : decide ((64 : Int) ≤ (Lib.countB s commaB : Int)) = false := decide_eq_false (by omega)
  change Hid (Calls Tryd.prog 87 _ w fun e w' => _ ∧ w.alloc (.cells ((parts s).map Value.string).toArray 9) = w') at Hspl
  generalize Lib.countB s commaB = C at *
  generalize res_ReadList s = R at *
  generalize ok_ReadList s = B at *
  generalize parts s = P at *
  generalize hn : C + 1 = n at *
  have hnI : (C : Int) + 1 = (n : Int) := by omega
  have Hbel1 := Lib.hid ((Below.refl w.heap.size w).alloc (Nat.le_refl _) (.cells (P.map Value.string).toArray 9))
  have hsz1 : (w.alloc (.cells (P.map Value.string).toArray 9)).heap.size = w.heap.size + 1 := by simp
  generalize w.alloc (.cells (P.map Value.string).toArray 9) = w1 at *
  obtain ⟨i0, hi, hz0, hz1, hz2⟩ := info_parts (show (Tryd.prog.info? 2).map (fun i => (i.zero, i.size, i.bytes)) = some (some (.int .i64 0), 1, 8) by kernel_rfl)
  clear ht h64 h0
  go_enter Tryd.func55, Tryd.ntmps55
  go_wp2_with (first | (go_at_call 86; refine (Hcnt.out).mono ?_; rintro e w' ⟨rfl, rfl⟩) | (go_at_call 87; refine (Hspl.out).mono ?_; rintro e w' ⟨rfl, rfl⟩) | (at_make; refine wpList_make_full _ rfl _ _ 27 rfl w.heap.size 2 i0 (.int .i64 0) 1 (by kernel_rfl) hi hz0 hz1 .i64 .i64 n n n rfl rfl rfl rfl (by rw [hz2]; omega) (by unfold maxLen; omega) (by omega) ?_; intro w2 hown hgrow))
  have hb2 : Below w.heap.size w w2 := Hbel1.out.grown hgrow (by omega) (by simp)
  have hb12 : Below w1.heap.size w1 w2 := (Below.refl _ w1).grown hgrow (Nat.le_refl _) (by simp)
  rw [hsz1] at hown
  have hs0 : Sw (Value.int .i64) (0 : Int) w2 (.slice (some ⟨w.heap.size + 1, 0, none⟩) n n) (mixed [] (List.replicate n (0 : Int))) (w.heap.size + 1) (w.heap.size + 1 + 1) := by
    refine ⟨some ⟨w.heap.size + 1, 0, none⟩, n, by simp [mixed], fun h0 => ⟨by simp [mixed], w.heap.size + 1, 0, rfl, Nat.le_refl _, Nat.lt_succ_self _, (hown.lt _ rfl).2, fun i hi => ⟨?_, ?_⟩⟩⟩
    · have hin : i < n := by simpa [mixed] using hi
      rw [Nat.zero_add, hown.cellAt i (by omega)]
      rw [show (madeCells (Value.int .i64 0).cells (n * 1)).toList = List.replicate n (Value.int .i64 0) by rw [Nat.mul_one]; exact made1 _ n]
      simp [mixed, List.getD, hin]
    · rw [Nat.zero_add]; exact hown.frozenAt i
  have Hown := Lib.hid hs0
  have Hb12 := Lib.hid hb12
  clear hown hs0 hgrow hb12 Hcnt Hspl
  have Hmn := Lib.hid (show (P.map res_ReadDecimal).length = n by rw [List.length_map]; exact Hpl.out)
  have Hma := Lib.hid (fun k (hk : k < n) => show (P.map res_ReadDecimal).getD k 0 = res_ReadDecimal (P.getD k ⟨#[]⟩) by rw [← Hpl.out] at hk; simp [List.getD, hk])
  have Htn := Lib.hid (fun k (hk : k < (P.map res_ReadDecimal).length) => take_next (P.map res_ReadDecimal) (0 : Int) k hk)
  go_loopw [28] (fun i wr => ∃ k : Nat, k ≤ n ∧ i = .int .i64 (k : Int) ∧ Hid (∀ j, j < k → ok_ReadDecimal (P.getD j ⟨#[]⟩) = true) ∧ Hid (Sw (Value.int .i64) (0 : Int) wr (.slice (some ⟨w.heap.size + 1, 0, none⟩) n n) (mixed ((P.map res_ReadDecimal).take k) (List.replicate n (0 : Int))) (w.heap.size + 1) (w.heap.size + 1 + 1)) ∧ Hid (Below w1.heap.size w1 wr)) (fun i _ => n - (intOf i).toNat)
  case atStart => exact ⟨0, Nat.zero_le _, rfl, Lib.hid (fun j hj => by omega), by simpa using Hown, Hb12⟩
  case round =>
    obtain ⟨k, hk, rfl, Hdn, hs9, hb⟩ := hrel
    have hbz := hb.out.size
    by_cases hlt : k < n
    · have c1 : wr.cell? ⟨w.heap.size, k, none⟩ = some (.string (P.getD k ⟨#[]⟩)) := by rw [hb.out.cell (show w.heap.size < _ by omega)]; exact Hbc.out k (by rw [Hpl.out]; exact hlt)
      have hbw : Below w.heap.size w wr := Hbel1.out.trans (hb.out.mono (by omega))
      have hcall := impl_ReadDecimalE (P.getD k ⟨#[]⟩) wr (Hps.out k (by rw [Hpl.out]; exact hlt)) (Ht.out wr hbw)
      cases hr : ok_ReadDecimal (P.getD k ⟨#[]⟩)
      · have hB := Hno.out k (by rw [Hpl.out]; exact hlt) hr
        have hR := Hbad.out hB
        rw [hr] at hcall
        have Hcall := Lib.hid hcall
        subst hB
        subst hR
        clear Hbad Hno Hyes hcall hr Hdn Hma Htn Hmn
        generalize res_ReadDecimal (P.getD k ⟨#[]⟩) = x at *
        generalize P.getD k ⟨#[]⟩ = sv at *
        go_wp2_with (refine (Hcall.out).mono ?_; rintro e w3 ⟨rfl, hb3⟩; have Hb3 := Lib.hid (below_step hbw hb3 (Nat.le_refl _)); clear hb3)
        go_ret2
        exact ⟨_, rfl, Sw.nil _ _ _ _ _ _ _, Hb3.out⟩
      · have Hdn2 : Hid (∀ j, j < k + 1 → ok_ReadDecimal (P.getD j ⟨#[]⟩) = true) := Lib.hid (fun j hj => by
          by_cases e : j = k
          · subst e; exact hr
          · exact Hdn.out j (by omega))
        rw [hr] at hcall
        have Hcall := Lib.hid hcall
        have hml : ((P.map res_ReadDecimal).take k).length = k := by rw [List.length_take, Hmn.out]; omega
        have Htk := Lib.hid (Htn.out k (by rw [Hmn.out]; exact hlt))
        rw [Hma.out k hlt] at Htk
        clear Hbad Hno Hyes hcall hr Hdn hbw
        generalize res_ReadDecimal (P.getD k ⟨#[]⟩) = x at *
        generalize P.getD k ⟨#[]⟩ = sv at *
        go_wp2_with fail
        refine (Hcall.out).mono ?_
        rintro e w3 ⟨rfl, hb3⟩
        have hx := hs9.out.later hb3
        have Hb3 := Lib.hid (below_step hb.out hb3 (Nat.le_refl _))
        have hz3 := hb3.size
        obtain ⟨b1, off1, e1, q1, q2, q3, q4⟩ := hx.open' k (by simp [mixed]; omega)
        cases e1
        rw [Nat.zero_add] at q3 q4
        have Hst := hx.store k (by simp [mixed]; omega) x
        rw [mixed_set _ _ _ _ hml (by simp; omega), Htk.out] at Hst
        simp only [Nat.zero_add] at Hst
        have HS := Lib.hid Hst
        have Hb4 : Hid (Below w1.heap.size w1 (w3.setCell ⟨w.heap.size + 1, k, none⟩ (.int .i64 x))) := Lib.hid (Hb3.out.setCell (Nat.le_of_eq hsz1) _)
        generalize List.getD _ k _ = old at q3
        clear hb3 hx Hst Hb3 q1 Htk hs9 hb
        go_wp2
        go_roundw
        case rel => exact ⟨k + 1, by omega, by go_num, Hdn2, HS, Hb4⟩
        case measure => simp [intOf]; omega
    · obtain rfl : k = n := by omega
      obtain ⟨hB, hR⟩ := Hyes.out (fun j hj => Hdn.out j (by rw [Hpl.out] at hj; exact hj))
      subst hB
      subst hR
      have e9 : mixed ((P.map res_ReadDecimal).take k) (List.replicate k (0 : Int)) = P.map res_ReadDecimal := by
        rw [List.take_of_length_le (by rw [Hmn.out]; exact Nat.le_refl _)]
        exact mixed_done _ _ (by rw [Hmn.out, List.length_replicate])
      have hs10 := hs9.out
      rw [e9] at hs10
      have HS10 := Lib.hid hs10
      have hwr : w.heap.size + 1 + 1 ≤ wr.heap.size := by
        obtain ⟨_, _, _, ⟨_, _, h9⟩, _⟩ := hs10.open' 0 (by rw [Hmn.out]; omega)
        exact h9
      have HBw := Lib.hid (Hbel1.out.trans (hb.out.mono (by omega)))
      clear Hbad Hno Hyes hs10 e9 Hdn Hma Htn Hmn
      go_wp2
      go_ret2
      exact ⟨_, rfl, HS10.out.mono (by omega) hwr (Nat.le_refl _), HBw.out⟩
theorem impl_ReadList (s : ByteArray) (w : World) (hs : s.size ≤ 1048576) (ht : TabL w) :
    Calls Tryd.prog 21 #[.string s] w fun e w' => ∃ r, e = .returned (.tuple #[r, .bool (ok_ReadList s)]) ∧ Sw (Value.int .i64) 0 w' r (res_ReadList s) w.heap.size w'.heap.size ∧ Below w.heap.size w w' := by
  have H := Lib.hid (items_read s w hs ht)
  clear ht
  generalize res_ReadList s = R at *
  generalize ok_ReadList s = B at *
  go_enter Tryd.func21, Tryd.ntmps21
  go_wp2_with fail
  refine (H.out).mono ?_
  rintro e w2 ⟨r, rfl, hs2, hb⟩
  have HS := Lib.hid hs2
  have Hb := Lib.hid hb
  obtain ⟨p, cap, rfl, -⟩ := hs2
  clear hb
  go_wp2
  go_ret2
  exact ⟨_, rfl, HS.out, Hb.out⟩
end Go.Proofs.YtcoehcoohppbjacDoor
