/- Contracts: lists of integers read, the model's function. -/
import Derived.Test.YtcoehcoohppbjacDoorCr
set_option linter.unusedVariables false
namespace Go.Proofs.YtcoehcoohppbjacDoor
open Go.RowKit Go.Shelf
theorem Sw.of_ownsI {α : Type} {mk : α → Value} {d : α} {w : World} {base : Nat} {e : TypeId} {v : Value} {fs : List α} {n : Nat} (h : w.ownsRow base e 1 v n (fs.map mk)) (hn : fs.length = n) : Sw mk d w v fs base w.heap.size := by
  subst hn
  have h0 := h
  rcases h.2 with ⟨rfl, h'⟩ | ⟨g, cap, cur, rfl, hb, hg, hnc, _⟩
  · obtain rfl : fs = [] := List.eq_nil_of_length_eq_zero h'
    exact Sw.nil _ _ _ _ _ _ _
  · have hlt := (h.lt g rfl)
    refine ⟨_, cap, rfl, fun _ => ⟨hnc, g, 0, rfl, hb, hlt.2, Nat.le_refl _, fun i hi => ⟨?_, ?_⟩⟩⟩
    · rw [Nat.zero_add, h0.cellAt i (by omega), List.getElem?_map, List.getElem?_eq_getElem hi, getD_lt fs d i hi]
      rfl
    · rw [Nat.zero_add]; exact h0.frozenAt i
theorem own_cap0 {w : World} {base g cap n : Nat} {e : TypeId} {xs : List Value} (h : w.ownsRow base e 1 (.slice (some ⟨g, 0, none⟩) n cap) n xs) : n ≤ cap := by
  rcases h.2 with ⟨h, _⟩ | ⟨g', cap', cur, hv, -, -, hc, -⟩
  · cases h
  · cases hv; exact hc
theorem own_lat {w w' : World} {base : Nat} {e : TypeId} {size : Nat} {v : Value} {n : Nat} {xs : List Value} (h : w.ownsRow base e size v n xs) (hb : Below w.heap.size w w') : w'.ownsRow base e size v n xs :=
  h.kept (row := none) ⟨hb.os, hb.tape, hb.output, hb.size, fun k hk _ => hb.block k hk⟩ (by cases v.ownBlock <;> simp)
theorem str_cell {w : World} {base g cap n : Nat} {e : TypeId} {P : List ByteArray} (h : w.ownsRow base e 1 (.slice (some ⟨g, 0, none⟩) n cap) n (P.map Value.string)) (k : Nat) (hk : k < n) : w.cell? ⟨g, k, none⟩ = some (.string (P.getD k ⟨#[]⟩)) := by
  have hl : P.length = n := by have := h.1; simp at this; exact this
  rw [h.cellAt k (by omega), List.getElem?_map, List.getElem?_eq_getElem (by omega)]
  simp [List.getD, show k < P.length by omega]
theorem int_zero (w : World) (base : Nat) (h : base ≤ w.heap.size) : (w.alloc (.cells #[] 2)).ownsRow base 2 1 (.slice (some ⟨w.heap.size, 0, none⟩) 0 0) 0 (([] : List Int).map (Value.int .i64)) :=
  World.ownsRow_lit w #[] 0 h (Nat.zero_le _) rfl
set_option maxRecDepth 100000 in
set_option maxHeartbeats 1000000 in
theorem numbers_spec (s : ByteArray) (w : World) (hs : s.size ≤ 1048576) :
    Calls Tryd.prog 54 #[.string s] w fun e w' => ∃ r, e = .returned (.tuple #[r, .bool (ok_ReadList s)]) ∧ Sw (Value.int .i64) 0 w' r (res_ReadList s) w.heap.size w'.heap.size ∧ Below w.heap.size w w' := by
  by_cases h0 : s = noneS
  · obtain ⟨e1, e2⟩ := rl_none s h0
    rw [e1, e2]
    have d0 : (s.toList == [110, 111, 110, 101]) = true := by rw [← noneS_list]; exact bytes_eq h0
    clear e1 e2 h0
    go_enter Tryd.func54, Tryd.ntmps54
    go_wp2
    go_ret2
    exact ⟨_, rfl, Sw.nil _ _ _ _ _ _ _, (Below.refl _ _).alloc (Nat.le_refl _) _⟩
  have d0 : (s.toList == [110, 111, 110, 101]) = false := by rw [← noneS_list]; exact bytes_ne h0
  have Hcut := Lib.hid (cut_spec s hs (w.alloc (.cells #[] 2)))
  have hsA : (w.alloc (.cells #[] 2)).heap.size = w.heap.size + 1 := by simp
  have HbA := Lib.hid ((Below.refl w.heap.size w).alloc (Nat.le_refl _) (.cells #[] 2))
  have HoA := Lib.hid (int_zero w w.heap.size (Nat.le_refl _))
  rw [hsA] at Hcut
  have Hpl := Lib.hid (parts_len s)
  have hPC : (parts s).length = Lib.countB s commaB + 1 := parts_len s
  by_cases h64 : 64 ≤ Lib.countB s commaB
  · have e1 := rl_many s h0 h64
    have e2 := rl_bad s h0 e1
    rw [e1, e2]
    clear e1 e2 h0 HoA
    generalize parts s = P at *
    generalize hn : P.length = n at *
    have d1 : decide ((64 : Int) < (n : Int)) = true := decide_eq_true (by omega)
    clear hn
    go_enter Tryd.func54, Tryd.ntmps54
    go_wp2_with (go_at_call 85; refine (Hcut.out).mono ?_; rintro e w1 ⟨b, c, rfl, ho, hb⟩; have Hb1 := Lib.hid (HbA.out.trans (hb.mono (by omega))); clear ho hb)
    go_ret2
    exact ⟨_, rfl, Sw.nil _ _ _ _ _ _ _, Hb1.out⟩
  have Hbad := Lib.hid (rl_bad s h0)
  have Hno := Lib.hid (rl_no s h0)
  have Hyes := Lib.hid (rl_yes s h0 (by omega))
  have Hps := Lib.hid (fun k (hk : k < (parts s).length) => show ((parts s).getD k ⟨#[]⟩).size ≤ 1048576 from Nat.le_trans (by rw [getD_lt _ _ _ hk]; exact parts_size s _ (List.getElem_mem hk)) hs)
  generalize res_ReadList s = R at *
  generalize ok_ReadList s = B at *
  generalize parts s = P at *
  have Hmn := Lib.hid (show (P.map res_ReadDecimal).length = P.length by rw [List.length_map])
  have Hma := Lib.hid (fun k (hk : k < P.length) => show (P.map res_ReadDecimal).getD k 0 = res_ReadDecimal (P.getD k ⟨#[]⟩) by simp [List.getD, hk])
  have Htn := Lib.hid (fun k (hk : k < (P.map res_ReadDecimal).length) => take_next (P.map res_ReadDecimal) (0 : Int) k hk)
  generalize hn : P.length = n at *
  have hn64 : n ≤ 64 := by omega
  have d1 : decide ((64 : Int) < (n : Int)) = false := decide_eq_false (by omega)
  obtain ⟨i0, hi, hz0, hz1, hz2⟩ := info_parts (show (Tryd.prog.info? 2).map (fun i => (i.zero, i.size, i.bytes)) = some (some (.int .i64 0), 1, 8) by kernel_rfl)
  clear h64 h0 hPC hn Hpl
  go_enter Tryd.func54, Tryd.ntmps54
  go_wp2_with (go_at_call 85; refine (Hcut.out).mono ?_; rintro e w1 ⟨bp, cp, rfl, ho, hb⟩; have hbp1 : w.heap.size + 1 ≤ bp := (ho.lt _ rfl).1; have HoP := Lib.hid ho; have Hb1 := Lib.hid (HbA.out.trans (hb.mono (by omega))); have HoI := Lib.hid (own_lat HoA.out (by rw [hsA]; exact hb)); clear ho hb)
  clear Hcut HbA HoA
  go_loopw [4, 6] (fun v iv wr => ∃ (k b c : Nat), k ≤ n ∧ v = .slice (some ⟨b, 0, none⟩) k c ∧ iv = .int .i64 (k : Int) ∧ Hid (wr.ownsRow w.heap.size 2 1 (.slice (some ⟨b, 0, none⟩) k c) k (((P.map res_ReadDecimal).take k).map (Value.int .i64))) ∧ Hid (wr.ownsRow (w.heap.size + 1) 9 1 (.slice (some ⟨bp, 0, none⟩) n cp) n (P.map Value.string)) ∧ b ≠ bp ∧ Hid (∀ j, j < k → ok_ReadDecimal (P.getD j ⟨#[]⟩) = true) ∧ Hid (Below w.heap.size w wr)) (fun _ iv _ => n - (intOf iv).toNat)
  case atStart => exact ⟨0, w.heap.size, 0, Nat.zero_le _, rfl, rfl, HoI, HoP, by omega, Lib.hid (fun j hj => by omega), Hb1⟩
  case round =>
    obtain ⟨k, b, c, hk, rfl, rfl, Hout, Hpr, hne, Hdn, Hb⟩ := hrel
    have hbz := Hb.out.size
    by_cases hlt : k < n
    · have c1 := str_cell Hpr.out k hlt
      have hcp : n ≤ cp := own_cap0 Hpr.out
      have hcall := value_spec (P.getD k ⟨#[]⟩) (Hps.out k (by omega)) wr
      change Calls _ _ _ _ (fun e w' => e = .returned (.tuple #[.int .i64 (res_ReadDecimal (P.getD k ⟨#[]⟩)), .bool (ok_ReadDecimal (P.getD k ⟨#[]⟩))]) ∧ _) at hcall
      cases hr : ok_ReadDecimal (P.getD k ⟨#[]⟩)
      · have hB := Hno.out k (by omega) hr
        have hR := Hbad.out hB
        rw [hr] at hcall
        have Hcall := Lib.hid hcall
        subst hB
        subst hR
        clear Hbad Hno Hyes hcall hr Hdn Hma Htn Hmn
        generalize res_ReadDecimal (P.getD k ⟨#[]⟩) = x at *
        generalize P.getD k ⟨#[]⟩ = sv at *
        go_wp2_with (go_at_call 47; refine (Hcall.out).mono ?_; rintro e w3 ⟨rfl, hb3⟩; have Hb3 := Lib.hid (below_step Hb.out hb3 (Nat.le_refl _)); clear hb3)
        go_ret2
        exact ⟨_, rfl, Sw.nil _ _ _ _ _ _ _, Hb3.out⟩
      · have Hdn2 : Hid (∀ j, j < k + 1 → ok_ReadDecimal (P.getD j ⟨#[]⟩) = true) := Lib.hid (fun j hj => by
          by_cases e : j = k
          · subst e; exact hr
          · exact Hdn.out j (by omega))
        rw [hr] at hcall
        have Hcall := Lib.hid hcall
        have Htk := Lib.hid (Htn.out k (by rw [Hmn.out]; exact hlt))
        rw [Hma.out k hlt] at Htk
        clear Hbad Hno Hyes hcall hr Hdn
        generalize res_ReadDecimal (P.getD k ⟨#[]⟩) = x at *
        generalize P.getD k ⟨#[]⟩ = sv at *
        go_wp2_with fail
        refine (Hcall.out).mono ?_
        rintro e w3 ⟨rfl, hb3⟩
        have HO3 := Lib.hid (own_lat Hout.out hb3)
        have HP3 := Lib.hid (own_lat Hpr.out hb3)
        have Hb3 := Lib.hid (below_step Hb.out hb3 (Nat.le_refl _))
        have hz3 := hb3.size
        have hz4 : w.heap.size ≤ w3.heap.size := Hb3.out.size
        have hpl : bp < w3.heap.size := (HP3.out.lt _ rfl).2
        have hbl : b < w3.heap.size := (HO3.out.lt _ rfl).2
        have HX : Hid (∀ {W : World} {b2 c2 : Nat}, W.ownsRow w.heap.size 2 1 (.slice (some ⟨b2, 0, none⟩) (k + 1) c2) (k + 1) (((P.map res_ReadDecimal).take k).map (Value.int .i64) ++ [.int .i64 x]) → W.ownsRow w.heap.size 2 1 (.slice (some ⟨b2, 0, none⟩) (k + 1) c2) (k + 1) (((P.map res_ReadDecimal).take (k + 1)).map (Value.int .i64))) := Lib.hid (fun h => by rw [← Htk.out, List.map_append]; exact h)
        clear hb3 c1 Hout Hpr Hb Htk
        go_wp2_with (at_builtin; refine wpList_append_lies _ rfl _ _ 27 rfl w.heap.size 2 i0 (.int .i64 0) 1 8 (by kernel_rfl) hi hz0 hz1 hz2 rfl (by decide) _ _ _ rfl (HO3.out.alloc _) ⟨w3.heap.size, 0, none⟩ 1 1 [.int .i64 x] rfl rfl (cell_one_new _ _ _) (one_int _) (by omega) (by unfold maxLen; omega) (by omega) (by simp; omega) (w3.heap.size + 1) (by simp) ?_; intro b2 c2 w4 hown4 hgrow4 hat4 hlt4; have HO4 := Lib.hid (HX.out hown4); have hat4' : some b = some b2 ∨ b2 = w3.heap.size + 1 := hat4; have hne4 : b2 ≠ bp := (hat4'.elim (fun h => by cases h; exact hne) (fun h => by omega)); have hgrow4 : World.grownBy (w3.alloc (.cells #[.int .i64 x] 2)) w4 (some b) := hgrow4; have HP4 := Lib.hid ((HP3.out.alloc _).kept hgrow4 (.inr (by simp [Value.ownBlock]; omega))); have HB4 := Lib.hid ((Hb3.out.alloc hz4 _).grown hgrow4 (by simp; omega) (fun b hb => (HO3.out.lt b hb).1)); clear hown4 hgrow4 hat4 hlt4 hat4')
        go_roundw
        case rel => exact ⟨k + 1, b2, c2, by omega, rfl, by go_num, HO4, HP4, hne4, Hdn2, HB4⟩
        case measure => first | (simp [intOf]; done) | (simp [intOf]; omega)
    · obtain rfl : k = n := by omega
      obtain ⟨hB, hR⟩ := Hyes.out (fun j hj => Hdn.out j (by omega))
      subst hB
      subst hR
      have e9 : (P.map res_ReadDecimal).take k = P.map res_ReadDecimal := List.take_of_length_le (by rw [Hmn.out]; exact Nat.le_refl _)
      rw [e9] at Hout
      clear Hbad Hno Hyes e9 Hdn Hma Htn
      go_wp2
      go_ret2
      exact ⟨_, rfl, Sw.of_ownsI Hout.out Hmn.out, Hb.out⟩
theorem spec_ReadList (s : ByteArray) (w : World) (hs : s.size ≤ 1048576) :
    Calls Tryd.prog 20 #[.string s] w fun e w' => ∃ r, e = .returned (.tuple #[r, .bool (ok_ReadList s)]) ∧ Sw (Value.int .i64) 0 w' r (res_ReadList s) w.heap.size w'.heap.size ∧ Below w.heap.size w w' := by
  have H := Lib.hid (numbers_spec s w hs)
  generalize res_ReadList s = R at *
  generalize ok_ReadList s = B at *
  go_enter Tryd.func20, Tryd.ntmps20
  go_wp2_with fail
  refine (H.out).mono ?_
  rintro e w2 ⟨r, rfl, hs2, hb⟩
  have HS := Lib.hid hs2
  have Hb := Lib.hid hb
  obtain ⟨p, cap, rfl, -⟩ := hs2
  clear hb
  go_wp2
  go_ret2
  exact ⟨_, rfl, HS.out, Hb.out⟩
end Go.Proofs.YtcoehcoohppbjacDoor
