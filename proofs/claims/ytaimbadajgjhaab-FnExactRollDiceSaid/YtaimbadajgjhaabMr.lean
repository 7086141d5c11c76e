/- Contracts: thrown dice, the model; both whole. -/
import Derived.Test.YtaimbadajgjhaabMp
set_option linter.unusedVariables false
namespace Go.Proofs.Ytaimbadajgjhaab
open Go.RowKit

set_option maxHeartbeats 4000000 in
theorem impl_RollDice (ds : List (List Int)) (v : Value) (s : Int) (sl : -9223372036854775808 ≤ s) (su : s ≤ 9223372036854775807) (c : Int) (cl : -9223372036854775808 ≤ c) (cu : c ≤ 9223372036854775807) (w : World) (hn : ds.length ≤ 1048576) (hm : totD ds ds.length ≤ 1048576) (h : SlD w v ds) :
    Calls Try.prog 37 #[v, .int .i64 s, .int .i64 c] w fun e w' => ∃ r, e = .returned (.tuple #[r, .int .i64 (res2_RollDice ds s c), .bool (ok_RollDice ds s c)]) ∧ Sw (Value.int .i64) 0 w' r (res_RollDice ds s c) w.heap.size w'.heap.size ∧ Below w.heap.size w w' := by
  have E : okRoll ds s c = ((diceB ds && (decide (0 ≤ s) && decide (s ≤ 4294967295))) && (decide (1 ≤ c) && decide (c ≤ 256))) := rfl
  have Hv := Lib.hid (areDice_any ds v w hn hm h)
  cases hb : diceB ds
  · rw [hb] at Hv E
    obtain ⟨e0, e1, e2⟩ := roll_no (E.trans (by rw [Bool.false_and, Bool.false_and]))
    rw [e0, e1, e2]
    obtain ⟨q, cap, rfl, -⟩ := h
    clear e0 e1 e2 E hb hm hn
    generalize ds.length = n at *
    go_enter Try.func37, Try.ntmps37
    go_wp2_with fail
    refine (Hv.out).mono ?_
    rintro e w2 ⟨rfl, hd⟩
    have Hd := Lib.hid hd
    clear hd
    go_wp2
    go_ret3
    exact ⟨_, rfl, Sw.nil _ _ _ _ _ _ _, Hd.out⟩
  · by_cases hs : 0 ≤ s ∧ s ≤ 4294967295
    · by_cases hc : 1 ≤ c ∧ c ≤ 256
      · rw [hb, decide_eq_true hs.1, decide_eq_true hs.2, decide_eq_true hc.1, decide_eq_true hc.2] at E
        unfold ok_RollDice res_RollDice res2_RollDice
        rw [E, if_pos (by rfl), if_pos (by rfl)]
        obtain ⟨C, rfl⟩ : ∃ C : Nat, c = C := ⟨c.toNat, by omega⟩
        rw [Int.toNat_natCast]
        exact roll_impl_yes ds v s C w hn hm h hb hs.1 hs.2 (by omega) (by omega)
      · rw [hb] at Hv E
        obtain ⟨e0, e1, e2⟩ := roll_no (E.trans (by rw [show (decide (1 ≤ c) && decide (c ≤ 256)) = false by simpa using hc, Bool.and_false]))
        rw [e0, e1, e2]
        have HS := Lib.hid (fun z => seed_yes s z hs.1 hs.2)
        have HC := Lib.hid (fun z => within_no c 1 256 z (by omega))
        obtain ⟨q, cap, rfl, -⟩ := h
        clear e0 e1 e2 E hb hm hn hc
        generalize ds.length = n at *
        go_enter Try.func37, Try.ntmps37
        go_wp2_with fail
        refine (Hv.out).mono ?_
        rintro e w2 ⟨rfl, hd⟩
        have Hd := Lib.hid hd
        clear hd
        go_wp2_with fail
        refine (HS.out _).mono ?_
        rintro e w3 ⟨rfl, rfl⟩
        go_wp2_with fail
        refine (HC.out _).mono ?_
        rintro e w3 ⟨rfl, rfl⟩
        go_wp2
        go_ret3
        exact ⟨_, rfl, Sw.nil _ _ _ _ _ _ _, Hd.out⟩
    · rw [hb] at Hv E
      obtain ⟨e0, e1, e2⟩ := roll_no (E.trans (by rw [show (decide (0 ≤ s) && decide (s ≤ 4294967295)) = false by simpa using hs, Bool.and_false, Bool.false_and]))
      rw [e0, e1, e2]
      have HS := Lib.hid (fun z => seed_no s z (by omega))
      obtain ⟨q, cap, rfl, -⟩ := h
      clear e0 e1 e2 E hb hm hn hs
      generalize ds.length = n at *
      go_enter Try.func37, Try.ntmps37
      go_wp2_with fail
      refine (Hv.out).mono ?_
      rintro e w2 ⟨rfl, hd⟩
      have Hd := Lib.hid hd
      clear hd
      go_wp2_with fail
      refine (HS.out _).mono ?_
      rintro e w3 ⟨rfl, rfl⟩
      go_wp2
      go_ret3
      exact ⟨_, rfl, Sw.nil _ _ _ _ _ _ _, Hd.out⟩
theorem own_add5 {w : World} {base : Nat} {e : TypeId} {v : Value} {l : List Int} {x : Int} (h : w.ownsRow base e 1 v (l.length + 1) (l.map (Value.int .i64) ++ [.int .i64 x])) : w.ownsRow base e 1 v (l ++ [x]).length ((l ++ [x]).map (Value.int .i64)) := by
  rw [List.length_append, List.map_append]; exact h
set_option maxRecDepth 100000 in
set_option maxHeartbeats 4000000 in
theorem roll_spec_yes (ds : List (List Int)) (v : Value) (s : Int) (C : Nat) (w : World) (hn : ds.length ≤ 1048576) (hm : totD ds ds.length ≤ 1048576) (h : SlD w v ds) (hb : diceB ds = true) (s0 : 0 ≤ s) (s1 : s ≤ 4294967295) (c1 : 1 ≤ C) (c2 : C ≤ 256) :
    Calls Try.prog 36 #[v, .int .i64 s, .int .i64 (C : Int)] w fun e w' => ∃ r, e = .returned (.tuple #[r, .int .i64 (seedR ds s C), .bool true]) ∧ Sw (Value.int .i64) 0 w' r (tab C (rollR ds s)) w.heap.size w'.heap.size ∧ Below w.heap.size w w' := by
  have Hv := Lib.hid (diceS_any ds v w hn hm h)
  rw [hb] at Hv
  obtain ⟨h1, h6, hd⟩ := diceB_at hb
  obtain ⟨q, cap, rfl, hf⟩ := h
  have Hf := Lib.hid hf
  clear hf hm
  have HS := Lib.hid (fun z => in_yes s 0 4294967295 z s0 s1)
  have HC := Lib.hid (fun z => in_yes (C : Int) 1 256 z (by omega) (by omega))
  obtain ⟨i0, hi, hz0, hz1, hz2⟩ := info_parts (show (Try.prog.info? 2).map (fun i => (i.zero, i.size, i.bytes)) = some (some (.int .i64 0), 1, 8) by kernel_rfl)
  have Hsd := Lib.hid (fun i => seedR_bd ds s s0 s1 i)
  have Hts := Lib.hid (fun z z0 z1 j => throwR_seed ds z z0 z1 j)
  have Htm := Lib.hid (fun z z0 z1 j hj => throwR_sum ds z z0 z1 hd j hj)
  have Hst := Lib.hid (fun z j f hf => throwR_step ds z j f hf)
  have Hface := Lib.hid (fun k (hk : k < ds.length) z z0 z1 => face_at (ds.getD k []) z (hd k hk) z0 z1)
  have H12 := Lib.hid (fun k (hk : k < ds.length) => (dieB_at (hd k hk)).1)
  have H13 := Lib.hid (fun k (hk : k < ds.length) => (dieB_at (hd k hk)).2.1)
  have HR1 := Lib.hid (fun i => show rollR ds s i = (throwR ds (seedR ds s i) ds.length).1 from rfl)
  have HR2 := Lib.hid (fun i => show seedR ds s (i + 1) = (throwR ds (seedR ds s i) ds.length).2 from rfl)
  have HT0 := Lib.hid (fun z => show (throwR ds z 0).1 = 0 ∧ (throwR ds z 0).2 = z from ⟨rfl, rfl⟩)
  clear hd hb
  obtain ⟨n, hn1⟩ : ∃ n, n = ds.length := ⟨_, rfl⟩
  rw [← hn1] at h1 h6 Hf Hface H12 H13 HR1 HR2 Htm Hv
  rw [← hn1]
  clear hn1 hn
  go_enter Try.func36, Try.ntmps36
  go_wp2_with fail
  refine (Hv.out).mono ?_
  rintro e w1 ⟨rfl, hd⟩
  have Hb1 := Lib.hid (hd.below w.heap.size)
  clear hd
  go_wp2_with fail
  refine (HS.out _).mono ?_
  rintro e w2 ⟨rfl, rfl⟩
  go_wp2_with fail
  refine (HC.out _).mono ?_
  rintro e w2 ⟨rfl, rfl⟩
  go_wp2
  go_loopw [1, 2, 9] (fun sd i out wr => ∃ k : Nat, k ≤ C ∧ i = .int .i64 ((C : Int) - k) ∧ sd = .int .i64 (seedR ds s k) ∧ Hid (wr.ownsRow w.heap.size 2 1 out (tab k (rollR ds s)).length ((tab k (rollR ds s)).map (Value.int .i64))) ∧ Hid (Below w.heap.size w wr)) (fun _ i _ _ => (intOf i).toNat)
  case atStart => exact ⟨0, Nat.zero_le _, by go_num, rfl, Lib.hid (World.ownsRow_lit _ #[] 0 Hb1.out.size (by unfold maxLen; omega) rfl), Lib.hid (Hb1.out.alloc Hb1.out.size _)⟩
  case round =>
    obtain ⟨wo, rfl⟩ : ∃ z, z = wr := ⟨_, rfl⟩
    obtain ⟨k, hk, rfl, rfl, hR, hb⟩ := hrel
    have hsz := hb.out.size
    have hsd := Hsd.out k
    have hr1 := HR1.out k
    have hr2 := HR2.out k
    clear HS HC Hb1
    by_cases hlt : k < C
    · have Hr1 := Lib.hid hr1
      have Hr2 := Lib.hid hr2
      have ht0 := HT0.out (seedR ds s k)
      have Hts2 := Lib.hid (Hts.out (seedR ds s k) hsd.1 hsd.2)
      have Htm2 := Lib.hid (Htm.out (seedR ds s k) hsd.1 hsd.2)
      have Hst2 := Lib.hid (Hst.out (seedR ds s k))
      clear hr1 hr2 HR1 HR2 Htm Hts Hst HT0 Hsd
      generalize seedR ds s k = z at *
      have Ht0 := Lib.hid ht0
      clear ht0
      go_wp2
      go_loopw [1, 10, 32] (fun sd t i wi => ∃ j : Nat, j ≤ n ∧ i = .int .i64 (j : Int) ∧ sd = .int .i64 (throwR ds z j).2 ∧ t = .int .i64 (throwR ds z j).1 ∧ Drawn wo wi) (fun _ _ i _ => n - (intOf i).toNat)
      case atStart => exact ⟨0, Nat.zero_le _, rfl, by rw [Ht0.out.2], by rw [Ht0.out.1], Drawn.refl _⟩
      case round =>
        obtain ⟨j, hj, rfl, rfl, rfl, hwi⟩ := hrel
        have htm := Htm2.out j hj
        by_cases hlj : j < n
        · obtain ⟨hcap, b, off, rfl, hbs, hcell⟩ := Hf.out (by omega)
          obtain ⟨sl, g1, g2⟩ := hcell j hlj
          obtain ⟨ps, cs, rfl, g3⟩ := g2
          have d1 := (hwi.cell _).trans (cell_keep hb.out g1)
          have hts := Hts2.out j
          have l1 := H12.out j hlj
          have l12 := H13.out j hlj
          obtain ⟨hcf, bf, of, rfl, hbf, hcc⟩ := g3 (by omega)
          have hnx := nextS_bd (throwR ds z j).2
          obtain ⟨f, f1, f2, f3, f4⟩ := Hface.out j hlj (nextS (throwR ds z j).2) hnx.1 hnx.2
          obtain ⟨st1, st2⟩ := Hst2.out j f f2
          have d2 := (hwi.cell _).trans (cell_keep hb.out (hcc f f1))
          have hmb := mul_bd (nextS (throwR ds z j).2) hnx.1 hnx.2 ((ds.getD j []).length : Int) (by omega) (by omega)
          have hnd : (1664525 * (throwR ds z j).2 + 1013904223) % 4294967296 = nextS (throwR ds z j).2 := rfl
          have St1 := Lib.hid st1
          have St2 := Lib.hid st2
          clear hcell g1 g3 hcc st1 st2 Hst2 Hface H12 H13
          generalize nextS (throwR ds z j).2 = Z2 at *
          generalize (throwR ds z j).1 = X1 at *
          generalize (throwR ds z j).2 = Z1 at *
          generalize (ds.getD j []).getD f 0 = F at *
          generalize (ds.getD j []).length = L at *
          obtain ⟨mb0, mb1⟩ := hmb
          go_wp2
          go_region
          all_goals
            go_wp2
            go_roundw
            case rel => exact ⟨j + 1, by omega, by go_num, by rw [St2.out, hnd], by rw [St1.out], hwi.more _⟩
            case measure => simp [intOf]; omega
        · obtain rfl : j = n := by omega
          have hown := Lib.hid (hR.out.kept (grown_of_below' (hwi.below _ : Below wo.heap.size wo wr)) (by cases hR.out.2 with | inl h => exact .inl (by rw [h.1]; rfl) | inr h => exact .inr (by obtain ⟨g, cc, cu, e, _⟩ := h; rw [e]; intro e2; cases e2)))
          have HbI := Lib.hid (hb.out.trans (hwi.below _))
          clear hwi
          have Hx := Lib.hid Hr1.out
          have hl := tab_len k (rollR ds s)
          have hx18 := Htm2.out j hj
          go_wp2_with (at_builtin; refine wpList_append_own _ rfl _ _ 22 rfl w.heap.size 2 i0 (.int .i64 0) 1 8 (by kernel_rfl) hi hz0 hz1 hz2 rfl (by decide) _ _ _ rfl (hown.out.alloc _) ⟨wr.heap.size, 0, none⟩ 1 1 [.int .i64 (throwR ds z j).1] rfl rfl (cell_one_new _ _ _) (one_int _) (by unfold maxLen; omega) (by omega) (by have := HbI.out.size; simp; omega) ?_; intro v2 w2 hown2 hgrow2 hne2; clear hne2)
          have Hown2 := Lib.hid (own_add5 hown2)
          have Hb2 := Lib.hid ((HbI.out.alloc HbI.out.size _).grown hgrow2 (by have := HbI.out.size; simp; omega) (fun b hb => (hown.out.lt b hb).1))
          clear hown2 hgrow2
          go_wp2
          go_roundw
          case rel => exact ⟨k + 1, by omega, by go_num, by rw [Hr2.out], by rw [tab_succ, Hx.out]; exact Lib.hid Hown2.out, Hb2⟩
          case measure => simp [intOf]; omega
    · obtain rfl : k = C := by omega
      go_wp2
      go_ret3
      exact ⟨_, rfl, Sw.of_owns hR.out rfl, hb.out⟩
end Go.Proofs.Ytaimbadajgjhaab
