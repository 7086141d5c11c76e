/- Contracts: even throws: the program. -/
import Derived.Test.YtodmaomngpnboaaNh
import Derived.RangeFuncBox
set_option linter.unusedVariables false
namespace Go.Proofs.Ytodmaomngpnboaa
open Go.RowKit

set_option maxRecDepth 100000 in
set_option maxHeartbeats 1000000 in
theorem even_no (fs : List Int) (v : Value) (w : World) (hn : fs.length ≤ 1048576) (h : Sl (Value.int .i64) 0 w v fs) (hT : ¬ (thrN fs.length = 3 ∧ thrB fs = true)) :
    Calls Try.prog 23 #[v] w fun e w' => ∃ r, e = .returned (.tuple #[r, .bool false]) ∧ Sw (Value.int .i64) 0 w' r [] w.heap.size w'.heap.size ∧ Below w.heap.size w w' := by
  have Ht := Lib.hid (throws_any fs v (w.alloc (.cells #[v] 22)) hn (h.later ((Below.refl _ w).alloc (Nat.le_refl _) _)))
  obtain ⟨p, cap, rfl, -⟩ := h
  generalize thrB fs = B at *
  generalize thrN fs.length = T at *
  generalize fs.length = L at *
  have c1 : (w.alloc (.cells #[.slice p L cap] 22)).cell? ⟨w.heap.size, 0, none⟩ = some (.slice p L cap) := World.cell?_alloc_at _ _ _ _ rfl
  have hb1 : Below w.heap.size w (w.alloc (.cells #[.slice p L cap] 22)) := (Below.refl _ w).alloc (Nat.le_refl _) _
  have Hb1 := Lib.hid hb1
  clear hb1
  go_enter Try.func23, Try.ntmps23
  go_wp2_with fail
  refine (Ht.out).mono ?_
  rintro e w2 ⟨rfl, hd⟩
  have Hd := Lib.hid hd
  have hz := hd.size
  clear hd
  cases B
  · go_wp2
    go_ret2
    exact ⟨_, rfl, Sw.nil _ _ _ _ _ _ _, (Hb1.out.trans (Hd.out.mono (by simp))).alloc (by simp only [World.size_alloc] at hz; omega) _⟩
  · have hT3 : T ≠ 3 := fun e => hT ⟨e, rfl⟩
    have nb : ((T : Int) != 3) = true := by rw [bne_iff_ne]; omega
    have nb2 : ((T : Int) = 3) = False := eq_false (by omega)
    go_wp2
    go_ret2
    exact ⟨_, rfl, Sw.nil _ _ _ _ _ _ _, (Hb1.out.trans (Hd.out.mono (by simp))).alloc (by simp only [World.size_alloc] at hz; omega) _⟩

theorem min3 (a b c : Int) : minF [a, b, c] ([a, b, c].length - 1) = min (min a b) c := rfl
set_option maxRecDepth 100000 in
set_option maxHeartbeats 1000000 in
theorem even_yes (fs : List Int) (v : Value) (w : World) (hn : fs.length ≤ 1048576) (h : Sl (Value.int .i64) 0 w v fs) (hT : thrN fs.length = 3) (hB : oppB fs 3 = true) :
    Calls Try.prog 23 #[v] w fun e w' => ∃ r, e = .returned (.tuple #[r, .bool (ok_EvenThrows fs)]) ∧ Sw (Value.int .i64) 0 w' r (res_EvenThrows fs) w.heap.size w'.heap.size ∧ Below w.heap.size w w' := by
  have ht := throws_any fs v (w.alloc (.cells #[v] 22)) hn (h.later ((Below.refl _ w).alloc (Nat.le_refl _) _))
  have hB2 : thrB fs = true := by unfold thrB; rw [hT, hB]; rfl
  unfold res_EvenThrows
  have E : ok_EvenThrows fs = ((decide (thrN fs.length = 3) && oppB fs 3) && (decide (1 ≤ fs.getD 1 0) && (decide (1 ≤ fs.getD 5 0) && decide (1 ≤ fs.getD 6 0)))) := rfl
  have h9 := thr3 _ hT
  have bd := ev_bd fs hB h9
  rw [hT, hB2] at ht
  have Ht : Hid (Calls Try.prog 70 #[v] (w.alloc (.cells #[v] 22)) fun e w' => e = .returned (.tuple #[.int .i64 3, .bool true]) ∧ Below (w.alloc (.cells #[v] 22)).heap.size (w.alloc (.cells #[v] 22)) w') := Lib.hid ht
  rw [decide_eq_true hT, hB, Bool.true_and, Bool.true_and] at E
  obtain ⟨b1l, b1u⟩ := bd 1 (by omega)
  obtain ⟨b5l, b5u⟩ := bd 5 (by omega)
  obtain ⟨b6l, b6u⟩ := bd 6 (by omega)
  have hg : evG fs = gcdI (gcdI (fs.getD 5 0) (fs.getD 6 0)) (fs.getD 1 0) := rfl
  rw [hg]
  have C12 : Hid (∀ (bw bt : Nat) (z : World), Sl (Value.int .i64) 0 z v fs → z.cell? ⟨bw, 0, none⟩ = some v → z.cell? ⟨bt, 0, none⟩ = some (.int .i64 3) → Calls Try.prog 73 #[.int .i64 1, .int .i64 2, .pointer (some ⟨bw, 0, none⟩), .pointer (some ⟨bt, 0, none⟩)] z fun e w' => e = .returned (.int .i64 (fs.getD 5 0)) ∧ z = w') := Lib.hid (fun bw bt z a b c => clo_even fs v bw bt 1 2 z h9 (by omega) (by omega) a b c)
  have C20 : Hid (∀ (bw bt : Nat) (z : World), Sl (Value.int .i64) 0 z v fs → z.cell? ⟨bw, 0, none⟩ = some v → z.cell? ⟨bt, 0, none⟩ = some (.int .i64 3) → Calls Try.prog 73 #[.int .i64 2, .int .i64 0, .pointer (some ⟨bw, 0, none⟩), .pointer (some ⟨bt, 0, none⟩)] z fun e w' => e = .returned (.int .i64 (fs.getD 6 0)) ∧ z = w') := Lib.hid (fun bw bt z a b c => clo_even fs v bw bt 2 0 z h9 (by omega) (by omega) a b c)
  have C01 : Hid (∀ (bw bt : Nat) (z : World), Sl (Value.int .i64) 0 z v fs → z.cell? ⟨bw, 0, none⟩ = some v → z.cell? ⟨bt, 0, none⟩ = some (.int .i64 3) → Calls Try.prog 73 #[.int .i64 0, .int .i64 1, .pointer (some ⟨bw, 0, none⟩), .pointer (some ⟨bt, 0, none⟩)] z fun e w' => e = .returned (.int .i64 (fs.getD 1 0)) ∧ z = w') := Lib.hid (fun bw bt z a b c => clo_even fs v bw bt 0 1 z h9 (by omega) (by omega) a b c)
  have HS := Lib.hid h
  clear ht bd hT hg hB hB2
  obtain ⟨q, cap, rfl, hf⟩ := h
  rw [h9] at Ht C12 C20 C01 HS
  rw [h9]
  clear hf hn
  generalize fs.getD 1 0 = x1 at *
  generalize fs.getD 5 0 = x5 at *
  generalize fs.getD 6 0 = x6 at *
  generalize ok_EvenThrows fs = R at *
  have c1 : (w.alloc (.cells #[.slice q 9 cap] 22)).cell? ⟨w.heap.size, 0, none⟩ = some (.slice q 9 cap) := World.cell?_alloc_at _ _ _ _ rfl
  have Hb1 := Lib.hid (show Below w.heap.size w (w.alloc (.cells #[.slice q 9 cap] 22)) from (Below.refl _ w).alloc (Nat.le_refl _) _)
  go_enter Try.func23, Try.ntmps23
  go_wp2_with fail
  refine (Ht.out).mono ?_
  rintro e w2 ⟨rfl, hd⟩
  have hz : w.heap.size < w2.heap.size := by have := hd.size; simp only [World.size_alloc] at this; omega
  have c2 := cell_keep hd c1
  have hb2 := Hb1.out.trans (hd.mono (by simp))
  have k1 : (w2.alloc (.cells #[.int .i64 3] 3)).cell? ⟨w.heap.size, 0, none⟩ = some (.slice q 9 cap) := (World.cell?_alloc_past _ _ _ hz).trans c2
  have k2 : (w2.alloc (.cells #[.int .i64 3] 3)).cell? ⟨w2.heap.size, 0, none⟩ = some (.int .i64 3) := World.cell?_alloc_at _ _ _ _ rfl
  have hb3 : Below w.heap.size w (w2.alloc (.cells #[.int .i64 3] 3)) := hb2.alloc (by omega) _
  have HS3 := HS.out.later hb3
  have H12 := Lib.hid (C12.out _ _ _ HS3 k1 k2)
  have H20 := Lib.hid (C20.out _ _ _ HS3 k1 k2)
  have H01 := Lib.hid (C01.out _ _ _ HS3 k1 k2)
  have Hb3 := Lib.hid hb3
  have hsz : w.heap.size ≤ (w2.alloc (.cells #[.int .i64 3] 3)).heap.size := hb3.size
  clear hd c2 hb2 hb3 HS3 k1 k2 h9 C12 C20 C01 HS c1 Ht
  have sw3 := sw_three (w2.alloc (.cells #[.int .i64 3] 3)) x5 x6 x1 2 w.heap.size hsz
  have cc0 : ((w2.alloc (.cells #[.int .i64 3] 3)).alloc (.cells #[.int .i64 x5, .int .i64 x6, .int .i64 x1] 2)).cell? ⟨w2.heap.size + 1, 0, none⟩ = some (.int .i64 x5) := World.cell?_alloc_at _ _ _ _ (by simp)
  have cc1 : ((w2.alloc (.cells #[.int .i64 3] 3)).alloc (.cells #[.int .i64 x5, .int .i64 x6, .int .i64 x1] 2)).cell? ⟨w2.heap.size + 1, 1, none⟩ = some (.int .i64 x6) := World.cell?_alloc_at _ _ _ _ (by simp)
  have cc2 : ((w2.alloc (.cells #[.int .i64 3] 3)).alloc (.cells #[.int .i64 x5, .int .i64 x6, .int .i64 x1] 2)).cell? ⟨w2.heap.size + 1, 2, none⟩ = some (.int .i64 x1) := World.cell?_alloc_at _ _ _ _ (by simp)
  simp only [World.size_alloc] at sw3
  have Hm := minI_any [x5, x6, x1] _ _ (by show 3 ≤ 1048576; omega) (by show 0 < 3; omega) sw3.sl
  rw [min3] at Hm
  have HMin := Lib.hid Hm
  have Sw3 := Lib.hid sw3
  have hb4 := Hb3.out.alloc hsz (.cells #[.int .i64 x5, .int .i64 x6, .int .i64 x1] 2)
  have Hb4 := Lib.hid hb4
  have hme : min (min x5 x6) x1 ≤ 0 ↔ ¬ (1 ≤ x1 ∧ 1 ≤ x5 ∧ 1 ≤ x6) := by omega
  have HME := Lib.hid hme
  clear Hm sw3 hb4 hme
  generalize min (min x5 x6) x1 = m at *
  go_wp2_with (go_at_call 73; (first | (with_reducible refine (H12.out).mono ?_) | (with_reducible refine (H20.out).mono ?_) | (with_reducible refine (H01.out).mono ?_)); rintro e w' ⟨rfl, rfl⟩)
  all_goals (refine (HMin.out).mono ?_; rintro e w3 ⟨rfl, rfl⟩)
  have HG1 := Lib.hid (fun (h : 1 ≤ x6) => gcdI_bd x5 x6 h)
  obtain ⟨X, hX⟩ : ∃ X, X = (w2.alloc (.cells #[.int .i64 3] 3)).alloc (.cells #[.int .i64 x5, .int .i64 x6, .int .i64 x1] 2) := ⟨_, rfl⟩
  rw [← hX] at Hb4 Sw3 cc0 cc1 cc2
  rw [← hX]
  clear hX H12 H20 H01 HMin Hb3 hsz
  have hz3 : w.heap.size ≤ w2.heap.size + 1 := by omega
  generalize w2.heap.size + 1 = B at *
  by_cases hall : 1 ≤ x1 ∧ 1 ≤ x5 ∧ 1 ≤ x6
  · have hm : ¬ m ≤ 0 := fun e => HME.out.1 e hall
    have hR : R = true := by rw [E, decide_eq_true hall.1, decide_eq_true hall.2.1, decide_eq_true hall.2.2]; rfl
    obtain ⟨h1, h5, h6⟩ := hall
    clear E HME
    subst hR
    have k1 := gcdI_bd x5 x6 h6
    have d1 := Lib.hid (fun w => gcdQ_impl x5.toNat x6.toNat w (by omega) (by omega))
    rw [show ((Nat.gcd x5.toNat x6.toNat : Nat) : Int) = gcdI x5 x6 from rfl, Int.toNat_of_nonneg (by omega), Int.toNat_of_nonneg (by omega)] at d1
    generalize hgg : gcdI x5 x6 = gg at *
    have k2 := gcdI_bd gg x1 h1
    have d2 := Lib.hid (fun w => gcdQ_impl gg.toNat x1.toNat w (by omega) (by omega))
    rw [show ((Nat.gcd gg.toNat x1.toNat : Nat) : Int) = gcdI gg x1 from rfl, Int.toNat_of_nonneg (by omega), Int.toNat_of_nonneg (by omega)] at d2
    have Hgg := Lib.hid hgg
    clear hgg HG1
    generalize hg : gcdI gg x1 = g at *
    have Hg := Lib.hid hg
    clear hg
    obtain ⟨k1l, k1u⟩ := k1
    obtain ⟨k2l, k2u⟩ := k2
    go_wp2
    go_quiet ((go_at_call 75; (first | (with_reducible exact Calls.quiet_of (d1.out _)) | (with_reducible exact Calls.quiet_of (d2.out _)))))
    go_wp2
    have Hev := Lib.hid (fun j (hj : j < 3) => evL_src x5 x6 x1 g j hj)
    have Hes := Lib.hid (fun j (hj : j < 3) => evL_set x5 x6 x1 g j hj)
    have Hbd : Hid (∀ j, j < 3 → 1 ≤ [x5, x6, x1].getD j 0 ∧ [x5, x6, x1].getD j 0 ≤ 9) := Lib.hid (fun j hj => by
      obtain rfl | rfl | rfl : j = 0 ∨ j = 1 ∨ j = 2 := by omega
      · exact ⟨h5, b5u⟩
      · exact ⟨h6, b6u⟩
      · exact ⟨h1, b1u⟩)
    go_loopw [45] (fun i wr => ∃ j : Nat, j ≤ 3 ∧ i = .int .i64 (j : Int) ∧ Hid (Sw (Value.int .i64) 0 wr (.slice (some ⟨B, 0, none⟩) 3 3) (evL x5 x6 x1 g j) w.heap.size wr.heap.size) ∧ Hid (Below w.heap.size w wr)) (fun i _ => 3 - (intOf i).toNat)
    case atStart =>
      obtain ⟨b', off', e', ⟨-, -, hX⟩, -, -, -⟩ := Sw3.out.open' 0 (by show 0 < 3; omega)
      exact ⟨0, by omega, rfl, Lib.hid ((Sw3.out.drewN _).mono (Nat.le_refl _) hX (Nat.le_refl _)), Lib.hid (below_drewN Hb4.out _)⟩
    case round =>
      obtain ⟨j, hj3, rfl, hs, hb⟩ := hrel
      by_cases hlt : j < 3
      · obtain ⟨b', off', e', ⟨hlo, hhi, -⟩, hbs, hc, hfz⟩ := hs.out.open' j (by rw [evL_len]; exact hlt)
        cases e'
        have hst := hs.out.store j (by rw [evL_len]; exact hlt) ([x5, x6, x1].getD j 0 / g)
        rw [Hes.out j hlt] at hst
        rw [Hev.out j hlt] at hc
        rw [Nat.zero_add] at hc hfz hst
        obtain ⟨s0, s1⟩ := Hbd.out j hlt
        have Hb2 := Lib.hid (Below.only hb.out ((Only.refl B (B + 1) _).step' ⟨B, j, none⟩ (.int .i64 ([x5, x6, x1].getD j 0 / g)) (Nat.le_refl _) (Nat.lt_succ_self _)) hz3)
        have Hst := Lib.hid hst
        clear hst hs hb
        generalize [x5, x6, x1].getD j 0 = s at *
        go_wp2
        go_roundw
        case rel => exact ⟨j + 1, by omega, by go_num, Lib.hid (Hst.out.mono (Nat.le_refl _) (by simp [World.setCell]) (Nat.le_refl _)), Hb2⟩
        case measure => simp [intOf]; omega
      · obtain rfl : j = 3 := by omega
        have Hss : Hid (Sw (Value.int .i64) 0 wr (.slice (some ⟨B, 0, none⟩) 3 3) [x5 / g, x6 / g, x1 / g] w.heap.size wr.heap.size) := hs
        go_wp2
        go_ret2
        exact ⟨_, rfl, by rw [Hgg.out, Hg.out]; exact Hss.out, hb.out⟩
  · have hm : m ≤ 0 := HME.out.2 hall
    have hR : R = false := by
      rw [E]
      by_cases a1 : 1 ≤ x1
      · by_cases a5 : 1 ≤ x5
        · rw [decide_eq_false (fun a6 => hall ⟨a1, a5, a6⟩), Bool.and_false, Bool.and_false]
        · rw [decide_eq_false a5, Bool.false_and, Bool.and_false]
      · rw [decide_eq_false a1, Bool.false_and]
    clear E
    subst hR
    go_wp2
    go_ret2
    exact ⟨_, rfl, Sw.nil _ _ _ _ _ _ _, Hb4.out⟩

theorem impl_EvenThrows (fs : List Int) (v : Value) (w : World) (hn : fs.length ≤ 1048576) (h : Sl (Value.int .i64) 0 w v fs) :
    Calls Try.prog 23 #[v] w fun e w' => ∃ r, e = .returned (.tuple #[r, .bool (ok_EvenThrows fs)]) ∧ Sw (Value.int .i64) 0 w' r (res_EvenThrows fs) w.heap.size w'.heap.size ∧ Below w.heap.size w w' := by
  by_cases hT : thrN fs.length = 3
  · cases hB : oppB fs 3
    · have ho : ok_EvenThrows fs = false := by unfold ok_EvenThrows; rw [hB, Bool.and_false, Bool.false_and]
      unfold res_EvenThrows
      rw [ho]
      exact even_no fs v w hn h (fun e => by
        have := e.2
        unfold thrB at this
        rw [hT, hB, Bool.and_false] at this
        cases this)
    · exact even_yes fs v w hn h hT hB
  · have ho : ok_EvenThrows fs = false := by unfold ok_EvenThrows; rw [decide_eq_false hT, Bool.false_and, Bool.false_and]
    unfold res_EvenThrows
    rw [ho]
    exact even_no fs v w hn h (fun e => hT e.1)
end Go.Proofs.Ytodmaomngpnboaa
