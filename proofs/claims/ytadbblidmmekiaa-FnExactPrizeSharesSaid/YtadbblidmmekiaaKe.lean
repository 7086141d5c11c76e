/- Contracts: the chance of a place, the program. -/
import Derived.Test.YtadbblidmmekiaaKd
set_option linter.unusedVariables false
namespace Go.Proofs.Ytadbblidmmekiaa
open Go.RowKit Fl


set_option maxRecDepth 100000 in
set_option maxHeartbeats 4000000 in
theorem place_impl (seat p : Nat) : ∀ (fs : List Int) (v : Value) (w : World), fs.length ≤ 6 → seat < fs.length → p ≤ 6 → (∀ k, 0 ≤ fs.getD k 0 ∧ fs.getD k 0 ≤ 1000000) → Sl (Value.int .i64) 0 w v fs →
    Calls Try.prog 87 #[v, .int .i64 (seat : Int), .int .i64 (p : Int)] w fun e w' => ∃ r, e = .returned (.float .f32 r) ∧ Is (plc seat p fs) r ∧ Below w.heap.size w w' := by
  induction p with
  | zero =>
    intro fs v w h6 hseat hp hbd h
    have Hs := Lib.hid h
    have HB := Lib.hid (fun k => hbd k)
    have HT := Lib.hid (sumTo_bd fs hbd)
    have Hst := Lib.hid (fun k => (show sumTo fs (k + 1) = sumTo fs k + fs.getD k 0 from rfl))
    obtain ⟨p', cap, rfl, hf⟩ := h
    have Hf := Lib.hid hf
    have HP := Lib.hid (show plc seat 0 fs = quoI (fs.getD seat 0) (sumTo fs fs.length) from rfl)
    clear hf hbd hp
    generalize plc seat 0 fs = C at *
    generalize fs.length = n at *
    have hz0 : ((0 : Nat) : Int) = 0 := rfl
    rw [hz0]
    clear hz0
    go_enter Try.func87, Try.ntmps87
    go_wp2
    go_loop [7, 17] (fun s i => ∃ k : Nat, k ≤ n ∧ i = .int .i64 (k : Int) ∧ s = .int .i64 (sumTo fs k)) (fun _ i => n - (intOf i).toNat)
    case atStart => exact ⟨0, Nat.zero_le _, rfl, rfl⟩
    case round =>
      obtain ⟨k, hk, rfl, rfl⟩ := hrel
      have ht := HT.out k
      by_cases hlt : k < n
      · obtain ⟨hcap, b, off, rfl, hbs, hc⟩ := Hf.out (by omega)
        have c1 := hc k hlt
        have hx := HB.out k
        have Hn := Lib.hid (Hst.out k)
        clear hc
        generalize fs.getD k 0 = x at *
        generalize sumTo fs k = S at *
        go_wp2
        go_round
        case rel => exact ⟨k + 1, by omega, by go_num, by rw [Hn.out]⟩
        case measure => simp [intOf]; omega
      · obtain rfl : k = n := by omega
        obtain ⟨hcap, b, off, rfl, hbs, hc⟩ := Hf.out (by omega)
        have c1 := hc seat hseat
        clear hc
        generalize fs.getD seat 0 = x at *
        generalize sumTo fs k = S at *
        go_wp2_with (refine wpList_farith rfl .quo _ _ _ _ rfl (by simp) .f32 _ _ rfl rfl ?_; intro r nr Hr)
        go_ret
        exact ⟨r, rfl, by rw [HP.out]; exact Is.quo Hr.out, below_drewN (Below.refl _ _) _⟩
  | succ p ih =>
    intro fs v w h6 hseat hp hbd h
    have Hs := Lib.hid h
    have HB := Lib.hid (fun k => hbd k)
    have HT := Lib.hid (sumTo_bd fs hbd)
    have Hst := Lib.hid (fun k => (show sumTo fs (k + 1) = sumTo fs k + fs.getD k 0 from rfl))
    obtain ⟨p', cap, rfl, hf⟩ := h
    have Hf := Lib.hid hf
    obtain ⟨SUB, hSUB⟩ : ∃ S : Nat → Nat, S = fun k => plc seat p (fs.set k 0) := ⟨_, rfl⟩
    have HP : Hid (plc seat (p + 1) fs = accP fs seat SUB fs.length) := Lib.hid (by rw [hSUB]; rfl)
    have Hsk := Lib.hid (accP_skip fs seat SUB)
    have Had := Lib.hid (accP_add fs seat SUB)
    have Hcl := Lib.hid (fun z h => clone_any fs (.slice p' fs.length cap) z (by omega) (by omega) h)
    have Hih : Hid (∀ k v z, k < fs.length → Sl (Value.int .i64) 0 z v (fs.set k 0) → Calls Try.prog 87 #[v, .int .i64 (seat : Int), .int .i64 (p : Int)] z fun e w' => ∃ r, e = .returned (.float .f32 r) ∧ Is (SUB k) r ∧ Below z.heap.size z w') := Lib.hid (fun k v z hk hz => by
      have := ih (fs.set k 0) v z (by rw [List.length_set]; exact h6) (by rw [List.length_set]; exact hseat) (by omega) (fun j => by
        by_cases e : j = k
        · subst e; simp [List.getD, hk]
        · have := hbd j
          simp only [List.getD] at this ⊢
          rw [List.getElem?_set_ne (Ne.symm e)]; exact this) hz
      rw [hSUB]; exact this)
    have Hse : Hid (∀ (w1 : World) b' off' cap' lo hi k, k < fs.length → Sw (Value.int .i64) 0 w1 (.slice (some ⟨b', off', none⟩) fs.length cap') fs lo hi → Sl (Value.int .i64) 0 (w1.setCell ⟨b', off' + k, none⟩ (.int .i64 0)) (.slice (some ⟨b', off', none⟩) fs.length cap') (fs.set k 0)) := Lib.hid (fun w1 b' off' cap' lo hi k hk hs => (hs.store k hk 0).sl)
    have Hop : Hid (∀ (w1 : World) v' lo hi k, k < fs.length → Sw (Value.int .i64) 0 w1 v' fs lo hi → ∃ b' off' cap', v' = .slice (some ⟨b', off', none⟩) fs.length cap' ∧ lo ≤ b' ∧ b' < w1.heap.size ∧ w1.cell? ⟨b', off' + k, none⟩ = some (.int .i64 (fs.getD k 0)) ∧ w1.frozen? ⟨b', off' + k, none⟩ = false) := Lib.hid (fun w1 v' lo hi k hk hs => by
      obtain ⟨p2, cap2, rfl, hf2⟩ := hs
      have hs : Sw (Value.int .i64) 0 w1 (.slice p2 fs.length cap2) fs lo hi := ⟨p2, cap2, rfl, hf2⟩
      obtain ⟨b', off', rfl, ⟨g1, g2, g3⟩, g4, c3, f3⟩ := hs.open' k hk
      exact ⟨b', off', cap2, rfl, g1, g4, c3, f3⟩)
    clear hf hbd ih hSUB
    generalize plc seat (p + 1) fs = C at *
    have h0 : ((p : Int) + 1 == 0) = false := by rw [Bool.eq_false_iff]; intro e; rw [beq_iff_eq] at e; omega
    have h0' : ((p : Int) + 1 = 0) = False := eq_false (by omega)
    generalize fs.length = n at *
    have hz0 : ((p + 1 : Nat) : Int) = (p : Int) + 1 := rfl
    rw [hz0]
    clear hz0
    go_enter Try.func87, Try.ntmps87
    go_wp2
    go_loop [7, 17] (fun s i => ∃ k : Nat, k ≤ n ∧ i = .int .i64 (k : Int) ∧ s = .int .i64 (sumTo fs k)) (fun _ i => n - (intOf i).toNat)
    case atStart => exact ⟨0, Nat.zero_le _, rfl, rfl⟩
    case round =>
      obtain ⟨k, hk, rfl, rfl⟩ := hrel
      have ht := HT.out k
      by_cases hlt : k < n
      · obtain ⟨hcap, b, off, rfl, hbs, hc⟩ := Hf.out (by omega)
        have c1 := hc k hlt
        have hx := HB.out k
        have Hn := Lib.hid (Hst.out k)
        clear hc
        generalize fs.getD k 0 = x at *
        generalize sumTo fs k = S at *
        go_wp2
        go_round
        case rel => exact ⟨k + 1, by omega, by go_num, by rw [Hn.out]⟩
        case measure => simp [intOf]; omega
      · obtain rfl : k = n := by omega
        have Ht := Lib.hid ht
        generalize hT : sumTo fs k = T at *
        have HT2 := Lib.hid hT
        clear ht hT
        obtain ⟨t0, t1⟩ := Ht.out
        clear Ht
        go_wp2
        go_loopw [10, 37] (fun acc i wr => ∃ j a : Nat, j ≤ k ∧ i = .int .i64 (j : Int) ∧ acc = .float .f32 a ∧ Hid (Is (accP fs seat SUB j) a) ∧ Below w.heap.size w wr) (fun _ i _ => k - (intOf i).toNat)
        case atStart => exact ⟨0, 0, Nat.zero_le _, rfl, rfl, Lib.hid Is.zero, Below.refl _ _⟩
        case round =>
          obtain ⟨j, a, hj, rfl, rfl, his, hb⟩ := hrel
          have Hb := Lib.hid hb
          by_cases hlt2 : j < k
          · have Hsl := Lib.hid (Hs.out.later Hb.out)
            obtain ⟨hcap, b, off, rfl, hbs, hc⟩ := Hf.out (by omega)
            have c1 : wr.cell? ⟨b, off + j, none⟩ = some (.int .i64 (fs.getD j 0)) := by rw [hb.cell hbs]; exact hc j hlt2
            have hx := HB.out j
            clear hc hb
            by_cases hs : j = seat
            · have HK := Lib.hid (Hsk.out j (.inl hs))
              have e1 : ((j : Int) == (seat : Int)) = true := by rw [beq_iff_eq]; omega
              have e2 : ((j : Int) = (seat : Int)) = True := eq_true (by omega)
              clear hs
              generalize fs.getD j 0 = x at *
              go_wp2
              go_roundw
              case rel => exact ⟨j + 1, a, by omega, by go_num, rfl, by rw [HK.out]; exact his, Hb.out⟩
              case measure => simp [intOf]; omega
            · have e1 : ((j : Int) == (seat : Int)) = false := by rw [Bool.eq_false_iff]; intro e; rw [beq_iff_eq] at e; omega
              have e2 : ((j : Int) = (seat : Int)) = False := eq_false (by omega)
              by_cases hz : fs.getD j 0 = 0
              · have HK := Lib.hid (Hsk.out j (.inr hz))
                rw [hz] at c1
                clear hz hs hx
                go_wp2
                go_roundw
                case rel => exact ⟨j + 1, a, by omega, by go_num, rfl, by rw [HK.out]; exact his, Hb.out⟩
                case measure => simp [intOf]; omega
              · have HK := Lib.hid (Had.out j hs hz)
                have e3 : (fs.getD j 0 == 0) = false := by rw [Bool.eq_false_iff]; intro e; rw [beq_iff_eq] at e; exact hz e
                have e4 : (fs.getD j 0 = 0) = False := eq_false hz
                clear hz hs
                have Hopj := Lib.hid (fun w1 v' lo hi => Hop.out w1 v' lo hi j hlt2)
                generalize fs.getD j 0 = x at *
                go_wp2_with fail
                refine (Hcl.out _ Hsl.out).mono ?_
                rintro e w1 ⟨v', rfl, hsw, hb1⟩
                have Hsw := Lib.hid hsw
                have Hb1 := Lib.hid hb1
                have hz1 := hb1.size
                clear hsw hb1
                obtain ⟨b', off', cap', rfl, hlo, hbl, c3, f3⟩ := Hopj.out _ _ _ _ Hsw.out
                have Hset := Lib.hid (Hse.out _ _ _ _ _ _ j hlt2 Hsw.out)
                have Hb2 := Lib.hid ((below_step Hb.out Hb1.out (Nat.le_refl _)).setCell (p := ⟨b', off' + j, none⟩) (by have := Hb.out.size; show w.heap.size ≤ b'; omega) (.int .i64 0))
                go_wp2_with (first | (refine wpList_farith rfl .quo _ _ _ _ rfl (by simp) .f32 _ _ rfl rfl ?_; intro q nq Hq) | (go_at_call 87; refine (Hih.out j _ _ hlt2 (Hset.out.drewN _)).mono ?_; rintro e w2 ⟨t, rfl, ht, hb3⟩; have Ht := Lib.hid ht; have Hb3 := Lib.hid hb3; clear ht hb3) | (refine wpList_farith rfl .mul _ _ _ _ rfl (by simp) .f32 _ _ rfl rfl ?_; intro m nm Hm) | (refine wpList_farith rfl .add _ _ _ _ rfl (by simp) .f32 _ _ rfl rfl ?_; intro r nr Hr))
                go_roundw
                case rel => exact ⟨j + 1, r, by omega, by go_num, rfl, Lib.hid (by rw [HK.out]; exact Is.step his.out (Is.quo Hq.out) Ht.out Hm.out Hr.out), below_drewN (below_step (below_drewN Hb2.out _) Hb3.out (Nat.le_refl _)) _⟩
                case measure => simp [intOf]; omega
          · obtain rfl : j = k := by omega
            clear hb
            go_wp2
            go_ret
            exact ⟨a, rfl, by rw [HP.out]; exact his.out, Hb.out⟩
end Go.Proofs.Ytadbblidmmekiaa
