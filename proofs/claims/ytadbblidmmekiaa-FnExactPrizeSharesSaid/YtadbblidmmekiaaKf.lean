/- Contracts: the chance of a place, the model. -/
import Derived.Test.YtadbblidmmekiaaKd
set_option linter.unusedVariables false
namespace Go.Proofs.Ytadbblidmmekiaa
open Go.RowKit Fl


theorem Only.trans {lo hi : Nat} {a b c : World} (h : Only lo hi a b) (g : Only lo hi b c) : Only lo hi a c :=
  ⟨g.os.trans h.os, g.tape.trans h.tape, g.output.trans h.output, g.size.trans h.size, fun k hk => (g.block k hk).trans (h.block k hk)⟩
set_option maxRecDepth 100000 in
set_option maxHeartbeats 4000000 in
theorem place_spec (seat p : Nat) (fs : List Int) (v : Value) (w0 : World) (h6 : fs.length ≤ 6) (hseat : seat < fs.length) (hpos : ∀ k, k < fs.length → 1 ≤ fs.getD k 0 ∧ fs.getD k 0 ≤ 1000000) (h : Sl (Value.int .i64) 0 w0 v fs) :
    ∀ (bs : List Bool) (u : Value) (lo hi : Nat) (w : World), bs.length = fs.length → bs.getD seat false = true → p ≤ 6 → Below w0.heap.size w0 w → w0.heap.size ≤ lo → Sw Value.bool false w u bs lo hi →
    Calls Try.prog 85 #[v, u, .int .i64 (seat : Int), .int .i64 (p : Int)] w fun e w' => ∃ r, e = .returned (.float .f32 r) ∧ Is (plc seat p (msk fs bs)) r ∧ Sw Value.bool false w' u bs lo hi ∧ Only lo hi w w' := by
  induction p with
  | zero =>
    intro bs u lo hi w hlen hsb hp hb0 hlo hu
    have hn0 : 0 < fs.length := by omega
    have hM := msk_len (fs := fs) (bs := bs) hlen
    have HMt := Lib.hid (fun k hk hb => msk_t (fs := fs) hlen (k := k) hk hb)
    have HMf := Lib.hid (fun k hk hb => msk_f (fs := fs) hlen (k := k) hk hb)
    have HB : Hid (∀ k, 0 ≤ (msk fs bs).getD k 0 ∧ (msk fs bs).getD k 0 ≤ 1000000) := Lib.hid (fun k => by
      by_cases hk : k < fs.length
      · have := hpos k hk
        cases hb : bs.getD k false
        · rw [msk_f hlen hk hb]; omega
        · rw [msk_t hlen hk hb]; omega
      · rw [show (msk fs bs).getD k 0 = 0 by simp [List.getD, List.getElem?_eq_none (show (msk fs bs).length ≤ k by omega)]]; omega)
    have HT := Lib.hid (sumTo_bd (msk fs bs) HB.out)
    have Hst := Lib.hid (fun k => (show sumTo (msk fs bs) (k + 1) = sumTo (msk fs bs) k + (msk fs bs).getD k 0 from rfl))
    have Hpos := Lib.hid hpos
    obtain ⟨pv, cap, rfl, hf⟩ := h
    have h : Sl (Value.int .i64) 0 w0 (.slice pv fs.length cap) fs := ⟨pv, cap, rfl, hf⟩
    obtain ⟨hcap, b, off, rfl, hbs, hc⟩ := hf hn0
    have Hcell : Hid (∀ wr, Only lo hi w wr → ∀ j, j < fs.length → wr.cell? ⟨b, off + j, none⟩ = some (.int .i64 (fs.getD j 0))) := Lib.hid (fun wr ho j hj => by
      obtain ⟨pq, capq, e, hq⟩ := h.apart hb0 ho hlo
      obtain ⟨-, b2, off2, e2, -, hc2⟩ := hq (by omega)
      cases e
      cases e2
      exact hc2 j hj)
    have Hu := Lib.hid hu
    obtain ⟨pu, capu, rfl, hfu⟩ := hu
    have hu : Sw Value.bool false w (.slice pu bs.length capu) bs lo hi := ⟨pu, capu, rfl, hfu⟩
    obtain ⟨bl, offl, rfl, -⟩ := hu.open' 0 (by omega)
    have Hopl : Hid (∀ wr j, j < fs.length → Sw Value.bool false wr (.slice (some ⟨bl, offl, none⟩) bs.length capu) bs lo hi → (lo ≤ bl ∧ bl < hi ∧ bl < wr.heap.size) ∧ wr.cell? ⟨bl, offl + j, none⟩ = some (.bool (bs.getD j false)) ∧ wr.frozen? ⟨bl, offl + j, none⟩ = false) := Lib.hid (fun wr j hj hs => by
      obtain ⟨b2, off2, e2, ⟨g1, g2, g3⟩, g4, c2, f2⟩ := hs.open' j (by omega)
      cases e2
      exact ⟨⟨g1, g2, g4⟩, c2, f2⟩)
    clear hf hc hfu hu
    have HP : Hid (plc seat 0 (msk fs bs) = quoI (fs.getD seat 0) (sumTo (msk fs bs) (msk fs bs).length)) := Lib.hid (by show quoI _ _ = _; rw [HMt.out seat hseat hsb])
    rw [hM] at HP
    rw [hlen] at Hu Hopl ⊢
    clear hpos hp h hb0 hlo hM hlen hsb
    generalize plc seat 0 (msk fs bs) = C at *
    generalize msk fs bs = M at *
    generalize fs.length = n at *
    have hz0 : ((0 : Nat) : Int) = 0 := rfl
    rw [hz0]
    clear hz0
    go_enter Try.func85, Try.ntmps85
    go_wp2
    go_loop [9, 16] (fun s i => ∃ k : Nat, k ≤ n ∧ i = .int .i64 (k : Int) ∧ s = .int .i64 (sumTo M k)) (fun _ i => n - (intOf i).toNat)
    case atStart => exact ⟨0, Nat.zero_le _, rfl, rfl⟩
    case round =>
      obtain ⟨k, hk, rfl, rfl⟩ := hrel
      have ht := HT.out k
      by_cases hlt : k < n
      · have hx := HB.out k
        have Hn := Lib.hid (Hst.out k)
        obtain ⟨⟨-, -, hbl⟩, cl, -⟩ := Hopl.out w k hlt Hu.out
        cases hbk : bs.getD k false
        · rw [hbk] at cl
          rw [HMf.out k hlt hbk, Int.add_zero] at Hn
          clear hx hbk
          generalize sumTo M k = S at *
          go_wp2
          go_round
          case rel => exact ⟨k + 1, by omega, by go_num, by rw [Hn.out]⟩
          case measure => simp [intOf]; omega
        · rw [hbk] at cl
          rw [HMt.out k hlt hbk] at Hn hx
          have c1 := Hcell.out w (Only.refl _ _ _) k hlt
          clear hbk
          generalize fs.getD k 0 = x at *
          generalize sumTo M k = S at *
          go_wp2
          go_round
          case rel => exact ⟨k + 1, by omega, by go_num, by rw [Hn.out]⟩
          case measure => simp [intOf]; omega
      · obtain rfl : k = n := by omega
        have c1 := Hcell.out w (Only.refl _ _ _) seat hseat
        generalize fs.getD seat 0 = x at *
        generalize sumTo M k = S at *
        go_wp2_with (refine wpList_farith rfl .quo _ _ _ _ rfl (by simp) .f32 _ _ rfl rfl ?_; intro r nr Hr)
        go_ret
        exact ⟨r, rfl, by rw [HP.out]; exact Is.quo Hr.out, Hu.out.drewN _, (Only.refl _ _ _).drewN _⟩
  | succ p ih =>
    intro bs u lo hi w hlen hsb hp hb0 hlo hu
    have hn0 : 0 < fs.length := by omega
    have hM := msk_len (fs := fs) (bs := bs) hlen
    have HMt := Lib.hid (fun k hk hb => msk_t (fs := fs) hlen (k := k) hk hb)
    have HMf := Lib.hid (fun k hk hb => msk_f (fs := fs) hlen (k := k) hk hb)
    have HB : Hid (∀ k, 0 ≤ (msk fs bs).getD k 0 ∧ (msk fs bs).getD k 0 ≤ 1000000) := Lib.hid (fun k => by
      by_cases hk : k < fs.length
      · have := hpos k hk
        cases hb : bs.getD k false
        · rw [msk_f hlen hk hb]; omega
        · rw [msk_t hlen hk hb]; omega
      · rw [show (msk fs bs).getD k 0 = 0 by simp [List.getD, List.getElem?_eq_none (show (msk fs bs).length ≤ k by omega)]]; omega)
    have HT := Lib.hid (sumTo_bd (msk fs bs) HB.out)
    have Hst := Lib.hid (fun k => (show sumTo (msk fs bs) (k + 1) = sumTo (msk fs bs) k + (msk fs bs).getD k 0 from rfl))
    have Hpos := Lib.hid hpos
    obtain ⟨pv, cap, rfl, hf⟩ := h
    have h : Sl (Value.int .i64) 0 w0 (.slice pv fs.length cap) fs := ⟨pv, cap, rfl, hf⟩
    obtain ⟨hcap, b, off, rfl, hbs, hc⟩ := hf hn0
    have Hcell : Hid (∀ wr, Only lo hi w wr → ∀ j, j < fs.length → wr.cell? ⟨b, off + j, none⟩ = some (.int .i64 (fs.getD j 0))) := Lib.hid (fun wr ho j hj => by
      obtain ⟨pq, capq, e, hq⟩ := h.apart hb0 ho hlo
      obtain ⟨-, b2, off2, e2, -, hc2⟩ := hq (by omega)
      cases e
      cases e2
      exact hc2 j hj)
    have Hu := Lib.hid hu
    obtain ⟨pu, capu, rfl, hfu⟩ := hu
    have hu : Sw Value.bool false w (.slice pu bs.length capu) bs lo hi := ⟨pu, capu, rfl, hfu⟩
    obtain ⟨bl, offl, rfl, -⟩ := hu.open' 0 (by omega)
    have Hopl : Hid (∀ wr j, j < fs.length → Sw Value.bool false wr (.slice (some ⟨bl, offl, none⟩) bs.length capu) bs lo hi → (lo ≤ bl ∧ bl < hi ∧ bl < wr.heap.size) ∧ wr.cell? ⟨bl, offl + j, none⟩ = some (.bool (bs.getD j false)) ∧ wr.frozen? ⟨bl, offl + j, none⟩ = false) := Lib.hid (fun wr j hj hs => by
      obtain ⟨b2, off2, e2, ⟨g1, g2, g3⟩, g4, c2, f2⟩ := hs.open' j (by omega)
      cases e2
      exact ⟨⟨g1, g2, g4⟩, c2, f2⟩)
    clear hf hc hfu hu
    obtain ⟨SUB, hSUB⟩ : ∃ S : Nat → Nat, S = fun k => plc seat p ((msk fs bs).set k 0) := ⟨_, rfl⟩
    have HP : Hid (plc seat (p + 1) (msk fs bs) = accP (msk fs bs) seat SUB (msk fs bs).length) := Lib.hid (by rw [hSUB]; rfl)
    have Hsk := Lib.hid (accP_skip (msk fs bs) seat SUB)
    have Had := Lib.hid (accP_add (msk fs bs) seat SUB)
    have Hih : Hid (∀ k z, k < fs.length → k ≠ seat → Only lo hi w z → Sw Value.bool false z (.slice (some ⟨bl, offl, none⟩) bs.length capu) (bs.set k false) lo hi → Calls Try.prog 85 #[.slice (some ⟨b, off, none⟩) fs.length cap, .slice (some ⟨bl, offl, none⟩) bs.length capu, .int .i64 (seat : Int), .int .i64 (p : Int)] z fun e w' => ∃ r, e = .returned (.float .f32 r) ∧ Is (SUB k) r ∧ Sw Value.bool false w' (.slice (some ⟨bl, offl, none⟩) bs.length capu) (bs.set k false) lo hi ∧ Only lo hi z w') := Lib.hid (fun k z hk hks hz hsw => by
      have := ih (bs.set k false) _ lo hi z (by rw [List.length_set]; exact hlen) (by simp only [List.getD] at hsb ⊢; rw [List.getElem?_set_ne hks]; exact hsb) (by omega) (Below.only hb0 hz hlo) hlo hsw
      rw [msk_set] at this
      rw [hSUB]; exact this)
    have Hse : Hid (∀ z k, k < fs.length → Sw Value.bool false z (.slice (some ⟨bl, offl, none⟩) bs.length capu) bs lo hi → Sw Value.bool false (z.setCell ⟨bl, offl + k, none⟩ (.bool false)) (.slice (some ⟨bl, offl, none⟩) bs.length capu) (bs.set k false) lo hi) := Lib.hid (fun z k hk hs => hs.store k (by omega) false)
    have Hsb : Hid (∀ z k, k < fs.length → bs.getD k false = true → Sw Value.bool false z (.slice (some ⟨bl, offl, none⟩) bs.length capu) (bs.set k false) lo hi → (bl < z.heap.size ∧ z.cell? ⟨bl, offl + k, none⟩ = some (.bool false) ∧ z.frozen? ⟨bl, offl + k, none⟩ = false) ∧ Sw Value.bool false (z.setCell ⟨bl, offl + k, none⟩ (.bool true)) (.slice (some ⟨bl, offl, none⟩) bs.length capu) bs lo hi) := Lib.hid (fun z k hk hb hs => by
      obtain ⟨b2, off2, e2, ⟨g1, g2, g3⟩, g4, c2, f2⟩ := hs.open' k (by rw [List.length_set]; omega)
      cases e2
      have st := hs.store k (by rw [List.length_set]; omega) true
      rw [set_back bs k (by omega) hb] at st
      refine ⟨⟨g4, ?_, f2⟩, st⟩
      rw [c2]; simp [List.getD, show k < bs.length by omega])
    rw [hM] at HP Had
    rw [hlen] at Hu Hopl Hih Hse Hsb ⊢
    clear hpos h hb0 hlo hM hlen hsb ih hSUB
    generalize plc seat (p + 1) (msk fs bs) = C at *
    generalize msk fs bs = M at *
    have h0 : ((p : Int) + 1 == 0) = false := by rw [Bool.eq_false_iff]; intro e; rw [beq_iff_eq] at e; omega
    have h0' : ((p : Int) + 1 = 0) = False := eq_false (by omega)
    generalize fs.length = n at *
    have hz0 : ((p + 1 : Nat) : Int) = (p : Int) + 1 := rfl
    rw [hz0]
    clear hz0
    go_enter Try.func85, Try.ntmps85
    go_wp2
    go_loop [9, 16] (fun s i => ∃ k : Nat, k ≤ n ∧ i = .int .i64 (k : Int) ∧ s = .int .i64 (sumTo M k)) (fun _ i => n - (intOf i).toNat)
    case atStart => exact ⟨0, Nat.zero_le _, rfl, rfl⟩
    case round =>
      obtain ⟨k, hk, rfl, rfl⟩ := hrel
      have ht := HT.out k
      by_cases hlt : k < n
      · have hx := HB.out k
        have Hn := Lib.hid (Hst.out k)
        obtain ⟨⟨-, -, hbl⟩, cl, -⟩ := Hopl.out w k hlt Hu.out
        cases hbk : bs.getD k false
        · rw [hbk] at cl
          rw [HMf.out k hlt hbk, Int.add_zero] at Hn
          clear hx hbk
          generalize sumTo M k = S at *
          go_wp2
          go_round
          case rel => exact ⟨k + 1, by omega, by go_num, by rw [Hn.out]⟩
          case measure => simp [intOf]; omega
        · rw [hbk] at cl
          rw [HMt.out k hlt hbk] at Hn hx
          have c1 := Hcell.out w (Only.refl _ _ _) k hlt
          clear hbk
          generalize fs.getD k 0 = x at *
          generalize sumTo M k = S at *
          go_wp2
          go_round
          case rel => exact ⟨k + 1, by omega, by go_num, by rw [Hn.out]⟩
          case measure => simp [intOf]; omega
      · obtain rfl : k = n := by omega
        have Ht := Lib.hid ht
        generalize sumTo M k = T at *
        clear ht
        obtain ⟨t0, t1⟩ := Ht.out
        clear Ht
        go_wp2
        go_loopw [11, 42] (fun acc i wr => ∃ j a : Nat, j ≤ k ∧ i = .int .i64 (j : Int) ∧ acc = .float .f32 a ∧ Hid (Is (accP M seat SUB j) a) ∧ Hid (Sw Value.bool false wr (.slice (some ⟨bl, offl, none⟩) k capu) bs lo hi) ∧ Hid (Only lo hi w wr)) (fun _ i _ => k - (intOf i).toNat)
        case atStart => exact ⟨0, 0, Nat.zero_le _, rfl, rfl, Lib.hid Is.zero, Hu, Lib.hid (Only.refl _ _ _)⟩
        case round =>
          obtain ⟨j, a, hj, rfl, rfl, his, hsw, ho⟩ := hrel
          by_cases hlt2 : j < k
          · obtain ⟨⟨l1, l2, hbl⟩, cl, fl⟩ := Hopl.out wr j hlt2 hsw.out
            have hx := HB.out j
            cases hbk : bs.getD j false
            · have HK := Lib.hid (Hsk.out j (.inr (HMf.out j hlt2 hbk)))
              rw [hbk] at cl
              clear hbk hx
              go_wp2
              go_roundw
              case rel => exact ⟨j + 1, a, by omega, by go_num, rfl, by rw [HK.out]; exact his, hsw, ho⟩
              case measure => simp [intOf]; omega
            · by_cases hs : j = seat
              · have HK := Lib.hid (Hsk.out j (.inl hs))
                have e1 : ((j : Int) == (seat : Int)) = true := by rw [beq_iff_eq]; omega
                have e2 : ((j : Int) = (seat : Int)) = True := eq_true (by omega)
                rw [hbk] at cl
                clear hs hbk hx
                go_wp2
                go_roundw
                case rel => exact ⟨j + 1, a, by omega, by go_num, rfl, by rw [HK.out]; exact his, hsw, ho⟩
                case measure => simp [intOf]; omega
              · have e1 : ((j : Int) == (seat : Int)) = false := by rw [Bool.eq_false_iff]; intro e; rw [beq_iff_eq] at e; omega
                have e2 : ((j : Int) = (seat : Int)) = False := eq_false (by omega)
                have hp1 := Hpos.out j hlt2
                have HK := Had.out j hs (by rw [HMt.out j hlt2 hbk]; omega)
                rw [HMt.out j hlt2 hbk] at HK
                have HK := Lib.hid HK
                rw [hbk] at cl
                have c1 := Hcell.out wr ho.out j hlt2
                have Hset := Lib.hid (fun m => Hse.out (wr.drewN m) j hlt2 (hsw.out.drewN m))
                have Hon := Lib.hid (fun m => (ho.out.drewN m).step' ⟨bl, offl + j, none⟩ (.bool false) l1 l2)
                have Hcall := Lib.hid (fun m => Hih.out j ((wr.drewN m).setCell ⟨bl, offl + j, none⟩ (.bool false)) hlt2 hs (Hon.out m) (Hset.out m))
                have Hbk := Lib.hid (fun z hz => Hsb.out z j hlt2 hbk hz)
                clear hbk hs hx
                generalize fs.getD j 0 = x at *
                go_wp2_with (first | (refine wpList_farith rfl .quo _ _ _ _ rfl (by simp) .f32 _ _ rfl rfl ?_; intro q nq Hq) | (go_at_call 85; with_reducible refine (Hcall.out _).mono ?_; rintro e w2 ⟨t, rfl, ht, hs3, ho3⟩; have Ht := Lib.hid ht; have Ho3 := Lib.hid ho3; obtain ⟨⟨hb4, c4, f4⟩, -⟩ := Hbk.out _ hs3; have Hs4 := Lib.hid (fun mm => (Hbk.out _ (hs3.drewN mm)).2); clear ht ho3 hs3) | (refine wpList_farith rfl .mul _ _ _ _ rfl (by simp) .f32 _ _ rfl rfl ?_; intro m nm Hm) | (refine wpList_farith rfl .add _ _ _ _ rfl (by simp) .f32 _ _ rfl rfl ?_; intro r nr Hr))
                go_roundw
                case rel => exact ⟨j + 1, r, by omega, by go_num, rfl, Lib.hid (by rw [HK.out]; exact Is.step his.out (Is.quo Hq.out) Ht.out Hm.out Hr.out), Lib.hid (Hs4.out _), Lib.hid ((((Hon.out _).trans Ho3.out).drewN _).step' _ _ l1 l2)⟩
                case measure => simp [intOf]; omega
          · obtain rfl : j = k := by omega
            go_wp2
            go_ret
            exact ⟨a, rfl, by rw [HP.out]; exact his.out, hsw.out, ho.out⟩
end Go.Proofs.Ytadbblidmmekiaa
