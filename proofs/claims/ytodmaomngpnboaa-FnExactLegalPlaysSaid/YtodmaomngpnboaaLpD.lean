/- Contracts: the cards that may be played, in the model. -/
import Derived.Test.YtodmaomngpnboaaLpC
import Derived.Test.YtodmaomngpnboaaYu
import Derived.BigQuiet
set_option linter.unusedVariables false
namespace Go.Proofs.Ytodmaomngpnboaa
open Go.RowKit

set_option maxRecDepth 100000 in
set_option maxHeartbeats 8000000 in
theorem sortedS_any (R : List Int) (v : Value) (n : Nat) (w : World) (hn : R.length = n) (h1 : 1 ≤ n) (h16 : n ≤ 12) (hr : Sl (Value.int .i64) 0 w v R) :
    Calls Try.prog 146 #[v] w fun e w' => ∃ r, e = .returned r ∧ Sw (Value.int .i64) 0 w' r (srtL R) w.heap.size w'.heap.size ∧ Below w.heap.size w w' := by
  obtain ⟨i0, hi, hz0, hz1, hz2⟩ := info_parts (show (Try.prog.info? 2).map (fun i => (i.zero, i.size, i.bytes)) = some (some (.int .i64 0), 1, 8) by kernel_rfl)
  obtain ⟨p, c0, rfl, hrc⟩ := hr
  obtain ⟨hcap0, b0, o0, rfl, hb0, hcell0⟩ := hrc (by omega)
  have hcm : (R.map (Value.int .i64)).length = n * 1 := by rw [List.length_map, hn, Nat.mul_one]
  have hnews : ∀ j u, (R.map (Value.int .i64))[j]? = some u → (w.alloc (.cells #[] 2)).cell? ((⟨b0, o0, none⟩ : Addr).add j) = some u := fun j u hu => by
    rw [List.getElem?_map] at hu
    have hj : j < R.length := by
      rcases Nat.lt_or_ge j R.length with h | h
      · exact h
      · rw [List.getElem?_eq_none h] at hu; cases hu
    rw [List.getElem?_eq_getElem hj] at hu
    cases hu
    have := hcell0 j hj
    rw [getD_lt _ _ _ hj] at this
    refine cell_keep ((Below.refl w.heap.size w).alloc (Nat.le_refl _) _) ?_
    unfold Addr.add
    split
    · rename_i e0; subst e0; exact this
    · exact this
  have hone : ∀ u ∈ R.map (Value.int .i64), u.oneCell' = true := fun u hu => by obtain ⟨x, _, rfl⟩ := List.mem_map.1 hu; rfl
  have Hown0 := Lib.hid (show (w.alloc (.cells #[] 2)).ownsRow w.heap.size 2 1 (.slice (some ⟨w.heap.size, 0, none⟩) 0 0) 0 [] from World.ownsRow_made w #[] 0 (Nat.le_refl _) (Nat.zero_le _) rfl)
  have Hbl0 := Lib.hid ((Below.refl w.heap.size w).alloc (Nat.le_refl _) (.cells #[] 2))
  have hsz0 : (w.alloc (.cells #[] 2)).heap.size = w.heap.size + 1 := by simp
  have Hn := Lib.hid hn
  have Hnews := Lib.hid hnews
  have Hone := Lib.hid hone
  have Hcm := Lib.hid hcm
  have HP0 : Hid ((R.take 1).Perm (R.take 1) ∧ (R.take 1).Pairwise (· ≤ ·)) := Lib.hid ⟨.refl _, by
    cases R with
    | nil => exact List.Pairwise.nil
    | cons a R => exact List.pairwise_singleton _ _⟩
  clear hcell0 hrc hn hcm hnews hone
  rw [Hn.out]
  go_enter Try.func146, Try.ntmps146
  go_wp2_with (at_builtin; refine wpList_append_own _ rfl _ _ 22 rfl w.heap.size 2 i0 (.int .i64 0) 1 8 (by kernel_rfl) hi hz0 hz1 hz2 rfl (by decide) _ _ _ rfl Hown0.out ⟨b0, o0, none⟩ n c0 (R.map (Value.int .i64)) rfl Hcm.out Hnews.out Hone.out (by unfold maxLen; omega) (by omega) (by omega) ?_; intro v2 w2 hown2 hgrow2 hne2; clear hne2)
  have hS2 := Sw.of_owns (d := 0) (fs := R) hown2 (by rw [Hn.out, Nat.zero_add])
  have Hb2 := Lib.hid (Hbl0.out.grown hgrow2 (by omega) (fun b hb => (Hown0.out.lt b hb).1))
  obtain ⟨p, cap, rfl, hx⟩ := id hS2
  obtain ⟨hcp, D, off, rfl, hD1, hD2, hD3, -⟩ := hx (by rw [Hn.out]; omega)
  have HS2 := Lib.hid (tightL hS2)
  rw [Hn.out] at HS2
  rw [Hn.out]
  clear hown2 hgrow2 hS2 hx hcp
  have HS0 := Lib.hid (show Sw (Value.int .i64) 0 w2 (.slice (some ⟨D, off, none⟩) n cap) (R.take 1 ++ R.drop 1) D (D + 1) by rw [List.take_append_drop]; exact HS2.out)
  clear HS2 Hown0 Hbl0 Hnews Hone Hcm
  go_loopw [4] (fun iv wr => ∃ (i : Nat) (Pl : List Int), 1 ≤ i ∧ i ≤ n ∧ iv = .int .i64 (i : Int) ∧ Hid (Pl.Perm (R.take i) ∧ Pl.Pairwise (· ≤ ·)) ∧ Hid (Sw (Value.int .i64) 0 wr (.slice (some ⟨D, off, none⟩) n cap) (Pl ++ R.drop i) D (D + 1)) ∧ Hid (Below w.heap.size w wr)) (fun iv _ => n - (intOf iv).toNat)
  case atStart => exact ⟨1, R.take 1, Nat.le_refl _, h1, rfl, HP0, HS0, Hb2⟩
  case round =>
    obtain ⟨i, Pl, hi1, hi2, rfl, HP, HS, HW⟩ := hrel
    by_cases hlt : i < n
    · obtain ⟨x, hdr⟩ : ∃ x, R.drop i = x :: R.drop (i + 1) := ⟨R[i]'(by rw [Hn.out]; exact hlt), List.drop_eq_getElem_cons _⟩
      have htk : (R.take i ++ [x]).Perm (R.take (i + 1)) := by
        have h2 : R.take (i + 1) = R.take i ++ [x] := by
          have hl : i < R.length := by rw [Hn.out]; exact hlt
          rw [List.take_succ_eq_append_getElem hl]
          rw [List.drop_eq_getElem_cons hl] at hdr
          rw [(List.cons.inj hdr).1]
        rw [h2]
      have HTk := Lib.hid htk
      have HI1 : Hid ((Pl ++ ([] : List Int)).Perm (R.take i)) := Lib.hid (by rw [List.append_nil]; exact HP.out.1)
      have HI0 : Hid ((Pl ++ ([] : List Int)).Pairwise (· ≤ ·)) := Lib.hid (by rw [List.append_nil]; exact HP.out.2)
      have HI2 : Hid (Sw (Value.int .i64) 0 wr (.slice (some ⟨D, off, none⟩) n cap) (Pl ++ x :: ([] ++ R.drop (i + 1))) D (D + 1)) := Lib.hid (by have := HS.out; rw [hdr] at this; exact this)
      have HPl : Hid (Pl.length = i) := Lib.hid (by rw [HP.out.1.length_eq, List.length_take, Hn.out]; omega)
      have Hdl : Hid ((R.drop (i + 1)).length = n - (i + 1)) := Lib.hid (by rw [List.length_drop, Hn.out])
      clear hdr htk
      generalize hQ : R.drop (i + 1) = Q at *
      have HQ := Lib.hid hQ
      clear hQ
      generalize R.take i = T0 at *
      obtain ⟨wo, rfl⟩ : ∃ z, z = wr := ⟨_, rfl⟩
      go_wp2
      go_loopw [5] (fun jv wr => ∃ (A B : List Int) (j : Nat), j ≤ i ∧ jv = .int .i64 (j : Int) ∧ Hid (A.length = j) ∧ Hid ((A ++ B).Pairwise (· ≤ ·)) ∧ Hid ((A ++ B).Perm T0) ∧ Hid (∀ y ∈ B, x < y) ∧ Hid (Sw (Value.int .i64) 0 wr (.slice (some ⟨D, off, none⟩) n cap) (A ++ x :: (B ++ Q)) D (D + 1)) ∧ Hid (Below w.heap.size w wr)) (fun jv _ => (intOf jv).toNat)
      case atStart => exact ⟨Pl, [], i, Nat.le_refl _, rfl, HPl, HI0, HI1, Lib.hid (fun y h => absurd h (by simp)), HI2, HW⟩
      case round =>
        obtain ⟨A, B, j, hj, rfl, HA, H1, H2, H3, HS2, HW2⟩ := hrel
        by_cases hj0 : j = 0
        · subst hj0
          have hA0 : A = [] := List.eq_nil_of_length_eq_zero HA.out
          have HN : Hid ((A ++ x :: B).Perm (R.take (i + 1)) ∧ (A ++ x :: B).Pairwise (· ≤ ·)) := Lib.hid ⟨(List.perm_middle.trans ((H2.out.cons x).trans (List.perm_append_singleton x T0).symm)).trans HTk.out, insL_ord H1.out H3.out (.inl hA0)⟩
          have HS3 : Hid (Sw (Value.int .i64) 0 wr (.slice (some ⟨D, off, none⟩) n cap) ((A ++ x :: B) ++ Q) D (D + 1)) := Lib.hid (by have := HS2.out; rw [List.append_assoc]; exact this)
          clear H1 H2 H3 HS2 HA hA0
          go_wp2
          go_quiet (fail)
          go_wp2
          go_roundw
          case rel => exact ⟨i + 1, _, by omega, by omega, by go_num, HN, Lib.hid (by rw [HQ.out]; exact HS3.out), Lib.hid (by first | exact HW2.out | exact below_drewN HW2.out _)⟩
          case measure => simp [intOf]; omega
        · obtain ⟨A', z, rfl⟩ := lastL A (by intro e; have := HA.out; rw [e] at this; exact hj0 this.symm)
          obtain ⟨m, rfl⟩ : ∃ m, j = m + 1 := ⟨j - 1, by omega⟩
          have hm : A'.length = m := by have := HA.out; simpa using this
          have hBl : m + 1 + B.length = i := by
            have := (H2.out.length_eq)
            rw [← HI1.out.length_eq, List.append_nil, HPl.out] at this
            simp only [List.length_append, List.length_cons, List.length_nil, hm] at this; omega
          have e0 : (A' ++ [z]) ++ x :: (B ++ Q) = A' ++ z :: x :: (B ++ Q) := by simp
          have HS4 := Lib.hid (e0 ▸ HS2.out)
          obtain ⟨g1, g2⟩ := swL_get z x (B ++ Q) A'
          rw [hm] at g1 g2
          have hll : m + 1 < (A' ++ z :: x :: (B ++ Q)).length := by
            rw [List.length_append, hm, List.length_cons, List.length_cons]; omega
          have HSw := Lib.hid (swL_set z x (B ++ Q) A')
          rw [hm] at HSw
          have hAp : (A' ++ [z]) ++ B = A' ++ z :: B := by simp
          clear HS2 e0
          obtain ⟨_, _, eD, _, _, c1, f1⟩ := Sw.open' HS4.out (m + 1) hll
          cases eD
          obtain ⟨_, _, eD, _, _, c0, f0⟩ := Sw.open' HS4.out m (by omega)
          cases eD
          rw [g2] at c1
          rw [g1] at c0
          have q1 : (0 ≤ (m : Int) + 1 ∧ (m : Int) + 1 < (n : Int)) = True := eq_true ⟨by omega, by omega⟩
          have q2 : IntKind.i64.wrap ((m : Int) + 1 - 1) = (m : Int) := by rw [show (m : Int) + 1 - 1 = m by omega]; exact IntWalk.i64_in (m : Int) (by omega)
          have q4 : m < n := by omega
          have d0 : decide ((0 : Int) < (m : Int) + 1) = true := decide_eq_true (by omega)
          have HS6 : ∀ q, Sw (Value.int .i64) 0 (((wr.drewN q).setCell ⟨D, off + (m + 1), none⟩ (.int .i64 z)).setCell ⟨D, off + m, none⟩ (.int .i64 x)) (.slice (some ⟨D, off, none⟩) n cap) (A' ++ x :: z :: (B ++ Q)) D (D + 1) := fun q => by
            have hh := ((HS4.out.drewN q).store (m + 1) hll z).store m (by rw [List.length_set]; omega) x
            rw [HSw.out] at hh
            exact hh
          have HW6 : ∀ q, Below w.heap.size w (((wr.drewN q).setCell ⟨D, off + (m + 1), none⟩ (.int .i64 z)).setCell ⟨D, off + m, none⟩ (.int .i64 x)) := fun q => (((below_drewN HW2.out q)).setCell hD1 _).setCell hD1 _
          have HS6' := Lib.hid HS6
          have HW6' := Lib.hid HW6
          clear HS6 HW6
          simp only [show ((m + 1 : Nat) : Int) = (m : Int) + 1 from by omega]
          by_cases hk : x < z
          · have dk : decide (x < z) = true := decide_eq_true hk
            have H4 : Hid ((A' ++ z :: B).Pairwise (· ≤ ·)) := Lib.hid (hAp ▸ H1.out)
            have H5 : Hid ((A' ++ z :: B).Perm T0) := Lib.hid (hAp ▸ H2.out)
            have H6 : Hid (∀ y ∈ z :: B, x < y) := Lib.hid (fun y hy => (List.mem_cons.1 hy).elim (fun e => e ▸ hk) (fun h => H3.out y h))
            clear HA hAp H1 H2 H3 g1 g2 HSw
            go_wp2
            go_quiet (fail)
            have c1' : (wr.drewN nq).cell? ⟨D, off + (m + 1), none⟩ = _ := c1
            have c0' : (wr.drewN nq).cell? ⟨D, off + m, none⟩ = _ := c0
            have f1' : (wr.drewN nq).frozen? ⟨D, off + (m + 1), none⟩ = _ := f1
            have f0' : (wr.drewN nq).frozen? ⟨D, off + m, none⟩ = _ := f0
            go_wp2
            go_roundw
            case rel => exact ⟨A', z :: B, m, by omega, by go_num, Lib.hid hm, H4, H5, H6, Lib.hid (by first | exact HS6'.out _ | exact (HS6'.out _).drewN _), Lib.hid (by first | exact HW6'.out _ | exact below_drewN (HW6'.out _) _)⟩
            case measure => simp [intOf]
          · have dk : decide (x < z) = false := decide_eq_false hk
            have HN : Hid (((A' ++ [z]) ++ x :: B).Perm (R.take (i + 1)) ∧ ((A' ++ [z]) ++ x :: B).Pairwise (· ≤ ·)) := Lib.hid ⟨(List.perm_middle.trans ((H2.out.cons x).trans (List.perm_append_singleton x T0).symm)).trans HTk.out, insL_ord H1.out H3.out (.inr ⟨A', z, rfl, by omega⟩)⟩
            have e5 : (A' ++ z :: x :: (B ++ Q)) = ((A' ++ [z]) ++ x :: B) ++ Q := by simp
            have HS7 := Lib.hid (e5 ▸ HS4.out)
            clear HA hAp H1 H2 H3 e5 g1 g2 HSw HS6' HW6' HS4
            go_wp2
            go_quiet (fail)
            go_wp2
            go_roundw
            case rel => exact ⟨i + 1, _, by omega, by omega, by go_num, HN, Lib.hid (by rw [HQ.out]; exact HS7.out), Lib.hid (by first | exact HW2.out | exact below_drewN HW2.out _)⟩
            case measure => simp [intOf]; omega
    · obtain rfl : i = n := by omega
      have HP9 : Pl = srtL R := SrtOf.one (R := R) (by have := HP.out; rw [List.take_of_length_le (by rw [Hn.out]; exact Nat.le_refl _)] at this; exact this) (srtL_of R)
      have HS9 : Hid (Sw (Value.int .i64) 0 wr (.slice (some ⟨D, off, none⟩) i cap) (srtL R) D (D + 1)) := Lib.hid (by have := HS.out; rw [List.drop_of_length_le (by rw [Hn.out]; exact Nat.le_refl _), List.append_nil, HP9] at this; exact this)
      clear HS HS0 HP HP9
      go_wp2
      go_ret
      have hz := HW.out.size
      have hz2 := HS9.out
      obtain ⟨_, _, e, hx⟩ := id hz2
      exact ⟨_, rfl, HS9.out.mono hD1 (by
        cases e
        obtain ⟨_, _, _, e2, _, h7, h8, _⟩ := hx (by rw [srtL_len, Hn.out]; omega)
        exact h8) (Nat.le_refl _), HW.out⟩

set_option maxRecDepth 100000 in
set_option maxHeartbeats 8000000 in
theorem legal_any (fs : List Int) (v : Value) (led : Nat) (w : World) (h1 : 1 ≤ fs.length) (h6 : fs.length ≤ 6) (hcb : cardsB fs = true) (hled : led ≤ 51) (h : Sl (Value.int .i64) 0 w v fs) :
    Calls Try.prog 95 #[v, .int .i64 (led : Int)] w fun e w' => ∃ r, e = .returned r ∧ Sw (Value.int .i64) 0 w' r (playL (srtL fs) (led / 13)) w.heap.size w'.heap.size ∧ Below w.heap.size w w' := by
  obtain ⟨i0, hi, hz0, hz1, hz2⟩ := info_parts (show (Try.prog.info? 2).map (fun i => (i.zero, i.size, i.bytes)) = some (some (.int .i64 0), 1, 8) by kernel_rfl)
  have HSo := Lib.hid (sortedS_any fs v fs.length w rfl h1 (by omega) h)
  have HL := Lib.hid (fun i hi => srtL_card hcb i hi)
  have hlen := srtL_len fs
  obtain ⟨p0, c0, rfl, -⟩ := id h
  have HR := Lib.hid (show playL (srtL fs) (led / 13) = if (ofSuit (srtL fs) (led / 13) (srtL fs).length).length = 0 then srtL fs else ofSuit (srtL fs) (led / 13) (srtL fs).length from rfl)
  clear h hcb
  obtain ⟨s, hs⟩ : ∃ s, s = led / 13 := ⟨_, rfl⟩
  rw [← hs] at HR ⊢
  have Hs := Lib.hid hs
  clear hs
  generalize srtL fs = l at *
  have H0 := Lib.hid (show ofSuit l s 0 = [] from rfl)
  have Hy := Lib.hid (ofSuit_yes l s)
  have Hno := Lib.hid (ofSuit_no l s)
  have Hll := Lib.hid (ofSuit_len l s)
  generalize playL l s = PL at *
  generalize ofSuit l s = L at *
  obtain ⟨m, hm1⟩ : ∃ m, m = l.length := ⟨_, rfl⟩
  have hm2 : m ≤ 6 := by omega
  have hm3 : 1 ≤ m := by omega
  have Hm1 := Lib.hid hm1
  have Hf1 := Lib.hid (hm1.trans hlen)
  rw [← Hf1.out] at HSo ⊢
  rw [← hm1] at HL HR
  clear hm1 hlen h1 h6
  go_enter Try.func95, Try.ntmps95
  go_wp2_with fail
  refine HSo.out.mono ?_
  rintro e w1 ⟨r, rfl, hr, hb1⟩
  have HSr := Lib.hid hr
  have Hb1 := Lib.hid hb1
  obtain ⟨p, cap, rfl, hx⟩ := hr.sl
  rw [← Hm1.out] at hx ⊢
  have Hf := Lib.hid hx
  clear hr hb1 hx
  have Hown0 := Lib.hid (show (w1.alloc (.cells #[] 2)).ownsRow w1.heap.size 2 1 (.slice (some ⟨w1.heap.size, 0, none⟩) 0 0) 0 [] from World.ownsRow_made w1 #[] 0 (Nat.le_refl _) (Nat.zero_le _) rfl)
  have Hbl0 := Lib.hid ((Below.refl w1.heap.size w1).alloc (Nat.le_refl _) (.cells #[] 2))
  go_wp2_with fail
  go_loopw [6, 7] (fun q i wr => ∃ (k : Nat) (lv : Value), lv = q ∧ k ≤ m ∧ i = .int .i64 (k : Int) ∧ Hid (wr.ownsRow w1.heap.size 2 1 q (L k).length ((L k).map (Value.int .i64))) ∧ Hid (Below w1.heap.size w1 wr)) (fun _ i _ => m - (intOf i).toNat)
  case atStart => exact ⟨0, _, rfl, Nat.zero_le _, rfl, Lib.hid (by rw [H0.out]; exact Hown0.out), Hbl0⟩
  case round =>
    obtain ⟨k, lv, rfl, hk, rfl, hown, hbw⟩ := hrel
    have hsz := hbw.out.size
    by_cases hlt : k < m
    · obtain ⟨hcap, b, off, rfl, hbs, hcell⟩ := Hf.out (by omega)
      have c2 := cell_keep hbw.out (hcell k hlt)
      obtain ⟨x0, x1⟩ := HL.out k hlt
      have hyk := Hy.out k
      have hnk := Hno.out k
      have hlk := Hll.out k
      clear hcell
      generalize l.getD k 0 = x at *
      obtain ⟨a, rfl⟩ : ∃ a : Nat, x = (a : Int) := ⟨x.toNat, by omega⟩
      unfold suitI at hyk hnk
      rw [Int.toNat_natCast] at hyk hnk
      by_cases ht : a / 13 = s
      · have Hst := Lib.hid (hyk ht)
        have nb : (((a / 13 : Nat) : Int) == ((led / 13 : Nat) : Int)) = true := by rw [beq_iff_eq, ht, Hs.out]
        have nb1 : ((a : Int) / 13 == (led : Int) / 13) = true := by rw [beq_iff_eq]; have := Hs.out; omega
        have nb2 : (a / 13 = led / 13) = True := eq_true (by rw [ht, Hs.out])
        have nb4 : ((a : Int) / 13 = (led : Int) / 13) = True := eq_true (by have := Hs.out; omega)
        clear hyk hnk ht
        generalize L k = Lk at *
        go_wp2_with (at_builtin; refine wpList_append_own _ rfl _ _ 22 rfl w1.heap.size 2 i0 (.int .i64 0) 1 8 (by kernel_rfl) hi hz0 hz1 hz2 rfl (by decide) _ _ _ rfl (hown.out.alloc _) ⟨wr.heap.size, 0, none⟩ 1 1 [.int .i64 (a : Int)] rfl rfl (cell_one_new _ _ _) (one_int _) (by unfold maxLen; omega) (by omega) (by simp; omega) ?_; intro v2 w2 hown2 hgrow2 _)
        have Hown2 := Lib.hid (own_addY hown2)
        have Hb2 := Lib.hid ((hbw.out.alloc (by omega) _).grown hgrow2 (by simp; omega) (fun b hb => (hown.out.lt b hb).1))
        clear hown2 hgrow2
        go_wp2
        go_roundw
        case rel => exact ⟨k + 1, _, rfl, by omega, by go_num, Lib.hid (by rw [Hst.out]; exact Hown2.out), Hb2⟩
        case measure => simp [intOf]; omega
      · have Hst := Lib.hid (hnk ht)
        have ht' : a / 13 ≠ led / 13 := by rw [← Hs.out]; exact ht
        have nb1 : ((a : Int) / 13 == (led : Int) / 13) = false := by rw [beq_eq_false_iff_ne]; omega
        have nb : (((a / 13 : Nat) : Int) == ((led / 13 : Nat) : Int)) = false := by rw [beq_eq_false_iff_ne]; omega
        have nb2 : (a / 13 = led / 13) = False := eq_false ht'
        have nb4 : ((a : Int) / 13 = (led : Int) / 13) = False := eq_false (by omega)
        clear hyk hnk ht ht'
        go_wp2
        go_roundw
        case rel => exact ⟨k + 1, _, rfl, by omega, by go_num, Lib.hid (by rw [Hst.out]; exact hown.out), hbw⟩
        case measure => simp [intOf]; omega
    · obtain rfl : k = m := by omega
      have Hw := Lib.hid (Sw.of_owns (d := 0) hown.out rfl)
      have HB := Lib.hid (Hb1.out.trans (hbw.out.mono Hb1.out.size))
      have hRk := HR.out
      have HSk := Lib.hid (show Sw (Value.int .i64) 0 wr (.slice p k cap) l w.heap.size w1.heap.size by have := HSr.out.later hbw.out; rw [← Hm1.out] at this; exact this)
      have hzz : w1.heap.size ≤ wr.heap.size := hbw.out.size
      have hz1' : w.heap.size ≤ w1.heap.size := Hb1.out.size
      clear hown hbw HR Hy Hno HL Hf H0 HSr
      have hlk := Hll.out k
      clear Hll
      generalize hLk : L k = Lk at *
      clear hLk
      obtain ⟨q, qc, rfl, -⟩ := id Hw.out
      obtain ⟨u, hu⟩ : ∃ u, u = Lk.length := ⟨_, rfl⟩
      by_cases hz : u = 0
      · rw [if_pos (hu.symm.trans hz)] at hRk
        have HRk := Lib.hid hRk
        rw [← hu]
        subst hz
        clear hRk hu
        go_wp2
        go_ret
        exact ⟨_, rfl, by rw [HRk.out]; exact HSk.out.mono (Nat.le_refl _) hzz (Nat.le_refl _), HB.out⟩
      · rw [if_neg (fun e => hz (hu.trans e))] at hRk
        have HRk := Lib.hid hRk
        have Hu := Lib.hid hu
        have nb : ((u : Int) == 0) = false := by rw [beq_eq_false_iff_ne]; omega
        have nb2 : ((u : Int) = 0) = False := eq_false (by omega)
        have nb3 : (u = 0) = False := eq_false hz
        rw [← hu]
        clear hRk hu
        go_wp2
        go_ret
        exact ⟨_, rfl, by rw [HRk.out, Hu.out]; exact Hw.out.mono hz1' (Nat.le_refl _) (Nat.le_refl _), HB.out⟩
set_option maxRecDepth 100000 in
set_option maxHeartbeats 8000000 in
theorem spec_LegalPlays (fs : List Int) (v : Value) (a : Int) (al : -9223372036854775808 ≤ a) (au : a ≤ 9223372036854775807) (w : World) (hn : fs.length ≤ 1048576) (h : Sl (Value.int .i64) 0 w v fs) :
    Calls Try.prog 42 #[v, .int .i64 a] w fun e w' => ∃ r, e = .returned (.tuple #[r, .bool (ok_LegalPlays fs a)]) ∧ Sw (Value.int .i64) 0 w' r (res_LegalPlays fs a) w.heap.size w'.heap.size ∧ Below w.heap.size w w' := by
  have HC := Lib.hid (cards_spec fs v w hn h)
  have HI := Lib.hid (fun z => inC_any a 0 51 z)
  obtain ⟨m, hm⟩ : ∃ m, m = fs.length := ⟨_, rfl⟩
  by_cases hok : okLP fs a = true
  · obtain ⟨k1, k2, k3, k4, k5⟩ := okLP_len hok
    have e1 : ok_LegalPlays fs a = true := hok
    have e2 : res_LegalPlays fs a = playL (srtL fs) (a.toNat / 13) := if_pos hok
    rw [e1, e2]
    rw [k5] at HC
    rw [decide_eq_true k3, decide_eq_true k4] at HI
    clear e1 e2 hok
    obtain ⟨t, rfl⟩ : ∃ t : Nat, a = (t : Int) := ⟨a.toNat, by omega⟩
    rw [Int.toNat_natCast]
    have HG := Lib.hid (fun z (hz : Below w.heap.size w z) => legal_any fs v t z k1 k2 k5 (by omega) (h.later hz))
    obtain ⟨p, cap, rfl, -⟩ := id h
    have Hm := Lib.hid hm
    rw [← hm] at HC HG k1 k2 ⊢
    clear h hm k5 hn
    have d1 : decide (m < 1) = false := decide_eq_false (by omega)
    have d2 : decide (6 < m) = false := decide_eq_false (by omega)
    have d3 : (m = 0) = False := eq_false (by omega)
    go_enter Try.func42, Try.ntmps42
    go_wp2_with fail
    refine HC.out.mono ?_
    rintro e w1 ⟨rfl, hd1⟩
    have HB1 := Lib.hid (hd1.below w.heap.size)
    clear hd1
    go_wp2_with fail
    refine (HI.out _).mono ?_
    rintro e w' ⟨rfl, rfl⟩
    go_wp2_with fail
    refine (HG.out _ HB1.out).mono ?_
    rintro e w3 ⟨r3, rfl, h3, hb3⟩
    have H3 := Lib.hid (h3.mono HB1.out.size (Nat.le_refl _) (Nat.le_refl _))
    have HB3 := Lib.hid (HB1.out.trans (hb3.mono HB1.out.size))
    clear h3 hb3
    go_wp2
    go_ret2
    exact ⟨_, rfl, H3.out, HB3.out⟩
  · have e1 : ok_LegalPlays fs a = false := by unfold ok_LegalPlays; exact Bool.eq_false_iff.2 hok
    have e2 : res_LegalPlays fs a = [] := if_neg hok
    rw [e1, e2]
    clear e1 e2
    unfold okLP handB at hok
    obtain ⟨p, cap, rfl, -⟩ := id h
    clear h
    by_cases d1 : m < 1
    · obtain rfl : m = 0 := by omega
      rw [← hm]
      clear hok HC HI hm hn d1
      go_enter Try.func42, Try.ntmps42
      go_wp2
      go_ret2
      exact ⟨_, rfl, Sw.nil _ _ _ _ _ _ _, Below.refl _ _⟩
    · by_cases d2 : 6 < m
      · rw [← hm] at hn ⊢
        clear hok HC HI hm
        have q1 : decide (m < 1) = false := decide_eq_false d1
        have q2 : decide (6 < m) = true := decide_eq_true d2
        have q3 : (m = 0) = False := eq_false (by omega)
        go_enter Try.func42, Try.ntmps42
        go_wp2
        go_ret2
        exact ⟨_, rfl, Sw.nil _ _ _ _ _ _ _, Below.refl _ _⟩
      · have q1 : decide (m < 1) = false := decide_eq_false d1
        have q2 : decide (6 < m) = false := decide_eq_false d2
        have q3 : (m = 0) = False := eq_false (by omega)
        cases e3 : cardsB fs with
        | false =>
          rw [e3] at HC
          rw [← hm] at hn HC ⊢
          clear hok HI hm e3
          go_enter Try.func42, Try.ntmps42
          go_wp2_with fail
          refine HC.out.mono ?_
          rintro e w1 ⟨rfl, hd1⟩
          have HB1 := Lib.hid (hd1.below w.heap.size)
          clear hd1
          go_wp2
          go_ret2
          exact ⟨_, rfl, Sw.nil _ _ _ _ _ _ _, HB1.out⟩
        | true =>
          have e4 : (decide (0 ≤ a) && decide (a ≤ 51)) = false := by
            rw [e3, decide_eq_true (show 1 ≤ fs.length by omega), decide_eq_true (show fs.length ≤ 6 by omega)] at hok
            exact Bool.eq_false_iff.2 hok
          rw [e4] at HI
          rw [e3] at HC
          rw [← hm] at hn HC ⊢
          clear hok hm e3 e4
          go_enter Try.func42, Try.ntmps42
          go_wp2_with fail
          refine HC.out.mono ?_
          rintro e w1 ⟨rfl, hd1⟩
          have HB1 := Lib.hid (hd1.below w.heap.size)
          clear hd1
          go_wp2_with fail
          refine (HI.out _).mono ?_
          rintro e w' ⟨rfl, rfl⟩
          go_wp2
          go_ret2
          exact ⟨_, rfl, Sw.nil _ _ _ _ _ _ _, HB1.out⟩

end Go.Proofs.Ytodmaomngpnboaa
