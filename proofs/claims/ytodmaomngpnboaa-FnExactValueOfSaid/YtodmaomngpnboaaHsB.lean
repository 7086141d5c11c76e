/- Contracts: the library's insertion sort of ranks, in the program. -/
import Derived.Test.YtodmaomngpnboaaHsA
import Derived.BigQuiet
set_option linter.unusedVariables false
namespace Go.Proofs.Ytodmaomngpnboaa
open Go.RowKit
def ntI (l : List Nat) : List Int := l.map (fun x : Nat => (x : Int))
theorem ntI_len (l : List Nat) : (ntI l).length = l.length := by simp [ntI]
theorem swR_get (z i : Nat) (R : List Nat) : ∀ A : List Nat, (ntI (A ++ z :: i :: R)).getD A.length 0 = (z : Int) ∧ (ntI (A ++ z :: i :: R)).getD (A.length + 1) 0 = (i : Int)
  | [] => ⟨rfl, rfl⟩
  | a :: A => by
    have := swR_get z i R A
    simp only [ntI, List.getD, List.cons_append, List.map_cons, List.length_cons, List.getElem?_cons_succ] at this ⊢
    exact this
theorem swR_set (z i : Nat) (R : List Nat) : ∀ A : List Nat, ((ntI (A ++ z :: i :: R)).set (A.length + 1) (z : Int)).set A.length (i : Int) = ntI (A ++ i :: z :: R)
  | [] => rfl
  | a :: A => by
    have := swR_set z i R A
    show (a : Int) :: (((ntI (A ++ z :: i :: R)).set (A.length + 1) (z : Int)).set A.length (i : Int)) = (a : Int) :: ntI (A ++ i :: z :: R)
    rw [this]
theorem lastR : ∀ (l : List Nat), l ≠ [] → ∃ A z, l = A ++ [z]
  | [], h => absurd rfl h
  | [a], _ => ⟨[], a, rfl⟩
  | a :: b :: l, _ => by
    obtain ⟨A, z, e⟩ := lastR (b :: l) (by simp)
    exact ⟨a :: A, z, by rw [e]; rfl⟩
theorem leR_trans {c : List Nat} {a b d : Nat} (h : leR c a b) (g : leR c b d) : leR c a d := by unfold leR at *; omega
theorem leR_tot {c : List Nat} {a b : Nat} (h : ¬ leR c a b) : leR c b a := by unfold leR at *; omega
theorem ins_ord {c A B : List Nat} {x : Nat} (h : (A ++ B).Pairwise (leR c)) (hB : ∀ y ∈ B, ¬ leR c y x) (hA : A = [] ∨ ∃ A' z, A = A' ++ [z] ∧ leR c z x) : (A ++ x :: B).Pairwise (leR c) := by
  rw [List.pairwise_append] at h ⊢
  obtain ⟨h1, h2, h3⟩ := h
  refine ⟨h1, List.pairwise_cons.2 ⟨fun y hy => leR_tot (hB y hy), h2⟩, fun a ha b hb => ?_⟩
  rcases List.mem_cons.1 hb with rfl | hb
  · rcases hA with rfl | ⟨A', z, rfl, hz⟩
    · cases ha
    · rcases List.mem_append.1 ha with h | h
      · exact leR_trans ((List.pairwise_append.1 h1).2.2 a h z (by simp)) hz
      · rw [List.mem_singleton.1 h]; exact hz
  · exact h3 a ha b hb
theorem cnt_below {w z : World} {D G : Nat} {c : List Nat} (h : CntIn w G c) (hG : G < D) (hb : Below D w z) : CntIn z G c := fun r hr => (hb.cell (p := ⟨G, r, none⟩) hG).trans (h r hr)
set_option maxRecDepth 100000 in
set_option maxHeartbeats 4000000 in
theorem insR_any (c R : List Nat) (n cap G D : Nat) (w : World) (hn : R.length = n) (h1 : 1 ≤ n) (h16 : n ≤ 12) (hR : ∀ x ∈ R, x < 13) (hc : CntIn w G c) (hG : G < D) (hr : Sw (Value.int .i64) 0 w (.slice (some ⟨D, 0, none⟩) n cap) (ntI R) D (D + 1)) :
    Calls Try.prog 192 #[.slice (some ⟨D, 0, none⟩) n cap, .int .i64 0, .int .i64 (n : Int), .func (.func 157) #[] #[.pointer (some ⟨G, 0, none⟩)]] w fun e w' => e = .returned (.tuple #[]) ∧ (∃ l : List Nat, l.Perm R ∧ l.Pairwise (leR c) ∧ Sw (Value.int .i64) 0 w' (.slice (some ⟨D, 0, none⟩) n cap) (ntI l) D (D + 1)) ∧ Below D w w' := by
  have Hc := Lib.hid (fun a b z (hz : Below D w z) (ha : a < 13) (hb : b < 13) => cloR_any c G a b z ha hb (cnt_below hc hG hz))
  have Hlt := Lib.hid (fun a b => cmpR_lt c a b)
  have HR := Lib.hid hR
  have Hn := Lib.hid hn
  have HP0 : Hid ((R.take 1).Perm (R.take 1) ∧ (R.take 1).Pairwise (leR c)) := Lib.hid ⟨.refl _, by
    cases R with
    | nil => exact List.Pairwise.nil
    | cons a R => exact List.pairwise_singleton _ _⟩
  have HS0 := Lib.hid (show Sw (Value.int .i64) 0 w (.slice (some ⟨D, 0, none⟩) n cap) (ntI (R.take 1 ++ R.drop 1)) D (D + 1) by rw [List.take_append_drop]; exact hr)
  clear hc hr hn hR
  go_enter Try.func192, Try.ntmps192
  go_wp2
  go_loopw [8] (fun iv wr => ∃ (i : Nat) (Pl : List Nat), 1 ≤ i ∧ i ≤ n ∧ iv = .int .i64 (i : Int) ∧ Hid (Pl.Perm (R.take i) ∧ Pl.Pairwise (leR c)) ∧ Hid (Sw (Value.int .i64) 0 wr (.slice (some ⟨D, 0, none⟩) n cap) (ntI (Pl ++ R.drop i)) D (D + 1)) ∧ Hid (Below D w wr)) (fun iv _ => n - (intOf iv).toNat)
  case atStart => exact ⟨1, R.take 1, Nat.le_refl _, h1, rfl, HP0, HS0, Lib.hid (Below.refl _ _)⟩
  case round =>
    obtain ⟨i, Pl, hi1, hi2, rfl, HP, HS, HW⟩ := hrel
    by_cases hlt : i < n
    · obtain ⟨x, hx, hdr⟩ : ∃ x, x < 13 ∧ R.drop i = x :: R.drop (i + 1) := ⟨R[i]'(by rw [Hn.out]; exact hlt), HR.out _ (List.getElem_mem _), List.drop_eq_getElem_cons _⟩
      have htk : (R.take i ++ [x]).Perm (R.take (i + 1)) := by
        have h := List.take_append_drop i R
        have h2 : R.take (i + 1) = R.take i ++ [x] := by
          have hl : i < R.length := by rw [Hn.out]; exact hlt
          rw [List.take_succ_eq_append_getElem hl]
          rw [List.drop_eq_getElem_cons hl] at hdr
          rw [(List.cons.inj hdr).1]
        rw [h2]
      have HTk := Lib.hid htk
      have HI1 : Hid ((Pl ++ ([] : List Nat)).Perm (R.take i)) := Lib.hid (by rw [List.append_nil]; exact HP.out.1)
      have HI0 : Hid ((Pl ++ ([] : List Nat)).Pairwise (leR c)) := Lib.hid (by rw [List.append_nil]; exact HP.out.2)
      have HI2 : Hid (Sw (Value.int .i64) 0 wr (.slice (some ⟨D, 0, none⟩) n cap) (ntI (Pl ++ x :: ([] ++ R.drop (i + 1)))) D (D + 1)) := Lib.hid (by have := HS.out; rw [hdr] at this; exact this)
      have HPl : Hid (Pl.length = i) := Lib.hid (by rw [HP.out.1.length_eq, List.length_take, Hn.out]; omega)
      have Hdl : Hid ((R.drop (i + 1)).length = n - (i + 1)) := Lib.hid (by rw [List.length_drop, Hn.out])
      have Htm : Hid (∀ z ∈ R.take i, z < 13) := Lib.hid (fun z hz => HR.out z (List.mem_of_mem_take hz))
      clear hdr htk
      generalize hQ : R.drop (i + 1) = Q at *
      have HQ := Lib.hid hQ
      clear hQ
      generalize R.take i = T0 at *
      obtain ⟨wo, rfl⟩ : ∃ z, z = wr := ⟨_, rfl⟩
      go_wp2
      go_loopw [9] (fun jv wr => ∃ (A B : List Nat) (j : Nat), j ≤ i ∧ jv = .int .i64 (j : Int) ∧ Hid (A.length = j) ∧ Hid ((A ++ B).Pairwise (leR c)) ∧ Hid ((A ++ B).Perm T0) ∧ Hid (∀ y ∈ B, ¬ leR c y x) ∧ Hid (Sw (Value.int .i64) 0 wr (.slice (some ⟨D, 0, none⟩) n cap) (ntI (A ++ x :: (B ++ Q))) D (D + 1)) ∧ Hid (Below D w wr)) (fun jv _ => (intOf jv).toNat)
      case atStart => exact ⟨Pl, [], i, Nat.le_refl _, rfl, HPl, HI0, HI1, Lib.hid (fun y h => absurd h (by simp)), HI2, HW⟩
      case round =>
        obtain ⟨A, B, j, hj, rfl, HA, H1, H2, H3, HS2, HW2⟩ := hrel
        by_cases hj0 : j = 0
        · subst hj0
          have hA0 : A = [] := List.eq_nil_of_length_eq_zero HA.out
          have HN : Hid ((A ++ x :: B).Perm (R.take (i + 1)) ∧ (A ++ x :: B).Pairwise (leR c)) := Lib.hid ⟨(List.perm_middle.trans ((H2.out.cons x).trans (List.perm_append_singleton x T0).symm)).trans HTk.out, ins_ord H1.out H3.out (.inl hA0)⟩
          have HS3 : Hid (Sw (Value.int .i64) 0 wr (.slice (some ⟨D, 0, none⟩) n cap) (ntI ((A ++ x :: B) ++ Q)) D (D + 1)) := Lib.hid (by have := HS2.out; rw [List.append_assoc]; exact this)
          clear H1 H2 H3 HS2 HA Hc Hlt hA0
          go_wp2
          go_quiet (fail)
          go_wp2
          go_roundw
          case rel => exact ⟨i + 1, _, by omega, by omega, by go_num, HN, Lib.hid (by rw [HQ.out]; exact HS3.out), Lib.hid (by first | exact HW2.out | exact below_drewN HW2.out _)⟩
          case measure => simp [intOf]; omega
        · obtain ⟨A', z, rfl⟩ := lastR A (by intro e; have := HA.out; rw [e] at this; exact hj0 this.symm)
          obtain ⟨m, rfl⟩ : ∃ m, j = m + 1 := ⟨j - 1, by omega⟩
          have hm : A'.length = m := by have := HA.out; simpa using this
          have hz13 : z < 13 := Htm.out z (H2.out.mem_iff.1 (by simp))
          have hBl : m + 1 + B.length = i := by
            have := (H2.out.length_eq)
            rw [← HI1.out.length_eq, List.append_nil, HPl.out] at this
            simp only [List.length_append, List.length_cons, List.length_nil, hm] at this; omega
          have e0 : (A' ++ [z]) ++ x :: (B ++ Q) = A' ++ z :: x :: (B ++ Q) := by simp
          have HS4 := Lib.hid (e0 ▸ HS2.out)
          obtain ⟨g1, g2⟩ := swR_get z x (B ++ Q) A'
          rw [hm] at g1 g2
          have hll : m + 1 < (ntI (A' ++ z :: x :: (B ++ Q))).length := by
            rw [ntI_len, List.length_append, hm, List.length_cons, List.length_cons]; omega
          have HWd : Hid (Below D w wr.drew) := Lib.hid HW2.out.drew
          have HSd : Hid (Sw (Value.int .i64) 0 wr.drew (.slice (some ⟨D, 0, none⟩) n cap) (ntI (A' ++ z :: x :: (B ++ Q))) D (D + 1)) := Lib.hid (HS4.out.drewN 1)
          have hDs : D + 1 ≤ wr.drew.heap.size := by obtain ⟨_, _, _, ⟨_, _, hh⟩, _⟩ := Sw.open' HS4.out (m + 1) hll; exact hh
          have Hc2 := Lib.hid (Hc.out x z wr.drew HWd.out hx hz13)
          have Hl2 := Lib.hid (Hlt.out x z)
          clear Hc Hlt HS2
          clear HW2
          clear e0
          obtain ⟨_, _, eD, _, _, c1, f1⟩ := Sw.open' HS4.out (m + 1) hll
          cases eD
          obtain ⟨_, _, eD, _, _, c0, f0⟩ := Sw.open' HS4.out m (by omega)
          cases eD
          rw [g2] at c1
          rw [g1] at c0
          have d0 : decide ((0 : Int) < (m : Int) + 1) = true := decide_eq_true (by omega)
          have c1' : wr.drew.cell? ⟨D, 0 + (m + 1), none⟩ = _ := c1
          have c0' : wr.drew.cell? ⟨D, 0 + m, none⟩ = _ := c0
          rw [Nat.zero_add] at c1 c0 c1' c0' f1 f0
          have q1 : (0 ≤ (m : Int) + 1 ∧ (m : Int) + 1 < (n : Int)) = True := eq_true ⟨by omega, by omega⟩
          have q2 : IntKind.i64.wrap ((m : Int) + 1 - 1) = (m : Int) := by rw [show (m : Int) + 1 - 1 = m by omega]; exact IntWalk.i64_in (m : Int) (by omega)
          have q3 : IntKind.i64.wrap (m : Int) = (m : Int) := IntWalk.i64_in (m : Int) (by omega)
          have q4 : m < n := by omega
          simp only [show ((m + 1 : Nat) : Int) = (m : Int) + 1 from by omega]
          go_wp2
          refine wp_region_still_tail 14 (by kernel_rfl) (by kernel_rfl) ?_
          simp only [List.take_succ_cons, List.take_zero, List.drop_succ_cons, List.drop_zero]
          repeat still_step
          refine wpStill_nil ?_
          change wpList _ _ _ _ _ wr.drew
          have HSw := Lib.hid (swR_set z x (B ++ Q) A')
          rw [hm] at HSw
          have hAp : (A' ++ [z]) ++ B = A' ++ z :: B := by simp
          by_cases hk : leR c z x
          · have dk : decide (cmpR c x z < 0) = false := decide_eq_false (fun h => (Hl2.out.1 h) hk)
            have HN : Hid (((A' ++ [z]) ++ x :: B).Perm (R.take (i + 1)) ∧ ((A' ++ [z]) ++ x :: B).Pairwise (leR c)) := Lib.hid ⟨(List.perm_middle.trans ((H2.out.cons x).trans (List.perm_append_singleton x T0).symm)).trans HTk.out, ins_ord H1.out H3.out (.inr ⟨A', z, rfl, hk⟩)⟩
            have e5 : (A' ++ z :: x :: (B ++ Q)) = ((A' ++ [z]) ++ x :: B) ++ Q := by simp
            have HS7 := Lib.hid (e5 ▸ HSd.out)
            clear HA hAp H1 H2 H3 c0 c1 f0 f1 c0' c1' Hl2 HSw e5 HSd HS4
            generalize cmpR c x z = CC at *
            go_wp2_with (go_at_call 157; refine (Hc2.out).mono ?_; rintro e wk ⟨rfl, hbk⟩)
            go_roundw
            case rel => exact ⟨i + 1, _, by omega, by omega, by go_num, HN, Lib.hid (by rw [HQ.out]; exact HS7.out.later hbk), Lib.hid (HWd.out.trans (hbk.mono (by omega)))⟩
            case measure => simp [intOf]; omega
          · have dk : decide (cmpR c x z < 0) = true := decide_eq_true (Hl2.out.2 hk)
            have H4 : Hid ((A' ++ z :: B).Pairwise (leR c)) := Lib.hid (hAp ▸ H1.out)
            have H5 : Hid ((A' ++ z :: B).Perm T0) := Lib.hid (hAp ▸ H2.out)
            have H6 : Hid (∀ y ∈ z :: B, ¬ leR c y x) := Lib.hid (fun y hy => (List.mem_cons.1 hy).elim (fun e => e ▸ hk) (fun h => H3.out y h))
            clear HA hAp H1 H2 H3 c0 c1 f0 f1 c0' c1' Hl2
            generalize cmpR c x z = CC at *
            go_wp2_with (go_at_call 157; refine (Hc2.out).mono ?_; rintro e wk ⟨rfl, hbk⟩)
            have HS5 := Lib.hid (HSd.out.later hbk)
            have hDk : D + 1 ≤ wk.heap.size := Nat.le_trans hDs hbk.size
            have HWk : Hid (Below D w wk) := Lib.hid (HWd.out.trans (hbk.mono (by omega)))
            clear HSd HWd HS4 hbk Hc2
            obtain ⟨_, _, eD, _, _, c1, f1⟩ := Sw.open' HS5.out (m + 1) hll
            cases eD
            obtain ⟨_, _, eD, _, _, c0, f0⟩ := Sw.open' HS5.out m (by omega)
            cases eD
            rw [g2, Nat.zero_add] at c1
            rw [g1, Nat.zero_add] at c0
            rw [Nat.zero_add] at f0 f1
            have HS6 : Hid (Sw (Value.int .i64) 0 ((wk.setCell ⟨D, m + 1, none⟩ (.int .i64 (z : Int))).setCell ⟨D, m, none⟩ (.int .i64 (x : Int))) (.slice (some ⟨D, 0, none⟩) n cap) (ntI (A' ++ x :: z :: (B ++ Q))) D (D + 1)) := Lib.hid (by
              have hh := (HS5.out.store (m + 1) hll (z : Int)).store m (by rw [List.length_set]; omega) (x : Int)
              rw [HSw.out, Nat.zero_add, Nat.zero_add] at hh
              exact hh)
            have HW6 : Hid (Below D w ((wk.setCell ⟨D, m + 1, none⟩ (.int .i64 (z : Int))).setCell ⟨D, m, none⟩ (.int .i64 (x : Int)))) := Lib.hid ((HWk.out.setCell (Nat.le_refl _) _).setCell (Nat.le_refl _) _)
            clear HS5 HWk HSw g1 g2
            go_region
            go_wp2
            go_roundw
            case rel => exact ⟨A', z :: B, m, by omega, by go_num, Lib.hid hm, H4, H5, H6, Lib.hid HS6.out, Lib.hid HW6.out.drew⟩
            case measure => simp [intOf]
    · obtain rfl : i = n := by omega
      have HP9 : Hid (Pl.Perm R ∧ Pl.Pairwise (leR c)) := Lib.hid (by have := HP.out; rw [List.take_of_length_le (by rw [Hn.out]; exact Nat.le_refl _)] at this; exact this)
      have HS9 : Hid (Sw (Value.int .i64) 0 wr (.slice (some ⟨D, 0, none⟩) i cap) (ntI Pl) D (D + 1)) := Lib.hid (by have := HS.out; rw [List.drop_of_length_le (by rw [Hn.out]; exact Nat.le_refl _), List.append_nil] at this; exact this)
      clear Hc Hlt HS HS0 HP
      go_wp2
      go_end0
      exact ⟨rfl, ⟨Pl, HP9.out.1, HP9.out.2, HS9.out⟩, HW.out⟩
end Go.Proofs.Ytodmaomngpnboaa
