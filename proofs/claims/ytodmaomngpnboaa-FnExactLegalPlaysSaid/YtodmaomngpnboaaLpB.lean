/- Contracts: a short list of integers in ascending order, by the library and in the model. -/
import Derived.Test.YtodmaomngpnboaaMb
import Derived.BigQuiet
set_option linter.unusedVariables false
namespace Go.Proofs.Ytodmaomngpnboaa
open Go.RowKit

theorem tightL {w : World} {D off n cap : Nat} {fs : List Int} {lo hi : Nat} (h : Sw (Value.int .i64) 0 w (.slice (some ⟨D, off, none⟩) n cap) fs lo hi) : Sw (Value.int .i64) 0 w (.slice (some ⟨D, off, none⟩) n cap) fs D (D + 1) := by
  obtain ⟨p, c, e, hx⟩ := h
  cases e
  refine ⟨_, _, rfl, fun h0 => ?_⟩
  obtain ⟨h1, b, o, e, h2, h3, h4, h5⟩ := hx h0
  cases e
  exact ⟨h1, _, _, rfl, Nat.le_refl _, Nat.lt_succ_self _, by omega, h5⟩
theorem swL_get (z i : Int) (R : List Int) : ∀ A : List Int, (A ++ z :: i :: R).getD A.length 0 = z ∧ (A ++ z :: i :: R).getD (A.length + 1) 0 = i
  | [] => ⟨rfl, rfl⟩
  | a :: A => by
    have := swL_get z i R A
    simp only [List.getD, List.cons_append, List.length_cons, List.getElem?_cons_succ] at this ⊢
    exact this
theorem swL_set (z i : Int) (R : List Int) : ∀ A : List Int, ((A ++ z :: i :: R).set (A.length + 1) z).set A.length i = A ++ i :: z :: R
  | [] => rfl
  | a :: A => by
    have := swL_set z i R A
    show a :: (((A ++ z :: i :: R).set (A.length + 1) z).set A.length i) = a :: (A ++ i :: z :: R)
    rw [this]
theorem lastL : ∀ (l : List Int), l ≠ [] → ∃ A z, l = A ++ [z]
  | [], h => absurd rfl h
  | [a], _ => ⟨[], a, rfl⟩
  | a :: b :: l, _ => by
    obtain ⟨A, z, e⟩ := lastL (b :: l) (by simp)
    exact ⟨a :: A, z, by rw [e]; rfl⟩
theorem insL_ord {A B : List Int} {x : Int} (h : (A ++ B).Pairwise (· ≤ ·)) (hB : ∀ y ∈ B, x < y) (hA : A = [] ∨ ∃ A' z, A = A' ++ [z] ∧ z ≤ x) : (A ++ x :: B).Pairwise (· ≤ ·) := by
  rw [List.pairwise_append] at h ⊢
  obtain ⟨h1, h2, h3⟩ := h
  refine ⟨h1, List.pairwise_cons.2 ⟨fun y hy => Int.le_of_lt (hB y hy), h2⟩, fun a ha b hb => ?_⟩
  rcases List.mem_cons.1 hb with rfl | hb
  · rcases hA with rfl | ⟨A', z, rfl, hz⟩
    · cases ha
    · rcases List.mem_append.1 ha with h | h
      · exact Int.le_trans ((List.pairwise_append.1 h1).2.2 a h z (by simp)) hz
      · rw [List.mem_singleton.1 h]; exact hz
  · exact h3 a ha b hb
/-- a list in ascending order -/
def SrtOf (R l : List Int) : Prop := l.Perm R ∧ l.Pairwise (· ≤ ·)
theorem SrtOf.one {R l m : List Int} (h : SrtOf R l) (g : SrtOf R m) : l = m :=
  List.Perm.eq_of_pairwise (fun a b _ _ h1 h2 => Int.le_antisymm h1 h2) h.2 g.2 (h.1.trans g.1.symm)
noncomputable def srtL (R : List Int) : List Int := R.mergeSort (fun a b => decide (a ≤ b))
theorem srtL_of (R : List Int) : SrtOf R (srtL R) := by
  refine ⟨List.mergeSort_perm _ _, ?_⟩
  have := List.pairwise_mergeSort (le := fun a b : Int => decide (a ≤ b)) (fun a b c h1 h2 => by simp only [decide_eq_true_eq] at *; omega) (fun a b => by simp only [Bool.or_eq_true, decide_eq_true_eq]; omega) R
  exact this.imp (fun h => by simpa using h)

set_option maxRecDepth 100000 in
set_option maxHeartbeats 8000000 in
theorem insL_any (R : List Int) (n cap D off : Nat) (w : World) (hn : R.length = n) (h1 : 1 ≤ n) (h16 : n ≤ 12) (hr : Sw (Value.int .i64) 0 w (.slice (some ⟨D, off, none⟩) n cap) R D (D + 1)) :
    Calls Try.prog 181 #[.slice (some ⟨D, off, none⟩) n cap, .int .i64 0, .int .i64 (n : Int)] w fun e w' => e = .returned (.tuple #[]) ∧ Sw (Value.int .i64) 0 w' (.slice (some ⟨D, off, none⟩) n cap) (srtL R) D (D + 1) ∧ Below D w w' := by
  have Hlt := Lib.hid (fun x y z => less_any x y z)
  have Hn := Lib.hid hn
  have HP0 : Hid ((R.take 1).Perm (R.take 1) ∧ (R.take 1).Pairwise (· ≤ ·)) := Lib.hid ⟨.refl _, by
    cases R with
    | nil => exact List.Pairwise.nil
    | cons a R => exact List.pairwise_singleton _ _⟩
  have HS0 := Lib.hid (show Sw (Value.int .i64) 0 w (.slice (some ⟨D, off, none⟩) n cap) (R.take 1 ++ R.drop 1) D (D + 1) by rw [List.take_append_drop]; exact hr)
  clear hr hn
  go_enter Try.func181, Try.ntmps181
  go_wp2
  go_loopw [6] (fun iv wr => ∃ (i : Nat) (Pl : List Int), 1 ≤ i ∧ i ≤ n ∧ iv = .int .i64 (i : Int) ∧ Hid (Pl.Perm (R.take i) ∧ Pl.Pairwise (· ≤ ·)) ∧ Hid (Sw (Value.int .i64) 0 wr (.slice (some ⟨D, off, none⟩) n cap) (Pl ++ R.drop i) D (D + 1)) ∧ Hid (Below D w wr)) (fun iv _ => n - (intOf iv).toNat)
  case atStart => exact ⟨1, R.take 1, Nat.le_refl _, h1, rfl, HP0, HS0, Lib.hid (Below.refl _ _)⟩
  case round =>
    obtain ⟨i, Pl, hi1, hi2, rfl, HP, HS, HW⟩ := hrel
    by_cases hlt : i < n
    · obtain ⟨x, hdr⟩ : ∃ x, R.drop i = x :: R.drop (i + 1) := ⟨R[i]'(by rw [Hn.out]; exact hlt), List.drop_eq_getElem_cons _⟩
      have htk : (R.take i ++ [x]).Perm (R.take (i + 1)) := by
        have h2 : R.take (i + 1) = R.take i ++ [x] := by
          have hl : i < R.length := by rw [Hn.out]; exact hlt
          rw [List.take_succ_eq_append_getElem hl]
          rw [List.drop_eq_getElem_cons hl] at hdr
          rw [(List.cons.inj hdr).1]
        rw [h2]
      have HTk := Lib.hid htk
      have HI1 : Hid ((Pl ++ ([] : List Int)).Perm (R.take i)) := Lib.hid (by rw [List.append_nil]; exact HP.out.1)
      have HI0 : Hid ((Pl ++ ([] : List Int)).Pairwise (· ≤ ·)) := Lib.hid (by rw [List.append_nil]; exact HP.out.2)
      have HI2 : Hid (Sw (Value.int .i64) 0 wr (.slice (some ⟨D, off, none⟩) n cap) (Pl ++ x :: ([] ++ R.drop (i + 1))) D (D + 1)) := Lib.hid (by have := HS.out; rw [hdr] at this; exact this)
      have HPl : Hid (Pl.length = i) := Lib.hid (by rw [HP.out.1.length_eq, List.length_take, Hn.out]; omega)
      have Hdl : Hid ((R.drop (i + 1)).length = n - (i + 1)) := Lib.hid (by rw [List.length_drop, Hn.out])
      clear hdr htk
      generalize hQ : R.drop (i + 1) = Q at *
      have HQ := Lib.hid hQ
      clear hQ
      generalize R.take i = T0 at *
      obtain ⟨wo, rfl⟩ : ∃ z, z = wr := ⟨_, rfl⟩
      go_wp2
      go_loopw [7] (fun jv wr => ∃ (A B : List Int) (j : Nat), j ≤ i ∧ jv = .int .i64 (j : Int) ∧ Hid (A.length = j) ∧ Hid ((A ++ B).Pairwise (· ≤ ·)) ∧ Hid ((A ++ B).Perm T0) ∧ Hid (∀ y ∈ B, x < y) ∧ Hid (Sw (Value.int .i64) 0 wr (.slice (some ⟨D, off, none⟩) n cap) (A ++ x :: (B ++ Q)) D (D + 1)) ∧ Hid (Below D w wr)) (fun jv _ => (intOf jv).toNat)
      case atStart => exact ⟨Pl, [], i, Nat.le_refl _, rfl, HPl, HI0, HI1, Lib.hid (fun y h => absurd h (by simp)), HI2, HW⟩
      case round =>
        obtain ⟨A, B, j, hj, rfl, HA, H1, H2, H3, HS2, HW2⟩ := hrel
        by_cases hj0 : j = 0
        · subst hj0
          have hA0 : A = [] := List.eq_nil_of_length_eq_zero HA.out
          have HN : Hid ((A ++ x :: B).Perm (R.take (i + 1)) ∧ (A ++ x :: B).Pairwise (· ≤ ·)) := Lib.hid ⟨(List.perm_middle.trans ((H2.out.cons x).trans (List.perm_append_singleton x T0).symm)).trans HTk.out, insL_ord H1.out H3.out (.inl hA0)⟩
          have HS3 : Hid (Sw (Value.int .i64) 0 wr (.slice (some ⟨D, off, none⟩) n cap) ((A ++ x :: B) ++ Q) D (D + 1)) := Lib.hid (by have := HS2.out; rw [List.append_assoc]; exact this)
          clear H1 H2 H3 HS2 HA hA0 Hlt
          go_wp2
          go_quiet (fail)
          go_wp2
          go_roundw
          case rel => exact ⟨i + 1, _, by omega, by omega, by go_num, HN, Lib.hid (by rw [HQ.out]; exact HS3.out), Lib.hid (by first | exact HW2.out | exact below_drewN HW2.out _)⟩
          case measure => simp [intOf]; omega
        · obtain ⟨A', z, rfl⟩ := lastL A (by intro e; have := HA.out; rw [e] at this; exact hj0 this.symm)
          obtain ⟨m, rfl⟩ : ∃ m, j = m + 1 := ⟨j - 1, by omega⟩
          have hm : A'.length = m := by have := HA.out; simpa using this
          have hBl : m + 1 + B.length = i := by
            have := (H2.out.length_eq)
            rw [← HI1.out.length_eq, List.append_nil, HPl.out] at this
            simp only [List.length_append, List.length_cons, List.length_nil, hm] at this; omega
          have e0 : (A' ++ [z]) ++ x :: (B ++ Q) = A' ++ z :: x :: (B ++ Q) := by simp
          have HS4 := Lib.hid (e0 ▸ HS2.out)
          obtain ⟨g1, g2⟩ := swL_get z x (B ++ Q) A'
          rw [hm] at g1 g2
          have hll : m + 1 < (A' ++ z :: x :: (B ++ Q)).length := by
            rw [List.length_append, hm, List.length_cons, List.length_cons]; omega
          have HSw := Lib.hid (swL_set z x (B ++ Q) A')
          rw [hm] at HSw
          have hAp : (A' ++ [z]) ++ B = A' ++ z :: B := by simp
          clear HS2 e0
          obtain ⟨_, _, eD, _, _, c1, f1⟩ := Sw.open' HS4.out (m + 1) hll
          cases eD
          obtain ⟨_, _, eD, _, _, c0, f0⟩ := Sw.open' HS4.out m (by omega)
          cases eD
          rw [g2] at c1
          rw [g1] at c0
          have q1 : (0 ≤ (m : Int) + 1 ∧ (m : Int) + 1 < (n : Int)) = True := eq_true ⟨by omega, by omega⟩
          have q2 : IntKind.i64.wrap ((m : Int) + 1 - 1) = (m : Int) := by rw [show (m : Int) + 1 - 1 = m by omega]; exact IntWalk.i64_in (m : Int) (by omega)
          have q4 : m < n := by omega
          have d0 : decide ((0 : Int) < (m : Int) + 1) = true := decide_eq_true (by omega)
          have HS6 : ∀ q, Sw (Value.int .i64) 0 (((wr.drewN q).setCell ⟨D, off + (m + 1), none⟩ (.int .i64 z)).setCell ⟨D, off + m, none⟩ (.int .i64 x)) (.slice (some ⟨D, off, none⟩) n cap) (A' ++ x :: z :: (B ++ Q)) D (D + 1) := fun q => by
            have hh := ((HS4.out.drewN q).store (m + 1) hll z).store m (by rw [List.length_set]; omega) x
            rw [HSw.out] at hh
            exact hh
          have HW6 : ∀ q, Below D w (((wr.drewN q).setCell ⟨D, off + (m + 1), none⟩ (.int .i64 z)).setCell ⟨D, off + m, none⟩ (.int .i64 x)) := fun q => (((below_drewN HW2.out q)).setCell (Nat.le_refl _) _).setCell (Nat.le_refl _) _
          have HS6' := Lib.hid HS6
          have HW6' := Lib.hid HW6
          clear HS6 HW6
          simp only [show ((m + 1 : Nat) : Int) = (m : Int) + 1 from by omega]
          by_cases hk : x < z
          · have dk : decide (x < z) = true := decide_eq_true hk
            have H4 : Hid ((A' ++ z :: B).Pairwise (· ≤ ·)) := Lib.hid (hAp ▸ H1.out)
            have H5 : Hid ((A' ++ z :: B).Perm T0) := Lib.hid (hAp ▸ H2.out)
            have H6 : Hid (∀ y ∈ z :: B, x < y) := Lib.hid (fun y hy => (List.mem_cons.1 hy).elim (fun e => e ▸ hk) (fun h => H3.out y h))
            clear HA hAp H1 H2 H3 g1 g2 HSw
            have Hl2 := Lib.hid (fun w' => Hlt.out x z w')
            clear Hlt
            go_wp2
            go_quiet ((go_at_call 187; exact quiet_same (Hl2.out _)))
            go_wp2
            go_region
            go_wp2
            go_roundw
            case rel => exact ⟨A', z :: B, m, by omega, by go_num, Lib.hid hm, H4, H5, H6, Lib.hid (by first | exact HS6'.out _ | exact (HS6'.out _).drewN _), Lib.hid (by first | exact HW6'.out _ | exact below_drewN (HW6'.out _) _)⟩
            case measure => simp [intOf]
          · have dk : decide (x < z) = false := decide_eq_false hk
            have HN : Hid (((A' ++ [z]) ++ x :: B).Perm (R.take (i + 1)) ∧ ((A' ++ [z]) ++ x :: B).Pairwise (· ≤ ·)) := Lib.hid ⟨(List.perm_middle.trans ((H2.out.cons x).trans (List.perm_append_singleton x T0).symm)).trans HTk.out, insL_ord H1.out H3.out (.inr ⟨A', z, rfl, by omega⟩)⟩
            have e5 : (A' ++ z :: x :: (B ++ Q)) = ((A' ++ [z]) ++ x :: B) ++ Q := by simp
            have HS7 := Lib.hid (e5 ▸ HS4.out)
            clear HA hAp H1 H2 H3 e5 g1 g2 HSw HS6' HW6' HS4
            have Hl2 := Lib.hid (fun w' => Hlt.out x z w')
            clear Hlt
            go_wp2
            go_quiet ((go_at_call 187; exact quiet_same (Hl2.out _)))
            go_wp2
            go_roundw
            case rel => exact ⟨i + 1, _, by omega, by omega, by go_num, HN, Lib.hid (by rw [HQ.out]; exact HS7.out), Lib.hid (by first | exact HW2.out | exact below_drewN HW2.out _)⟩
            case measure => simp [intOf]; omega
    · obtain rfl : i = n := by omega
      have HP9 : Pl = srtL R := SrtOf.one (R := R) (by have := HP.out; rw [List.take_of_length_le (by rw [Hn.out]; exact Nat.le_refl _)] at this; exact this) (srtL_of R)
      have HS9 : Hid (Sw (Value.int .i64) 0 wr (.slice (some ⟨D, off, none⟩) i cap) (srtL R) D (D + 1)) := Lib.hid (by have := HS.out; rw [List.drop_of_length_le (by rw [Hn.out]; exact Nat.le_refl _), List.append_nil, HP9] at this; exact this)
      clear HS HS0 HP HP9 Hlt
      go_wp2
      go_end0
      exact ⟨rfl, HS9.out, HW.out⟩

end Go.Proofs.Ytodmaomngpnboaa
