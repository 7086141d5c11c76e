/- Contracts: the library's insertion sort of players, in the program. -/
import Derived.Test.YtfipcpbibmhjoabAb
import Derived.BigQuiet
set_option linter.unusedVariables false
namespace Go.Proofs.Ytfipcpbibmhjoab
open Go.RowKit
def rowI (l : List Nat) : List Int := l.map (fun x : Nat => (x : Int))
theorem rowI_len (l : List Nat) : (rowI l).length = l.length := by simp [rowI]
theorem swap_get (z i : Nat) (R : List Nat) : ∀ A : List Nat, (rowI (A ++ z :: i :: R)).getD A.length 0 = (z : Int) ∧ (rowI (A ++ z :: i :: R)).getD (A.length + 1) 0 = (i : Int)
  | [] => ⟨rfl, rfl⟩
  | a :: A => by
    have := swap_get z i R A
    simp only [rowI, List.getD, List.cons_append, List.map_cons, List.length_cons, List.getElem?_cons_succ] at this ⊢
    exact this
theorem swap_set (z i : Nat) (R : List Nat) : ∀ A : List Nat, ((rowI (A ++ z :: i :: R)).set (A.length + 1) (z : Int)).set A.length (i : Int) = rowI (A ++ i :: z :: R)
  | [] => rfl
  | a :: A => by
    have := swap_set z i R A
    show (a : Int) :: (((rowI (A ++ z :: i :: R)).set (A.length + 1) (z : Int)).set A.length (i : Int)) = (a : Int) :: rowI (A ++ i :: z :: R)
    rw [this]
theorem last_of : ∀ (l : List Nat), l ≠ [] → ∃ A z, l = A ++ [z]
  | [], h => absurd rfl h
  | [a], _ => ⟨[], a, rfl⟩
  | a :: b :: l, _ => by
    obtain ⟨A, z, e⟩ := last_of (b :: l) (by simp)
    exact ⟨a :: A, z, by rw [e]; rfl⟩
theorem range_next (i n : Nat) (h : i < n) : List.range' i (n - i) = i :: List.range' (i + 1) (n - (i + 1)) := by
  rw [show n - i = (n - (i + 1)) + 1 by omega, List.range'_succ]
set_option maxRecDepth 100000 in
set_option maxHeartbeats 4000000 in
theorem insertion_any (s o : List Int) (vs vo : Value) (n cap : Nat) (Bs Bo D : Nat) (w0 w : World) (hs : Sl (Value.int .i64) 0 w0 vs s) (ho : Sl (Value.int .i64) 0 w0 vo o) (hn : s.length = n) (hl : o.length = n) (h2 : 2 ≤ n) (h16 : n ≤ 16)
    (k1 : w0.cell? ⟨Bs, 0, none⟩ = some vs) (k2 : w0.cell? ⟨Bo, 0, none⟩ = some vo) (hD : w0.heap.size ≤ D) (hb : Below w0.heap.size w0 w) (hr : Sw (Value.int .i64) 0 w (.slice (some ⟨D, 0, none⟩) n cap) (rowI (List.range n)) D (D + 1)) :
    Calls Try.prog 146 #[.slice (some ⟨D, 0, none⟩) n cap, .int .i64 0, .int .i64 (n : Int), .func (.func 100) #[] #[.pointer (some ⟨Bs, 0, none⟩), .pointer (some ⟨Bo, 0, none⟩)]] w fun e w' => e = .returned (.tuple #[]) ∧ (∃ l, Ord s o n l ∧ Sw (Value.int .i64) 0 w' (.slice (some ⟨D, 0, none⟩) n cap) (rowI l) D (D + 1)) ∧ Below D w w' := by
  have Hc := Lib.hid (fun a b z (hz : Below w0.heap.size w0 z) (ha : a < n) (hb : b < n) => cloT_any s o vs vo a b Bs Bo z (hs.later hz) (ho.later hz) (by omega) (by omega) (by omega) (cell_keep hz k1) (cell_keep hz k2) (by omega))
  have Hlt := Lib.hid (fun a b => cmpT_lt s o a b)
  have Hr0 : Hid (Ord s o 1 [0]) := Lib.hid ⟨List.pairwise_singleton _ _, fun x => by simp⟩
  have HS0 := Lib.hid (show Sw (Value.int .i64) 0 w (.slice (some ⟨D, 0, none⟩) n cap) (rowI ([0] ++ List.range' 1 (n - 1))) D (D + 1) by
    have e : List.range n = [0] ++ List.range' 1 (n - 1) := by
      rw [List.range_eq_range', show n = (n - 1) + 1 by omega, List.range'_succ]; rfl
    rw [← e]; exact hr)
  have Hb0 := Lib.hid hb
  clear hs ho k1 k2 hb hr hn hl
  go_enter Try.func146, Try.ntmps146
  go_wp2
  go_loopw [8] (fun iv wr => ∃ (i : Nat) (Pl : List Nat), 1 ≤ i ∧ i ≤ n ∧ iv = .int .i64 (i : Int) ∧ Hid (Ord s o i Pl) ∧ Hid (Sw (Value.int .i64) 0 wr (.slice (some ⟨D, 0, none⟩) n cap) (rowI (Pl ++ List.range' i (n - i))) D (D + 1)) ∧ Hid (Below w0.heap.size w0 wr) ∧ Hid (Below D w wr)) (fun iv _ => n - (intOf iv).toNat)
  case atStart => exact ⟨1, [0], Nat.le_refl _, by omega, rfl, Hr0, HS0, Hb0, Lib.hid (Below.refl _ _)⟩
  case round =>
    obtain ⟨i, Pl, hi1, hi2, rfl, HP, HS, HB, HW⟩ := hrel
    by_cases hlt : i < n
    · have HI0 : Hid ((Pl ++ ([] : List Nat)).Pairwise (Bef s o)) := Lib.hid (by rw [List.append_nil]; exact HP.out.1)
      have HI1 : Hid (∀ x, x ∈ Pl ++ ([] : List Nat) ↔ x < i) := Lib.hid (by rw [List.append_nil]; exact HP.out.2)
      have HI2 : Hid (Sw (Value.int .i64) 0 wr (.slice (some ⟨D, 0, none⟩) n cap) (rowI (Pl ++ i :: ([] ++ List.range' (i + 1) (n - (i + 1))))) D (D + 1)) := Lib.hid (by have := HS.out; rw [range_next i n hlt] at this; exact this)
      have HPl : Hid (Pl.length = i) := Lib.hid HP.out.len
      obtain ⟨wo, rfl⟩ : ∃ z, z = wr := ⟨_, rfl⟩
      go_wp2
      go_loopw [9] (fun jv wr => ∃ (A B : List Nat) (j : Nat), j ≤ i ∧ jv = .int .i64 (j : Int) ∧ Hid (A.length = j) ∧ Hid ((A ++ B).Pairwise (Bef s o)) ∧ Hid (∀ x, x ∈ A ++ B ↔ x < i) ∧ Hid (∀ y ∈ B, kb s o i y) ∧ Hid (Sw (Value.int .i64) 0 wr (.slice (some ⟨D, 0, none⟩) n cap) (rowI (A ++ i :: (B ++ List.range' (i + 1) (n - (i + 1))))) D (D + 1)) ∧ Hid (Below w0.heap.size w0 wr) ∧ Hid (Below D w wr)) (fun jv _ => (intOf jv).toNat)
      case atStart => exact ⟨Pl, [], i, Nat.le_refl _, rfl, HPl, HI0, HI1, Lib.hid (fun y h => absurd h (by simp)), HI2, HB, HW⟩
      case round =>
        obtain ⟨A, B, j, hj, rfl, HA, H1, H2, H3, HS2, HB2, HW2⟩ := hrel
        by_cases hj0 : j = 0
        · subst hj0
          have hA0 : A = [] := List.eq_nil_of_length_eq_zero HA.out
          have HN := Lib.hid (insert_ord H1.out H2.out H3.out (.inl hA0))
          have HS3 : Hid (Sw (Value.int .i64) 0 wr (.slice (some ⟨D, 0, none⟩) n cap) (rowI ((A ++ i :: B) ++ List.range' (i + 1) (n - (i + 1)))) D (D + 1)) := Lib.hid (by have := HS2.out; rw [List.append_assoc]; exact this)
          clear H1 H2 H3 HS2 HA Hc Hlt hA0
          go_wp2
          go_quiet (fail)
          go_wp2
          go_roundw
          case rel => exact ⟨i + 1, _, by omega, by omega, by go_num, HN, HS3, Lib.hid (by first | exact HB2.out | exact below_drewN HB2.out _), Lib.hid (by first | exact HW2.out | exact below_drewN HW2.out _)⟩
          case measure => simp [intOf]; omega
        · obtain ⟨A', z, rfl⟩ := last_of A (by intro e; have := HA.out; rw [e] at this; exact hj0 this.symm)
          obtain ⟨m, rfl⟩ : ∃ m, j = m + 1 := ⟨j - 1, by omega⟩
          have hm : A'.length = m := by have := HA.out; simpa using this
          have hzi : z < i := (H2.out z).1 (by simp)
          have e0 : (A' ++ [z]) ++ i :: (B ++ List.range' (i + 1) (n - (i + 1))) = A' ++ z :: i :: (B ++ List.range' (i + 1) (n - (i + 1))) := by simp
          have HS4 := Lib.hid (e0 ▸ HS2.out)
          obtain ⟨g1, g2⟩ := swap_get z i (B ++ List.range' (i + 1) (n - (i + 1))) A'
          rw [hm] at g1 g2
          have hll : m + 1 < (rowI (A' ++ z :: i :: (B ++ List.range' (i + 1) (n - (i + 1))))).length := by
            rw [rowI_len, List.length_append, hm, List.length_cons, List.length_cons]; omega
          have HBd : Hid (Below w0.heap.size w0 wr.drew) := Lib.hid HB2.out.drew
          have HWd : Hid (Below D w wr.drew) := Lib.hid HW2.out.drew
          have HSd : Hid (Sw (Value.int .i64) 0 wr.drew (.slice (some ⟨D, 0, none⟩) n cap) (rowI (A' ++ z :: i :: (B ++ List.range' (i + 1) (n - (i + 1))))) D (D + 1)) := Lib.hid (HS4.out.drewN 1)
          have hDs : D + 1 ≤ wr.drew.heap.size := by obtain ⟨_, _, _, ⟨_, _, hh⟩, _⟩ := Sw.open' HS4.out (m + 1) hll; exact hh
          have Hc2 := Lib.hid (Hc.out i z wr.drew HBd.out hlt (by omega))
          have Hl2 := Lib.hid (Hlt.out i z)
          clear Hc Hlt HS2
          clear HB2 HW2
          clear e0
          obtain ⟨_, _, eD, _, _, c1, f1⟩ := Sw.open' HS4.out (m + 1) hll
          cases eD
          obtain ⟨_, _, eD, _, _, c0, f0⟩ := Sw.open' HS4.out m (by omega)
          cases eD
          rw [g2] at c1
          rw [g1] at c0
          have d0 : decide ((0 : Int) < (m : Int) + 1) = true := decide_eq_true (by omega)
          have c1' : wr.drew.cell? ⟨D, 0 + (m + 1), none⟩ = _ := c1
          have c0' : wr.drew.cell? ⟨D, 0 + m, none⟩ = _ := c0
          rw [Nat.zero_add] at c1 c0 c1' c0' f1 f0
          have q1 : (0 ≤ (m : Int) + 1 ∧ (m : Int) + 1 < (n : Int)) = True := eq_true ⟨by omega, by omega⟩
          have q2 : IntKind.i64.wrap ((m : Int) + 1 - 1) = (m : Int) := by rw [show (m : Int) + 1 - 1 = m by omega]; exact IntWalk.i64_in (m : Int) (by omega)
          have q3 : IntKind.i64.wrap (m : Int) = (m : Int) := IntWalk.i64_in (m : Int) (by omega)
          have q4 : m < n := by omega
          simp only [show ((m + 1 : Nat) : Int) = (m : Int) + 1 from by omega]
          go_wp2
          refine wp_region_still_tail 14 (by kernel_rfl) (by kernel_rfl) ?_
          simp only [List.take_succ_cons, List.take_zero, List.drop_succ_cons, List.drop_zero]
          repeat still_step
          refine wpStill_nil ?_
          change wpList _ _ _ _ _ wr.drew
          have HSw := Lib.hid (swap_set z i (B ++ List.range' (i + 1) (n - (i + 1))) A')
          rw [hm] at HSw
          have hAp : (A' ++ [z]) ++ B = A' ++ z :: B := by simp
          by_cases hk : kb s o i z
          · have dk : decide (cmpT s o i z < 0) = true := decide_eq_true (Hl2.out.2 hk)
            have H4 : Hid ((A' ++ z :: B).Pairwise (Bef s o)) := Lib.hid (hAp ▸ H1.out)
            have H5 : Hid (∀ x, x ∈ A' ++ z :: B ↔ x < i) := Lib.hid (hAp ▸ H2.out)
            have H6 : Hid (∀ y ∈ z :: B, kb s o i y) := Lib.hid (fun y hy => (List.mem_cons.1 hy).elim (fun e => e ▸ hk) (fun h => H3.out y h))
            clear HA hAp H1 H2 H3 c0 c1 f0 f1 c0' c1' Hl2
            generalize cmpT s o i z = CC at *
            go_wp2_with (go_at_call 100; refine (Hc2.out).mono ?_; rintro e wk ⟨rfl, hbk⟩)
            have HS5 := Lib.hid (HSd.out.later hbk)
            have hDk : D + 1 ≤ wk.heap.size := Nat.le_trans hDs hbk.size
            have HBk : Hid (Below w0.heap.size w0 wk) := Lib.hid (HBd.out.trans (hbk.mono (by omega)))
            have HWk : Hid (Below D w wk) := Lib.hid (HWd.out.trans (hbk.mono (by omega)))
            clear HSd HBd HWd HS4 hbk Hc2
            obtain ⟨_, _, eD, _, _, c1, f1⟩ := Sw.open' HS5.out (m + 1) hll
            cases eD
            obtain ⟨_, _, eD, _, _, c0, f0⟩ := Sw.open' HS5.out m (by omega)
            cases eD
            rw [g2, Nat.zero_add] at c1
            rw [g1, Nat.zero_add] at c0
            rw [Nat.zero_add] at f0 f1
            have HS6 : Hid (Sw (Value.int .i64) 0 ((wk.setCell ⟨D, m + 1, none⟩ (.int .i64 (z : Int))).setCell ⟨D, m, none⟩ (.int .i64 (i : Int))) (.slice (some ⟨D, 0, none⟩) n cap) (rowI (A' ++ i :: z :: (B ++ List.range' (i + 1) (n - (i + 1))))) D (D + 1)) := Lib.hid (by
              have hh := (HS5.out.store (m + 1) hll (z : Int)).store m (by rw [List.length_set]; omega) (i : Int)
              rw [HSw.out, Nat.zero_add, Nat.zero_add] at hh
              exact hh)
            have HB6 : Hid (Below w0.heap.size w0 ((wk.setCell ⟨D, m + 1, none⟩ (.int .i64 (z : Int))).setCell ⟨D, m, none⟩ (.int .i64 (i : Int)))) := Lib.hid ((HBk.out.setCell (by exact hD) _).setCell (by exact hD) _)
            have HW6 : Hid (Below D w ((wk.setCell ⟨D, m + 1, none⟩ (.int .i64 (z : Int))).setCell ⟨D, m, none⟩ (.int .i64 (i : Int)))) := Lib.hid ((HWk.out.setCell (Nat.le_refl _) _).setCell (Nat.le_refl _) _)
            clear HS5 HBk HWk HSw g1 g2
            go_region
            go_wp2
            go_roundw
            case rel => exact ⟨A', z :: B, m, by omega, by go_num, Lib.hid hm, H4, H5, H6, Lib.hid HS6.out, Lib.hid HB6.out.drew, Lib.hid HW6.out.drew⟩
            case measure => simp [intOf]
          · have dk : decide (cmpT s o i z < 0) = false := decide_eq_false (fun h => hk (Hl2.out.1 h))
            have HN := Lib.hid (insert_ord H1.out H2.out H3.out (.inr ⟨A', z, rfl, hk⟩))
            have e5 : (A' ++ z :: i :: (B ++ List.range' (i + 1) (n - (i + 1)))) = ((A' ++ [z]) ++ i :: B) ++ List.range' (i + 1) (n - (i + 1)) := by simp
            have HS7 := Lib.hid (e5 ▸ HSd.out)
            clear HA hAp H1 H2 H3 c0 c1 f0 f1 c0' c1' Hl2 HSw e5 HSd HS4
            generalize cmpT s o i z = CC at *
            go_wp2_with (go_at_call 100; refine (Hc2.out).mono ?_; rintro e wk ⟨rfl, hbk⟩)
            go_roundw
            case rel => exact ⟨i + 1, _, by omega, by omega, by go_num, HN, Lib.hid (HS7.out.later hbk), Lib.hid (HBd.out.trans (hbk.mono (by omega))), Lib.hid (HWd.out.trans (hbk.mono (by omega)))⟩
            case measure => simp [intOf]; omega
    · obtain rfl : i = n := by omega
      have HS9 : Hid (Sw (Value.int .i64) 0 wr (.slice (some ⟨D, 0, none⟩) i cap) (rowI Pl) D (D + 1)) := Lib.hid (by have := HS.out; rw [Nat.sub_self, List.range'_zero, List.append_nil] at this; exact this)
      clear Hc Hlt HS HB HS0 Hb0
      go_wp2
      go_end0
      exact ⟨rfl, ⟨Pl, HP.out, HS9.out⟩, HW.out⟩
end Go.Proofs.Ytfipcpbibmhjoab
