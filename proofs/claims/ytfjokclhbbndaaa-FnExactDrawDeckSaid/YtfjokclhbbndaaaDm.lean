/- Contracts: drawn decks, in both texts. -/
import Derived.Test.YtfjokclhbbndaaaDd
import Derived.RegionTactic
set_option linter.unusedVariables false
namespace Go.Proofs.Ytfjokclhbbndaaa
open Go.RowKit

def nextS (s : Int) : Int := (1664525 * s + 1013904223) % 4294967296
theorem nextS_bd (s : Int) : 0 ≤ nextS s ∧ nextS s ≤ 4294967295 := by unfold nextS; omega
theorem mul_bd (s : Int) (h0 : 0 ≤ s) (h1 : s ≤ 4294967295) (c : Int) (c0 : 0 ≤ c) (c1 : c ≤ 52) : 0 ≤ s * c ∧ s * c ≤ 223338299340 := by
  refine ⟨Int.mul_nonneg h0 c0, ?_⟩
  have h2 : s * c ≤ 4294967295 * c := Int.mul_le_mul_of_nonneg_right h1 c0
  omega
theorem quo_bd (s : Int) (h0 : 0 ≤ s) (h1 : s ≤ 4294967295) (c : Int) (c0 : 1 ≤ c) : 0 ≤ s * c / 4294967296 ∧ s * c / 4294967296 < c := by
  refine ⟨Int.ediv_nonneg (Int.mul_nonneg h0 (by omega)) (by omega), Int.ediv_lt_of_lt_mul (by omega) ?_⟩
  have h2 : s * c ≤ 4294967295 * c := Int.mul_le_mul_of_nonneg_right h1 (by omega)
  omega
def othS (s : Int) (p : Nat) : Nat := (nextS s * ((p : Int) + 1) / 4294967296).toNat
theorem othS_le (s : Int) (p : Nat) : othS s p ≤ p := by
  have := quo_bd (nextS s) (nextS_bd s).1 (nextS_bd s).2 ((p : Int) + 1) (by omega)
  unfold othS; omega
theorem othS_int (s : Int) (p : Nat) : nextS s * ((p : Int) + 1) / 4294967296 = (othS s p : Int) := by
  have := quo_bd (nextS s) (nextS_bd s).1 (nextS_bd s).2 ((p : Int) + 1) (by omega)
  unfold othS; omega
theorem drawR_step (n : Nat) (s : Int) (j p : Nat) (hp : p + j + 1 = n) :
    drawR n s (j + 1) = ((((drawR n s j).1.set p ((drawR n s j).1.getD (othS (drawR n s j).2 p) 0)).set (othS (drawR n s j).2 p) ((drawR n s j).1.getD p 0)), nextS (drawR n s j).2) := by
  obtain rfl : p = n - 1 - j := by omega
  rfl
abbrev okD (a s : Int) : Prop := (1 ≤ a ∧ a ≤ 52) ∧ (0 ≤ s ∧ s ≤ 4294967295)
def res_DrawDeck (a s : Int) : List Int := if okD a s then (drawR a.toNat s (a.toNat - 1)).1 else []
def res2_DrawDeck (a s : Int) : Int := if okD a s then (drawR a.toNat s (a.toNat - 1)).2 else 0
theorem draw_yes (a s : Int) (h : okD a s) : ok_DrawDeck a s = true ∧ res_DrawDeck a s = (drawR a.toNat s (a.toNat - 1)).1 ∧ res2_DrawDeck a s = (drawR a.toNat s (a.toNat - 1)).2 := by
  refine ⟨?_, if_pos h, if_pos h⟩
  unfold ok_DrawDeck
  simp only [Bool.and_eq_true, decide_eq_true_eq]; exact h
theorem draw_no (a s : Int) (h : ¬ okD a s) : ok_DrawDeck a s = false ∧ res_DrawDeck a s = [] ∧ res2_DrawDeck a s = 0 := by
  refine ⟨?_, if_neg h, if_neg h⟩
  unfold ok_DrawDeck
  rw [Bool.eq_false_iff]; intro h'; simp only [Bool.and_eq_true, decide_eq_true_eq] at h'; exact h h'
theorem len_DrawDeck (a s : Int) : (res_DrawDeck a s).length ≤ 1048576 := by
  unfold res_DrawDeck
  split
  · rename_i h; rw [drawR_len]; have := h.1.2; omega
  · exact Nat.zero_le _

theorem cell?_setCell_some {w : World} {p q : Addr} {x v : Value} (h : w.cell? q = some v) : ∃ v', (w.setCell p x).cell? q = some v' := by
  by_cases e : p = q
  · subst e; exact ⟨x, World.cell?_setCell_same w p x h⟩
  · exact ⟨v, (World.cell?_setCell_other w p q x e).trans h⟩
theorem below_any (s c : Int) (w : World) (h0 : 0 ≤ s) (h1 : s ≤ 4294967295) (c0 : 1 ≤ c) (c1 : c ≤ 52) :
    Calls Try.prog 65 #[.int .i64 s, .int .i64 c] w fun e w' => e = .returned (.tuple #[.int .i64 (nextS s), .int .i64 (nextS s * c / 4294967296)]) ∧ w = w' := by
  have hb := mul_bd (nextS s) (nextS_bd s).1 (nextS_bd s).2 c (by omega) c1
  obtain ⟨b0, b1⟩ := hb
  unfold nextS at b0 b1 ⊢
  go_enter Try.func65, Try.ntmps65
  go_wp2
  go_ret2
  exact ⟨rfl, rfl⟩

theorem seed_yes (s : Int) (w : World) (h0 : 0 ≤ s) (h1 : s ≤ 4294967295) : Calls Try.prog 64 #[.int .i64 s] w fun e w' => e = .returned (.bool true) ∧ w = w' := by
  have d : decide (s < 4294967296) = true := decide_eq_true (by omega)
  go_enter Try.func64, Try.ntmps64
  go_wp2
  go_ret
  exact ⟨rfl, rfl⟩
theorem seed_no (s : Int) (w : World) (h : s < 0 ∨ 4294967295 < s) : Calls Try.prog 64 #[.int .i64 s] w fun e w' => e = .returned (.bool false) ∧ w = w' := by
  by_cases h1 : s < 0
  · clear h
    have d : decide (0 ≤ s) = false := decide_eq_false (by omega)
    go_enter Try.func64, Try.ntmps64
    go_wp2
    go_ret
    exact ⟨rfl, rfl⟩
  · have h2 : 4294967296 ≤ s := by omega
    have h1' : 0 ≤ s := by omega
    clear h
    have d : decide (s < 4294967296) = false := decide_eq_false (by omega)
    go_enter Try.func64, Try.ntmps64
    go_wp2
    go_ret
    exact ⟨rfl, rfl⟩

set_option maxHeartbeats 1000000 in
theorem draw_impl_yes (n : Nat) (s : Int) (w : World) (h1 : 1 ≤ n) (h2 : n ≤ 52) (s0 : 0 ≤ s) (s1 : s ≤ 4294967295) :
    Calls Try.prog 43 #[.int .i64 (n : Int), .int .i64 s] w fun e w' => ∃ r, e = .returned (.tuple #[r, .int .i64 (drawR n s (n - 1)).2, .bool true]) ∧ Sw (Value.int .i64) 0 w' r (drawR n s (n - 1)).1 w.heap.size w'.heap.size ∧ Below w.heap.size w w' := by
  have Hbd := Lib.hid (drawR_bd n s s0 s1)
  have Hln := Lib.hid (drawR_len n s)
  go_enter Try.func43, Try.ntmps43
  go_wp2_with fail
  refine (new_impl_yes n _ h1 h2).mono ?_
  rintro e w1 ⟨r, rfl, hs, hb⟩
  have Hs := Lib.hid hs
  have Hb := Lib.hid hb
  have hz1 := hb.size
  obtain ⟨pr, capr, rfl, hfr⟩ := hs
  clear hfr hb
  rw [tab_len] at Hs ⊢
  go_wp2_with (go_at_call 64; refine (seed_yes _ _ s0 s1).mono ?_; rintro e w' ⟨rfl, rfl⟩)
  go_loopw [1, 9] (fun sd pl wr => ∃ j p : Nat, p + j + 1 = n ∧ pl = .int .i64 (p : Int) ∧ sd = .int .i64 (drawR n s j).2 ∧ Sw (Value.int .i64) 0 wr (.slice pr n capr) (drawR n s j).1 w.heap.size w1.heap.size ∧ Below w.heap.size w wr) (fun _ pl _ => (intOf pl).toNat)
  case atStart => exact ⟨0, n - 1, by omega, by go_num, rfl, Hs.out, Hb.out⟩
  case round =>
    obtain ⟨j, p, hp, rfl, rfl, hs, hb⟩ := hrel
    have hbd := Hbd.out j
    have hln := Hln.out j
    have hst := drawR_step n s j p hp
    have Hb := Lib.hid hb
    have hsz := hb.size
    clear hb
    generalize hD : drawR n s j = D at *
    have HD := Lib.hid hD
    clear hD
    obtain ⟨L, S⟩ := D
    simp only at hbd hln hst hs
    have HS := Lib.hid hs
    by_cases hp1 : 1 ≤ p
    · have hol := othS_le S p
      have hoi := Lib.hid (othS_int S p)
      generalize othS S p = o at *
      obtain ⟨b, off, rfl, g1, g2, cp, fp⟩ := hs.open' p (by omega)
      obtain ⟨b', off', e', g1', g2', co, fo⟩ := hs.open' o (by omega)
      cases e'
      have hs2 := (hs.store p (by omega) (L.getD o 0)).store o (by rw [List.length_set]; omega) (L.getD p 0)
      have Hst := Lib.hid hst
      have Hs2 := Lib.hid hs2
      have Hb2 := Lib.hid ((Hb.out.setCell (p := ⟨b, off + p, none⟩) g1.1 (.int .i64 (L.getD o 0))).setCell (p := ⟨b, off + o, none⟩) g1.1 (.int .i64 (L.getD p 0)))
      obtain ⟨b0, b1⟩ := hbd
      clear hs hs2 hst g1' g2' hln
      generalize L.getD p 0 = x at *
      generalize L.getD o 0 = y at *
      obtain ⟨v', hy'⟩ := cell?_setCell_some (w := wr) (p := ⟨b, off + p, none⟩) (x := .int .i64 y) (q := ⟨b, off + o, none⟩) (v := .int .i64 y) co
      go_wp2_with (go_at_call 65; refine (below_any _ _ _ b0 b1 (by omega) (by omega)).mono ?_; rw [hoi.out]; rintro e w' ⟨rfl, rfl⟩)
      go_region
      all_goals
        go_wp2
        go_roundw
        case rel => exact ⟨j + 1, p - 1, by omega, by go_num, by rw [Hst.out], by rw [Hst.out]; exact Hs2.out, below_drewN Hb2.out 1⟩
        case measure => simp [intOf]; omega
    · obtain rfl : p = 0 := by omega
      obtain rfl : j = n - 1 := by omega
      have hzr : w1.heap.size ≤ wr.heap.size := by
        obtain ⟨_, _, _, g, _⟩ := HS.out.open' 0 (by omega)
        exact g.2.2
      go_wp2
      go_ret3
      rw [HD.out]
      exact ⟨_, rfl, HS.out.mono (Nat.le_refl _) (by omega) (Nat.le_refl _), Hb.out⟩

theorem impl_DrawDeck (a : Int) (al : -9223372036854775808 ≤ a) (au : a ≤ 9223372036854775807) (s : Int) (sl : -9223372036854775808 ≤ s) (su : s ≤ 9223372036854775807) (w : World) :
    Calls Try.prog 43 #[.int .i64 a, .int .i64 s] w fun e w' => ∃ r, e = .returned (.tuple #[r, .int .i64 (res2_DrawDeck a s), .bool (ok_DrawDeck a s)]) ∧ Sw (Value.int .i64) 0 w' r (res_DrawDeck a s) w.heap.size w'.heap.size ∧ Below w.heap.size w w' := by
  by_cases h : okD a s
  · obtain ⟨e1, e2, e3⟩ := draw_yes a s h
    rw [e1, e2, e3]
    obtain ⟨n, rfl⟩ : ∃ n : Nat, a = n := ⟨a.toNat, by have := h.1; omega⟩
    exact draw_impl_yes n s w (by have := h.1; omega) (by have := h.1; omega) h.2.1 h.2.2
  · obtain ⟨e1, e2, e3⟩ := draw_no a s h
    rw [e1, e2, e3]
    by_cases h1 : 1 ≤ a ∧ a ≤ 52
    · have h2 : s < 0 ∨ 4294967295 < s := by
        by_cases h0 : 0 ≤ s ∧ s ≤ 4294967295
        · exact absurd ⟨h1, h0⟩ h
        · omega
      obtain ⟨n, rfl⟩ : ∃ n : Nat, a = n := ⟨a.toNat, by omega⟩
      have Hn := Lib.hid (new_impl_yes n w (by omega) (by omega))
      clear h e1 e2 e3
      go_enter Try.func43, Try.ntmps43
      go_wp2_with fail
      refine Hn.out.mono ?_
      rintro e w1 ⟨r, rfl, hs, hb⟩
      have Hb := Lib.hid hb
      clear hs hb
      go_wp2_with (go_at_call 64; refine (seed_no _ _ h2).mono ?_; rintro e w' ⟨rfl, rfl⟩)
      go_ret3
      exact ⟨_, rfl, Sw.nil _ _ _ _ _ _ _, Hb.out⟩
    · have Hn := Lib.hid (new_impl_no a w (by omega))
      clear h h1 e1 e2 e3
      go_enter Try.func43, Try.ntmps43
      go_wp2_with fail
      refine Hn.out.mono ?_
      rintro e w1 ⟨rfl, rfl⟩
      go_wp2
      go_ret3
      exact ⟨_, rfl, Sw.nil _ _ _ _ _ _ _, Below.refl _ _⟩

set_option maxHeartbeats 1000000 in
theorem drawn_spec (n : Nat) (s : Int) (w : World) (h1 : 1 ≤ n) (h2 : n ≤ 52) (s0 : 0 ≤ s) (s1 : s ≤ 4294967295) :
    Calls Try.prog 63 #[.int .i64 (n : Int), .int .i64 s] w fun e w' => ∃ r, e = .returned (.tuple #[r, .int .i64 (drawR n s (n - 1)).2]) ∧ Sw (Value.int .i64) 0 w' r (drawR n s (n - 1)).1 w.heap.size w'.heap.size ∧ Below w.heap.size w w' := by
  have Hbd := Lib.hid (drawR_bd n s s0 s1)
  have Hln := Lib.hid (drawR_len n s)
  go_enter Try.func63, Try.ntmps63
  go_wp2_with fail
  refine (l02New_any n _ (by omega)).mono ?_
  rintro e w1 ⟨r, rfl, hs, hb⟩
  have hs := Sw.of_owns (d := 0) hs (tab_len _ _)
  have Hs := Lib.hid (hs.mono (Nat.le_refl _) (Nat.le_refl _) (Nat.le_refl _))
  have Hb := Lib.hid hb
  have hz1 := hb.size
  obtain ⟨pr, capr, rfl, hfr⟩ := hs
  clear hfr hb
  rw [tab_len] at Hs ⊢
  go_wp2
  go_loopw [1, 7] (fun sd pl wr => ∃ j p : Nat, p + j + 1 = n ∧ pl = .int .i64 (p : Int) ∧ sd = .int .i64 (drawR n s j).2 ∧ Sw (Value.int .i64) 0 wr (.slice pr n capr) (drawR n s j).1 w.heap.size w1.heap.size ∧ Below w.heap.size w wr) (fun _ pl _ => (intOf pl).toNat)
  case atStart => exact ⟨0, n - 1, by omega, by go_num, rfl, Hs.out, Hb.out⟩
  case round =>
    obtain ⟨j, p, hp, rfl, rfl, hs, hb⟩ := hrel
    have hbd := Hbd.out j
    have hln := Hln.out j
    have hst := drawR_step n s j p hp
    have Hb := Lib.hid hb
    have hsz := hb.size
    clear hb
    generalize hD : drawR n s j = D at *
    have HD := Lib.hid hD
    clear hD
    obtain ⟨L, S⟩ := D
    simp only at hbd hln hst hs
    have HS := Lib.hid hs
    by_cases hp1 : 1 ≤ p
    · have hol := othS_le S p
      have hoi := othS_int S p
      obtain ⟨m0, m1⟩ := mul_bd (nextS S) (nextS_bd S).1 (nextS_bd S).2 ((p : Int) + 1) (by omega) (by omega)
      generalize othS S p = o at *
      obtain ⟨b, off, rfl, g1, g2, cp, fp⟩ := hs.open' p (by omega)
      obtain ⟨b', off', e', g1', g2', co, fo⟩ := hs.open' o (by omega)
      cases e'
      have hs2 := (hs.store p (by omega) (L.getD o 0)).store o (by rw [List.length_set]; omega) (L.getD p 0)
      have Hst := Lib.hid hst
      have Hs2 := Lib.hid hs2
      have Hb2 := Lib.hid ((Hb.out.setCell (p := ⟨b, off + p, none⟩) g1.1 (.int .i64 (L.getD o 0))).setCell (p := ⟨b, off + o, none⟩) g1.1 (.int .i64 (L.getD p 0)))
      obtain ⟨b0, b1⟩ := hbd
      clear hs hs2 hst g1' g2' hln
      generalize L.getD p 0 = x at *
      generalize L.getD o 0 = y at *
      obtain ⟨v', hy'⟩ := cell?_setCell_some (w := wr) (p := ⟨b, off + p, none⟩) (x := .int .i64 y) (q := ⟨b, off + o, none⟩) (v := .int .i64 y) co
      have Hnext := Lib.hid (show nextS S = (1664525 * S + 1013904223) % 4294967296 from rfl)
      unfold nextS at hoi m0 m1
      go_wp2
      go_roundw
      case rel => exact ⟨j + 1, p - 1, by omega, by go_num, by rw [Hst.out, ← Hnext.out], by rw [Hst.out]; exact Hs2.out, Hb2.out⟩
      case measure => simp [intOf]; omega
    · obtain rfl : p = 0 := by omega
      obtain rfl : j = n - 1 := by omega
      have hzr : w1.heap.size ≤ wr.heap.size := by
        obtain ⟨_, _, _, g, _⟩ := HS.out.open' 0 (by omega)
        exact g.2.2
      go_wp2
      go_ret2
      rw [HD.out]
      exact ⟨_, rfl, HS.out.mono (Nat.le_refl _) (by omega) (Nat.le_refl _), Hb.out⟩

theorem spec_DrawDeck (a : Int) (al : -9223372036854775808 ≤ a) (au : a ≤ 9223372036854775807) (s : Int) (sl : -9223372036854775808 ≤ s) (su : s ≤ 9223372036854775807) (w : World) :
    Calls Try.prog 42 #[.int .i64 a, .int .i64 s] w fun e w' => ∃ r, e = .returned (.tuple #[r, .int .i64 (res2_DrawDeck a s), .bool (ok_DrawDeck a s)]) ∧ Sw (Value.int .i64) 0 w' r (res_DrawDeck a s) w.heap.size w'.heap.size ∧ Below w.heap.size w w' := by
  by_cases h : okD a s
  · obtain ⟨e1, e2, e3⟩ := draw_yes a s h
    rw [e1, e2, e3]
    obtain ⟨⟨h1, h2⟩, h3, h4⟩ := h
    obtain ⟨n, rfl⟩ : ∃ n : Nat, a = n := ⟨a.toNat, by omega⟩
    have Hd := Lib.hid (drawn_spec n s w (by omega) (by omega) h3 h4)
    have Hi1 := Lib.hid (in_yes (n : Int) 1 52 w h1 h2)
    have Hi2 := Lib.hid (in_yes s 0 4294967295 w h3 h4)
    rw [Int.toNat_natCast]
    clear e1 e2 e3
    go_enter Try.func42, Try.ntmps42
    go_wp2_with fail
    refine Hi1.out.mono ?_
    rintro e w' ⟨rfl, rfl⟩
    go_wp2_with fail
    refine Hi2.out.mono ?_
    rintro e w' ⟨rfl, rfl⟩
    go_wp2_with fail
    refine Hd.out.mono ?_
    rintro e w1 ⟨r, rfl, hs, hb⟩
    have Hs := Lib.hid hs
    have Hb := Lib.hid hb
    obtain ⟨pr, capr, rfl, hfr⟩ := hs
    clear hfr hb
    go_wp2
    go_ret3
    exact ⟨_, rfl, Hs.out, Hb.out⟩
  · obtain ⟨e1, e2, e3⟩ := draw_no a s h
    rw [e1, e2, e3]
    by_cases h1 : 1 ≤ a ∧ a ≤ 52
    · have h2 : s < 0 ∨ 4294967295 < s := by
        by_cases h0 : 0 ≤ s ∧ s ≤ 4294967295
        · exact absurd ⟨h1, h0⟩ h
        · omega
      have Hi1 := Lib.hid (in_yes a 1 52 w h1.1 h1.2)
      have Hi2 := Lib.hid (in_no s 0 4294967295 w h2)
      clear h e1 e2 e3 h1 h2
      go_enter Try.func42, Try.ntmps42
      go_wp2_with fail
      refine Hi1.out.mono ?_
      rintro e w' ⟨rfl, rfl⟩
      go_wp2_with fail
      refine Hi2.out.mono ?_
      rintro e w' ⟨rfl, rfl⟩
      go_wp2
      go_ret3
      exact ⟨_, rfl, Sw.nil _ _ _ _ _ _ _, Below.refl _ _⟩
    · have Hi1 := Lib.hid (in_no a 1 52 w (by omega))
      clear h e1 e2 e3 h1
      go_enter Try.func42, Try.ntmps42
      go_wp2_with fail
      refine Hi1.out.mono ?_
      rintro e w' ⟨rfl, rfl⟩
      go_wp2
      go_ret3
      exact ⟨_, rfl, Sw.nil _ _ _ _ _ _ _, Below.refl _ _⟩
end Go.Proofs.Ytfjokclhbbndaaa
