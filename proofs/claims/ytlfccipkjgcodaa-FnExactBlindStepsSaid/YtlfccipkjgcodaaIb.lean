/- Contracts: blinds that grow, in both texts. -/
import Derived.Test.YtlfccipkjgcodaaIa
set_option linter.unusedVariables false
namespace Go.Proofs.Ytlfccipkjgcodaa
open Go.RowKit

def blR (a b c : Int) : Nat → Int
  | 0 => a
  | k + 1 => (blR a b c k * b + c - 1) / c
theorem bl_next (x b c : Int) (x0 : 1 ≤ x) (x1 : x ≤ 1000000) (c0 : 1 ≤ c) (hb : c < b) (b1 : b ≤ 100) :
    (1 ≤ x * b ∧ x * b ≤ 100000000) ∧ 1 ≤ (x * b + c - 1) / c ∧ (x * b + c - 1) / c ≤ 100000100 := by
  have h1 : 1 * b ≤ x * b := Int.mul_le_mul_of_nonneg_right x0 (by omega)
  have h2 : x * b ≤ 1000000 * b := Int.mul_le_mul_of_nonneg_right x1 (by omega)
  refine ⟨⟨by omega, by omega⟩, ?_, ?_⟩
  · apply Int.le_ediv_of_mul_le (by omega); omega
  · have := Int.ediv_le_self c (show 0 ≤ x * b + c - 1 by omega); omega
abbrev okL (a b c d : Int) : Prop := (1 ≤ a ∧ a ≤ 1000000) ∧ 1 ≤ c ∧ c < b ∧ b ≤ 100 ∧ 1 ≤ d ∧ d ≤ 32
def lowL (a b c : Int) (n : Nat) : Bool := (List.range n).all fun k => decide (blR a b c k ≤ 1000000)
theorem lowL_at {a b c : Int} {n : Nat} (h : lowL a b c n = true) (k : Nat) (hk : k < n) : blR a b c k ≤ 1000000 := of_decide_eq_true (List.all_eq_true.1 h k (List.mem_range.2 hk))
theorem lowL_of {a b c : Int} {n : Nat} (h : ∀ k, k < n → blR a b c k ≤ 1000000) : lowL a b c n = true := List.all_eq_true.2 fun k hk => decide_eq_true (h k (List.mem_range.1 hk))
theorem lowL_no {a b c : Int} {n : Nat} (k : Nat) (hk : k < n) (h : 1000000 < blR a b c k) : lowL a b c n = false := by
  rw [Bool.eq_false_iff]; intro h'; have := lowL_at h' k hk; omega
theorem blR_pos (a b c : Int) (a0 : 1 ≤ a) (c0 : 1 ≤ c) (hb : c < b) (b1 : b ≤ 100) (k : Nat) (h : ∀ j, j < k → blR a b c j ≤ 1000000) : 1 ≤ blR a b c k := by
  induction k with
  | zero => exact a0
  | succ k ih => exact (bl_next _ b c (ih fun j hj => h j (by omega)) (h k (by omega)) c0 hb b1).2.1
def ok_BlindSteps (a b c d : Int) : Bool := decide (okL a b c d) && lowL a b c d.toNat
def res_BlindSteps (a b c d : Int) : List Int := if okL a b c d ∧ lowL a b c d.toNat = true then tab d.toNat (blR a b c) else []
theorem bl_yes (a b c d : Int) (h : okL a b c d) (g : lowL a b c d.toNat = true) : ok_BlindSteps a b c d = true ∧ res_BlindSteps a b c d = tab d.toNat (blR a b c) := by
  unfold ok_BlindSteps res_BlindSteps; rw [decide_eq_true h, g, if_pos ⟨h, rfl⟩]; exact ⟨rfl, rfl⟩
theorem bl_no1 (a b c d : Int) (h : ¬ okL a b c d) : ok_BlindSteps a b c d = false ∧ res_BlindSteps a b c d = [] := by
  unfold ok_BlindSteps res_BlindSteps; rw [decide_eq_false h, if_neg fun x => h x.1]; exact ⟨rfl, rfl⟩
theorem bl_no2 (a b c d : Int) (g : lowL a b c d.toNat = false) : ok_BlindSteps a b c d = false ∧ res_BlindSteps a b c d = [] := by
  unfold ok_BlindSteps res_BlindSteps; rw [g, if_neg fun x => Bool.false_ne_true x.2, Bool.and_false]; exact ⟨rfl, rfl⟩
theorem len_BlindSteps (a b c d : Int) : (res_BlindSteps a b c d).length ≤ 1048576 := by
  unfold res_BlindSteps
  split
  · rw [tab_len]; have h := ‹okL a b c d ∧ _›.1; obtain ⟨-, -, -, -, h1, h2⟩ := h; omega
  · exact Nat.zero_le _

set_option maxRecDepth 100000 in
set_option maxHeartbeats 1000000 in
theorem bl_spec_yes (a b c : Int) (n : Nat) (w : World) (h : okL a b c (n : Int)) :
    Calls Try.prog 19 #[.int .i64 a, .int .i64 b, .int .i64 c, .int .i64 (n : Int)] w fun e w' => ∃ r, e = .returned (.tuple #[r, .bool (ok_BlindSteps a b c n)]) ∧ Sw (Value.int .i64) 0 w' r (res_BlindSteps a b c n) w.heap.size w'.heap.size ∧ Below w.heap.size w w' := by
  have Hy := Lib.hid (fun g => bl_yes a b c (n : Int) h g)
  have Hno := Lib.hid (fun g => bl_no2 a b c (n : Int) g)
  rw [Int.toNat_natCast] at Hy Hno
  obtain ⟨⟨a0, a1⟩, c0, hcb, b1, n0, n1⟩ := h
  have n1 : n ≤ 32 := by omega
  have Hpos := Lib.hid (fun k hk => blR_pos a b c a0 c0 hcb b1 k hk)
  have Hnx := Lib.hid (fun x x0 x1 => bl_next x b c x0 x1 c0 hcb b1)
  have Hst := Lib.hid (fun k => (show blR a b c (k + 1) = (blR a b c k * b + c - 1) / c from rfl))
  have Hz := Lib.hid (show blR a b c 0 = a from rfl)
  have H1 := Lib.hid (in_yes a 1 1000000 w a0 a1)
  have H2 := Lib.hid (in_yes b 1 100 w (by omega) b1)
  have H3 := Lib.hid (in_yes c 1 100 w c0 (by omega))
  have H4 := Lib.hid (in_yes (n : Int) 1 32 w n0 (by omega))
  obtain ⟨i0, hi, hz0, hz1, hz2⟩ := info_parts (show (Try.prog.info? 2).map (fun i => (i.zero, i.size, i.bytes)) = some (some (.int .i64 0), 1, 8) by kernel_rfl)
  go_enter Try.func19, Try.ntmps19
  go_wp2_with fail
  refine H1.out.mono ?_
  rintro e w' ⟨rfl, rfl⟩
  go_wp2_with fail
  refine H2.out.mono ?_
  rintro e w' ⟨rfl, rfl⟩
  go_wp2_with fail
  refine H3.out.mono ?_
  rintro e w' ⟨rfl, rfl⟩
  go_wp2_with fail
  refine H4.out.mono ?_
  rintro e w' ⟨rfl, rfl⟩
  go_wp2
  go_loopw [0, 3, 10] (fun x i out wr => ∃ k : Nat, k ≤ n ∧ x = .int .i64 (blR a b c k) ∧ i = .int .i64 ((n : Int) - (k : Int)) ∧ wr.ownsRow w.heap.size 2 1 out k ((tab k (blR a b c)).map (Value.int .i64)) ∧ Below w.heap.size w wr ∧ Hid (∀ j, j < k → blR a b c j ≤ 1000000)) (fun _ i _ _ => (intOf i).toNat)
  case atStart => exact ⟨0, Nat.zero_le _, by rw [Hz.out], by go_num, own_zero w _ _ _ (Nat.le_refl _), (Below.refl _ _).alloc (Nat.le_refl _) _, fun j hj => absurd hj (by omega)⟩
  case round =>
    obtain ⟨k, hk, rfl, rfl, hown, hb, hp⟩ := hrel
    have Hown := Lib.hid hown
    have Hb := Lib.hid hb
    have hsz := hb.size
    clear hown hb
    have x0 := Hpos.out k hp.out
    by_cases hlt : k < n
    · by_cases hx : blR a b c k ≤ 1000000
      · obtain ⟨⟨m0, m1⟩, q0, q1⟩ := Hnx.out _ x0 hx
        have Hs := Lib.hid (Hst.out k)
        have Hp2 : Hid (∀ j, j < k + 1 → blR a b c j ≤ 1000000) := Lib.hid (fun j hj => by
          by_cases e : j = k
          · subst e; exact hx
          · exact hp.out j (by omega))
        have Hsnoc := Lib.hid (fun v2 w2 (hh : World.ownsRow w2 w.heap.size 2 1 v2 (k + 1) ((tab k (blR a b c)).map (Value.int .i64) ++ [.int .i64 (blR a b c k)])) => own_snoc hh)
        generalize blR a b c k = x at *
        go_wp2_with (at_builtin; refine wpList_append_own _ rfl _ _ 25 rfl w.heap.size 2 i0 (.int .i64 0) 1 8 (by kernel_rfl) hi hz0 hz1 hz2 rfl (by decide) _ _ _ rfl (Hown.out.alloc _) ⟨wr.heap.size, 0, none⟩ 1 1 [.int .i64 x] rfl rfl (cell_one_new _ _ _) (one_int _) (by unfold maxLen; omega) (by omega) (by simp; omega) ?_; intro v2 w2 hown2 hgrow2 _)
        have Hown2 := Lib.hid (Hsnoc.out _ _ hown2)
        have Hb2 := Lib.hid ((Hb.out.alloc (by omega) _).grown hgrow2 (by simp; omega) (fun b hb => (Hown.out.lt b hb).1))
        clear hown2 hgrow2
        go_wp2
        go_roundw
        case rel => exact ⟨k + 1, by omega, by rw [Hs.out], by go_num, Hown2.out, Hb2.out, Hp2⟩
        case measure => simp [intOf]; omega
      · have E := Lib.hid (Hno.out (lowL_no k hlt (by omega)))
        have hx' : 1000000 < blR a b c k := by omega
        clear hx
        generalize blR a b c k = x at *
        go_wp2
        go_ret2
        exact ⟨_, ret2b E.out.1.symm, by rw [E.out.2]; exact Sw.nil _ _ _ _ _ _ _, Hb.out⟩
    · obtain rfl : k = n := by omega
      have E := Lib.hid (Hy.out (lowL_of hp.out))
      go_wp2
      go_ret2
      exact ⟨_, ret2b E.out.1.symm, by rw [E.out.2]; exact Sw.of_owns Hown.out (tab_len _ _), Hb.out⟩

set_option maxRecDepth 100000 in
set_option maxHeartbeats 1000000 in
theorem bl_impl_yes (a b c : Int) (n : Nat) (w : World) (h : okL a b c (n : Int)) :
    Calls Try.prog 20 #[.int .i64 a, .int .i64 b, .int .i64 c, .int .i64 (n : Int)] w fun e w' => ∃ r, e = .returned (.tuple #[r, .bool (ok_BlindSteps a b c n)]) ∧ Sw (Value.int .i64) 0 w' r (res_BlindSteps a b c n) w.heap.size w'.heap.size ∧ Below w.heap.size w w' := by
  have Hy := Lib.hid (fun g => bl_yes a b c (n : Int) h g)
  have Hno := Lib.hid (fun g => bl_no2 a b c (n : Int) g)
  rw [Int.toNat_natCast] at Hy Hno
  obtain ⟨⟨a0, a1⟩, c0, hcb, b1, n0, n1⟩ := h
  have n1 : n ≤ 32 := by omega
  have Hpos := Lib.hid (fun k hk => blR_pos a b c a0 c0 hcb b1 k hk)
  have Hnx := Lib.hid (fun x x0 x1 => bl_next x b c x0 x1 c0 hcb b1)
  have Hst := Lib.hid (fun k => (show blR a b c (k + 1) = (blR a b c k * b + c - 1) / c from rfl))
  have Hz := Lib.hid (show blR a b c 0 = a from rfl)
  have H1 := Lib.hid (bet_yes a w a0 a1)
  have d1 : decide (c < 1) = false := decide_eq_false (by omega)
  have d2 : decide (b ≤ c) = false := decide_eq_false (by omega)
  have d3 : decide (100 < b) = false := decide_eq_false (by omega)
  have d4 : decide ((n : Int) < 1) = false := decide_eq_false (by omega)
  have d5 : decide (32 < (n : Int)) = false := decide_eq_false (by omega)
  obtain ⟨i0, hi, hz0, hz1, hz2⟩ := info_parts (show (Try.prog.info? 2).map (fun i => (i.zero, i.size, i.bytes)) = some (some (.int .i64 0), 1, 8) by kernel_rfl)
  go_enter Try.func20, Try.ntmps20
  go_wp2_with fail
  refine H1.out.mono ?_
  rintro e w' ⟨rfl, rfl⟩
  go_wp2_with (at_make; refine wpList_make_full _ rfl _ _ 25 rfl w.heap.size 2 i0 (.int .i64 0) 1 (by kernel_rfl) hi hz0 hz1 .i64 .i64 n n n rfl rfl rfl rfl (by rw [hz2]; omega) (by unfold maxLen; omega) (Nat.le_refl _) ?_; intro w2 hown hgrow; have Hbel := Lib.hid ((Below.refl _ w).grown hgrow (Nat.le_refl _) (by simp)); have Hown := Lib.hid hown; clear hown hgrow)
  have hzb : w.heap.size ≤ w.heap.size := Nat.le_refl _
  clear d1 d2 d3 d4 d5
  go_loopw [11, 42] (fun x i wr => ∃ k : Nat, k ≤ n ∧ i = .int .i64 k ∧ x = .int .i64 (blR a b c k) ∧ wr.ownsRow w.heap.size 2 1 (.slice (some ⟨w.heap.size, 0, none⟩) n n) n ((filled n (blR a b c) k).map (Value.int .i64)) ∧ Below w.heap.size w wr ∧ Hid (∀ j, j < k → blR a b c j ≤ 1000000)) (fun _ i _ => n - (intOf i).toNat)
  case atStart =>
    refine ⟨0, Nat.zero_le _, rfl, by rw [Hz.out], ?_, Hbel.out, fun j hj => absurd hj (by omega)⟩
    have h0 := Hown.out
    have e : (madeCells (Value.int .i64 0).cells (n * 1)).toList = (filled n (blR a b c) 0).map (Value.int .i64) := by
      rw [filled_zero, Nat.mul_one, List.map_replicate]
      exact made1 _ n
    rw [e] at h0
    exact h0
  case round =>
    obtain ⟨k, hk, rfl, rfl, hown, hb, hp⟩ := hrel
    have x0 := Hpos.out k hp.out
    by_cases hlt : k < n
    · by_cases hx : blR a b c k ≤ 1000000
      · obtain ⟨⟨m0, m1⟩, q0, q1⟩ := Hnx.out _ x0 hx
        have Hs := Lib.hid (Hst.out k)
        have Hp2 : Hid (∀ j, j < k + 1 → blR a b c j ≤ 1000000) := Lib.hid (fun j hj => by
          by_cases e : j = k
          · subst e; exact hx
          · exact hp.out j (by omega))
        have c3 : wr.cell? ⟨w.heap.size, k, none⟩ = some (.int .i64 0) := by
          rw [hown.cellAt k (by omega), List.getElem?_map, filled_at _ _ _ hlt]; rfl
        have c4 := hown.frozenAt k
        obtain ⟨hs1, _⟩ := hown.stored k (.int .i64 (blR a b c k))
        rw [← List.map_set, filled_set _ _ _ hlt] at hs1
        have Hs1 := Lib.hid hs1
        have Hb2 := Lib.hid (hb.setCell (p := ⟨w.heap.size, k, none⟩) hzb (.int .i64 (blR a b c k)))
        clear hown hb hs1
        have Hs1' : Hid (World.ownsRow (wr.setCell ⟨w.heap.size, k, none⟩ (.int .i64 (blR a b c k))) w.heap.size 2 1 (.slice (some ⟨w.heap.size, 0, none⟩) n n) n ((filled n (blR a b c) (k + 1)).map (Value.int .i64))) := Hs1
        clear Hs1
        generalize hX : blR a b c k = x at *
        have HX := Lib.hid hX
        clear hX
        go_wp2
        go_roundw
        case rel => exact ⟨k + 1, by omega, by go_num, by rw [Hs.out], Hs1'.out, Hb2.out, Hp2⟩
        case measure => simp [intOf]; omega
      · have E := Lib.hid (Hno.out (lowL_no k hlt (by omega)))
        have hx' : 1000000 < blR a b c k := by omega
        have Hb := Lib.hid hb
        clear hx hown hb
        generalize blR a b c k = x at *
        go_wp2
        go_ret2
        exact ⟨_, ret2b E.out.1.symm, by rw [E.out.2]; exact Sw.nil _ _ _ _ _ _ _, Hb.out⟩
    · obtain rfl : k = n := by omega
      have E := Lib.hid (Hy.out (lowL_of hp.out))
      rw [filled_done] at hown
      have Hown2 := Lib.hid hown
      have Hb := Lib.hid hb
      clear hown hb
      go_wp2
      go_ret2
      exact ⟨_, ret2b E.out.1.symm, by rw [E.out.2]; exact Sw.of_owns Hown2.out (tab_len _ _), Hb.out⟩

theorem spec_BlindSteps (a : Int) (al : -9223372036854775808 ≤ a) (au : a ≤ 9223372036854775807) (b : Int) (bl : -9223372036854775808 ≤ b) (bu : b ≤ 9223372036854775807) (c : Int) (cl : -9223372036854775808 ≤ c) (cu : c ≤ 9223372036854775807) (d : Int) (dl : -9223372036854775808 ≤ d) (du : d ≤ 9223372036854775807) (w : World) :
    Calls Try.prog 19 #[.int .i64 a, .int .i64 b, .int .i64 c, .int .i64 d] w fun e w' => ∃ r, e = .returned (.tuple #[r, .bool (ok_BlindSteps a b c d)]) ∧ Sw (Value.int .i64) 0 w' r (res_BlindSteps a b c d) w.heap.size w'.heap.size ∧ Below w.heap.size w w' := by
  by_cases h : okL a b c d
  · obtain ⟨n, rfl⟩ : ∃ n : Nat, d = n := ⟨d.toNat, by have := h.2.2.2.2.1; omega⟩
    exact bl_spec_yes a b c n w h
  · obtain ⟨e1, e2⟩ := bl_no1 a b c d h
    rw [e1, e2]
    clear e1 e2
    by_cases g0 : 1 ≤ a ∧ a ≤ 1000000
    · have H0 := Lib.hid (in_yes a 1 1000000 w g0.1 g0.2)
      by_cases g1 : 1 ≤ b ∧ b ≤ 100
      · have H1 := Lib.hid (in_yes b 1 100 w g1.1 g1.2)
        by_cases g2 : 1 ≤ c ∧ c ≤ 100
        · have H2 := Lib.hid (in_yes c 1 100 w g2.1 g2.2)
          by_cases g3 : c < b
          · skip
            have dd3 : decide (b ≤ c) = false := decide_eq_false (by omega)
            by_cases g4 : 1 ≤ d ∧ d ≤ 32
            · exact absurd (by refine ⟨⟨?_, ?_⟩, ?_, ?_, ?_, ?_, ?_⟩ <;> omega) h
            · clear h
              have N4 := Lib.hid (in_no d 1 32 w (by omega))
              go_enter Try.func19, Try.ntmps19
              go_wp2_with fail
              refine H0.out.mono ?_
              rintro e w' ⟨rfl, rfl⟩
              go_wp2_with fail
              refine H1.out.mono ?_
              rintro e w' ⟨rfl, rfl⟩
              go_wp2_with fail
              refine H2.out.mono ?_
              rintro e w' ⟨rfl, rfl⟩
              go_wp2_with fail
              refine N4.out.mono ?_
              rintro e w' ⟨rfl, rfl⟩
              go_wp2
              go_ret2
              exact ⟨_, rfl, Sw.nil _ _ _ _ _ _ _, Below.refl _ _⟩
          · clear h
            have d3 : decide (b ≤ c) = true := decide_eq_true (by omega)
            go_enter Try.func19, Try.ntmps19
            go_wp2_with fail
            refine H0.out.mono ?_
            rintro e w' ⟨rfl, rfl⟩
            go_wp2_with fail
            refine H1.out.mono ?_
            rintro e w' ⟨rfl, rfl⟩
            go_wp2_with fail
            refine H2.out.mono ?_
            rintro e w' ⟨rfl, rfl⟩
            go_wp2
            go_ret2
            exact ⟨_, rfl, Sw.nil _ _ _ _ _ _ _, Below.refl _ _⟩
        · clear h
          have N2 := Lib.hid (in_no c 1 100 w (by omega))
          go_enter Try.func19, Try.ntmps19
          go_wp2_with fail
          refine H0.out.mono ?_
          rintro e w' ⟨rfl, rfl⟩
          go_wp2_with fail
          refine H1.out.mono ?_
          rintro e w' ⟨rfl, rfl⟩
          go_wp2_with fail
          refine N2.out.mono ?_
          rintro e w' ⟨rfl, rfl⟩
          go_wp2
          go_ret2
          exact ⟨_, rfl, Sw.nil _ _ _ _ _ _ _, Below.refl _ _⟩
      · clear h
        have N1 := Lib.hid (in_no b 1 100 w (by omega))
        go_enter Try.func19, Try.ntmps19
        go_wp2_with fail
        refine H0.out.mono ?_
        rintro e w' ⟨rfl, rfl⟩
        go_wp2_with fail
        refine N1.out.mono ?_
        rintro e w' ⟨rfl, rfl⟩
        go_wp2
        go_ret2
        exact ⟨_, rfl, Sw.nil _ _ _ _ _ _ _, Below.refl _ _⟩
    · clear h
      have N0 := Lib.hid (in_no a 1 1000000 w (by omega))
      go_enter Try.func19, Try.ntmps19
      go_wp2_with fail
      refine N0.out.mono ?_
      rintro e w' ⟨rfl, rfl⟩
      go_wp2
      go_ret2
      exact ⟨_, rfl, Sw.nil _ _ _ _ _ _ _, Below.refl _ _⟩
theorem impl_BlindSteps (a : Int) (al : -9223372036854775808 ≤ a) (au : a ≤ 9223372036854775807) (b : Int) (bl : -9223372036854775808 ≤ b) (bu : b ≤ 9223372036854775807) (c : Int) (cl : -9223372036854775808 ≤ c) (cu : c ≤ 9223372036854775807) (d : Int) (dl : -9223372036854775808 ≤ d) (du : d ≤ 9223372036854775807) (w : World) :
    Calls Try.prog 20 #[.int .i64 a, .int .i64 b, .int .i64 c, .int .i64 d] w fun e w' => ∃ r, e = .returned (.tuple #[r, .bool (ok_BlindSteps a b c d)]) ∧ Sw (Value.int .i64) 0 w' r (res_BlindSteps a b c d) w.heap.size w'.heap.size ∧ Below w.heap.size w w' := by
  by_cases h : okL a b c d
  · obtain ⟨n, rfl⟩ : ∃ n : Nat, d = n := ⟨d.toNat, by have := h.2.2.2.2.1; omega⟩
    exact bl_impl_yes a b c n w h
  · obtain ⟨e1, e2⟩ := bl_no1 a b c d h
    rw [e1, e2]
    clear e1 e2
    by_cases g0 : 1 ≤ a ∧ a ≤ 1000000
    · have H0 := Lib.hid (bet_yes a w g0.1 g0.2)
      by_cases g1 : 1 ≤ c
      · skip
        have dd1 : decide (c < 1) = false := decide_eq_false (by omega)
        by_cases g2 : c < b
        · skip
          have dd2 : decide (b ≤ c) = false := decide_eq_false (by omega)
          by_cases g3 : b ≤ 100
          · skip
            have dd3 : decide (100 < b) = false := decide_eq_false (by omega)
            by_cases g4 : 1 ≤ d
            · skip
              have dd4 : decide (d < 1) = false := decide_eq_false (by omega)
              by_cases g5 : d ≤ 32
              · exact absurd (by refine ⟨⟨?_, ?_⟩, ?_, ?_, ?_, ?_, ?_⟩ <;> omega) h
              · clear h
                have d5 : decide (32 < d) = true := decide_eq_true (by omega)
                go_enter Try.func20, Try.ntmps20
                go_wp2_with fail
                refine H0.out.mono ?_
                rintro e w' ⟨rfl, rfl⟩
                go_wp2
                go_ret2
                exact ⟨_, rfl, Sw.nil _ _ _ _ _ _ _, Below.refl _ _⟩
            · clear h
              have d4 : decide (d < 1) = true := decide_eq_true (by omega)
              go_enter Try.func20, Try.ntmps20
              go_wp2_with fail
              refine H0.out.mono ?_
              rintro e w' ⟨rfl, rfl⟩
              go_wp2
              go_ret2
              exact ⟨_, rfl, Sw.nil _ _ _ _ _ _ _, Below.refl _ _⟩
          · clear h
            have d3 : decide (100 < b) = true := decide_eq_true (by omega)
            go_enter Try.func20, Try.ntmps20
            go_wp2_with fail
            refine H0.out.mono ?_
            rintro e w' ⟨rfl, rfl⟩
            go_wp2
            go_ret2
            exact ⟨_, rfl, Sw.nil _ _ _ _ _ _ _, Below.refl _ _⟩
        · clear h
          have d2 : decide (b ≤ c) = true := decide_eq_true (by omega)
          go_enter Try.func20, Try.ntmps20
          go_wp2_with fail
          refine H0.out.mono ?_
          rintro e w' ⟨rfl, rfl⟩
          go_wp2
          go_ret2
          exact ⟨_, rfl, Sw.nil _ _ _ _ _ _ _, Below.refl _ _⟩
      · clear h
        have d1 : decide (c < 1) = true := decide_eq_true (by omega)
        go_enter Try.func20, Try.ntmps20
        go_wp2_with fail
        refine H0.out.mono ?_
        rintro e w' ⟨rfl, rfl⟩
        go_wp2
        go_ret2
        exact ⟨_, rfl, Sw.nil _ _ _ _ _ _ _, Below.refl _ _⟩
    · clear h
      have N0 := Lib.hid (bet_no a w (by omega))
      go_enter Try.func20, Try.ntmps20
      go_wp2_with fail
      refine N0.out.mono ?_
      rintro e w' ⟨rfl, rfl⟩
      go_wp2
      go_ret2
      exact ⟨_, rfl, Sw.nil _ _ _ _ _ _ _, Below.refl _ _⟩
end Go.Proofs.Ytlfccipkjgcodaa
