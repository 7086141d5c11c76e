/- Contracts: counts of descents, in both texts. -/
import Derived.Test.YtolmhnekfokpdacEg
set_option linter.unusedVariables false
namespace Go.Proofs.Ytolmhnekfokpdac
open Go.RowKit

def eulI (j k : Nat) : Int := ((eul j k : Nat) : Int)
abbrev okC (a : Int) : Prop := 1 ≤ a ∧ a ≤ 20
theorem dct_yes (a : Int) (h : okC a) : ok_DescentCounts a = true ∧ res_DescentCounts a = tab a.toNat (eulI (a.toNat - 1)) := by
  unfold ok_DescentCounts res_DescentCounts
  rw [if_pos h, decide_eq_true h.1, decide_eq_true h.2]; exact ⟨rfl, rfl⟩
theorem dct_no (a : Int) (h : ¬ okC a) : ok_DescentCounts a = false ∧ res_DescentCounts a = [] := by
  unfold ok_DescentCounts res_DescentCounts
  rw [if_neg h]; refine ⟨?_, rfl⟩
  rw [Bool.eq_false_iff]; intro h'; simp only [Bool.and_eq_true, decide_eq_true_eq] at h'; exact h h'
theorem len_DescentCounts (a : Int) : (res_DescentCounts a).length ≤ 1048576 := by
  unfold res_DescentCounts
  split
  · rw [tab_len]; omega
  · exact Nat.zero_le _
theorem own_mono {w : World} {base base' : Nat} {e : TypeId} {size : Nat} {v : Value} {n : Nat} {xs : List Value} (h : w.ownsRow base e size v n xs) (hb : base' ≤ base) : w.ownsRow base' e size v n xs := by
  refine ⟨h.1, ?_⟩
  rcases h.2 with h' | ⟨g, cap, cur, h1, h2, h3⟩
  · exact .inl h'
  · exact .inr ⟨g, cap, cur, h1, Nat.le_trans hb h2, h3⟩
theorem eulI_bd (j k : Nat) (hj : j < 20) (hk : k < 21) : 0 ≤ eulI j k ∧ eulI j k ≤ 1000000000000000000 := by
  have := eul_bd j hj k hk
  unfold eulI; omega
theorem eulI_mul (j k : Nat) (hj : j < 19) (hk : k < 20) : 0 ≤ ((k : Int) + 1) * eulI j k ∧ ((k : Int) + 1) * eulI j k ≤ 1000000000000000000 := by
  have := (eul_mul_bd j hj k hk).1
  have e : ((k : Int) + 1) * eulI j k = (((k + 1) * eul j k : Nat) : Int) := by unfold eulI; rw [Int.natCast_mul, Int.natCast_add]; rfl
  rw [e]; omega
theorem eulI_mul2 (j k : Nat) (hj : j < 19) (hk : k + 1 < 20) (hkj : k + 1 ≤ j + 2) : 0 ≤ ((j : Int) + 2 - ((k : Int) + 1)) * eulI j k ∧ ((j : Int) + 2 - ((k : Int) + 1)) * eulI j k ≤ 1000000000000000000 := by
  have := (eul_mul_bd j hj (k + 1) hk).2
  rw [Nat.add_sub_cancel] at this
  have e : ((j : Int) + 2 - ((k : Int) + 1)) * eulI j k = (((j + 2 - (k + 1)) * eul j k : Nat) : Int) := by
    unfold eulI; rw [Int.natCast_mul, show ((j + 2 - (k + 1) : Nat) : Int) = (j : Int) + 2 - ((k : Int) + 1) by omega]
  rw [e]; omega
theorem eulI_step (j k : Nat) (hj : j < 19) (hk : k + 1 < 20) (hkj : k ≤ j) : eulI (j + 1) (k + 1) = ((k : Int) + 1 + 1) * eulI j (k + 1) + ((j : Int) + 2 - ((k : Int) + 1)) * eulI j k := by
  unfold eulI
  rw [eul_step j hj (k + 1) hk (by omega) (by omega), Nat.add_sub_cancel, Int.natCast_add, Int.natCast_mul, Int.natCast_mul, show ((j + 2 - (k + 1) : Nat) : Int) = (j : Int) + 2 - ((k : Int) + 1) by omega]
  rfl
theorem eulI_zero (j : Nat) (hj : j < 20) : eulI j 0 = 1 := by unfold eulI; rw [eul_zero j hj]; rfl
theorem eulI_over (j k : Nat) (hj : j < 20) (hk : k < 21) (h : j < k) : eulI j k = 0 := by unfold eulI; rw [eul_over j hj k hk h]; rfl



/-- the row in place: behind k the next row, before it the one that was -/
def mixE (j k i : Nat) : Int := if k < i then eulI (j + 1) i else eulI j i
theorem mixE_top (n j : Nat) (hj : j < 19) (hn : n ≤ 20) : tab n (mixE j (j + 1)) = tab n (eulI j) := by
  apply tab_congr
  intro i hi
  unfold mixE
  split
  · rw [eulI_over (j + 1) i (by omega) (by omega) (by omega), eulI_over j i (by omega) (by omega) (by omega)]
  · rfl
theorem mixE_end (n j : Nat) (hj : j < 19) : tab n (mixE j 0) = tab n (eulI (j + 1)) := by
  apply tab_congr
  intro i hi
  unfold mixE
  split
  · rfl
  · rw [show i = 0 by omega, eulI_zero j (by omega), eulI_zero (j + 1) (by omega)]
theorem mixE_set (n j k : Nat) (hk : k < n) : (tab n (mixE j (k + 1))).set (k + 1) (eulI (j + 1) (k + 1)) = tab n (mixE j k) := by
  apply List.ext_getElem
  · simp [tab]
  · intro i h1 h2
    simp only [tab_len] at h2
    rw [List.getElem_set]
    simp only [tab, List.getElem_map, List.getElem_range, mixE]
    split
    · rename_i e; subst e; rw [if_pos (by omega)]
    · split <;> split <;> first | rfl | omega
theorem mixE_at (j k : Nat) : mixE j (k + 1) (k + 1) = eulI j (k + 1) ∧ mixE j (k + 1) k = eulI j k := by
  unfold mixE
  exact ⟨if_neg (by omega), if_neg (by omega)⟩
theorem one_start (n : Nat) (hn : 1 ≤ n) (h20 : n ≤ 20) : (List.replicate n (0 : Int)).set 0 1 = tab n (eulI 0) := by
  apply List.ext_getElem
  · simp [tab]
  · intro i h1 h2
    simp only [tab_len] at h2
    rw [List.getElem_set]
    simp only [tab, List.getElem_map, List.getElem_range, List.getElem_replicate]
    split
    · rename_i e; subst e; rw [eulI_zero 0 (by omega)]
    · rw [eulI_over 0 i (by omega) (by omega) (by omega)]

theorem made_at (n : Nat) (h : 1 ≤ n) : (madeCells (Value.int .i64 0).cells (n * 1)).toList[0]? = some (.int .i64 0) := by
  have e : (madeCells (Value.int .i64 0).cells (n * 1)).toList = List.replicate n (.int .i64 0) := by rw [Nat.mul_one]; exact made1 _ n
  rw [e, List.getElem?_replicate, if_pos (by omega)]

set_option maxRecDepth 100000 in
set_option maxHeartbeats 4000000 in
theorem dct_impl (n : Nat) (w : World) (h1 : 1 ≤ n) (h2 : n ≤ 20) :
    Calls Try.prog 24 #[.int .i64 (n : Int)] w fun e w' => ∃ r, e = .returned (.tuple #[r, .bool true]) ∧ Sw (Value.int .i64) 0 w' r (tab n (eulI (n - 1))) w.heap.size w'.heap.size ∧ Below w.heap.size w w' := by
  obtain ⟨i0, hi, hz0, hz1, hz2⟩ := info_parts (show (Try.prog.info? 2).map (fun i => (i.zero, i.size, i.bytes)) = some (some (.int .i64 0), 1, 8) by kernel_rfl)
  have Hrs := Lib.hid (rsize_yes (n : Int) w (by omega) (by omega))
  have made0 := made_at n h1
  have Hbd := Lib.hid eulI_bd
  have Hml := Lib.hid eulI_mul
  have Hm2 := Lib.hid eulI_mul2
  have Hst := Lib.hid eulI_step
  have Hset := Lib.hid (mixE_set n)
  have Hat := Lib.hid mixE_at
  have Htop := Lib.hid (fun j (hj : j < 19) => mixE_top n j hj h2)
  have Hend := Lib.hid (fun j (hj : j < 19) => mixE_end n j hj)
  have Hone := Lib.hid (one_start n h1 h2)
  go_enter Try.func24, Try.ntmps24
  go_wp2_with fail
  refine Hrs.out.mono ?_
  rintro e w' ⟨rfl, rfl⟩
  go_wp2_with (at_make; refine wpList_make_full _ rfl _ _ 22 rfl w.heap.size 2 i0 (.int .i64 0) 1 (by kernel_rfl) hi hz0 hz1 .i64 .i64 n n n rfl rfl rfl rfl (by rw [hz2]; omega) (by unfold maxLen; omega) (Nat.le_refl _) ?_; intro w1 hown hgrow; have Hbel := Lib.hid ((Below.refl _ w).grown hgrow (Nat.le_refl _) (by simp)); have Hown := Lib.hid hown; have c0 := (Hown.out.cellAt 0 (by omega)).trans made0; have f0 := hown.frozenAt 0; clear hown hgrow)
  have Hs0 := Lib.hid (Hown.out.stored 0 (.int .i64 1)).1
  go_wp2
  go_loopw [5, 6] (fun i _ wr => ∃ j : Nat, j + 1 ≤ n ∧ i = .int .i64 ((j : Int) + 2) ∧ wr.ownsRow w.heap.size 2 1 (.slice (some ⟨w.heap.size, 0, none⟩) n n) n ((tab n (eulI j)).map (Value.int .i64)) ∧ Below w.heap.size w wr) (fun i _ _ => (n + 2) - (intOf i).toNat)
  case atStart =>
    refine ⟨0, h1, rfl, ?_, Hbel.out.setCell (Nat.le_refl _) _⟩
    have h0 := Hs0.out
    rw [show (madeCells (Value.int .i64 0).cells (n * 1)).toList = (List.replicate n (0 : Int)).map (Value.int .i64) by rw [Nat.mul_one, List.map_replicate]; exact made1 _ n, show Value.int .i64 1 = (Value.int .i64) 1 from rfl, ← List.map_set, Hone.out] at h0
    exact h0
  case round =>
    obtain ⟨j, hj, rfl, hown, hb⟩ := hrel
    have Hown1 := Lib.hid hown
    have Hb1 := Lib.hid hb
    clear hown hb
    by_cases hlt : j + 2 ≤ n
    · obtain ⟨wo, rfl⟩ : ∃ wo : World, wo = wr := ⟨_, rfl⟩
      have dlt : decide ((j : Int) + 2 ≤ (n : Int)) = true := decide_eq_true (by omega)
      go_wp2
      go_loopw [6] (fun i wz => ∃ k : Nat, k ≤ j + 1 ∧ i = .int .i64 (k : Int) ∧ wz.ownsRow w.heap.size 2 1 (.slice (some ⟨w.heap.size, 0, none⟩) n n) n ((tab n (mixE j k)).map (Value.int .i64)) ∧ Below w.heap.size w wz) (fun i _ => (intOf i).toNat)
      case atStart => exact ⟨j + 1, Nat.le_refl _, by go_num, by rw [Htop.out j (by omega)]; exact Hown1.out, Hb1.out⟩
      case round =>
        obtain ⟨k, hk, rfl, hown, hb⟩ := hrel
        have Hb2 := Lib.hid hb
        have hsz := hb.size
        by_cases hk1 : 1 ≤ k
        · obtain ⟨q, rfl⟩ : ∃ q, k = q + 1 := ⟨k - 1, by omega⟩
          have cellAt : ∀ i, i < n → wr.cell? ⟨w.heap.size, i, none⟩ = some (.int .i64 (mixE j (q + 1) i)) := fun i hi => by
            rw [hown.cellAt i (by omega), List.getElem?_map, List.getElem?_eq_getElem (by rw [tab_len]; exact hi)]; simp [tab]
          have c1 := cellAt (q + 1) (by omega)
          have c2 := cellAt q (by omega)
          rw [(Hat.out j q).1] at c1
          rw [(Hat.out j q).2] at c2
          have f1 := hown.frozenAt (q + 1)
          obtain ⟨hs1, _⟩ := hown.stored (q + 1) (.int .i64 (eulI (j + 1) (q + 1)))
          rw [← List.map_set, Hset.out j q (by omega)] at hs1
          obtain ⟨m0, m1⟩ := Hm2.out j q (by omega) (by omega) (by omega)
          obtain ⟨m2, m3⟩ := Hml.out j (q + 1) (by omega) (by omega)
          rw [show (((q + 1 : Nat) : Int) + 1) = (q : Int) + 1 + 1 by omega] at m2 m3
          rw [Hst.out j q (by omega) (by omega) (by omega)] at hs1
          have Hs1 := Lib.hid hs1
          clear hs1 cellAt hown hb
          generalize eulI j (q + 1) = x at *
          generalize eulI j q = y at *
          go_wp2_with fail
          go_region
          all_goals
            go_wp2
            go_roundw
            case rel => exact ⟨q, by omega, by go_num, Hs1.out, below_drewN (Hb2.out.setCell (Nat.le_refl _) _) 1⟩
            case measure => first | (simp [intOf]; done) | (simp [intOf]; omega)
        · obtain rfl : k = 0 := by omega
          have hown' := hown
          rw [Hend.out j (by omega)] at hown'
          have Hown3 := Lib.hid hown'
          clear hown hown' hb
          go_wp2
          go_roundw
          case rel => exact ⟨j + 1, by omega, by go_num, Hown3.out, Hb2.out⟩
          case measure => simp [intOf]; omega
    · have hjn : n - 1 = j := by omega
      have Hjn := Lib.hid hjn
      clear hjn
      go_wp2
      go_ret2
      rw [Hjn.out]
      exact ⟨_, rfl, Sw.of_owns Hown1.out (tab_len _ _), Hb1.out⟩
theorem impl_DescentCounts (a : Int) (al : -9223372036854775808 ≤ a) (au : a ≤ 9223372036854775807) (w : World) :
    Calls Try.prog 24 #[.int .i64 a] w fun e w' => ∃ r, e = .returned (.tuple #[r, .bool (ok_DescentCounts a)]) ∧ Sw (Value.int .i64) 0 w' r (res_DescentCounts a) w.heap.size w'.heap.size ∧ Below w.heap.size w w' := by
  by_cases h : okC a
  · obtain ⟨e1, e2⟩ := dct_yes a h
    rw [e1, e2]
    obtain ⟨n, rfl⟩ : ∃ n : Nat, a = n := ⟨a.toNat, by omega⟩
    rw [Int.toNat_natCast]
    exact dct_impl n w (by omega) (by omega)
  · obtain ⟨e1, e2⟩ := dct_no a h
    rw [e1, e2]
    have Hs := Lib.hid (rsize_no a w (by omega))
    clear e1 e2 h
    go_enter Try.func24, Try.ntmps24
    go_wp2_with fail
    refine Hs.out.mono ?_
    rintro e w' ⟨rfl, rfl⟩
    go_wp2
    go_ret2
    exact ⟨_, rfl, Sw.nil _ _ _ _ _ _ _, Below.refl _ _⟩
end Go.Proofs.Ytolmhnekfokpdac
