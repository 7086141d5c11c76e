/- Contracts: counts of matches, in both texts. -/
import Derived.Test.YtolmhnekfokpdacEf
import Derived.Test.YtolmhnekfokpdacEd
import Derived.Test.YtolmhnekfokpdacDc
import Derived.Deep.RegionHeld3
import Derived.Deep.RegionLaw
import Derived.Deep.AppendLies
import Derived.WalkSpells
import Derived.StillTactics
set_option linter.unusedVariables false
namespace Go.Proofs.Ytolmhnekfokpdac
open Go.RowKit

def matG (n : Nat) (k : Nat) : Int := ((setsR n k * aw (n - k) : Nat) : Int)
abbrev okM (a : Int) : Prop := 1 ≤ a ∧ a ≤ 20
theorem mat_yes (a : Int) (h : okM a) : ok_MatchCounts a = true ∧ res_MatchCounts a = tab (a.toNat + 1) (matG a.toNat) := by
  unfold ok_MatchCounts res_MatchCounts
  rw [if_pos h, decide_eq_true h.1, decide_eq_true h.2]; exact ⟨rfl, rfl⟩
theorem mat_no (a : Int) (h : ¬ okM a) : ok_MatchCounts a = false ∧ res_MatchCounts a = [] := by
  unfold ok_MatchCounts res_MatchCounts
  rw [if_neg h]; refine ⟨?_, rfl⟩
  rw [Bool.eq_false_iff]; intro h'; simp only [Bool.and_eq_true, decide_eq_true_eq] at h'; exact h h'
theorem len_MatchCounts (a : Int) : (res_MatchCounts a).length ≤ 1048576 := by
  unfold res_MatchCounts
  split
  · rw [tab_len]; omega
  · exact Nat.zero_le _

def sgn (k : Nat) : Int := if k % 2 = 0 then 1 else -1
theorem sgn_next (k : Nat) : sgn (k + 1) = - sgn k := by unfold sgn; split <;> split <;> omega
theorem sgn_bd (k : Nat) : -1 ≤ sgn k ∧ sgn k ≤ 1 := by unfold sgn; split <;> omega
theorem aw_next (k : Nat) (h : k < 20) : ((aw (k + 1) : Nat) : Int) = ((k : Int) + 1) * ((aw k : Nat) : Int) + sgn (k + 1) := by
  rw [← aw_step k h, Int.natCast_add]
  congr 1
  unfold sgn
  split <;> split <;> omega
set_option maxRecDepth 100000 in
set_option maxHeartbeats 1000000 in
theorem countAway_any (n : Nat) (w : World) (hn : n ≤ 20) :
    Calls Try.prog 80 #[.int .i64 (n : Int)] w fun e w' => e = .returned (.int .i64 ((aw n : Nat) : Int)) ∧ w = w' := by
  have Hx := Lib.hid (fun k (h : k < 20) => aw_next k h)
  have Hb := Lib.hid (fun k (h : k < 21) => aw_bd k h)
  have Hs := Lib.hid sgn_next
  have Hsb := Lib.hid sgn_bd
  go_enter Try.func80, Try.ntmps80
  go_wp2
  go_loop [3, 4, 7] (fun c s i => ∃ j : Nat, j ≤ n ∧ i = .int .i64 (j : Int) ∧ c = .int .i64 ((aw j : Nat) : Int) ∧ s = .int .i64 (sgn j)) (fun _ _ i => n - (intOf i).toNat)
  case atStart => exact ⟨0, Nat.zero_le _, rfl, rfl, rfl⟩
  case round =>
    obtain ⟨j, hj, rfl, rfl, rfl⟩ := hrel
    by_cases hlt : j < n
    · have hb := Hb.out (j + 1) (by omega)
      have hb0 := (Hb.out j (by omega)).1
      rw [Nat.add_sub_cancel] at hb
      have e : ((j : Int) + 1) * ((aw j : Nat) : Int) = (((j + 1) * aw j : Nat) : Int) := by rw [Int.natCast_mul, Int.natCast_add]; rfl
      have m0 : 0 ≤ ((j : Int) + 1) * ((aw j : Nat) : Int) := by rw [e]; omega
      have m1 : ((j : Int) + 1) * ((aw j : Nat) : Int) ≤ 1000000000000000000 := by rw [e]; omega
      have Hn := Lib.hid (Hx.out j (by omega))
      have Hs2 := Lib.hid (Hs.out j)
      obtain ⟨s0, s1⟩ := Hsb.out j
      clear hb hb0 e
      generalize ((aw j : Nat) : Int) = F at *
      generalize sgn j = S at *
      go_wp2
      go_round
      case rel => exact ⟨j + 1, by omega, by go_num, by rw [Hn.out, Hs2.out], by rw [Hs2.out]⟩
      case measure => simp [intOf]; omega
    · obtain rfl : j = n := by omega
      go_wp2
      go_ret
      exact ⟨rfl, rfl⟩

set_option maxRecDepth 100000 in
set_option maxHeartbeats 2000000 in
theorem mat_impl_yes (n : Nat) (w : World) (h1 : 1 ≤ n) (h2 : n ≤ 20) :
    Calls Try.prog 25 #[.int .i64 (n : Int)] w fun e w' => ∃ r, e = .returned (.tuple #[r, .bool true]) ∧ Sw (Value.int .i64) 0 w' r (tab (n + 1) (matG n)) w.heap.size w'.heap.size ∧ Below w.heap.size w w' := by
  obtain ⟨i0, hi, hz0, hz1, hz2⟩ := info_parts (show (Try.prog.info? 2).map (fun i => (i.zero, i.size, i.bytes)) = some (some (.int .i64 0), 1, 8) by kernel_rfl)
  have Hs := Lib.hid (rsize_yes (n : Int) w (by omega) (by omega))
  have Hcs := Lib.hid (fun j (h : j ≤ n) z => countSets_any n j z (by omega) (by omega))
  have Hca := Lib.hid (fun j (h : j ≤ n) z => countAway_any (n - j) z (by omega))
  have Hmb := Lib.hid (fun j (h : j ≤ n) => match_bd n (by omega) j h)
  go_enter Try.func25, Try.ntmps25
  go_wp2_with fail
  refine Hs.out.mono ?_
  rintro e w' ⟨rfl, rfl⟩
  go_wp2_with (at_make; refine wpList_make_full _ rfl _ _ 22 rfl w.heap.size 2 i0 (.int .i64 0) 1 (by kernel_rfl) hi hz0 hz1 .i64 .i64 _ _ (n + 1) rfl rfl (by omega) (by omega) (by rw [hz2]; omega) (by unfold maxLen; omega) (Nat.le_refl _) ?_; intro w1 hown hgrow; have Hbel := Lib.hid ((Below.refl _ w).grown hgrow (Nat.le_refl _) (by simp)); have Hown := Lib.hid hown; clear hown hgrow)
  go_loopw [14] (fun i wr => ∃ k : Nat, k ≤ n + 1 ∧ i = .int .i64 k ∧ wr.ownsRow w.heap.size 2 1 (.slice (some ⟨w.heap.size, 0, none⟩) (n + 1) (n + 1)) (n + 1) ((filled (n + 1) (matG n) k).map (Value.int .i64)) ∧ Below w.heap.size w wr) (fun i _ => (n + 1) - (intOf i).toNat)
  case atStart =>
    refine ⟨0, Nat.zero_le _, rfl, ?_, Hbel.out⟩
    have h0 := Hown.out
    have e : (madeCells (Value.int .i64 0).cells ((n + 1) * 1)).toList = (filled (n + 1) (matG n) 0).map (Value.int .i64) := by
      rw [filled_zero, Nat.mul_one, List.map_replicate]
      exact made1 _ _
    rw [e] at h0
    exact h0
  case round =>
    obtain ⟨k, hk, rfl, hown, hb⟩ := hrel
    have Hown := Lib.hid hown
    have Hb := Lib.hid hb
    have hsz := hb.size
    clear hown hb
    by_cases hlt : k < n + 1
    · have c2 : wr.cell? ⟨w.heap.size, k, none⟩ = some (.int .i64 0) := by
        rw [Hown.out.cellAt k (by omega), List.getElem?_map, filled_at (n + 1) (matG n) k hlt]; rfl
      have c3 := Hown.out.frozenAt k
      obtain ⟨hs1, _⟩ := Hown.out.stored k (.int .i64 (matG n k))
      rw [← List.map_set, filled_set (n + 1) (matG n) k hlt] at hs1
      have hmb := Hmb.out k (by omega)
      have hg : matG n k = ((setsR n k : Nat) : Int) * ((aw (n - k) : Nat) : Int) := by unfold matG; rw [Int.natCast_mul]
      have hg2 : matG n k = ((setsR n k * aw (n - k) : Nat) : Int) := rfl
      have m0 : 0 ≤ ((setsR n k : Nat) : Int) * ((aw (n - k) : Nat) : Int) := by rw [← hg, hg2]; omega
      have m1 : ((setsR n k : Nat) : Int) * ((aw (n - k) : Nat) : Int) ≤ 1000000000000000000 := by rw [← hg, hg2]; omega
      rw [hg] at hs1
      have Hs1 := Lib.hid hs1
      have Hc1 := Lib.hid (Hcs.out k (by omega))
      have Hc2 := Lib.hid (Hca.out k (by omega))
      have hc : (n : Int) - (k : Int) = ((n - k : Nat) : Int) := by omega
      have Hcast := Lib.hid hc
      clear hs1 hmb hg hg2 hc
      generalize ((setsR n k : Nat) : Int) = F at *
      generalize ((aw (n - k) : Nat) : Int) = G at *
      go_wp2_with fail
      refine (Hc1.out _).mono ?_
      rintro e w' ⟨rfl, rfl⟩
      go_wp2_with fail
      rw [Hcast.out]
      refine (Hc2.out _).mono ?_
      rintro e w' ⟨rfl, rfl⟩
      go_wp2
      go_roundw
      case rel => exact ⟨k + 1, by omega, by go_num, Hs1.out, Hb.out.setCell (Nat.le_refl _) _⟩
      case measure => simp [intOf]; omega
    · obtain rfl : k = n + 1 := by omega
      go_wp2
      go_ret2
      have h0 := Hown.out
      rw [filled_done] at h0
      exact ⟨_, rfl, Sw.of_owns h0 (tab_len _ _), Hb.out⟩
theorem impl_MatchCounts (a : Int) (al : -9223372036854775808 ≤ a) (au : a ≤ 9223372036854775807) (w : World) :
    Calls Try.prog 25 #[.int .i64 a] w fun e w' => ∃ r, e = .returned (.tuple #[r, .bool (ok_MatchCounts a)]) ∧ Sw (Value.int .i64) 0 w' r (res_MatchCounts a) w.heap.size w'.heap.size ∧ Below w.heap.size w w' := by
  by_cases h : okM a
  · obtain ⟨e1, e2⟩ := mat_yes a h
    rw [e1, e2]
    obtain ⟨n, rfl⟩ : ∃ n : Nat, a = n := ⟨a.toNat, by omega⟩
    rw [Int.toNat_natCast]
    exact mat_impl_yes n w (by omega) (by omega)
  · obtain ⟨e1, e2⟩ := mat_no a h
    rw [e1, e2]
    have Hs := Lib.hid (rsize_no a w (by omega))
    clear e1 e2 h
    go_enter Try.func25, Try.ntmps25
    go_wp2_with fail
    refine Hs.out.mono ?_
    rintro e w' ⟨rfl, rfl⟩
    go_wp2
    go_ret2
    exact ⟨_, rfl, Sw.nil _ _ _ _ _ _ _, Below.refl _ _⟩

theorem own_open {w : World} {base : Nat} {e : TypeId} {v : Value} {n : Nat} {G : Nat → Int} (h : w.ownsRow base e 1 v n ((tab n G).map (Value.int .i64))) (h0 : 0 < n) :
    ∃ g cap, v = .slice (some ⟨g, 0, none⟩) n cap ∧ n ≤ cap ∧ ∀ i, i < n → w.cell? ⟨g, i, none⟩ = some (.int .i64 (G i)) := by
  have h' := h
  rcases h.2 with ⟨_, hn⟩ | ⟨g, cap, cur, rfl, hb, hg, hnc, _⟩
  · omega
  · refine ⟨g, cap, rfl, hnc, fun i hi => ?_⟩
    rw [h'.cellAt i (by omega), List.getElem?_map, List.getElem?_eq_getElem (by rw [tab_len]; exact hi)]
    simp [tab]
def awI (k : Nat) : Int := ((aw k : Nat) : Int)

