/- The law's helpers at slices of Game. -/
import Derived.Test.YtfipcpbibmhjoabSa
import Derived.Test.YtfipcpbibmhjoabLk
import Derived.RangeFuncBox
import Derived.Deep.RegionLawGrows
set_option linter.unusedVariables false
namespace Go.Proofs.Ytfipcpbibmhjoab
open Go.RowKit
set_option maxHeartbeats 400000 in
theorem toGame_any (x y z : Int) (w : World) :
    Calls Try.prog 56 #[.agg #[.int .i64 x, .int .i64 y, .int .i64 z]] w fun e w' => e = .returned (.agg #[.int .i64 x, .int .i64 y, .int .i64 z]) ∧ Below w.heap.size w w' := by
  go_enter Try.func56, Try.ntmps56
  go_wp2
  refine bodyPost_ret (v := .agg #[.int .i64 x, .int .i64 y, .int .i64 z]) ?_ rfl ⟨rfl, (((Below.refl _ w).alloc (Nat.le_refl _) _).alloc (by simp) _).alloc (by simp; omega) _⟩
  simp [results, Try.results56, go_sem]
theorem eqGame_any (x y z : Int) (w : World) :
    Calls Try.prog 63 #[.agg #[.int .i64 x, .int .i64 y, .int .i64 z], .agg #[.int .i64 x, .int .i64 y, .int .i64 z]] w fun e w' => e = .returned (.bool true) ∧ Below w.heap.size w w' := by
  go_enter Try.func63, Try.ntmps63
  go_wp2
  go_ret
  exact ⟨rfl, ((Below.refl _ w).alloc (Nat.le_refl _) _).alloc (by simp) _⟩
set_option maxHeartbeats 400000 in
theorem szGames_any (p : Option Addr) (n cap : Nat) (left : Int) (w : World) (hn : n ≤ 9223372036854775807) (h1 : left ≤ 1048576) (h0 : 0 ≤ left) :
    Calls Try.prog 17 #[.slice p n cap, .int .i64 left] w fun e w' => e = .returned (.int .i64 (szK n left)) ∧ w = w' := by
  have e0 : szK n left = if left - n < 0 then -1 else left - n := rfl
  have E := Lib.hid e0
  clear e0
  generalize szK n left = R at *
  go_enter Try.func17, Try.ntmps17
  by_cases hlt : left - n < 0
  · have E2 := Lib.hid (E.out.trans (if_pos hlt))
    go_wp2
    go_ret
    exact ⟨ret_int E2.out.symm, rfl⟩
  · have E2 := Lib.hid (E.out.trans (if_neg hlt))
    go_wp2
    go_ret
    exact ⟨ret_int E2.out.symm, rfl⟩
set_option maxHeartbeats 1000000 in
theorem toGames_any (n : Nat) (fs : List Int) (v : Value) (w : World) (hn : n ≤ 1048576) (h : SlK 3 w v n fs) :
    Calls Try.prog 19 #[v] w fun e w' => ∃ v', e = .returned v' ∧ SwK 3 w' v' n fs w.heap.size w'.heap.size ∧ Below w.heap.size w w' := by
  obtain ⟨hlen, p, cap, rfl, hf⟩ := h
  obtain ⟨i0, hi, hz0, hz1, hz2⟩ := info_parts (show (Try.prog.info? 79).map (fun i => (i.zero, i.size, i.bytes)) = some (some (Value.agg #[.int .i64 0, .int .i64 0, .int .i64 0]), 3, 24) by kernel_rfl)
  have Hf := Lib.hid hf
  have Hlen := Lib.hid hlen
  clear hf hlen
  go_enter Try.func19, Try.ntmps19
  go_wp2_with (at_make; refine wpList_make_full _ rfl _ _ 33 rfl w.heap.size 79 i0 (Value.agg #[.int .i64 0, .int .i64 0, .int .i64 0]) 3 (by kernel_rfl) hi hz0 hz1 .i64 .i64 n n n rfl rfl rfl rfl (by rw [hz2]; omega) (by unfold maxLen; omega) (Nat.le_refl _) ?_; intro w1 hown hgrow)
  have hbel : Below w.heap.size w w1 := (Below.refl _ w).grown hgrow (Nat.le_refl _) (by simp)
  have h0 : SwK 3 w1 (.slice (some ⟨w.heap.size, 0, none⟩) n n) n (mixed [] (List.replicate (n * 3) 0)) w.heap.size (w.heap.size + 1) := by
    refine ⟨by simp [mixed], _, _, rfl, fun h0 => ⟨Nat.le_refl _, _, _, rfl, Nat.le_refl _, Nat.lt_succ_self _, (hown.lt _ rfl).2, fun i hi => ⟨?_, ?_⟩⟩⟩
    · rw [Nat.zero_add, hown.cellAt i hi]
      show (madeCells #[.int .i64 0, .int .i64 0, .int .i64 0] (n * 3)).toList[i]? = _
      rw [ints_made]
      simp [mixed, hi, List.getD]
    · rw [Nat.zero_add]; exact hown.frozenAt i
  have Hown := Lib.hid h0
  have hsz1 : w.heap.size < w1.heap.size := (hown.lt _ rfl).2
  clear hown h0 hgrow
  go_loopw [4] (fun i wr => ∃ k : Nat, k ≤ n ∧ i = .int .i64 k ∧ Hid (SwK 3 wr (.slice (some ⟨w.heap.size, 0, none⟩) n n) n (mixed (fs.take (k * 3)) (List.replicate (n * 3) 0)) w.heap.size (w.heap.size + 1)) ∧ Hid (Below w.heap.size w wr)) (fun i _ => n - (intOf i).toNat)
  case atStart => exact ⟨0, Nat.zero_le _, rfl, by simpa using Hown, Lib.hid hbel⟩
  case round =>
    obtain ⟨k, hk, rfl, hown, hb⟩ := hrel
    by_cases hlt : k < n
    · obtain ⟨hcap, b, off, rfl, hbs, hc⟩ := Hf.out (by omega)
      have c0 : wr.cell? ⟨b, off + k * 3, none⟩ = some (Value.int .i64 (fs.getD (k * 3) 0)) := by rw [hb.out.cell hbs]; exact hc (k * 3) (by omega)
      have c1 : wr.cell? ⟨b, off + k * 3 + 1, none⟩ = some (Value.int .i64 (fs.getD (k * 3 + 1) 0)) := by rw [hb.out.cell hbs]; exact hc (k * 3 + 1) (by omega)
      have c2 : wr.cell? ⟨b, off + k * 3 + 2, none⟩ = some (Value.int .i64 (fs.getD (k * 3 + 2) 0)) := by rw [hb.out.cell hbs]; exact hc (k * 3 + 2) (by omega)
      have hml : (fs.take (k * 3)).length = k * 3 := by rw [List.length_take, Hlen.out]; omega
      have Ht := Lib.hid (take_more fs (k * 3) (by rw [Hlen.out]; omega) (d := 0))
      have Ht1 := Lib.hid (take_more fs (k * 3 + 1) (by rw [Hlen.out]; omega) (d := 0))
      have Ht2 := Lib.hid (take_more fs (k * 3 + 2) (by rw [Hlen.out]; omega) (d := 0))
      generalize hX0 : fs.getD (k * 3) 0 = X at *
      generalize hX1 : fs.getD (k * 3 + 1) 0 = Y at *
      generalize hX2 : fs.getD (k * 3 + 2) 0 = Z at *
      clear hc
      go_wp2_with fail
      refine (toGame_any X Y Z wr).mono ?_
      rintro e w2 ⟨rfl, hb2⟩
      have hx := Lib.hid ((hown.out.later (hb2.mono (Nat.le_refl _))))
      obtain ⟨-, p1, cap1, e1, hq⟩ := hx.out
      cases e1
      obtain ⟨-, b1, off1, e2, q1, q2, q3, hq⟩ := hq (by omega)
      cases e2
      have d0 := (hq (k * 3) (by omega)).1
      have f0 := (hq (k * 3) (by omega)).2
      have d1 := (hq (k * 3 + 1) (by omega)).1
      have f1 := (hq (k * 3 + 1) (by omega)).2
      have d2 := (hq (k * 3 + 2) (by omega)).1
      have f2 := (hq (k * 3 + 2) (by omega)).2
      rw [Nat.zero_add] at d0 f0 d1 f1 d2 f2
      generalize List.getD _ (k * 3) 0 = X1 at d0
      generalize List.getD _ (k * 3 + 1) 0 = Y1 at d1
      generalize List.getD _ (k * 3 + 2) 0 = Z1 at d2
      have Hst := hx.out.store (k * 3) (by omega) X
      rw [mixed_set _ _ _ _ hml (by simp; omega), Ht.out] at Hst
      have Hst := Hst.store (k * 3 + 1) (by omega) Y
      rw [mixed_set _ _ _ _ (by rw [List.length_take, Hlen.out]; omega) (by simp; omega), Ht1.out] at Hst
      have Hst := Hst.store (k * 3 + 2) (by omega) Z
      rw [mixed_set _ _ _ _ (by rw [List.length_take, Hlen.out]; omega) (by simp; omega), Ht2.out] at Hst
      rw [show k * 3 + 2 + 1 = (k + 1) * 3 by omega] at Hst
      simp only [Nat.zero_add] at Hst
      have HS := Lib.hid Hst
      have Hb3 : Hid (Below w.heap.size w (((w2.setCell ⟨w.heap.size, k * 3, none⟩ (.int .i64 X)).setCell ⟨w.heap.size, k * 3 + 1, none⟩ (.int .i64 Y)).setCell ⟨w.heap.size, k * 3 + 2, none⟩ (.int .i64 Z))) := Lib.hid (((((hb.out.trans (hb2.mono hb.out.size)).setCell (Nat.le_refl _) _).setCell (Nat.le_refl _) _).setCell (Nat.le_refl _) _))
      clear hq Hst hx hb2 hown Ht Ht1 Ht2 hX0 hX1 hX2
      go_wp2
      go_roundw
      case rel => exact ⟨k + 1, by omega, by go_num, HS, Hb3⟩
      case measure => simp [intOf]; omega
    · obtain rfl : k = n := by omega
      have HS := Lib.hid (show SwK 3 wr (.slice (some ⟨w.heap.size, 0, none⟩) k k) k fs w.heap.size (w.heap.size + 1) by
        have := hown.out
        rw [mixed_done _ _ (by rw [List.length_take, Hlen.out, List.length_replicate]; omega), List.take_of_length_le (by rw [Hlen.out]; exact Nat.le_refl _)] at this
        exact this)
      clear hown
      go_wp2
      go_ret
      refine ⟨_, rfl, ?_, hb.out⟩
      obtain ⟨g0, p1, cap1, e1, hq⟩ := HS.out
      refine ⟨g0, p1, cap1, e1, fun h0 => ?_⟩
      obtain ⟨q0, b1, off1, e2, q1, q2, q3, hq⟩ := hq h0
      exact ⟨q0, b1, off1, e2, q1, by omega, Nat.le_refl _, hq⟩
set_option maxRecDepth 100000 in
set_option maxHeartbeats 2000000 in
theorem eqGames_any (n : Nat) (fs : List Int) (v u : Value) (w : World) (hn : n ≤ 1048576) (h : SlK 3 w v n fs) (g : SlK 3 w u n fs) :
    Calls Try.prog 22 #[v, u] w fun e w' => e = .returned (.bool true) ∧ Below w.heap.size w w' := by
  obtain ⟨-, p, cap, rfl, hf⟩ := h
  obtain ⟨-, q, cap', rfl, hg⟩ := g
  have Hf := Lib.hid hf
  have Hg := Lib.hid hg
  clear hf hg
  have hne : ((n : Int) != (n : Int)) = false := by simp
  go_enter Try.func22, Try.ntmps22
  go_wp2
  go_loopw [5] (fun i wr => ∃ k : Nat, k ≤ n ∧ i = .int .i64 k ∧ Hid (Below w.heap.size w wr)) (fun i _ => n - (intOf i).toNat)
  case atStart => exact ⟨0, Nat.zero_le _, rfl, Lib.hid (Below.refl _ _)⟩
  case round =>
    obtain ⟨k, hk, rfl, hb⟩ := hrel
    have hsz := hb.out.size
    by_cases hlt : k < n
    · obtain ⟨hcap, b, off, rfl, hbs, hc⟩ := Hf.out (by omega)
      obtain ⟨hcap', b', off', rfl, hb's, hc'⟩ := Hg.out (by omega)
      have c0 : wr.cell? ⟨b, off + k * 3, none⟩ = some (Value.int .i64 (fs.getD (k * 3) 0)) := by rw [hb.out.cell hbs]; exact hc (k * 3) (by omega)
      have c1 : wr.cell? ⟨b, off + k * 3 + 1, none⟩ = some (Value.int .i64 (fs.getD (k * 3 + 1) 0)) := by rw [hb.out.cell hbs]; exact hc (k * 3 + 1) (by omega)
      have c2 : wr.cell? ⟨b, off + k * 3 + 2, none⟩ = some (Value.int .i64 (fs.getD (k * 3 + 2) 0)) := by rw [hb.out.cell hbs]; exact hc (k * 3 + 2) (by omega)
      have c'0 : wr.cell? ⟨b', off' + k * 3, none⟩ = some (Value.int .i64 (fs.getD (k * 3) 0)) := by rw [hb.out.cell hb's]; exact hc' (k * 3) (by omega)
      have c'1 : wr.cell? ⟨b', off' + k * 3 + 1, none⟩ = some (Value.int .i64 (fs.getD (k * 3 + 1) 0)) := by rw [hb.out.cell hb's]; exact hc' (k * 3 + 1) (by omega)
      have c'2 : wr.cell? ⟨b', off' + k * 3 + 2, none⟩ = some (Value.int .i64 (fs.getD (k * 3 + 2) 0)) := by rw [hb.out.cell hb's]; exact hc' (k * 3 + 2) (by omega)
      generalize fs.getD (k * 3) 0 = X at *
      generalize fs.getD (k * 3 + 1) 0 = Y at *
      generalize fs.getD (k * 3 + 2) 0 = Z at *
      have Hcall := Lib.hid (fun z => eqGame_any X Y Z z)
      clear hc hc'
      go_wp2
      go_region_law (first | (go_simp; go_at_call 63; refine (Hcall.out _).mono ?_; rintro e w2 ⟨rfl, hb2⟩; have Hb2 : Hid (Below w.heap.size w w2) := Lib.hid ((below_drewN hb.out _).trans (hb2.mono hsz)); clear hb2))
      all_goals
        go_wp2
        go_roundw
        case rel => exact ⟨k + 1, by omega, by go_num, Hb2⟩
        case measure => simp [intOf]; omega
    · obtain rfl : k = n := by omega
      go_wp2
      go_ret
      exact ⟨rfl, hb.out⟩
set_option maxHeartbeats 1000000 in
theorem markGames_any (n : Nat) (fs : List Int) (v : Value) (lo hi : Nat) (w : World) (a : Nat) (hn : n ≤ 1048576) (ha : a ≤ 1000000000) (h : SwK 3 w v n fs lo hi) :
    Calls Try.prog 23 #[v, .int .i64 (a : Int)] w fun e w' => e = .returned (.int .i64 ((a + n * 3 : Nat) : Int)) ∧ SwK 3 w' v n (marksI a (n * 3)) lo hi ∧ Only lo hi w w' := by
  have Hs := Lib.hid h
  have Hlen := Lib.hid h.1
  obtain ⟨-, p, cap, rfl, hf⟩ := h
  clear hf
  go_enter Try.func23, Try.ntmps23
  go_wp2
  go_loopw [1, 5] (fun q i wr => ∃ k : Nat, k ≤ n ∧ i = .int .i64 k ∧ q = .int .i64 ((a + k * 3 : Nat) : Int) ∧ Hid (SwK 3 wr (.slice p n cap) n (mixed (marksI a (k * 3)) fs) lo hi) ∧ Hid (Only lo hi w wr)) (fun _ i _ => n - (intOf i).toNat)
  case atStart => exact ⟨0, Nat.zero_le _, rfl, rfl, by rw [show mixed (marksI a (0 * 3)) fs = fs from by simp [mixed, marksI]]; exact Hs, Lib.hid (Only.refl _ _ _)⟩
  case round =>
    obtain ⟨k, hk, rfl, rfl, hs, ho⟩ := hrel
    by_cases hlt : k < n
    · obtain ⟨b, off, rfl, hx, hq⟩ := hs.out.cells (by omega)
      have d0 := (hq (k * 3) (by omega)).1
      have f0 := (hq (k * 3) (by omega)).2
      have d1 := (hq (k * 3 + 1) (by omega)).1
      have f1 := (hq (k * 3 + 1) (by omega)).2
      have d2 := (hq (k * 3 + 2) (by omega)).1
      have f2 := (hq (k * 3 + 2) (by omega)).2
      generalize List.getD _ (k * 3) 0 = X1 at d0
      generalize List.getD _ (k * 3 + 1) 0 = Y1 at d1
      generalize List.getD _ (k * 3 + 2) 0 = Z1 at d2
      rw [← Nat.add_assoc] at d1 f1 d2 f2
      have hblt : b < wr.heap.size := by omega
      have Hx := Lib.hid hx
      have Hst := hs.out.store (k * 3) (by omega) ((a + k * 3 : Nat) : Int)
      rw [mixed_set _ _ _ _ (marksI_len _ _) (by rw [Hlen.out]; omega), ← marksI_succ] at Hst
      have Hst := Hst.store (k * 3 + 1) (by omega) ((a + (k * 3 + 1) : Nat) : Int)
      rw [mixed_set _ _ _ _ (marksI_len _ _) (by rw [Hlen.out]; omega), ← marksI_succ] at Hst
      have Hst := Hst.store (k * 3 + 2) (by omega) ((a + (k * 3 + 2) : Nat) : Int)
      rw [mixed_set _ _ _ _ (marksI_len _ _) (by rw [Hlen.out]; omega), ← marksI_succ] at Hst
      rw [show k * 3 + 2 + 1 = (k + 1) * 3 by omega] at Hst
      have HS := Lib.hid Hst
      clear hq Hst hs hx
      go_wp2
      go_roundw
      case rel => exact ⟨k + 1, by omega, by go_num, by go_num, HS, Lib.hid ((((ho.out.step' _ _ Hx.out.1 Hx.out.2.1).step' _ _ Hx.out.1 Hx.out.2.1).step' _ _ Hx.out.1 Hx.out.2.1))⟩
      case measure => simp [intOf]; omega
    · obtain rfl : k = n := by omega
      have HS := Lib.hid (show SwK 3 wr (.slice p k cap) k (marksI a (k * 3)) lo hi by
        have := hs.out
        rw [mixed_done _ _ (by rw [marksI_len, Hlen.out])] at this
        exact this)
      clear hs
      go_wp2
      go_ret
      exact ⟨rfl, HS.out, ho.out⟩
end Go.Proofs.Ytfipcpbibmhjoab
