/- Contracts: races, the program: rows that are still to go, whole. -/
import Derived.Test.YtodmaomngpnboaaPb
set_option linter.unusedVariables false
namespace Go.Proofs.Ytodmaomngpnboaa
open Go.RowKit Go.Maps

def rowsL (F L n k : Nat) : List Int := tab n (fun j => if j < k then cntR F L j else 0)
theorem rowsL_zero (F L n : Nat) : (tab n fun _ => 0) = rowsL F L n 0 := tab_congr fun k _ => by rw [if_neg (by omega)]
theorem rowsL_set (F L n k : Nat) : (rowsL F L n k).set k (cntR F L k) = rowsL F L n (k + 1) := by
  unfold rowsL
  rw [tab_set]
  exact tab_congr fun j _ => by
    by_cases e : j = k
    · subst e; rw [if_pos rfl, if_pos (by omega)]
    · rw [if_neg e]
      by_cases h : j < k
      · rw [if_pos h, if_pos (by omega)]
      · rw [if_neg h, if_neg (by omega)]
theorem rowsL_done (F L n : Nat) : rowsL F L n n = tab n (cntR F L) := tab_congr fun k hk => by rw [if_pos hk]
theorem rowsL_len (F L n k : Nat) : (rowsL F L n k).length = n := tab_len _ _
set_option maxRecDepth 100000 in
set_option maxHeartbeats 1000000 in
theorem rows_any (L F t n : Nat) (w : World) (hL : L ≤ 12) (hF : F ≤ 6) (hn : n = t + 1) (ht : t ≤ 12) :
    Calls Try.prog 77 #[.int .i64 (L : Int), .int .i64 (F : Int), .int .i64 (t : Int)] w fun e w' => ∃ r, e = .returned r ∧ Sw (Value.int .i64) 0 w' r (tab n (cntR F L)) w.heap.size w'.heap.size ∧ Below w.heap.size w w' := by
  obtain ⟨i0, hi, hz0, hz1, hz2⟩ := info_parts (show (Try.prog.info? 2).map (fun i => (i.zero, i.size, i.bytes)) = some (some (.int .i64 0), 1, 8) by kernel_rfl)
  have hn1 : (t : Int) + 1 = (n : Int) := by omega
  have n13 : n ≤ 13 := by omega
  clear hn
  have Hbd := Lib.hid (fun i (hi : i ≤ 13) => rows_bd F L i hF hi)
  have HL0 := Lib.hid (rowsL_zero F L n)
  have HLs := Lib.hid (rowsL_set F L n)
  have HLd := Lib.hid (rowsL_done F L n)
  have HLl := Lib.hid (rowsL_len F L n)
  have Hnx := Lib.hid (fun i => (show rowP F L (i + 1) = fun k => sumA (fun s => cut0 (rowP F L i) (s : Int) * raceM s F k) (L + 1) from rfl))
  have C0 : (w.alloc (.cells #[.int .i64 (F : Int)] 2)).cell? ⟨w.heap.size, 0, none⟩ = some (.int .i64 (F : Int)) := World.cell?_alloc_at _ _ _ _ rfl
  have hb0 : Below w.heap.size w (w.alloc (.cells #[.int .i64 (F : Int)] 2)) := (Below.refl _ w).alloc (Nat.le_refl _) _
  have hsz0 : (w.alloc (.cells #[.int .i64 (F : Int)] 2)).heap.size = w.heap.size + 1 := World.size_alloc _ _
  obtain ⟨W1, r1, ht1, k1⟩ := lit5 (w.alloc (.cells #[.int .i64 (F : Int)] 2)) (L + 1) (L : Int) 1 (WalkArith.wf_i64 (by omega)) (WalkArith.wf_i64 (by omega)) (by omega)
  have hb1 : Below (w.heap.size + 1) (w.alloc (.cells #[.int .i64 (F : Int)] 2)) W1 := by
    rw [← hsz0]
    exact ((Below.refl _ _).alloc (Nat.le_refl _) (.map #[] 0)).grown k1 (by simp) (fun j hj => by cases hj; exact Nat.le_refl _)
  rw [hsz0] at r1 ht1
  have C1 := Lib.hid ((hb1.cell (by show w.heap.size < _; omega)).trans C0)
  have Hb1 := Lib.hid (hb0.trans (hb1.mono (by omega)))
  have Ht1 : Hid (TV W1 (w.heap.size + 1) 1 (L + 1) (rowP F L 0)) := Lib.hid ht1
  have hz1' : w.heap.size + 1 < W1.heap.size := ht1.lt
  have hmm := @run_makeMap Try.prog
  clear ht1 k1 hb1 hb0 C0
  go_enter Try.func77, Try.ntmps77
  go_wp2_with (at_make; refine wpList_make_full _ rfl _ _ 22 rfl W1.heap.size 2 i0 (.int .i64 0) 1 (by kernel_rfl) hi hz0 hz1 .i64 .i64 n n n rfl rfl rfl rfl (by rw [hz2]; omega) (by unfold maxLen; omega) (Nat.le_refl _) ?_; intro w2 hrow hgrow)
  have hz2' := hgrow.size
  have hbel : Below W1.heap.size W1 w2 := (Below.refl _ _).grown hgrow (Nat.le_refl _) (by simp)
  rw [zeros_tab6] at hrow
  have hN0 := Sw.of_owns (d := 0) hrow (tab_len _ _)
  rw [HL0.out] at hN0
  have HN0 := Lib.hid hN0
  have C2 := Lib.hid ((hbel.cell (by show w.heap.size < _; omega)).trans C1.out)
  have HT2 := Lib.hid ((Ht1.out.later hbel).mono (n' := 1000) (by omega) (Nat.le_refl _))
  have Hb2 := Lib.hid (Hb1.out.trans (hbel.mono (by omega)))
  clear r1 hmm hrow hgrow hbel hN0 C1 Ht1 Hb1
  have hw0 : (Lit.int .i64 0).wf = true := WalkArith.wf_i64 (by omega)
  generalize hB1 : W1.heap.size = B1 at *
  clear hB1
  go_loopw [7, 18] (fun m i wr => ∃ k bm : Nat, k ≤ n ∧ i = .int .i64 (k : Int) ∧ m = .map (some bm) ∧ Hid (TV wr bm 1000 (L + 1) (rowP F L k)) ∧ Hid (Sw (Value.int .i64) 0 wr (.slice (some ⟨B1, 0, none⟩) n n) (rowsL F L n k) B1 w2.heap.size) ∧ (bm + 1 ≤ B1 ∨ w2.heap.size ≤ bm) ∧ w.heap.size < bm ∧ Hid (Below (w.heap.size + 1) w2 wr)) (fun _ i _ => n - (intOf i).toNat)
  case atStart => exact ⟨0, w.heap.size + 1, Nat.zero_le _, rfl, rfl, HT2, HN0, .inl (by omega), by omega, Lib.hid (Below.refl _ _)⟩
  case round =>
    obtain ⟨k, bm, hk, rfl, rfl, htv, hs, hap, hbm, hb⟩ := hrel
    have hszr := hb.out.size
    by_cases hlt : k < n
    · obtain ⟨D, hown, hat, hks⟩ := htv.out
      have Hat := Lib.hid hat
      have Hks := Lib.hid hks
      clear hat hks
      go_wp2_with (at_delete; refine wpList_delete_own _ rfl _ _ 119 2 rfl 2 lawI Try.underlying119 _ bm 1000 D rfl hown _ _ rfl (keyOf_int_mk Try.underlying2 hw0) ?_; intro w5 hown5 hturn)
      obtain ⟨m0, m1, m2, m3, m4⟩ := Hbd.out k (by omega)
      have hon := turned_only hturn
      have htv5 := TV.cut hown5 Hat.out Hks.out
      have hs5 := hs.out.apart hon (by omega)
      have hb5 : Below (w.heap.size + 1) w2 w5 := Below.only hb.out hon (by omega)
      have hz5 := hb5.size
      have Hall := Lib.hid (all_any bm 1000 (L + 1) _ w5 htv5 (Nat.le_refl _) (by omega) m2 m4)
      rw [show sumA (fun s => cut0 (rowP F L k) (s : Int)) (L + 1) = cntR F L k from rfl] at Hall
      have Htv5 := Lib.hid htv5
      have Hs5 := Lib.hid hs5
      have Hb5 := Lib.hid hb5
      have M0 := Lib.hid m0
      have M1 := Lib.hid m1
      clear hturn hon htv5 hs5 hb5 hown hown5 m0 m1 m2
      refine (Hall.out).mono ?_
      rintro e w6 ⟨rfl, hb6⟩
      have htv6 := Htv5.out.later hb6
      have hs6 := Hs5.out.later hb6
      have hb6' : Below (w.heap.size + 1) w2 w6 := Hb5.out.trans (hb6.mono (by omega))
      have hz6 := hb6'.size
      obtain ⟨b', off', e', ⟨q1, q2, -⟩, hbs, hc, hfz⟩ := hs6.open' k (by rw [HLl.out]; exact hlt)
      cases e'
      have hst := hs6.store k (by rw [HLl.out]; exact hlt) (cntR F L k)
      rw [HLs.out] at hst
      rw [Nat.zero_add] at hc hfz hst
      have hon6 : Only B1 (B1 + 1) w6 (w6.setCell ⟨B1, k, none⟩ (.int .i64 (cntR F L k))) := (Only.refl _ _ _).step' _ _ (Nat.le_refl _) (Nat.lt_succ_self _)
      have htv7 := htv6.kept (only_grown hon6) (fun e => by injection e with e; omega)
      have hb7 : Below (w.heap.size + 1) w2 (w6.setCell ⟨B1, k, none⟩ (.int .i64 (cntR F L k))) := Below.only hb6' hon6 (by omega)
      have hz7 : (w6.setCell ⟨B1, k, none⟩ (.int .i64 (cntR F L k))).heap.size = w6.heap.size := hon6.size
      have c7 := (hb7.cell (by show w.heap.size < _; omega)).trans C2.out
      have HO := Lib.hid (onward_any 131 #[] #[.pointer (some ⟨w.heap.size, 0, none⟩)] bm 1000 (L + 1) (L + 1) (cut0 (rowP F L k)) (fun s => raceM s F) (w6.setCell ⟨B1, k, none⟩ (.int .i64 (cntR F L k))) htv7 (Nat.le_refl _) (by omega)
        M0.out M1.out
        (run_enter Try.func131 (by kernel_rfl) (by kernel_rfl))
        (fun s w' hs hbz => (clo_race F w.heap.size s (L + 1) w' (by omega) (by omega) hs (cell_keep hbz c7)).mono fun e z ⟨bq, q1, q2, q3, q4⟩ => ⟨bq, q1, q2, .inl q3, q4⟩))
      have Hst := Lib.hid hst
      have Hb7 := Lib.hid hb7
      clear htv6 hs6 hb6 hb6' hst hon6 htv7 hb7 c7 Htv5 Hs5 Hb5 M0 M1 Hall
      generalize cntR F L k = C at *
      go_wp2_with fail
      refine (HO.out).mono ?_
      rintro e w8 ⟨bn, rfl, ht8, hbn, hb8⟩
      have Ht8 : Hid (TV w8 bn 1000 (L + 1) (rowP F L (k + 1))) := Lib.hid (ht8.mono (by omega) (Nat.le_refl _))
      have Hs8 := Lib.hid (Hst.out.later hb8)
      have Hb8 := Lib.hid (Hb7.out.trans (hb8.mono (by omega)))
      clear ht8 hb8 HO
      go_wp2
      go_roundw
      case rel => exact ⟨k + 1, bn, by omega, by go_num, rfl, Ht8, Hs8, .inr (by omega), by omega, Hb8⟩
      case measure => simp [intOf]; omega
    · obtain rfl : k = n := by omega
      have hs2 := hs.out
      rw [HLd.out] at hs2
      have Hs2 := Lib.hid hs2
      clear hs2
      go_wp2
      go_ret
      exact ⟨_, rfl, Hs2.out.mono (by omega) hszr (Nat.le_refl _), Hb2.out.trans (hb.out.mono (by omega))⟩
end Go.Proofs.Ytodmaomngpnboaa
