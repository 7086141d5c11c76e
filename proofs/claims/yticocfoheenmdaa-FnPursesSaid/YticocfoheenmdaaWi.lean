/- Contracts: words that have not come, the program: how many rows do not have a word. -/
import Derived.Test.YticocfoheenmdaaWh
set_option linter.unusedVariables false
namespace Go.Proofs.Yticocfoheenmdaa
open Go.RowKit Go.Maps

theorem clo_coming (W : List Int) (s n st Bx B lo hi' : Nat) (bs : List (Option Nat)) (w : World) (hn : W.length = n) (hst : st < n) (h60 : n ≤ 100) (hS : Sw Value.map none w (.slice (some ⟨B, 0, none⟩) n n) bs lo hi') (hl : bs.length = n) (hM : MvT w W s B bs n) (c1 : w.cell? ⟨Bx, 0, none⟩ = some (.slice (some ⟨B, 0, none⟩) n n)) :
    Calls Try.prog 51 #[.int .i64 (st : Int), .pointer (some ⟨Bx, 0, none⟩)] w fun e w' => ∃ bm, e = .returned (.map (some bm)) ∧ bs.getD st none = some bm ∧ TV w bm 1000 (n + 1) (mvI W st s) ∧ w = w' := by
  obtain ⟨bm, h1, h2, -⟩ := hM st hst
  rw [hn] at h2
  obtain ⟨b2, o2, e2, -, -, cB, -⟩ := hS.open' st (by rw [hl]; exact hst)
  cases e2
  rw [Nat.zero_add, h1] at cB
  have H2 := Lib.hid h2
  have H1 := Lib.hid h1
  clear hS hl hM h1 h2 hn
  go_enter Try.func51, Try.ntmps51
  go_wp2
  go_ret
  exact ⟨bm, rfl, H1.out, H2.out, rfl⟩
theorem lit6 (w : World) (N : Nat) (x1 v1 : Int) (h1 : (Lit.int .i64 x1).wf = true) (g1 : (Lit.int .i64 v1).wf = true) (b1 : 0 ≤ x1 ∧ x1 < N) :
    ∃ W1 : World, (Instr.mapUpdate 53 (.map (some w.heap.size)) (.int .i64 x1) (.int .i64 v1)).run Try.prog (w.alloc (.map #[] 0)) = .ok () W1 ∧ TV W1 w.heap.size 1 N (upd (fun _ => 0) x1 v1) ∧ (w.alloc (.map #[] 0)).grownBy W1 (some w.heap.size) := by
  obtain ⟨D, ho, hr, hk⟩ := TV.made w N
  obtain ⟨W1, r1, o1, q1⟩ := ho.update lawI Try.underlying53 (by unfold maxLen; omega) (keyOf_int_mk Try.underlying2 h1) (plainElem_int Try.underlying2 g1)
  exact ⟨W1, r1, ⟨_, o1, put_reads ho.isMap hr x1 v1, put_keys ho.isMap hk x1 _ b1.1 b1.2⟩, q1⟩
set_option maxRecDepth 100000 in
set_option maxHeartbeats 4000000 in
theorem without_any (W : List Int) (s n T : Nat) (v : Value) (w : World) (hn : W.length = n) (n1 : 1 ≤ n) (n2 : n ≤ 100) (hs : s ≤ 900) (hT : T ≤ 60) (h : Sl (Value.int .i64) 0 w v W) (hB : ∀ i, i ≤ T → pwI s i ≤ 4611686018427387904) :
    Calls Try.prog 46 #[v, .int .i64 (s : Int), .int .i64 (T : Int)] w fun e w' => e = .returned (.int .i64 (sumA (fun k => rwI W s n T (k : Int)) n)) ∧ Below w.heap.size w w' := by
  have HCm := Lib.hid (coming_any W s n v w hn n1 n2 hs h)
  have HB := Lib.hid hB
  have Hn := Lib.hid hn
  have Hnx := Lib.hid (fun i t => rw_next W s n i t)
  have Hnn := Lib.hid (fun i t => rw_nonneg W s n i t)
  have Htot := Lib.hid (fun i => rw_total W s n i)
  have Hmv := Lib.hid (fun k t => mvI_bd W k s t)
  have Hsu := Lib.hid (fun i => rw_succ W s n i)
  obtain ⟨p, cap, rfl, hf⟩ := h
  rw [hn] at HCm ⊢
  clear hf hB hn
  have hmm := @run_makeMap Try.prog
  go_enter Try.func46, Try.ntmps46
  go_wp2_with fail
  refine HCm.out.mono ?_
  rintro e w1 ⟨bs, hi', rfl, hS, hbl, hM, hb1⟩
  obtain ⟨w2, hw2⟩ : ∃ z, z = w1.alloc (.cells #[.slice (some ⟨w.heap.size, 0, none⟩) n n] 69) := ⟨_, rfl⟩
  have hb2 : Below w1.heap.size w1 w2 := by rw [hw2]; exact (Below.refl _ _).alloc (Nat.le_refl _) _
  have hz2 : w2.heap.size = w1.heap.size + 1 := by rw [hw2]; simp
  have c2 : w2.cell? ⟨w1.heap.size, 0, none⟩ = some (.slice (some ⟨w.heap.size, 0, none⟩) n n) := by rw [hw2]; exact World.cell?_alloc_at _ _ _ _ rfl
  have HS := Lib.hid (hS.later hb2)
  have HM := Lib.hid (hM.later hb2)
  have Hbl := Lib.hid hbl
  have Hb2 := Lib.hid (hb1.trans (hb2.mono hb1.size))
  have C2 := Lib.hid c2
  have hlt : ∀ j, j < n → ∀ bm, bs.getD j none = some bm → bm < w1.heap.size := fun j hj bm e => by
    obtain ⟨bm', h1, h2, _⟩ := hM j hj
    rw [h1] at e; injection e with e; subst e; exact h2.lt
  have Hlt := Lib.hid hlt
  obtain ⟨W1, r1, ht1, k1⟩ := lit6 w2 n 0 1 (WalkArith.wf_i64 (by omega)) (WalkArith.wf_i64 (by omega)) (by omega)
  have hb3 : Below w2.heap.size w2 W1 := ((Below.refl _ _).alloc (Nat.le_refl _) (.map #[] 0)).grown k1 (by simp) (fun j hj => by cases hj; exact Nat.le_refl _)
  have HT1 : Hid (TV W1 w2.heap.size 1000 n (rwI W s n 0)) := Lib.hid (ht1.mono (by omega) (Nat.le_refl _))
  have Hb3 := Lib.hid hb3
  have hz1 := hb1.size
  clear hS hM hbl hb1 hb2 c2 hlt ht1 k1 hb3
  rw [hw2] at r1
  have r1' := r1
  rw [World.size_alloc] at r1
  rw [hz2] at HT1
  go_wp2
  clear r1 r1' hmm
  go_loopw [8, 15] (fun m i wr => ∃ t bt : Nat, t ≤ T ∧ i = .int .i64 (t : Int) ∧ m = .map (some bt) ∧ Hid (TV wr bt 1000 n (rwI W s n t)) ∧ w1.heap.size < bt ∧ Hid (Below w2.heap.size w2 wr)) (fun _ i _ => T - (intOf i).toNat)
  case atStart => exact ⟨0, w1.heap.size + 1, Nat.zero_le _, rfl, rfl, HT1, by omega, Hb3⟩
  case round =>
    obtain ⟨t, bt, ht, rfl, rfl, htv, hbt, hb⟩ := hrel
    have hszr := hb.out.size
    by_cases hlt : t < T
    · have hMr := HM.out.later hb.out
      have hSr := HS.out.later hb.out
      have cr := (hb.out.cell (by show w1.heap.size < _; omega)).trans C2.out
      have HO := Lib.hid (onward_any 51 #[] #[.pointer (some ⟨w1.heap.size, 0, none⟩)] bt 1000 n (n + 1) (rwI W s n t) (fun k => mvI W k s) wr htv.out (by omega) (by omega)
        (fun k _ x => Int.mul_nonneg (Hnn.out t _) (Hmv.out k x).1)
        (fun x => by
          have h1 := (Hnx.out t x).2
          have h2 := Int.mul_le_mul_of_nonneg_right (Htot.out t) (show (0 : Int) ≤ s by omega)
          have h3 : pwI s t * s ≤ _ := HB.out (t + 1) (by omega)
          omega)
        (run_enter Try.func51 (by kernel_rfl) (by kernel_rfl))
        (fun st w' hst hbz => (clo_coming W s n st w1.heap.size w.heap.size w.heap.size hi' bs w' Hn.out hst n2 (hSr.later hbz) Hbl.out (hMr.later hbz) (cell_keep hbz cr)).mono fun e z ⟨bm, q1, q2, q3, q4⟩ => ⟨bm, q1, q4 ▸ q3, .inr ⟨by have := Hlt.out st hst bm q2; omega, by have := Hlt.out st hst bm q2; omega⟩, q4 ▸ Below.refl _ _⟩))
      clear hMr hSr cr
      go_wp2_with fail
      refine (HO.out).mono ?_
      rintro e w8 ⟨bn, rfl, ht8, hbn, hb8⟩
      obtain ⟨D, hown, hat, hks⟩ := ht8
      have Hat := Lib.hid hat
      have Hks := Lib.hid hks
      have Hb8 := Lib.hid (hb.out.trans (hb8.mono hb.out.size))
      have hz8 := hb8.size
      have hw0 : (Lit.int .i64 (n : Int)).wf = true := WalkArith.wf_i64 (by omega)
      clear hat hks hb8 HO
      go_wp2_with (at_delete; refine wpList_delete_own _ rfl _ _ 53 2 rfl 2 lawI Try.underlying53 _ bn (n + 1) D rfl hown _ _ rfl (keyOf_int_mk Try.underlying2 hw0) ?_; intro w5 hown5 hturn)
      have hon := turned_only hturn
      have htv5 := TV.cutN hown5 Hat.out Hks.out rfl
      have Htv5 : Hid (TV w5 bn 1000 n (rwI W s n (t + 1))) := Lib.hid (by rw [Hsu.out]; exact htv5.mono (by omega) (Nat.le_refl _))
      have Hb5 := Lib.hid (Below.only Hb8.out hon (by omega))
      clear hon htv5 hturn hown hown5
      go_wp2
      go_roundw
      case rel => exact ⟨t + 1, bn, by omega, by go_num, rfl, Htv5, by omega, Hb5⟩
      case measure => simp [intOf]; omega
    · obtain rfl : t = T := by omega
      have Hall := Lib.hid (all_any bt 1000 n (rwI W s n t) wr htv.out (Nat.le_refl _) (by omega) (fun k _ => Hnn.out t _) (by
        have h1 := Htot.out t
        have h2 := HB.out t (Nat.le_refl _)
        omega))
      go_wp2_with fail
      refine (Hall.out).mono ?_
      rintro e w9 ⟨rfl, hb9⟩
      have Hb9 := Lib.hid (Hb2.out.trans ((hb.out.trans (hb9.mono hszr)).mono (by omega)))
      clear hb9
      go_wp2
      go_ret
      exact ⟨rfl, Hb9.out⟩
end Go.Proofs.Yticocfoheenmdaa
