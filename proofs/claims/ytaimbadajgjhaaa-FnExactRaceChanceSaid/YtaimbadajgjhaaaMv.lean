/- Contracts: sums of dice, the program: all sums; greatest faces; sums of lists; how many rows. -/
import Derived.Test.YtaimbadajgjhaaaMu
set_option linter.unusedVariables false
namespace Go.Proofs.Ytaimbadajgjhaaa
open Go.RowKit Go.Maps

theorem wayF_top (ds : List (List Int)) (h6 : ds.length ≤ 6) (h : ∀ k, k < ds.length → dieB (ds.getD k []) = true) (j : Nat) (hj : j ≤ ds.length) (k : Int) : wayF ds j k ≤ 2985984 := by
  by_cases e : k < 0 ∨ (topN ds j : Int) ≤ k
  · rw [wayF_out ds h j hj k e]; omega
  · have := wayF_le ds h6 h j hj k.toNat (by omega)
    rwa [Int.toNat_of_nonneg (by omega)] at this
set_option maxRecDepth 100000 in
set_option maxHeartbeats 4000000 in
theorem sums_impl (ds : List (List Int)) (v : Value) (w : World) (hb : diceB ds = true) (h : SlD w v ds) :
    Calls Try.prog 59 #[v] w fun e w' => ∃ bm, e = .returned (.map (some bm)) ∧ TV w' bm (topN ds ds.length) (topN ds ds.length) (wayF ds ds.length) ∧ Below w.heap.size w w' := by
  obtain ⟨p, cap, rfl, hf⟩ := h
  have Hf := Lib.hid hf
  clear hf
  obtain ⟨h1, h6, hd⟩ := diceB_at hb
  have HD := Lib.hid hd
  have HT := Lib.hid (topN_le ds hd)
  have HW := Lib.hid (wayF_top ds h6 hd)
  have Hnn := Lib.hid (wayF_nonneg ds)
  have Htop := Lib.hid (fun j => show topN ds (j + 1) = topN ds j + lastF (ds.getD j []) from rfl)
  have Hway := Lib.hid (fun j k => show wayF ds (j + 1) k = sumA (fun s => wayF ds j (s : Int) * faceM (ds.getD j []) s (ds.getD j []).length k) (topN ds j) from rfl)
  obtain ⟨W1, r1, ht1, k1⟩ := lit5 w 1 0 1 (WalkArith.wf_i64 (by omega)) (WalkArith.wf_i64 (by omega)) (by omega)
  have hb1 : Below w.heap.size w W1 := ((Below.refl _ w).alloc (Nat.le_refl _) (.map #[] 0)).grown k1 (by simp) (fun j hj => by cases hj; exact Nat.le_refl _)
  have Hb1 := Lib.hid hb1
  have Ht1 := Lib.hid (ht1.congr (g := wayF ds 0) (fun k => by unfold upd; rfl))
  have hmm := @run_makeMap Try.prog
  clear ht1 k1 hb1 hd hb
  obtain ⟨n, hn1⟩ : ∃ n, n = ds.length := ⟨_, rfl⟩
  rw [← hn1] at h1 h6 Hf HD HT HW
  rw [← hn1]
  clear hn1
  go_enter Try.func59, Try.ntmps59
  go_wp2
  clear r1 hmm
  go_loopw [3, 10] (fun m i wr => ∃ j bm : Nat, j ≤ n ∧ i = .int .i64 (j : Int) ∧ m = .map (some bm) ∧ Hid (TV wr bm (topN ds j) (topN ds j) (wayF ds j)) ∧ Hid (Below w.heap.size w wr)) (fun _ i _ => n - (intOf i).toNat)
  case atStart => exact ⟨0, _, Nat.zero_le _, rfl, rfl, Lib.hid Ht1.out, Hb1⟩
  case round =>
    obtain ⟨j, bm, hj, rfl, rfl, htv, hbw⟩ := hrel
    have hsz := hbw.out.size
    by_cases hlt : j < n
    · obtain ⟨hcap, b, off, rfl, hbs, hcell⟩ := Hf.out (by omega)
      obtain ⟨s, g1, g2⟩ := hcell j hlt
      have c1 := cell_keep hbw.out g1
      have G2 := g2.later hbw.out
      obtain ⟨ps, cs, rfl, -⟩ := g2
      have hdie := HD.out j hlt
      have htop := Htop.out j
      have ht0 := HT.out j hj
      have hway := Lib.hid (Hway.out j)
      have hws := Lib.hid (HW.out (j + 1) (by omega))
      clear hcell g1
      generalize ds.getD j [] = fj at *
      have hbl := (Below.refl wr.heap.size wr).alloc (Nat.le_refl _) (.cells #[.slice ps fj.length cs] 27)
      have b5 := Boxed.new wr 27 (.slice ps fj.length cs)
      have G3 := G2.later hbl
      have Hal := Lib.hid (hbw.out.alloc hsz (.cells #[.slice ps fj.length cs] 27))
      generalize hW : wr.alloc (.cells #[.slice ps fj.length cs] 27) = W at *
      have HWW := Lib.hid hW
      have HO := Lib.hid (onward_any 98 #[] #[.pointer (some ⟨wr.heap.size, 0, none⟩)] bm (topN ds j) (topN ds j) (topN ds (j + 1)) (wayF ds j) (fun s k => faceM fj s fj.length k) W (htv.out.later hbl) (by omega) (by omega)
        (fun s hs k => Int.mul_nonneg (Hnn.out j s) (faceM_bd fj s _ k).1) (fun k => by rw [← hway.out k]; have := hws.out k; omega)
        (run_enter Try.func98 (by kernel_rfl) (by kernel_rfl))
        (fun s w' hs hbz => (clo_sums fj (.slice ps fj.length cs) wr.heap.size s (topN ds (j + 1)) w' hdie (by omega) (fun i hi => by have := face_last fj hdie i hi; omega) (cell_keep hbz b5.cell) (G3.later hbz)).mono fun e z ⟨bq, q1, q2, q3, q4⟩ => ⟨bq, q1, q2, .inl q3, q4⟩))
      clear hW hbl b5 G3 G2 hws
      go_wp2_with fail
      rw [HWW.out]
      refine (HO.out).mono ?_
      rintro e w4 ⟨bn, rfl, ht4, hb4, hb⟩
      have Ht4 := Lib.hid (ht4.congr (g := wayF ds (j + 1)) (fun k => (hway.out k).symm))
      have Hb4 := Lib.hid (below_step Hal.out hb (Nat.le_refl _))
      clear ht4 hb
      go_wp2
      go_roundw
      case rel => exact ⟨j + 1, bn, by omega, by go_num, rfl, Ht4, Hb4⟩
      case measure => simp [intOf]; omega
    · obtain rfl : j = n := by omega
      go_wp2
      go_ret
      exact ⟨_, rfl, htv.out, hbw.out⟩

/-- the sum of the first k numbers -/
def sumL (fs : List Int) : Nat → Int
  | 0 => 0
  | k + 1 => sumL fs k + fs.getD k 0
set_option maxHeartbeats 1000000 in
theorem sumOf_any (fs : List Int) (v : Value) (w : World) (hn : fs.length ≤ 1048576) (hbd : ∀ k, k ≤ fs.length → -9223372036854775808 ≤ sumL fs k ∧ sumL fs k ≤ 9223372036854775807) (h : Sl (Value.int .i64) 0 w v fs) :
    Calls Try.prog 61 #[v] w fun e w' => e = .returned (.int .i64 (sumL fs fs.length)) ∧ Drawn w w' := by
  obtain ⟨q, cap, rfl, hf⟩ := h
  have Hf := Lib.hid hf
  clear hf
  have Hbd := Lib.hid hbd
  have Hst := Lib.hid (fun k => show sumL fs (k + 1) = sumL fs k + fs.getD k 0 from rfl)
  clear hbd
  obtain ⟨n, hn1⟩ : ∃ n, n = fs.length := ⟨_, rfl⟩
  rw [← hn1] at hn Hf Hbd
  rw [← hn1]
  clear hn1
  go_enter Try.func61, Try.ntmps61
  go_wp2
  go_loopw [3, 8] (fun c i wr => ∃ k : Nat, k ≤ n ∧ i = .int .i64 (k : Int) ∧ c = .int .i64 (sumL fs k) ∧ Drawn w wr) (fun _ i _ => n - (intOf i).toNat)
  case atStart => exact ⟨0, Nat.zero_le _, rfl, rfl, Drawn.refl _⟩
  case round =>
    obtain ⟨k, hk, rfl, rfl, hw⟩ := hrel
    by_cases hlt : k < n
    · obtain ⟨hcap, b, off, rfl, hbs, hcell⟩ := Hf.out (by omega)
      have c1 := (hw.cell _).trans (hcell k hlt)
      have hst := Hst.out k
      have hb1 := Hbd.out (k + 1) (by omega)
      rw [hst] at hb1
      have Hst2 := Lib.hid hst
      obtain ⟨m0, m1⟩ := hb1
      clear hcell hst
      generalize fs.getD k 0 = x at *
      generalize sumL fs k = S at *
      go_wp2
      go_roundw
      case rel => exact ⟨k + 1, by omega, by go_num, by rw [Hst2.out], hw⟩
      case measure => simp [intOf]; omega
    · obtain rfl : k = n := by omega
      go_wp2
      go_ret
      exact ⟨rfl, hw⟩
end Go.Proofs.Ytaimbadajgjhaaa
