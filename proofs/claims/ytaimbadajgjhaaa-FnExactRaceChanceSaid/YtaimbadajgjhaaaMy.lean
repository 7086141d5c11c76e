/- Contracts: SumCounts, the model, whole; SameSums, in both texts. -/
import Derived.Test.YtaimbadajgjhaaaMx
import Derived.Test.YtaimbadajgjhaaaMf
set_option linter.unusedVariables false
namespace Go.Proofs.Ytaimbadajgjhaaa
open Go.RowKit

theorem sumL_tab (n : Nat) (g : Nat → Int) : ∀ k, k ≤ n → sumL (tab n g) k = sumA g k
  | 0, _ => rfl
  | k + 1, hk => by rw [sumL, sumL_tab n g k (by omega), tab_get _ _ _ (by omega)]; rfl
set_option maxHeartbeats 1000000 in
theorem sumS_any (fs : List Int) (v : Value) (w : World) (hn : fs.length ≤ 1048576) (hbd : ∀ k, k ≤ fs.length → -9223372036854775808 ≤ sumL fs k ∧ sumL fs k ≤ 9223372036854775807) (h : Sl (Value.int .i64) 0 w v fs) :
    Calls Try.prog 57 #[v] w fun e w' => e = .returned (.int .i64 (sumL fs fs.length)) ∧ Drawn w w' := by
  obtain ⟨q, cap, rfl, hf⟩ := h
  have Hf := Lib.hid hf
  clear hf
  have Hbd := Lib.hid hbd
  have Hst := Lib.hid (fun k => show sumL fs (k + 1) = sumL fs k + fs.getD k 0 from rfl)
  clear hbd
  obtain ⟨n, hn1⟩ : ∃ n, n = fs.length := ⟨_, rfl⟩
  rw [← hn1] at hn Hf Hbd
  rw [← hn1]
  clear hn1
  go_enter Try.func57, Try.ntmps57
  go_wp2
  go_loopw [3, 7] (fun c i wr => ∃ k : Nat, k ≤ n ∧ i = .int .i64 (k : Int) ∧ c = .int .i64 (sumL fs k) ∧ Drawn w wr) (fun _ i _ => n - (intOf i).toNat)
  case atStart => exact ⟨0, Nat.zero_le _, rfl, rfl, Drawn.refl _⟩
  case round =>
    obtain ⟨k, hk, rfl, rfl, hw⟩ := hrel
    by_cases hlt : k < n
    · obtain ⟨hcap, b, off, rfl, hbs, hcell⟩ := Hf.out (by omega)
      have c1 := (hw.cell _).trans (hcell k hlt)
      have hst := Hst.out k
      have hb1 := Hbd.out (k + 1) (by omega)
      rw [hst] at hb1
      have Hst2 := Lib.hid hst
      obtain ⟨m0, m1⟩ := hb1
      clear hcell hst
      generalize fs.getD k 0 = x at *
      generalize sumL fs k = S at *
      go_wp2
      go_roundw
      case rel => exact ⟨k + 1, by omega, by go_num, by rw [Hst2.out], hw⟩
      case measure => simp [intOf]; omega
    · obtain rfl : k = n := by omega
      go_wp2
      go_ret
      exact ⟨rfl, hw⟩
set_option maxHeartbeats 4000000 in
theorem spec_SumCounts (ds : List (List Int)) (v : Value) (w : World) (hn : ds.length ≤ 1048576) (hm : totD ds ds.length ≤ 1048576) (h : SlD w v ds) :
    Calls Try.prog 21 #[v] w fun e w' => ∃ r, e = .returned (.tuple #[r, .int .i64 (res2_SumCounts ds), .bool (ok_SumCounts ds)]) ∧ Sw (Value.int .i64) 0 w' r (res_SumCounts ds) w.heap.size w'.heap.size ∧ Below w.heap.size w w' := by
  have Hv := Lib.hid (diceS_any ds v w hn hm h)
  have Hs := Lib.hid (fun hb z (hz : Below w.heap.size w z) => counts_spec ds v z hb (h.later hz))
  unfold res_SumCounts res2_SumCounts ok_SumCounts
  obtain ⟨q, cap, rfl, -⟩ := h
  cases hb : diceB ds
  · rw [hb] at Hv
    rw [if_neg Bool.false_ne_true, if_neg Bool.false_ne_true]
    clear hb hm hn Hs
    generalize ds.length = n at *
    go_enter Try.func21, Try.ntmps21
    go_wp2_with fail
    refine (Hv.out).mono ?_
    rintro e w2 ⟨rfl, hd⟩
    have Hd := Lib.hid (hd.below w.heap.size)
    clear hd
    go_wp2
    go_ret3
    exact ⟨_, rfl, Sw.nil _ _ _ _ _ _ _, Hd.out⟩
  · rw [hb] at Hv
    rw [if_pos rfl, if_pos rfl]
    obtain ⟨h1, h6, hd⟩ := diceB_at hb
    have hT := topN_le ds hd ds.length (Nat.le_refl _)
    have hall := (all_le ds hb).1
    have Hs2 := Lib.hid (Hs.out hb)
    have hnn := wayF_nonneg ds ds.length
    have HL := Lib.hid (fun z r lo hi (h : Sw (Value.int .i64) 0 z r (tab (topN ds ds.length) fun k => wayF ds ds.length (k : Int)) lo hi) => sumS_any (tab (topN ds ds.length) fun k => wayF ds ds.length (k : Int)) r z (by rw [tab_len]; omega) (fun k hk => by
      rw [tab_len] at hk
      rw [sumL_tab _ _ k hk]
      have h2 := sA_nonneg (g := fun s => wayF ds ds.length (s : Int)) k (fun s _ => hnn s)
      have h3 := sA_mono (g := fun s => wayF ds ds.length (s : Int)) k (topN ds ds.length - k) (fun s _ => hnn s)
      rw [show k + (topN ds ds.length - k) = topN ds ds.length by omega] at h3
      omega) h.sl)
    have hLc : sumL (tab (topN ds ds.length) fun k => wayF ds ds.length (k : Int)) (tab (topN ds ds.length) fun k => wayF ds ds.length (k : Int)).length = sumA (fun s => wayF ds ds.length (s : Int)) (topN ds ds.length) := by rw [tab_len, sumL_tab _ _ _ (Nat.le_refl _)]
    rw [hLc] at HL
    clear hLc Hs hall hd hb hm hn hnn hT
    generalize sumA (fun s => wayF ds ds.length (s : Int)) (topN ds ds.length) = A at *
    generalize (tab (topN ds ds.length) fun k => wayF ds ds.length (k : Int)) = RR at *
    generalize ds.length = n at *
    go_enter Try.func21, Try.ntmps21
    go_wp2_with fail
    refine (Hv.out).mono ?_
    rintro e w2 ⟨rfl, hd⟩
    have Hd := Lib.hid (hd.below w.heap.size)
    clear hd
    go_wp2_with fail
    refine (Hs2.out _ Hd.out).mono ?_
    rintro e w3 ⟨r, rfl, hs, hd⟩
    have Hs3 := Lib.hid hs
    have Hd3 := Lib.hid (below_step Hd.out hd (Nat.le_refl _))
    have hsz := Hd.out.size
    clear hd hs
    go_wp2_with fail
    refine (HL.out _ _ _ _ Hs3.out).mono ?_
    rintro e w4 ⟨rfl, hd⟩
    have Hs4 := Lib.hid ((Hs3.out.drawn hd).mono hsz (hd.below 0).size (Nat.le_refl _))
    have Hd4 := Lib.hid (Hd3.out.trans (hd.below _))
    clear hd
    go_wp2
    go_ret3
    exact ⟨_, rfl, Hs4.out, Hd4.out⟩
def ok_SameSums (es ks : List (List Int)) : Bool := diceB es && diceB ks
def res_SameSums (es ks : List (List Int)) : Bool := (diceB es && diceB ks) && decide (res_SumCounts es = res_SumCounts ks)
theorem ret_two5 {a b a' b' : Bool} (h1 : b = b') (h2 : a = a') : Ending.returned (.tuple #[.bool a, .bool b]) = .returned (.tuple #[.bool a', .bool b']) := by rw [h1, h2]
set_option maxHeartbeats 4000000 in
theorem impl_SameSums (es : List (List Int)) (v : Value) (ks : List (List Int)) (u : Value) (w : World) (hn : es.length ≤ 1048576) (hm : totD es es.length ≤ 1048576) (h : SlD w v es) (kn : ks.length ≤ 1048576) (km : totD ks ks.length ≤ 1048576) (g : SlD w u ks) :
    Calls Try.prog 30 #[v, u] w fun e w' => e = .returned (.tuple #[.bool (res_SameSums es ks), .bool (ok_SameSums es ks)]) ∧ Below w.heap.size w w' := by
  have H1 := Lib.hid (impl_SumCounts es v w hn hm h)
  have H2 := Lib.hid (fun z (hz : Below w.heap.size w z) => impl_SumCounts ks u z kn km (g.later hz))
  have H3 := Lib.hid (fun z r1 r2 lo1 hi1 lo2 hi2 (h1 : Sw (Value.int .i64) 0 z r1 (res_SumCounts es) lo1 hi1) (h2 : Sw (Value.int .i64) 0 z r2 (res_SumCounts ks) lo2 hi2) => eqS_any (res_SumCounts es) (res_SumCounts ks) r1 r2 z (len_SumCounts es) (len_SumCounts ks) h1.sl h2.sl)
  unfold res_SameSums ok_SameSums
  unfold ok_SumCounts at H1 H2
  clear h g hm km hn kn
  generalize decide (res_SumCounts es = res_SumCounts ks) = R at *
  generalize res_SumCounts es = ra at *
  generalize res_SumCounts ks = rb at *
  generalize res2_SumCounts es = sa at *
  generalize res2_SumCounts ks = sb at *
  generalize diceB es = da at *
  generalize diceB ks = db at *
  go_enter Try.func30, Try.ntmps30
  go_wp2_with fail
  refine (H1.out).mono ?_
  rintro e w2 ⟨r1, rfl, hs, hd⟩
  have Hd := Lib.hid hd
  have Hs := Lib.hid hs
  clear hd hs
  cases da
  · go_wp2
    go_ret2
    exact ⟨rfl, Hd.out⟩
  · go_wp2_with fail
    refine (H2.out _ Hd.out).mono ?_
    rintro e w3 ⟨r2, rfl, hs, hd⟩
    have Hd3 := Lib.hid (below_step Hd.out hd (Nat.le_refl _))
    have Hs3 := Lib.hid (Hs.out.later hd)
    have Ht3 := Lib.hid hs
    clear hd hs
    cases db
    · go_wp2
      go_ret2
      exact ⟨rfl, Hd3.out⟩
    · go_wp2_with fail
      refine (H3.out _ _ _ _ _ _ _ Hs3.out Ht3.out).mono ?_
      rintro e w4 ⟨rfl, hd⟩
      have Hd4 := Lib.hid (Hd3.out.trans (hd.below _))
      clear hd
      go_wp2
      go_ret2
      exact ⟨ret_two5 rfl (by simp), Hd4.out⟩
set_option maxHeartbeats 4000000 in
theorem spec_SameSums (es : List (List Int)) (v : Value) (ks : List (List Int)) (u : Value) (w : World) (hn : es.length ≤ 1048576) (hm : totD es es.length ≤ 1048576) (h : SlD w v es) (kn : ks.length ≤ 1048576) (km : totD ks ks.length ≤ 1048576) (g : SlD w u ks) :
    Calls Try.prog 29 #[v, u] w fun e w' => e = .returned (.tuple #[.bool (res_SameSums es ks), .bool (ok_SameSums es ks)]) ∧ Below w.heap.size w w' := by
  have H1 := Lib.hid (diceS_any es v w hn hm h)
  have H2 := Lib.hid (fun z (hz : Below w.heap.size w z) => diceS_any ks u z kn km (g.later hz))
  have H4 := Lib.hid (fun hb z (hz : Below w.heap.size w z) => counts_spec es v z hb (h.later hz))
  have H5 := Lib.hid (fun hb z (hz : Below w.heap.size w z) => counts_spec ks u z hb (g.later hz))
  have H3 := Lib.hid (fun z r1 r2 lo1 hi1 lo2 hi2 (h1 : Sw (Value.int .i64) 0 z r1 (res_SumCounts es) lo1 hi1) (h2 : Sw (Value.int .i64) 0 z r2 (res_SumCounts ks) lo2 hi2) => sameZ_any (res_SumCounts es) (res_SumCounts ks) r1 r2 z (len_SumCounts es) (len_SumCounts ks) h1.sl h2.sl)
  have Ea : diceB es = true → res_SumCounts es = tab (topN es es.length) (fun k => wayF es es.length (k : Int)) := fun h => by unfold res_SumCounts; rw [if_pos h]
  have Eb : diceB ks = true → res_SumCounts ks = tab (topN ks ks.length) (fun k => wayF ks ks.length (k : Int)) := fun h => by unfold res_SumCounts; rw [if_pos h]
  unfold res_SameSums ok_SameSums
  clear h g hm km hn kn
  cases ha : diceB es
  · rw [ha] at H1
    clear Ea Eb H2 H3 H4 H5 ha
    generalize decide (res_SumCounts es = res_SumCounts ks) = R at *
    go_enter Try.func29, Try.ntmps29
    go_wp2_with fail
    refine (H1.out).mono ?_
    rintro e w2 ⟨rfl, hd⟩
    have Hd := Lib.hid (hd.below w.heap.size)
    clear hd
    go_wp2
    go_ret2
    exact ⟨rfl, Hd.out⟩
  · rw [ha] at H1
    cases hb : diceB ks
    · rw [hb] at H2
      clear Ea Eb H3 H4 H5 ha hb
      generalize decide (res_SumCounts es = res_SumCounts ks) = R at *
      go_enter Try.func29, Try.ntmps29
      go_wp2_with fail
      refine (H1.out).mono ?_
      rintro e w2 ⟨rfl, hd⟩
      have Hd := Lib.hid (hd.below w.heap.size)
      clear hd
      go_wp2_with fail
      refine (H2.out _ Hd.out).mono ?_
      rintro e w3 ⟨rfl, hd⟩
      have Hd3 := Lib.hid (Hd.out.trans (hd.below w.heap.size))
      clear hd
      go_wp2
      go_ret2
      exact ⟨rfl, Hd3.out⟩
    · rw [hb] at H2
      have H4' := Lib.hid (H4.out ha)
      have H5' := Lib.hid (H5.out hb)
      rw [← Ea ha] at H4'
      rw [← Eb hb] at H5'
      clear Ea Eb H4 H5 ha hb
      generalize decide (res_SumCounts es = res_SumCounts ks) = R at *
      generalize res_SumCounts es = ra at *
      generalize res_SumCounts ks = rb at *
      go_enter Try.func29, Try.ntmps29
      go_wp2_with fail
      refine (H1.out).mono ?_
      rintro e w2 ⟨rfl, hd⟩
      have Hd := Lib.hid (hd.below w.heap.size)
      clear hd
      go_wp2_with fail
      refine (H2.out _ Hd.out).mono ?_
      rintro e w3 ⟨rfl, hd⟩
      have Hd3 := Lib.hid (Hd.out.trans (hd.below w.heap.size))
      clear hd
      go_wp2_with fail
      refine (H4'.out _ Hd3.out).mono ?_
      rintro e w4 ⟨r1, rfl, hs, hd⟩
      have Hd4 := Lib.hid (below_step Hd3.out hd (Nat.le_refl _))
      have Hs4 := Lib.hid hs
      clear hd hs
      go_wp2_with fail
      refine (H5'.out _ Hd4.out).mono ?_
      rintro e w5 ⟨r2, rfl, hs, hd⟩
      have Hd5 := Lib.hid (below_step Hd4.out hd (Nat.le_refl _))
      have Hs5 := Lib.hid (Hs4.out.later hd)
      have Ht5 := Lib.hid hs
      clear hd hs
      go_wp2_with fail
      refine (H3.out _ _ _ _ _ _ _ Hs5.out Ht5.out).mono ?_
      rintro e w6 ⟨rfl, hd⟩
      have Hd6 := Lib.hid (Hd5.out.trans (hd.below _))
      clear hd
      go_wp2
      go_ret2
      exact ⟨ret_two5 rfl (by simp), Hd6.out⟩
end Go.Proofs.Ytaimbadajgjhaaa
