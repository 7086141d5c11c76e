/- Contracts: how many rows a tally has; the greatest faces; SumCounts, the program. -/
import Derived.Test.YtaimbadajgjhaaaMv
set_option linter.unusedVariables false
namespace Go.Proofs.Ytaimbadajgjhaaa
open Go.RowKit Go.Maps

set_option maxRecDepth 100000 in
set_option maxHeartbeats 4000000 in
theorem all_any (bt n0 N : Nat) (f : Int → Int) (w : World) (ht : TV w bt n0 N f) (hn0 : n0 ≤ 1000) (hN : N ≤ 1000) (hf : ∀ s, s < N → 0 ≤ f (s : Int)) (hs : sumA (fun s => f (s : Int)) N ≤ 4611686018427387904) :
    Calls Try.prog 63 #[.map (some bt)] w fun e w' => e = .returned (.int .i64 (sumA (fun s => f (s : Int)) N)) ∧ Below w.heap.size w w' := by
  obtain ⟨D0, hown, hat0, hks⟩ := ht
  have hsz0 := size_le hown
  have Hf := Lib.hid hf
  have Hs := Lib.hid hs
  have Hat0 := Lib.hid hat0
  have Hks := Lib.hid (fun k hk => keys_in hks k hk)
  clear hat0 hks hf hs
  have hbl := hown.lt
  go_enter Try.func63, Try.ntmps63
  go_wp2_with (first
    | (at_range; refine wpList_range_own _ rfl _ 69 rfl 2 2 lawI Try.underlying69 _ bt n0 _ rfl hown ?_; intro w0 hrg0 hg0 hs0)
    | go_in)
  go_frame
  go_loopw [3, 8] (fun c _ wr => ∃ (left : Lit → Bool) (cnt : Nat), wr.ranges Try.prog 2 (plainElem (H := Unit) Try.prog 2) bt w.heap.size n0 D0 left cnt ∧ cnt ≤ 1000 ∧ (∀ kl, left kl = true → Maps.has D0 kl = true) ∧
      c = .int .i64 (sumD (fun s => f (s : Int)) (fun s => Maps.has D0 (.int .i64 (s : Int)) && !left (.int .i64 (s : Int))) N) ∧ Hid (Below w.heap.size w wr))
    (fun _ _ wr => wr.rangeLeft bt w.heap.size)
  case atStart =>
    refine ⟨_, _, hrg0, by omega, fun kl h => h, ?_, Lib.hid ((Below.refl _ w).grown hg0 (Nat.le_refl _) (fun j hj => by cases hj))⟩
    rw [sumD_none _ _ _ (fun s _ => by simp)]
  case round =>
    obtain ⟨left, cnt, hrg, hcn, hlh, rfl, hnx⟩ := hrel
    go_wp2_with (first
      | (at_next; refine wpList_next_ranges_ii _ rfl _ rfl 2 2 .i64 .i64 lawI Try.underlying2 Try.underlying2 bt w.heap.size n0 _ _ _ rfl hrg ?_ ?_)
      | go_in)
    · intro hc0 hl0
      have E : Hid (sumD (fun s => f (s : Int)) (fun s => Maps.has D0 (.int .i64 (s : Int)) && !left (.int .i64 (s : Int))) N = sumA (fun s => f (s : Int)) N) := Lib.hid (sumD_all _ _ _ fun s hs hd => by
        rw [hl0, Bool.not_false, Bool.and_true] at hd
        have h1 := Hat0.out (s : Int)
        rw [Maps.atKey_of_not_has hd] at h1
        injection h1 with h1
        injection h1 with _ h1
        exact h1.symm)
      go_wp2
      go_ret
      exact ⟨ret_int E.out, hnx.out⟩
    · intro x c w1 cnt1 hwx hwc hlx hat hrg1 hlt hg1 hs1 hen
      obtain ⟨x0, x1⟩ := Hks.out x (hlh _ hlx)
      obtain ⟨s, rfl⟩ : ∃ s : Nat, x = s := ⟨x.toNat, by omega⟩
      have hcf : c = f (s : Int) := by
        have h1 := Hat0.out (s : Int)
        rw [hat] at h1
        injection h1 with h1
        injection h1
      have hnx1 := Lib.hid (hnx.out.grown hg1 hnx.out.size (fun j hj => by cases hj; omega))
      have hone := sumD_one (fun s => f (s : Int)) (fun s => Maps.has D0 (.int .i64 (s : Int)) && !left (.int .i64 (s : Int))) (fun s' => Maps.has D0 (.int .i64 (s' : Int)) && !(left (.int .i64 (s' : Int)) && !(Lit.int .i64 (s' : Int)).sameKey (.int .i64 (s : Int)))) N s (by omega) (by rw [hlx]; simp) (by rw [hlh _ hlx]; simp [Lit.sameKey]) (fun s' hs' hne => by
        have : (Lit.int .i64 (s' : Int)).sameKey (.int .i64 (s : Int)) = false := Maps.sameKey_ne (int_ne (by omega))
        rw [this]; simp)
      have hb0 := (sumD_le (fun s => f (s : Int)) (fun s => Maps.has D0 (.int .i64 (s : Int)) && !left (.int .i64 (s : Int))) N (fun s hs => Hf.out s hs)).1
      have hb1 := (sumD_le (fun s => f (s : Int)) (fun s' => Maps.has D0 (.int .i64 (s' : Int)) && !(left (.int .i64 (s' : Int)) && !(Lit.int .i64 (s' : Int)).sameKey (.int .i64 (s : Int)))) N (fun s hs => Hf.out s hs)).2
      rw [hone] at hb1
      have hb2 := Hs.out
      have hfs := Hf.out s (by omega)
      rw [← hcf] at hb1 hone hfs
      have Hone := Lib.hid hone
      have Hrg1 := Lib.hid hrg1
      clear hone hcf hrg1
      generalize sumD (fun s => f (s : Int)) (fun s => Maps.has D0 (.int .i64 (s : Int)) && !left (.int .i64 (s : Int))) N = X at *
      have htop := Int.le_trans hb1 hb2
      clear hb1 hb2
      go_wp2
      go_roundw
      case rel =>
        exact ⟨_, cnt1, Hrg1.out, by omega, fun kl h => hlh kl (by rw [Bool.and_eq_true] at h; exact h.1), by rw [Hone.out], hnx1⟩
      case measure => rw [Hrg1.out.left_eq, hrg.left_eq]; exact hlt
set_option maxRecDepth 100000 in
set_option maxHeartbeats 4000000 in
theorem greatest_any (ds : List (List Int)) (v : Value) (w : World) (hb : diceB ds = true) (h : SlD w v ds) :
    Calls Try.prog 62 #[v] w fun e w' => ∃ r, e = .returned r ∧ Sw (Value.int .i64) 0 w' r (tab ds.length fun i => (lastF (ds.getD i []) : Int)) w.heap.size w'.heap.size ∧ Below w.heap.size w w' := by
  obtain ⟨q, cap, rfl, hf⟩ := h
  have Hf := Lib.hid hf
  clear hf
  obtain ⟨h1, h6, hd⟩ := diceB_at hb
  have HD := Lib.hid hd
  clear hd hb
  obtain ⟨i0, hi, hz0, hz1, hz2⟩ := info_parts (show (Try.prog.info? 2).map (fun i => (i.zero, i.size, i.bytes)) = some (some (.int .i64 0), 1, 8) by kernel_rfl)
  obtain ⟨n, hn1⟩ : ∃ n, n = ds.length := ⟨_, rfl⟩
  rw [← hn1] at h1 h6 Hf HD
  rw [← hn1]
  clear hn1
  go_enter Try.func62, Try.ntmps62
  go_wp2_with (at_make; refine wpList_make_full _ rfl _ _ 22 rfl w.heap.size 2 i0 (.int .i64 0) 1 (by kernel_rfl) hi hz0 hz1 .i64 .i64 n n n rfl rfl rfl rfl (by rw [hz2]; omega) (by unfold maxLen; omega) (Nat.le_refl _) ?_; intro w1 hrow hgrow)
  have hbel : Below w.heap.size w w1 := (Below.refl _ w).grown hgrow (Nat.le_refl _) (by simp)
  have Hrow := Lib.hid hrow
  have Hbel := Lib.hid hbel
  clear hrow hbel hgrow
  go_loopw [11] (fun i wr => ∃ k : Nat, k ≤ n ∧ i = .int .i64 k ∧ Hid (wr.ownsRow w.heap.size 2 1 (.slice (some ⟨w.heap.size, 0, none⟩) n n) n ((filled n (fun i => (lastF (ds.getD i []) : Int)) k).map (Value.int .i64))) ∧ Hid (Below w.heap.size w wr)) (fun i _ => n - (intOf i).toNat)
  case atStart =>
    refine ⟨0, Nat.zero_le _, rfl, ?_, Hbel⟩
    have h0 := Hrow.out
    have e : (madeCells (Value.int .i64 0).cells (n * 1)).toList = (filled n (fun i => (lastF (ds.getD i []) : Int)) 0).map (Value.int .i64) := by
      rw [filled_zero, Nat.mul_one, List.map_replicate]
      exact made1 _ n
    rw [e] at h0
    exact Lib.hid h0
  case round =>
    obtain ⟨k, hk, rfl, hrow, hb⟩ := hrel
    have hsz := hb.out.size
    have hrlt := (hrow.out.lt _ rfl).2
    by_cases hlt : k < n
    · obtain ⟨hcap, b, off, rfl, hbs, hcell⟩ := Hf.out (by omega)
      obtain ⟨s, g1, g2⟩ := hcell k hlt
      have c1 := cell_keep hb.out g1
      obtain ⟨ps, cs, rfl, g3⟩ := g2
      have hdie := HD.out k hlt
      obtain ⟨l1, l12, la, -⟩ := dieB_at hdie
      obtain ⟨hcf, bf, of, rfl, hbf, hcc⟩ := g3 (by omega)
      obtain ⟨m, hm⟩ : ∃ m, m = (ds.getD k []).length - 1 := ⟨_, rfl⟩
      have c2 := cell_keep hb.out (hcc m (by omega))
      have hlast := (lastF_le _ hdie).2
      rw [← hm] at hlast
      have hm1 : ((ds.getD k []).length : Int) - 1 = (m : Int) := by omega
      have hml : m < (ds.getD k []).length := by omega
      rw [← hlast] at c2
      clear hcell g1 g3 hcc hlast la hdie hm
      have hbl := (Below.refl wr.heap.size wr).alloc (Nat.le_refl _) (.cells #[.slice (some ⟨bf, of, none⟩) (ds.getD k []).length cs] 27)
      have rowW := hrow.out.alloc (.cells #[.slice (some ⟨bf, of, none⟩) (ds.getD k []).length cs] 27)
      have Hal := Lib.hid (hb.out.alloc hsz (.cells #[.slice (some ⟨bf, of, none⟩) (ds.getD k []).length cs] 27))
      have c3 := rowW.cellAt k (by omega)
      rw [List.getElem?_map, filled_at n _ k hlt] at c3
      have c3' : (wr.alloc (.cells #[.slice (some ⟨bf, of, none⟩) (ds.getD k []).length cs] 27)).cell? ⟨w.heap.size, k, none⟩ = some (.int .i64 0) := c3
      have c4 := rowW.frozenAt k
      obtain ⟨hs1, _⟩ := hrow.out.stored k (.int .i64 (lastF (ds.getD k []) : Int))
      rw [← List.map_set, filled_set n (fun i => (lastF (ds.getD i []) : Int)) k hlt] at hs1
      have Hs1 := Lib.hid (hs1.alloc (.cells #[.slice (some ⟨bf, of, none⟩) (ds.getD k []).length cs] 27))
      have c5 := cell_keep hbl c2
      clear hs1 rowW c3 hbl
      generalize (ds.getD k []).length = L at *
      generalize lastF (ds.getD k []) = F at *
      go_wp2
      go_roundw
      case rel => exact ⟨k + 1, by omega, by go_num, Hs1, Lib.hid ((hb.out.setCell (Nat.le_refl _) _).alloc (by simpa using hsz) _)⟩
      case measure => simp [intOf]; omega
    · obtain rfl : k = n := by omega
      go_wp2
      go_ret
      have h0 := hrow.out
      rw [filled_done] at h0
      exact ⟨_, rfl, Sw.of_owns h0 (tab_len _ _), hb.out⟩

theorem last_sum (ds : List (List Int)) : ∀ k, k ≤ ds.length → sumL (tab ds.length fun i => (lastF (ds.getD i []) : Int)) k + 1 = (topN ds k : Int)
  | 0, _ => rfl
  | k + 1, hk => by
    have ih := last_sum ds k (by omega)
    rw [sumL, tab_get _ _ _ (by omega)]
    show _ = ((topN ds k + lastF (ds.getD k []) : Nat) : Int)
    omega
def ok_SumCounts (ds : List (List Int)) : Bool := diceB ds
def res_SumCounts (ds : List (List Int)) : List Int := if diceB ds = true then tab (topN ds ds.length) (fun k => wayF ds ds.length (k : Int)) else []
def res2_SumCounts (ds : List (List Int)) : Int := if diceB ds = true then sumA (fun s => wayF ds ds.length (s : Int)) (topN ds ds.length) else 0
theorem len_SumCounts (ds : List (List Int)) : (res_SumCounts ds).length ≤ 1048576 := by
  unfold res_SumCounts
  cases h : diceB ds
  · simp
  · rw [if_pos rfl, tab_len]
    obtain ⟨h1, h6, hd⟩ := diceB_at h
    have := (topN_le ds hd ds.length (Nat.le_refl _)).2
    omega
theorem all_le (ds : List (List Int)) (hb : diceB ds = true) : sumA (fun s => wayF ds ds.length (s : Int)) (topN ds ds.length) ≤ 2985984 ∧ 1 ≤ sumA (fun s => wayF ds ds.length (s : Int)) (topN ds ds.length) := by
  obtain ⟨h1, h6, hd⟩ := diceB_at hb
  have h2 := allW_bd ds hd ds.length (Nat.le_refl _)
  have h3 := pow12_6 ds.length h6
  have e : allW ds ds.length = sumA (fun s => wayF ds ds.length (s : Int)) (topN ds ds.length) := sA_congr _ fun k _ => Int.mul_one _
  omega
set_option maxHeartbeats 4000000 in
theorem impl_SumCounts (ds : List (List Int)) (v : Value) (w : World) (hn : ds.length ≤ 1048576) (hm : totD ds ds.length ≤ 1048576) (h : SlD w v ds) :
    Calls Try.prog 23 #[v] w fun e w' => ∃ r, e = .returned (.tuple #[r, .int .i64 (res2_SumCounts ds), .bool (ok_SumCounts ds)]) ∧ Sw (Value.int .i64) 0 w' r (res_SumCounts ds) w.heap.size w'.heap.size ∧ Below w.heap.size w w' := by
  have Hv := Lib.hid (areDice_any ds v w hn hm h)
  have Hs := Lib.hid (fun hb z (hz : Below w.heap.size w z) => sums_impl ds v z hb (h.later hz))
  have Hg := Lib.hid (fun hb z (hz : Below w.heap.size w z) => greatest_any ds v z hb (h.later hz))
  unfold res_SumCounts res2_SumCounts ok_SumCounts
  obtain ⟨q, cap, rfl, -⟩ := h
  cases hb : diceB ds
  · rw [hb] at Hv
    rw [if_neg Bool.false_ne_true, if_neg Bool.false_ne_true]
    clear hb hm hn Hs Hg
    generalize ds.length = n at *
    go_enter Try.func23, Try.ntmps23
    go_wp2_with fail
    refine (Hv.out).mono ?_
    rintro e w2 ⟨rfl, hd⟩
    have Hd := Lib.hid hd
    clear hd
    go_wp2
    go_ret3
    exact ⟨_, rfl, Sw.nil _ _ _ _ _ _ _, Hd.out⟩
  · rw [hb] at Hv
    rw [if_pos rfl, if_pos rfl]
    obtain ⟨h1, h6, hd⟩ := diceB_at hb
    have hT := topN_le ds hd ds.length (Nat.le_refl _)
    have hall := (all_le ds hb).1
    have Hs2 := Lib.hid (Hs.out hb)
    have Hg2 := Lib.hid (Hg.out hb)
    have Hl := Lib.hid (last_sum ds)
    have hl := last_sum ds ds.length (Nat.le_refl _)
    have HL := Lib.hid (fun z r lo hi (h : Sw (Value.int .i64) 0 z r (tab ds.length fun i => (lastF (ds.getD i []) : Int)) lo hi) => sumOf_any (tab ds.length fun i => (lastF (ds.getD i []) : Int)) r z (by rw [tab_len]; omega) (fun k hk => by
      rw [tab_len] at hk
      have := Hl.out k hk
      have h2 := topN_le ds hd k hk
      omega) h.sl)
    have HA := Lib.hid (fun z bt (h : TV z bt (topN ds ds.length) (topN ds ds.length) (wayF ds ds.length)) => all_any bt (topN ds ds.length) (topN ds ds.length) (wayF ds ds.length) z h (by omega) (by omega) (fun s _ => wayF_nonneg ds _ _) (by omega))
    have HU := Lib.hid (fun z bt (h : TV z bt (topN ds ds.length) (topN ds ds.length) (wayF ds ds.length)) => upTo_any bt (topN ds ds.length) (topN ds ds.length) (topN ds ds.length - 1) (wayF ds ds.length) z h (by omega))
    rw [show topN ds ds.length - 1 + 1 = topN ds ds.length by omega] at HU
    have hLc : sumL (tab ds.length fun i => (lastF (ds.getD i []) : Int)) (tab ds.length fun i => (lastF (ds.getD i []) : Int)).length = ((topN ds ds.length - 1 : Nat) : Int) := by rw [tab_len]; omega
    rw [hLc] at HL
    clear hLc hl Hl Hs Hg hall hd hb hm hn
    generalize sumA (fun s => wayF ds ds.length (s : Int)) (topN ds ds.length) = A at *
    generalize (tab (topN ds ds.length) fun k => wayF ds ds.length (k : Int)) = RR at *
    generalize topN ds ds.length - 1 = T1 at *
    generalize wayF ds ds.length = WF at *
    generalize topN ds ds.length = T at *
    generalize (tab ds.length fun i => (lastF (ds.getD i []) : Int)) = LL at *
    generalize ds.length = n at *
    go_enter Try.func23, Try.ntmps23
    go_wp2_with fail
    refine (Hv.out).mono ?_
    rintro e w2 ⟨rfl, hd⟩
    have Hd := Lib.hid hd
    clear hd
    go_wp2_with fail
    refine (Hs2.out _ Hd.out).mono ?_
    rintro e w3 ⟨bm, rfl, ht, hd⟩
    have Ht := Lib.hid ht
    have Hd3 := Lib.hid (below_step Hd.out hd (Nat.le_refl _))
    clear hd ht
    go_wp2_with fail
    refine (Hg2.out _ Hd3.out).mono ?_
    rintro e w4 ⟨rg, rfl, hs4, hd⟩
    have Ht4 := Lib.hid (Ht.out.later hd)
    have Hd4 := Lib.hid (below_step Hd3.out hd (Nat.le_refl _))
    have Hs4 := Lib.hid hs4
    clear hd hs4
    go_wp2_with fail
    refine (HL.out _ _ _ _ Hs4.out).mono ?_
    rintro e w5 ⟨rfl, hd⟩
    have Ht5 := Lib.hid (Ht4.out.later (hd.below _))
    have Hd5 := Lib.hid (Hd4.out.trans (hd.below _))
    clear hd
    go_wp2_with fail
    refine (HU.out _ _ Ht5.out).mono ?_
    rintro e w6 ⟨ru, rfl, hs6, hd⟩
    have Ht6 := Lib.hid (Ht5.out.later hd)
    have Hd6 := Lib.hid (below_step Hd5.out hd (Nat.le_refl _))
    have Hs6 := Lib.hid (hs6.mono (Hd5.out.size) (Nat.le_refl _) (Nat.le_refl _))
    clear hd hs6
    go_wp2_with fail
    refine (HA.out _ _ Ht6.out).mono ?_
    rintro e w7 ⟨rfl, hd⟩
    have Hd7 := Lib.hid (below_step Hd6.out hd (Nat.le_refl _))
    have Hs7 := Lib.hid ((Hs6.out.later hd).mono (Nat.le_refl _) hd.size (Nat.le_refl _))
    clear hd
    go_wp2
    go_ret3
    exact ⟨_, rfl, Hs7.out, Hd7.out⟩
end Go.Proofs.Ytaimbadajgjhaaa
