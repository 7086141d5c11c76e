/- Contracts: decks of ranks, the program's function. -/
import Derived.Test.YtcoehcoohppbjaaUf
set_option linter.unusedVariables false
namespace Go.Proofs.Ytcoehcoohppbjaa
open Go.RowKit
theorem frozen_one (w : World) (v : Value) (t : TypeId) : (w.alloc (.cells #[v] t)).frozen? ⟨w.heap.size, 0, none⟩ = false := by
  have := heap_alloc_new w (.cells #[v] t)
  unfold World.frozen?
  rw [show (w.alloc (.cells #[v] t)).heap[(⟨w.heap.size, 0, none⟩ : Addr).block]? = some (.cells #[v] t) from this]
  rfl
theorem new_impl_own (n : Nat) (w : World) (h1 : 1 ≤ n) (h2 : n ≤ 52) :
    Calls Try.prog 70 #[.int .i64 (n : Int)] w fun e w' => ∃ r, e = .returned (.tuple #[r, .bool true]) ∧ w'.ownsRow w.heap.size 2 1 r n ((tab n fun k => (k : Int)).map (Value.int .i64)) ∧ Below w.heap.size w w' := by
  have Hd := Lib.hid (deckBy_st n 123 w.heap.size #[] (fun k => (k : Int)) (fun _ _ => True) w (by omega) (Nat.le_refl _) (run_enter Try.func123 (by kernel_rfl) (by kernel_rfl)) (fun _ _ _ => trivial) (fun _ _ _ _ _ => trivial) (fun _ _ _ => trivial) (fun k w' _ _ _ => (clo_new k w').mono fun e w'' ⟨he, hd⟩ => ⟨he, trivial, by rw [hd.heap], hd.below _⟩))
  go_enter Try.func70, Try.ntmps70
  go_wp2_with (first | (go_at_call 120; refine (size_yes _ _ (by omega) (by omega)).mono ?_; rintro e w' ⟨rfl, rfl⟩) | (go_at_call 108; refine Hd.out.mono ?_; rintro e w1 ⟨r, rfl, hs, -, hb⟩; have Hs := Lib.hid hs; have Hb := Lib.hid hb; clear hs hb))
  go_ret2
  exact ⟨_, rfl, Hs.out, Hb.out⟩
theorem own_capmax {w : World} {base g cap n : Nat} {e : TypeId} {xs : List Value} (h : w.ownsRow base e 1 (.slice (some ⟨g, 0, none⟩) n cap) n xs) : cap ≤ 9223372036854775807 := by
  have hm : maxLen ≤ 9223372036854775807 := by unfold maxLen; omega
  rcases h.2 with ⟨h, _⟩ | ⟨g', cap', cur, hv, -, -, -, hc, -⟩
  · cases h
  · cases hv; omega
theorem own_tight {w : World} {base b c n : Nat} {e : TypeId} {L : List Int} (h : w.ownsRow base e 1 (.slice (some ⟨b, 0, none⟩) n c) n (L.map (Value.int .i64))) (hl : L.length = n) : Sw (Value.int .i64) 0 w (.slice (some ⟨b, 0, none⟩) n c) L b (b + 1) :=
  ⟨_, _, by rw [hl], fun h0 => ⟨by rw [hl]; exact own_cap h, b, 0, rfl, Nat.le_refl _, Nat.lt_succ_self _, (h.lt _ rfl).2, fun i hi => ⟨by rw [Nat.zero_add]; exact own_cell h i (by omega), by rw [Nat.zero_add]; exact h.frozenAt i⟩⟩⟩
set_option maxRecDepth 100000 in
set_option maxHeartbeats 4000000 in
theorem rk_impl (n r : Nat) (w : World) (n1 : 1 ≤ n) (n2 : n ≤ 20) (hr : r ≤ 9223372036854775807) :
    Calls Try.prog 59 #[.int .i64 (n : Int), .int .i64 (r : Int)] w fun e w' => ∃ v, e = .returned (.tuple #[v, .bool (decide (r < fct n))]) ∧ Sw (Value.int .i64) 0 w' v (if r < fct n then tab n (rkG n r) else []) w.heap.size w'.heap.size ∧ Below w.heap.size w w' := by
  obtain ⟨i0, hi, hz0, hz1, hz2⟩ := info_parts (show (Try.prog.info? 2).map (fun i => (i.zero, i.size, i.bytes)) = some (some (.int .i64 0), 1, 8) by kernel_rfl)
  have Hn := Lib.hid (new_impl_own n w n1 (by omega))
  have Hrs := Lib.hid (fun z => rsize_yes (n : Int) z (by omega) (by omega))
  have HF0 : Hid (r / fct (n - n) = r) := Lib.hid (by rw [Nat.sub_self]; exact Nat.div_one r)
  have Hdiv := Lib.hid (fun q => div_fct r q)
  have Hidx := Lib.hid (fun m (h : m < n) => show idxR n r m = r / fct (n - (m + 1)) % (n - m) by unfold idxR; rw [show n - 1 - m = n - (m + 1) by omega])
  have Hle := Lib.hid (fun q => Nat.div_le_self r (fct q))
  have hr0 : decide ((r : Int) < 0) = false := decide_eq_false (by omega)
  go_enter Try.func59, Try.ntmps59
  go_wp2_with fail
  refine Hn.out.mono ?_
  rintro e w1 ⟨v, rfl, hs, hb⟩
  obtain ⟨b0, c0, rfl, hb0, hb1⟩ := hs.form (by omega)
  have Hs := Lib.hid hs
  have Hb := Lib.hid hb
  have hsz := hb.size
  clear hs hb
  have HO1 := Lib.hid (Hs.out.alloc (.cells #[.slice (some ⟨b0, 0, none⟩) n c0] 22))
  have HB1 := Lib.hid (Hb.out.alloc hsz (.cells #[.slice (some ⟨b0, 0, none⟩) n c0] 22))
  have HC1 := Lib.hid (show (w1.alloc (.cells #[.slice (some ⟨b0, 0, none⟩) n c0] 22)).cell? ⟨w1.heap.size, 0, none⟩ = some (.slice (some ⟨b0, 0, none⟩) n c0) from World.cell?_alloc_at _ _ _ _ rfl)
  have HZ1 := Lib.hid (frozen_one w1 (.slice (some ⟨b0, 0, none⟩) n c0) 22)
  have hsz1 : (w1.alloc (.cells #[.slice (some ⟨b0, 0, none⟩) n c0] 22)).heap.size = w1.heap.size + 1 := by simp
  go_wp2_with (first | (go_at_call 107; refine (Hrs.out _).mono ?_; rintro e w' ⟨rfl, rfl⟩) | (at_make; refine wpList_make_full _ rfl _ _ 22 rfl w.heap.size 2 i0 (.int .i64 0) 1 (by kernel_rfl) hi hz0 hz1 .i64 .i64 n n n rfl rfl rfl rfl (by rw [hz2]; omega) (by unfold maxLen; omega) (by simp; omega) ?_; intro w2 hown hgrow))
  have h22 : w1.heap.size + 1 < w2.heap.size := by have := (hown.lt _ rfl).2; simpa using this
  have hB2 : Below w.heap.size w w2 := HB1.out.grown hgrow (by rw [hsz1]; omega) (by simp)
  have hO2 : w2.ownsRow w.heap.size 2 1 (.slice (some ⟨b0, 0, none⟩) n c0) n ((tab n fun k => (k : Int)).map (Value.int .i64)) := own_keep HO1.out (hgrow.block b0 (by rw [hsz1]; omega) (by simp))
  have hC2 : w2.cell? ⟨w1.heap.size, 0, none⟩ = some (.slice (some ⟨b0, 0, none⟩) n c0) := (World.cell?_of_block (a := ⟨w1.heap.size, 0, none⟩) (hgrow.block w1.heap.size (by rw [hsz1]; omega) (by simp))).trans HC1.out
  have hZ2 : w2.frozen? ⟨w1.heap.size, 0, none⟩ = false := (World.frozen?_of_block (a := ⟨w1.heap.size, 0, none⟩) (hgrow.block w1.heap.size (by rw [hsz1]; omega) (by simp))).trans HZ1.out
  have hMc : (madeCells (Value.int .i64 0).cells (n * 1)).toList = (List.replicate n (0 : Int)).map (Value.int .i64) := by
    rw [Nat.mul_one, List.map_replicate]; exact made1 _ n
  rw [hMc, hsz1] at hown
  have hcap := own_capmax hO2
  have HC6 := Lib.hid (show (w2.alloc (.cells #[.slice (some ⟨w1.heap.size + 1, 0, none⟩) n n] 22)).cell? ⟨w1.heap.size, 0, none⟩ = some (.slice (some ⟨b0, 0, none⟩) n c0) from (World.cell?_alloc_past _ _ _ (show w1.heap.size < _ by omega)).trans hC2)
  have HZ6 := Lib.hid ((World.frozen?_of_block (a := ⟨w1.heap.size, 0, none⟩) (Below.heap_alloc w2 (.cells #[.slice (some ⟨w1.heap.size + 1, 0, none⟩) n n] 22) w1.heap.size (by omega))).trans hZ2)
  have HC8 := Lib.hid (show (w2.alloc (.cells #[.slice (some ⟨w1.heap.size + 1, 0, none⟩) n n] 22)).cell? ⟨w2.heap.size, 0, none⟩ = some (.slice (some ⟨w1.heap.size + 1, 0, none⟩) n n) from World.cell?_alloc_at _ _ _ _ rfl)
  have HS0 := Lib.hid (own_tight (hO2.alloc (.cells #[.slice (some ⟨w1.heap.size + 1, 0, none⟩) n n] 22)) (tab_len _ _))
  have HSI := Lib.hid (own_tight (hown.alloc (.cells #[.slice (some ⟨w1.heap.size + 1, 0, none⟩) n n] 22)) (List.length_replicate ..))
  have HB0 := Lib.hid (hB2.alloc (by omega) (.cells #[.slice (some ⟨w1.heap.size + 1, 0, none⟩) n n] 22))
  have hW0 : (w2.alloc (.cells #[.slice (some ⟨w1.heap.size + 1, 0, none⟩) n n] 22)).heap.size = w2.heap.size + 1 := by simp
  clear hown hgrow hMc hB2 hO2 hC2 hZ2 HO1 HB1 HC1 HZ1 hsz1 Hs Hb Hn Hrs
  generalize w2.alloc (.cells #[.slice (some ⟨w1.heap.size + 1, 0, none⟩) n n] 22) = W0 at *
  have HM0 := Lib.hid (List.length_replicate (n := n) (a := (0 : Int)))
  go_loopw [1, 9] (fun rv pv wr => ∃ (p : Nat) (M : List Int), p ≤ n ∧ Hid (M.length = n) ∧ rv = .int .i64 ((r / fct (n - p) : Nat) : Int) ∧ ((p = 0 ∧ pv = .int .i64 (-1)) ∨ ∃ m : Nat, p = m + 1 ∧ pv = .int .i64 (m : Int)) ∧ Hid (Sw (Value.int .i64) 0 wr (.slice (some ⟨w1.heap.size + 1, 0, none⟩) n n) M (w1.heap.size + 1) (w1.heap.size + 1 + 1)) ∧ Hid (∀ j, p ≤ j → j < n → M.getD j 0 = ((idxR n r j : Nat) : Int)) ∧ Hid (Only (w1.heap.size + 1) (w1.heap.size + 1 + 1) W0 wr)) (fun _ pv _ => (intOf pv + 1).toNat)
  case atStart =>
    refine ⟨n, List.replicate n 0, Nat.le_refl _, HM0, by rw [HF0.out], .inr ⟨n - 1, by omega, ?_⟩, HSI, Lib.hid (fun j h1 h2 => absurd h2 (by omega)), Lib.hid (Only.refl _ _ _)⟩
    congr 1
    omega
  case round =>
    obtain ⟨p, M, hp, HMl, rfl, hpv, HM, HMj, HOn⟩ := hrel
    have hWr : wr.heap.size = w2.heap.size + 1 := by rw [HOn.out.size]; exact hW0
    have c8 : wr.cell? ⟨w2.heap.size, 0, none⟩ = some (.slice (some ⟨w1.heap.size + 1, 0, none⟩) n n) := (World.cell?_of_block (a := ⟨w2.heap.size, 0, none⟩) (HOn.out.block w2.heap.size (by omega))).trans HC8.out
    rcases hpv with ⟨rfl, rfl⟩ | ⟨m, rfl, rfl⟩
    · have h22' := h22
      have hsd : wr.heap.size = w2.heap.size + 1 := hWr
      rw [Nat.sub_zero]
      have HBr : Hid (Below w.heap.size w wr) := Lib.hid (Below.only HB0.out HOn.out (by omega))
      have HS0r := Lib.hid (HS0.out.apart HOn.out (by omega))
      have HC6r : Hid (wr.cell? ⟨w1.heap.size, 0, none⟩ = some (.slice (some ⟨b0, 0, none⟩) n c0)) := Lib.hid ((World.cell?_of_block (a := ⟨w1.heap.size, 0, none⟩) (HOn.out.block w1.heap.size (by omega))).trans HC6.out)
      have HZ6r : Hid (wr.frozen? ⟨w1.heap.size, 0, none⟩ = false) := Lib.hid ((World.frozen?_of_block (a := ⟨w1.heap.size, 0, none⟩) (HOn.out.block w1.heap.size (by omega))).trans HZ6.out)
      have HCI : Hid (∀ j, j < n → wr.cell? ⟨w1.heap.size + 1, j, none⟩ = some (.int .i64 ((idxR n r j : Nat) : Int))) := Lib.hid (fun j hj => by
        obtain ⟨b', off', e, hb1', hbs', c4, f4⟩ := HM.out.open' j (by rw [HMl.out]; exact hj)
        cases e
        rw [Nat.zero_add, HMj.out j (Nat.zero_le _) hj] at c4
        exact c4)
      by_cases hrn : r < fct n
      · have hq0 : r / fct n = 0 := Nat.div_eq_of_lt hrn
        rw [hq0]
        have Hdb := Lib.hid (deckBy_st n 109 w.heap.size #[.pointer (some ⟨w2.heap.size, 0, none⟩), .pointer (some ⟨w1.heap.size, 0, none⟩)] (rkG n r) (Lr wr.heap.size w1.heap.size w2.heap.size b0 (w1.heap.size + 1) n r c0 n) wr (by omega) (by omega)
          (run_enter Try.func109 (by kernel_rfl) (by kernel_rfl))
          (fun w3 h2 h3 => ⟨(h2.cell (by show w1.heap.size < _; omega)).trans HC6r.out, (h2.frozen (by show w1.heap.size < _; omega)).trans HZ6r.out, (h2.cell (by show w2.heap.size < _; omega)).trans c8, fun j hj => (h2.cell (by show w1.heap.size + 1 < _; omega)).trans (HCI.out j hj), HS0r.out.later h2, h3⟩)
          (fun k j w3 v h => h.keep (by simp [World.setCell]) (fun x hx _ => Below.heap_setCell _ _ _ _ (by simpa using hx)) (by omega) (by omega) (by omega) (by omega))
          (fun k w3 h => h.keep (Nat.le_refl _) (fun _ _ _ => rfl) (by omega) (by omega) (by omega) (by omega))
          (fun k w3 hk hI _ => clo_rk w.heap.size wr.heap.size w1.heap.size w2.heap.size b0 (w1.heap.size + 1) n r c0 n k w3 hk n2 (by omega) ⟨by omega, by omega⟩ (Nat.le_refl _) hcap hI))
        clear HCI HC6r HZ6r HS0r HM HMj HMl HOn HC6 HZ6 HC8 HS0 HSI HB0 Hdiv Hidx Hle HF0 HM0 hq0
        go_wp2_with (go_at_call 108; refine Hdb.out.mono ?_; rintro e w3 ⟨v, rfl, hs, -, hb⟩; have Hr := Lib.hid hs; have Hb2 := Lib.hid hb; clear hs hb)
        go_ret2
        try rw [decide_eq_true hrn]
        try rw [if_pos hrn]
        exact ⟨_, rfl, (Sw.of_owns Hr.out (tab_len _ _)).mono (by omega) (Nat.le_refl _) (Nat.le_refl _), HBr.out.trans Hb2.out⟩
      · have hq0 : 1 ≤ r / fct n := (Nat.le_div_iff_mul_le (fct_pos n)).2 (by rw [Nat.one_mul]; omega)
        have hq1 := Nat.div_le_self r (fct n)
        generalize r / fct n = Q at *
        have hQ : decide (0 < (Q : Int)) = true := decide_eq_true (by omega)
        clear HCI HC6r HZ6r HS0r HM HMj HMl HOn HC6 HZ6 HC8 HS0 HSI HB0 Hdiv Hidx Hle HF0 HM0
        go_wp2
        all_goals
          go_ret2
          try rw [decide_eq_false hrn]
          try rw [if_neg hrn]
          exact ⟨_, rfl, Sw.nil _ _ _ _ _ _ _, HBr.out⟩
    · have HY := Lib.hid (Hdiv.out (n - (m + 1)))
      rw [show n - (m + 1) + 1 = n - m by omega] at HY
      have HX := Lib.hid (Hidx.out m (by omega))
      have hul := Hle.out (n - (m + 1))
      have hnm : (n : Int) - (m : Int) = ((n - m : Nat) : Int) := by omega
      have hs1 : 1 ≤ n - m := by omega
      obtain ⟨b', off', e, hb1', hbs', c4, f4⟩ := HM.out.open' m (by rw [HMl.out]; omega)
      cases e
      rw [Nat.zero_add] at c4 f4
      generalize r / fct (n - (m + 1)) = u at *
      have HYe : Hid (r / fct (n - m) = u / (n - m)) := Lib.hid HY.out.symm
      generalize hsn : n - m = s at *
      have Hsn := Lib.hid hsn
      clear hsn
      have e1 : Int.tmod (u : Int) (s : Int) = ((u % s : Nat) : Int) := by rw [Int.tmod_eq_emod_of_nonneg (by omega)]; exact (Int.natCast_emod u s).symm
      have e2 : Int.tdiv (u : Int) (s : Int) = ((u / s : Nat) : Int) := by rw [Int.tdiv_eq_ediv_of_nonneg (by omega)]; exact (Int.natCast_ediv u s).symm
      have hq1 : u / s ≤ u := Nat.div_le_self _ _
      have hq2 : u % s ≤ u := Nat.mod_le _ _
      generalize u % s = X at *
      generalize u / s = Y at *
      have HSt := Lib.hid (HM.out.store m (by rw [HMl.out]; omega) (X : Int))
      rw [Nat.zero_add] at HSt
      have HOt := Lib.hid (HOn.out.step' ⟨w1.heap.size + 1, m, none⟩ (.int .i64 (X : Int)) (Nat.le_refl _) (Nat.lt_succ_self _))
      have HMs := Lib.hid (show ∀ j, m ≤ j → j < n → (M.set m (X : Int)).getD j 0 = ((idxR n r j : Nat) : Int) from fun j h1 h2 => by
        have hlen := HMl.out
        by_cases ej : j = m
        · subst ej
          rw [HX.out]
          simp [List.getD, hlen, h2]
        · rw [← HMj.out j (by omega) h2]
          simp [List.getD, List.getElem?_set_ne (Ne.symm ej)])
      have HMl2 : Hid ((M.set m (X : Int)).length = n) := Lib.hid (by rw [List.length_set]; exact HMl.out)
      clear HY HX HM HMj HOn HC6 HZ6 HC8 HS0 HSI HB0 Hdiv Hidx Hle
      go_wp2
      go_region
      all_goals
        go_wp2
        go_roundw
        case rel =>
          refine ⟨m, M.set m (X : Int), by omega, HMl2, by rw [Hsn.out, HYe.out], ?_, Lib.hid (by first | exact HSt.out | exact HSt.out.drewN 1), HMs, Lib.hid (by first | exact HOt.out | exact HOt.out.drewN 1)⟩
          rcases Nat.eq_zero_or_pos m with h | h
          · exact .inl ⟨h, by subst h; rfl⟩
          · exact .inr ⟨m - 1, by omega, by congr 1; omega⟩
        case measure => simp [intOf]
end Go.Proofs.Ytcoehcoohppbjaa
