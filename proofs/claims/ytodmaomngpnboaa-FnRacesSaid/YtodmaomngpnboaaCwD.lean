/- Contracts: coins on a balance, the model. -/
import Derived.Test.YtodmaomngpnboaaCwC
set_option linter.unusedVariables false
namespace Go.Proofs.Ytodmaomngpnboaa
open Go.RowKit

set_option maxHeartbeats 1000000 in
theorem sameZw_len (fs gs : List Int) (v u : Value) (w : World) (hn : fs.length ≤ 1048576) (hm : gs.length ≤ 1048576) (h : Sl (Value.int .i64) 0 w v fs) (g : Sl (Value.int .i64) 0 w u gs) (hl : ¬ fs.length = gs.length) : Calls Try.prog 88 #[v, u] w fun e w' => e = .returned (.bool false) ∧ Drawn w w' := by
  obtain ⟨p, cap, rfl, hf⟩ := h
  obtain ⟨q, cap', rfl, hg⟩ := g
  clear hf hg
  have hne : ((fs.length : Int) != (gs.length : Int)) = true := by rw [bne_iff_ne]; omega
  have hne' : ((fs.length : Int) = (gs.length : Int)) = False := eq_false (by omega)
  have hne'' : ((fs.length : Int) == (gs.length : Int)) = false := by rw [beq_eq_false_iff_ne]; omega
  clear hl
  generalize fs.length = n at *
  generalize gs.length = m at *
  go_enter Try.func88, Try.ntmps88
  go_wp2
  go_ret
  exact ⟨rfl, Drawn.refl _⟩
set_option maxHeartbeats 1000000 in
theorem sameZw_yes (fs : List Int) (v u : Value) (w : World) (hn : fs.length ≤ 1048576) (h : Sl (Value.int .i64) 0 w v fs) (g : Sl (Value.int .i64) 0 w u fs) : Calls Try.prog 88 #[v, u] w fun e w' => e = .returned (.bool true) ∧ Drawn w w' := by
  obtain ⟨p, cap, rfl, hf⟩ := h
  obtain ⟨q, cap', rfl, hg⟩ := g
  have Hf := Lib.hid hf
  have Hg := Lib.hid hg
  clear hf hg
  generalize fs.length = n at *
  have hne : ((n : Int) != (n : Int)) = false := by simp
  go_enter Try.func88, Try.ntmps88
  go_wp2
  go_loopw [5] (fun i wr => ∃ k q : Nat, k ≤ n ∧ i = .int .i64 k ∧ wr = w.drewN q) (fun i _ => n - (intOf i).toNat)
  case atStart => exact ⟨0, 0, Nat.zero_le _, rfl, rfl⟩
  case round =>
    obtain ⟨k, dn, hk, rfl, rfl⟩ := hrel
    by_cases hlt : k < n
    · obtain ⟨hcap, b, off, rfl, hbs, hc⟩ := Hf.out (by omega)
      obtain ⟨hcap', b', off', rfl, hbs', hc'⟩ := Hg.out (by omega)
      have c1 := hc k hlt
      have c2 := hc' k hlt
      clear hc hc'
      go_wp2
      go_region
      all_goals (go_wp2; go_roundw)
      all_goals first | exact ⟨k + 1, _, by omega, by go_num, rfl⟩ | (simp [intOf]; omega)
    · obtain rfl : k = n := by omega
      go_wp2
      go_ret
      exact ⟨rfl, _, rfl⟩
set_option maxHeartbeats 1000000 in
theorem sameZw_no (fs gs : List Int) (v u : Value) (w : World) (hn : fs.length ≤ 1048576) (h : Sl (Value.int .i64) 0 w v fs) (g : Sl (Value.int .i64) 0 w u gs) (hl : fs.length = gs.length) (hd : ¬ fs = gs) : Calls Try.prog 88 #[v, u] w fun e w' => e = .returned (.bool false) ∧ Drawn w w' := by
  obtain ⟨t, t1, t2, t3⟩ := list_differ hl hd
  clear hd
  obtain ⟨p, cap, rfl, hf⟩ := h
  obtain ⟨q, cap', rfl, hg⟩ := g
  rw [← hl] at hg ⊢
  have Hf := Lib.hid hf
  have Hg := Lib.hid hg
  have Ht := Lib.hid t2
  have Hd := Lib.hid t3
  clear hf hg t2 t3 hl
  generalize fs.length = n at *
  have hne : ((n : Int) != (n : Int)) = false := by simp
  go_enter Try.func88, Try.ntmps88
  go_wp2
  go_loopw [5] (fun i wr => ∃ k q : Nat, k ≤ t ∧ i = .int .i64 k ∧ wr = w.drewN q) (fun i _ => n - (intOf i).toNat)
  case atStart => exact ⟨0, 0, Nat.zero_le _, rfl, rfl⟩
  case round =>
    obtain ⟨k, dn, hk, rfl, rfl⟩ := hrel
    obtain ⟨hcap, b, off, rfl, hbs, hc⟩ := Hf.out (by omega)
    obtain ⟨hcap', b', off', rfl, hbs', hc'⟩ := Hg.out (by omega)
    have c1 := hc k (by omega)
    have c2 := hc' k (by omega)
    clear hc hc'
    by_cases hlt : k < t
    · rw [← Ht.out k hlt] at c2
      go_wp2
      go_region
      all_goals (go_wp2; go_roundw)
      all_goals first | exact ⟨k + 1, _, by omega, by go_num, rfl⟩ | (simp [intOf]; omega)
    · obtain rfl : k = t := by omega
      have hx := Hd.out
      clear Hd Ht Hf Hg
      generalize fs.getD k 0 = x at *
      generalize gs.getD k 0 = y at *
      have n1 : (x != y) = true := by rw [bne_iff_ne]; exact hx
      have n2 : (x == y) = false := by rw [beq_eq_false_iff_ne]; exact hx
      have n3 : (x = y) = False := eq_false hx
      clear hx
      go_wp2
      go_region
      all_goals
        go_wp2
        go_ret
        exact ⟨rfl, _, rfl⟩
theorem sameZw_any (fs gs : List Int) (v u : Value) (w : World) (hn : fs.length ≤ 1048576) (hm : gs.length ≤ 1048576) (h : Sl (Value.int .i64) 0 w v fs) (g : Sl (Value.int .i64) 0 w u gs) : Calls Try.prog 88 #[v, u] w fun e w' => e = .returned (.bool (decide (fs = gs))) ∧ Drawn w w' := by
  by_cases e : fs = gs
  · rw [decide_eq_true e]; subst e; exact sameZw_yes fs v u w hn h g
  · rw [decide_eq_false e]
    by_cases hl : fs.length = gs.length
    · exact sameZw_no fs gs v u w hn h g hl e
    · exact sameZw_len fs gs v u w hn hm h g hl

theorem pansS_no (fs : List Int) (v : Value) (c : Int) (w : World) (hn : fs.length ≤ 1048576) (h : Sl (Value.int .i64) 0 w v fs) (hno : ¬ okPans fs c) :
    Calls Try.prog 87 #[.int .i64 c, v] w fun e w' => e = .returned (.bool false) ∧ w = w' := by
  unfold okPans at hno
  obtain ⟨p, cap, rfl, hf⟩ := h
  clear hf
  obtain ⟨L, hL⟩ : ∃ L, L = fs.length := ⟨_, rfl⟩
  rw [← hL] at hn hno ⊢
  clear hL
  by_cases g : 1 ≤ c ∧ c ≤ 27
  · have H0 := Lib.hid (fun z => in_yes c 1 27 z g.1 g.2)
    obtain ⟨k, rfl⟩ : ∃ k : Nat, c = k := ⟨c.toNat, by omega⟩
    rw [Int.toNat_natCast] at hno
    have hk1 : 1 ≤ k := by omega
    have hk2 : k ≤ 27 := by omega
    have dz : ((k : Int) = 0) = False := eq_false (by omega)
    by_cases g2 : L % k = 0
    · have g3 : 4 < L / k := by
        rcases Nat.lt_or_ge 4 (L / k) with h | h
        · exact h
        · exact absurd ⟨g, g2, h⟩ hno
      have hq : (L : Int) % (k : Int) = 0 := by omega
      obtain ⟨Q, hQ⟩ : ∃ Q, Q = L / k := ⟨_, rfl⟩
      have hd : (L : Int) / (k : Int) = (Q : Int) := by rw [hQ]; omega
      have hQ4 : 4 < Q := by omega
      have hQn : Q ≤ 1048576 := by rw [hQ]; exact Nat.le_trans (Nat.div_le_self _ _) hn
      have d4 : decide (4 < Q) = true := decide_eq_true hQ4
      clear hno g g2 g3 hQ
      go_enter Try.func87, Try.ntmps87
      go_wp2_with (go_at_call 68; refine (H0.out _).mono ?_; rintro e w' ⟨rfl, rfl⟩)
      go_ret
      exact ⟨rfl, rfl⟩
    · obtain ⟨R, hR⟩ : ∃ R, R = L % k := ⟨_, rfl⟩
      have hq : (L : Int) % (k : Int) = (R : Int) := by rw [hR]; omega
      have hR0 : ((R : Int) != 0) = true := by simp; omega
      have hR1 : (R = 0) = False := eq_false (by omega)
      clear hno g g2 hR
      go_enter Try.func87, Try.ntmps87
      go_wp2_with (go_at_call 68; refine (H0.out _).mono ?_; rintro e w' ⟨rfl, rfl⟩)
      go_ret
      exact ⟨rfl, rfl⟩
  · have H0 := Lib.hid (fun z => in_no c 1 27 z (by omega))
    clear hno g
    go_enter Try.func87, Try.ntmps87
    go_wp2_with (go_at_call 68; refine (H0.out _).mono ?_; rintro e w' ⟨rfl, rfl⟩)
    go_ret
    exact ⟨rfl, rfl⟩
theorem goodP_bad (fs : List Int) (k cnt j : Nat) (hj : j < fs.length) (h : ¬ (-1 ≤ fs.getD j 0 ∧ fs.getD j 0 ≤ 1)) : goodP fs k cnt = false := by
  unfold goodP; rw [allB_not j hj h]; rfl
theorem goodP_odd (fs : List Int) (k cnt i : Nat) (hi : i < cnt) (h : evenB fs k i = false) : goodP fs k cnt = false := by
  unfold goodP
  have : (List.range cnt).all (evenB fs k) = false := by
    rw [Bool.eq_false_iff]; intro ha
    have := List.all_eq_true.1 ha i (List.mem_range.2 hi)
    rw [h] at this; cases this
  rw [this, Bool.and_false]
theorem goodP_all (fs : List Int) (k cnt : Nat) (h1 : ∀ j, j < fs.length → -1 ≤ fs.getD j 0 ∧ fs.getD j 0 ≤ 1) (h2 : ∀ i, i < cnt → evenB fs k i = true) : goodP fs k cnt = true := by
  unfold goodP
  rw [allB_of h1, List.all_eq_true.2 fun i hi => h2 i (List.mem_range.1 hi)]; rfl
set_option maxRecDepth 100000 in
set_option maxHeartbeats 2000000 in
theorem pansS_yes (fs : List Int) (v : Value) (k cnt : Nat) (w : World) (hk : 1 ≤ k) (hk2 : k ≤ 27) (hc : cnt ≤ 4) (hf : fs.length = cnt * k) (h : Sl (Value.int .i64) 0 w v fs) :
    Calls Try.prog 87 #[.int .i64 (k : Int), v] w fun e w' => e = .returned (.bool (goodP fs k cnt)) ∧ w = w' := by
  have hL8 : cnt * k ≤ 108 := Nat.mul_le_mul hc hk2
  obtain ⟨p, cap, rfl, hcl⟩ := h
  have H0 := Lib.hid (fun z => in_yes (k : Int) 1 27 z (by omega) (by omega))
  have hq : fs.length % k = 0 := by rw [hf]; exact Nat.mul_mod_left cnt k
  have hd : fs.length / k = cnt := by rw [hf]; exact Nat.mul_div_cancel cnt (by omega)
  obtain ⟨L, hL⟩ : ∃ L, L = fs.length := ⟨_, rfl⟩
  have Hf := Lib.hid hf
  have HLf := Lib.hid hL
  have HLc := Lib.hid (hL.trans hf)
  rw [← hL] at hq hd hcl ⊢
  have Hcl := Lib.hid hcl
  have dz : ((k : Int) = 0) = False := eq_false (by omega)
  have hqv : (L : Int) % (k : Int) = 0 := by omega
  have hdv : (L : Int) / (k : Int) = (cnt : Int) := by omega
  have d4 : decide (4 < cnt) = false := decide_eq_false (by omega)
  have hL1 : L ≤ 108 := by rw [hL, hf]; exact hL8
  have Hbad := Lib.hid (fun j (hj : j < L) hh => goodP_bad fs k cnt j (by omega) hh)
  have Hodd := Lib.hid (fun i (hi : i < cnt) hh => goodP_odd fs k cnt i hi hh)
  have Hall := Lib.hid (goodP_all fs k cnt)
  clear hcl hf hq hd hL hL8
  go_enter Try.func87, Try.ntmps87
  go_wp2_with (go_at_call 68; refine (H0.out _).mono ?_; rintro e w' ⟨rfl, rfl⟩)
  clear hqv hdv
  go_loop [6] (fun mv => ∃ i m : Nat, i ≤ cnt ∧ Hid (m = i * k) ∧ mv = .int .i64 (m : Int) ∧ Hid (∀ j, j < m → -1 ≤ fs.getD j 0 ∧ fs.getD j 0 ≤ 1) ∧ Hid (∀ j, j < i → evenB fs k j = true)) (fun mv => L - (intOf mv).toNat)
  case atStart => exact ⟨0, 0, Nat.zero_le _, Lib.hid (by simp), rfl, Lib.hid (fun j hj => absurd hj (by omega)), Lib.hid (fun j hj => absurd hj (by omega))⟩
  case round =>
    obtain ⟨i, m, hi, hm, rfl, h1, h2⟩ := hrel
    by_cases hlt : i < cnt
    · have hmk : m + k ≤ L := by
        rw [hm.out, HLc.out, ← Nat.succ_mul]; exact Nat.mul_le_mul_right k hlt
      have d1 : decide (m < L) = true := decide_eq_true (by omega)
      go_wp2
      go_loop [7, 8] (fun sv cv => ∃ (c : Nat) (S : Int), c ≤ k ∧ cv = .int .i64 (c : Int) ∧ sv = .int .i64 S ∧ Hid (S = sumLw (partL fs k i) c) ∧ (-(c : Int) ≤ S ∧ S ≤ c) ∧ Hid (∀ j, j < m + c → -1 ≤ fs.getD j 0 ∧ fs.getD j 0 ≤ 1)) (fun _ cv => k - (intOf cv).toNat)
      case atStart => exact ⟨0, 0, Nat.zero_le _, rfl, rfl, Lib.hid rfl, ⟨by omega, by omega⟩, h1⟩
      case round =>
        obtain ⟨c, S, hc2, rfl, rfl, hS, hSb, h3⟩ := hrel
        by_cases hlc : c < k
        · obtain ⟨hcap, b, off, rfl, hbs, hcell⟩ := Hcl.out (by omega)
          have c1 := hcell (m + c) (by omega)
          have hbad := Hbad.out (m + c) (by omega)
          have hSs : sumLw (partL fs k i) (c + 1) = sumLw (partL fs k i) c + fs.getD (m + c) 0 := by
            show sumLw (partL fs k i) c + (partL fs k i).getD c 0 = _
            rw [partL_at hlc, ← hm.out]
          have HSs := Lib.hid hSs
          clear hcell hSs
          by_cases hx : -1 ≤ fs.getD (m + c) 0 ∧ fs.getD (m + c) 0 ≤ 1
          · have H3 : Hid (∀ j, j < m + (c + 1) → -1 ≤ fs.getD j 0 ∧ fs.getD j 0 ≤ 1) := Lib.hid (fun j hj => by
              by_cases e : j = m + c
              · subst e; exact hx
              · exact h3.out j (by omega))
            have HI := Lib.hid (fun z => in_yes (fs.getD (m + c) 0) (-1) 1 z hx.1 hx.2)
            obtain ⟨x0, x1⟩ := hx
            obtain ⟨s0, s1⟩ := hSb
            clear hbad
            generalize fs.getD (m + c) 0 = x at *
            go_wp2_with (go_at_call 68; refine (HI.out _).mono ?_; rintro e w' ⟨rfl, rfl⟩)
            go_round
            case rel => exact ⟨c + 1, S + x, by omega, by go_num, rfl, Lib.hid (by rw [HSs.out, ← hS.out]), ⟨by omega, by omega⟩, H3⟩
            case measure => simp [intOf]; omega
          · have HB := Lib.hid (hbad hx)
            have HI := Lib.hid (fun z => in_no (fs.getD (m + c) 0) (-1) 1 z (by omega))
            clear hbad hx
            generalize fs.getD (m + c) 0 = x at *
            go_wp2_with (go_at_call 68; refine (HI.out _).mono ?_; rintro e w' ⟨rfl, rfl⟩)
            go_ret
            exact ⟨ret_bool HB.out.symm, rfl⟩
        · obtain rfl : k = c := by omega
          have hE : evenB fs k i = (S == 0) := by unfold evenB sumP; rw [← hS.out]
          have hodd := Hodd.out i hlt
          by_cases hS0 : S = 0
          · have H2 : Hid (∀ j, j < i + 1 → evenB fs k j = true) := Lib.hid (fun j hj => by
              by_cases e : j = i
              · subst e; rw [hE, hS0]; rfl
              · exact h2.out j (by omega))
            subst hS0
            clear hE hodd
            go_wp2
            go_round
            case rel => exact ⟨i + 1, m + k, by omega, Lib.hid (by rw [hm.out, Nat.succ_mul]), by go_num, h3, H2⟩
            case measure => simp [intOf]; omega
          · have hb0 : (S == 0) = false := by simpa using hS0
            have HB := Lib.hid (hodd (hE.trans hb0))
            have d0 : (S != 0) = true := by simpa using hS0
            have d1 : (S = 0) = False := eq_false hS0
            clear hE hodd hS0
            go_wp2
            go_ret
            exact ⟨ret_bool HB.out.symm, rfl⟩
    · obtain rfl : cnt = i := by omega
      obtain rfl : L = m := HLc.out.trans hm.out.symm
      have HB := Lib.hid (Hall.out (fun j hj => h1.out j (by rw [HLf.out]; exact hj)) h2.out)
      go_wp2
      go_ret
      exact ⟨ret_bool HB.out.symm, rfl⟩
end Go.Proofs.Ytodmaomngpnboaa
