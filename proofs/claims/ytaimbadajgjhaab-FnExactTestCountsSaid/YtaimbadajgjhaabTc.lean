/- Contracts: how far counts are from those that are due, the model. -/
import Derived.Test.YtaimbadajgjhaabTb
set_option linter.unusedVariables false
namespace Go.Proofs.Ytaimbadajgjhaab
open Go.RowKit Fl

theorem numfin_spec (x : Nat) (hx : x < 4294967296) (hf : finB3 x = true) (w : World) : Calls Try.prog 71 #[.float .f32 x] w fun e w' => e = .returned (.tuple #[.float .f32 x, .bool true]) ∧ Drawn w w' := by
  have Hf := Lib.hid (fun z => finite_spec x hx z)
  have hb : finB x = finB3 x := rfl
  rw [hb, hf] at Hf
  clear hb hf
  go_enter Try.func71, Try.ntmps71
  go_wp2_with (go_at_call 93; refine (Hf.out _).mono ?_; rintro e w' ⟨rfl, n, rfl⟩)
  go_ret2
  exact ⟨rfl, n, rfl⟩
theorem bd_lt {x A : Nat} (h : Bd .f32 x A) : x < 4294967296 := by
  have := h.1
  rw [show FloatKind.f32.format.signWeight = 2147483648 from by decide +kernel] at this
  omega

set_option maxRecDepth 100000 in
set_option maxHeartbeats 1000000 in
theorem tcs_no (cs : List Int) (v : Value) (ws : List Int) (u : Value) (w : World) (hn : cs.length ≤ 1048576) (hn2 : ws.length ≤ 1048576) (h : Sl (Value.int .i64) 0 w v cs) (g : Sl (Value.int .i64) 0 w u ws) (hno : ¬ (2 ≤ cs.length ∧ cs.length ≤ 64 ∧ ws.length = cs.length)) :
    Calls Try.prog 31 #[v, u] w fun e w' => e = .returned (.tuple #[.float .f32 0, .bool false]) ∧ Below w.heap.size w w' := by
  obtain ⟨p, cap, rfl, -⟩ := h
  obtain ⟨q, cap2, rfl, -⟩ := g
  generalize cs.length = n at *
  generalize ws.length = m at *
  by_cases h2 : 2 ≤ n
  · by_cases h6 : n ≤ 64
    · have hne : ((m : Int) != (n : Int)) = true := by simp; omega
      have hne2 : ((m : Int) = (n : Int)) = False := eq_false (by omega)
      clear hno
      go_enter Try.func31, Try.ntmps31
      go_wp2
      go_ret2
      exact ⟨rfl, Below.refl _ _⟩
    · clear hno
      have h7 : 64 < n := by omega
      go_enter Try.func31, Try.ntmps31
      go_wp2
      go_ret2
      exact ⟨rfl, Below.refl _ _⟩
  · clear hno
    have h7 : n < 2 := by omega
    go_enter Try.func31, Try.ntmps31
    go_wp2
    go_ret2
    exact ⟨rfl, Below.refl _ _⟩

set_option maxRecDepth 100000 in
set_option maxHeartbeats 1000000 in
theorem tcs_yes (cs : List Int) (v : Value) (ws : List Int) (u : Value) (w : World) (hn : cs.length ≤ 1048576) (hn2 : ws.length ≤ 1048576) (h : Sl (Value.int .i64) 0 w v cs) (g : Sl (Value.int .i64) 0 w u ws) (h2 : 2 ≤ cs.length) (h64 : cs.length ≤ 64) (hl : ws.length = cs.length) :
    Calls Try.prog 31 #[v, u] w fun e w' => e = .returned (.tuple #[.float .f32 (res_TestCounts cs ws), .bool (ok_TestCounts cs ws)]) ∧ Below w.heap.size w w' := by
  have E : ok_TestCounts cs ws = (allB 0 1000000 cs && (allB 1 1000 ws && !decide (sumQ cs cs.length = 0))) := by
    unfold ok_TestCounts
    rw [decide_eq_true h2, decide_eq_true h64, decide_eq_true hl]
    rfl
  have HbadC := Lib.hid (fun k (hk : k < cs.length) h => show ok_TestCounts cs ws = false by rw [E, allB_not (lo := 0) (hi := 1000000) (fs := cs) k hk h, Bool.false_and])
  have HbadW := Lib.hid (fun k (hk : k < ws.length) h => show ok_TestCounts cs ws = false by rw [E, allB_not (lo := 1) (hi := 1000) (fs := ws) k hk h, Bool.false_and, Bool.and_false])
  have Hbad0 := Lib.hid (fun h => show ok_TestCounts cs ws = false by rw [E, decide_eq_true (p := sumQ cs cs.length = 0) h, Bool.not_true, Bool.and_false, Bool.and_false])
  have Hyes := Lib.hid (fun a b c => show ok_TestCounts cs ws = true by rw [E, show allB 0 1000000 cs = true from a, show allB 1 1000 ws = true from b, decide_eq_false (p := sumQ cs cs.length = 0) c]; rfl)
  have Hres := Lib.hid (fun (h : ok_TestCounts cs ws = true) => show res_TestCounts cs ws = farF cs ws (sumQ cs cs.length) (sumQ ws ws.length) cs.length by unfold res_TestCounts; rw [h]; rfl)
  have Hno := Lib.hid (tc_no (cs := cs) (ws := ws))
  have HaC := Lib.hid (fun h => allB_of (lo := 0) (hi := 1000000) (fs := cs) h)
  have HaW := Lib.hid (fun h => allB_of (lo := 1) (hi := 1000) (fs := ws) h)
  have HT := Lib.hid (fun a b c => tc_step cs ws a b h64 h2 hl c)
  have HSA := Lib.hid (fun (hc : allB 0 1000000 cs = true) z (hz : Below w.heap.size w z) => sumSQ_any cs v z hn (fun k hk => by have := sumQ_bd hc k hk; omega) (h.later hz))
  have HSB := Lib.hid (fun (hc : allB 1 1000 ws = true) z (hz : Below w.heap.size w z) => sumSQ_any ws u z hn2 (fun k hk => by have := sumQ_bd hc k hk; omega) (g.later hz))
  have HIY := Lib.hid (fun x lo hi z a b => in_yes x lo hi z a b)
  have HIN := Lib.hid (fun x lo hi z a => in_no x lo hi z a)
  have HF0 : Hid (farF cs ws (sumQ cs cs.length) (sumQ ws ws.length) 0 = 0) := Lib.hid rfl
  have HBd0 := Lib.hid far_zero
  obtain ⟨p, cap, rfl, hf⟩ := h
  obtain ⟨q, cap2, rfl, hg⟩ := g
  obtain ⟨hcap, b1, off1, rfl, hbs1, hcell1⟩ := hf (by omega)
  obtain ⟨hcap2, b2, off2, rfl, hbs2, hcell2⟩ := hg (by omega)
  rw [hl] at HbadW HaW Hres HT HSB HF0 hcell2 hcap2 ⊢
  have Hc1 := Lib.hid hcell1
  have Hc2 := Lib.hid hcell2
  have hne : ((cs.length : Int) != (cs.length : Int)) = false := by simp
  clear hf hg hcell1 hcell2 hl hn2 E
  generalize ok_TestCounts cs ws = OK at *
  generalize res_TestCounts cs ws = RES at *
  generalize sumQ ws cs.length = W at *
  generalize sumQ cs cs.length = A at *
  generalize farF cs ws A W = FF at *
  generalize cs.length = n at *
  go_enter Try.func31, Try.ntmps31
  go_wp2
  go_loopw [29] (fun i wr => ∃ k : Nat, k ≤ n ∧ i = .int .i64 (k : Int) ∧ Hid (∀ j, j < k → (0 ≤ cs.getD j 0 ∧ cs.getD j 0 ≤ 1000000) ∧ (1 ≤ ws.getD j 0 ∧ ws.getD j 0 ≤ 1000)) ∧ Hid (Drawn w wr)) (fun i _ => n - (intOf i).toNat)
  case atStart => exact ⟨0, Nat.zero_le _, rfl, Lib.hid (fun j hj => by omega), Lib.hid (Drawn.refl _)⟩
  case round =>
    obtain ⟨k, hk, rfl, hdn, hw⟩ := hrel
    by_cases hlt : k < n
    · have c1 := (hw.out.cell _).trans (Hc1.out k hlt)
      have c2 := (hw.out.cell _).trans (Hc2.out k hlt)
      have HC := Lib.hid (HbadC.out k hlt)
      have HW := Lib.hid (HbadW.out k hlt)
      have HD : Hid (((0 ≤ cs.getD k 0 ∧ cs.getD k 0 ≤ 1000000) ∧ (1 ≤ ws.getD k 0 ∧ ws.getD k 0 ≤ 1000)) → ∀ j, j < k + 1 → (0 ≤ cs.getD j 0 ∧ cs.getD j 0 ≤ 1000000) ∧ (1 ≤ ws.getD j 0 ∧ ws.getD j 0 ≤ 1000)) := Lib.hid (fun h j hj => by
        by_cases e : j = k
        · subst e; exact h
        · exact hdn.out j (by omega))
      clear hdn
      generalize ws.getD k 0 = x at *
      generalize cs.getD k 0 = c at *
      by_cases hc : 0 ≤ c ∧ c ≤ 1000000
      · have H1 := Lib.hid (fun z => HIY.out c 0 1000000 z hc.1 hc.2)
        by_cases hx : 1 ≤ x ∧ x ≤ 1000
        · have H2 := Lib.hid (fun z => HIY.out x 1 1000 z hx.1 hx.2)
          have HD2 := Lib.hid (HD.out ⟨hc, hx⟩)
          clear HD hc hx
          go_wp2_with fail
          refine (H1.out _).mono ?_
          rintro e w' ⟨rfl, rfl⟩
          go_wp2_with fail
          refine (H2.out _).mono ?_
          rintro e w' ⟨rfl, rfl⟩
          go_wp2
          go_roundw
          case rel => exact ⟨k + 1, by omega, by go_num, HD2, hw⟩
          case measure => simp [intOf]; omega
        · have H2 := Lib.hid (fun z => HIN.out x 1 1000 z (by omega))
          have hO := HW.out hx
          have hR := Hno.out hO
          clear HD hc hx
          go_wp2_with fail
          refine (H1.out _).mono ?_
          rintro e w' ⟨rfl, rfl⟩
          go_wp2_with fail
          refine (H2.out _).mono ?_
          rintro e w' ⟨rfl, rfl⟩
          have HO := Lib.hid hO
          have HR := Lib.hid hR
          clear hO hR
          go_wp2
          go_ret2
          exact ⟨by rw [HO.out, HR.out]; rfl, hw.out.below _⟩
      · have H1 := Lib.hid (fun z => HIN.out c 0 1000000 z (by omega))
        have HO := Lib.hid (HC.out hc)
        have HR := Lib.hid (Hno.out (HC.out hc))
        clear HD hc
        go_wp2_with fail
        refine (H1.out _).mono ?_
        rintro e w' ⟨rfl, rfl⟩
        go_wp2
        go_ret2
        exact ⟨by rw [HO.out, HR.out]; rfl, hw.out.below _⟩
    · obtain rfl : k = n := by omega
      have hac := HaC.out (fun j hj => (hdn.out j hj).1)
      have haw := HaW.out (fun j hj => (hdn.out j hj).2)
      have HSA2 := Lib.hid (HSA.out hac)
      have HSB2 := Lib.hid (HSB.out haw)
      by_cases h0 : A = 0
      · have HO := Lib.hid (Hbad0.out h0)
        have HR := Lib.hid (Hno.out (Hbad0.out h0))
        rw [h0] at HSA2
        clear h0 hac haw HT Hyes Hbad0 HSA HSB
        go_wp2_with fail
        refine (HSA2.out _ (hw.out.below _)).mono ?_
        rintro e w3 ⟨rfl, hd⟩
        have Hd := Lib.hid (hw.out.trans hd)
        clear hd
        go_wp2
        go_ret2
        exact ⟨by rw [HO.out, HR.out]; rfl, Hd.out.below _⟩
      · have HO := Lib.hid (Hyes.out hac haw h0)
        have HR := Lib.hid (Hres.out (Hyes.out hac haw h0))
        obtain ⟨⟨A1, A2⟩, ⟨W1, W2⟩, P1, hst⟩ := HT.out hac haw h0
        have HP := Lib.hid P1
        have Hst := Lib.hid hst
        have a0 : (A = 0) = False := eq_false (by omega)
        have a1 : (A == 0) = false := by rw [beq_eq_false_iff_ne]; omega
        clear h0 hac haw HT Hyes Hbad0 HSA HSB P1 hst
        go_wp2_with fail
        refine (HSA2.out _ (hw.out.below _)).mono ?_
        rintro e w3 ⟨rfl, hd⟩
        have Hd3 := Lib.hid (hw.out.trans hd)
        clear hd
        go_wp2
        go_loopw [9, 53] (fun s i wr => ∃ j : Nat, j ≤ k ∧ i = .int .i64 (j : Int) ∧ s = .float .f32 (FF j) ∧ Hid (Bd .f32 (FF j) (farSB j)) ∧ Hid (Drawn w3 wr)) (fun _ i _ => k - (intOf i).toNat)
        case atStart => exact ⟨0, Nat.zero_le _, rfl, by rw [HF0.out], Lib.hid (by rw [HF0.out]; exact HBd0.out), Lib.hid (Drawn.refl _)⟩
        case round =>
          obtain ⟨j, hj, rfl, rfl, hB, hw4⟩ := hrel
          by_cases hlt2 : j < k
          · have c1 := ((Hd3.out.trans hw4.out).cell _).trans (Hc1.out j hlt2)
            have c2 := ((Hd3.out.trans hw4.out).cell _).trans (Hc2.out j hlt2)
            obtain ⟨p1, p2⟩ := HP.out j hlt2
            have Hs := Lib.hid (Hst.out j hlt2)
            have HSB3 := Lib.hid (fun z (hz : Drawn wr z) => HSB2.out z ((Hd3.out.trans (hw4.out.trans hz)).below _))
            generalize ws.getD j 0 = x at *
            generalize cs.getD j 0 = c at *
            generalize hS : FF j = S at *
            clear hS
            have HSt := Lib.hid (fun due d q t r => Hs.out due d q t r hB.out)
            clear Hs
            go_wp2
            go_region_with (first | (go_at_call 70; refine (HSB3.out _ (by first | exact ⟨_, rfl⟩ | exact Drawn.refl _ | exact ((Drawn.refl _).more _).more _)).mono ?_; rintro e w' ⟨rfl, m, rfl⟩) | (refine upon_farith .quo (by simp) _ .f32 _ _ ?_; intro due nd Hdue))
            all_goals
              have hdu := Hdue.out
              rw [IntWalk.i64_in (A * x) (by omega)] at hdu
              have Hdue2 := Lib.hid hdu
              clear hdu
              go_wp2_with (first | (refine wpList_farith rfl .sub _ _ _ _ rfl (by simp) .f32 _ _ rfl rfl ?_; intro d nd2 Hd) | (refine wpList_farith rfl .mul _ _ _ _ rfl (by simp) .f32 _ _ rfl rfl ?_; intro q nq Hq) | (refine wpList_farith rfl .quo _ _ _ _ rfl (by simp) .f32 q _ rfl rfl ?_; intro t nt Ht) | (refine wpList_farith rfl .add _ _ _ _ rfl (by simp) .f32 _ _ rfl rfl ?_; intro r nr Hr))
              have HF12 := Lib.hid (HSt.out _ _ _ _ _ Hdue2.out Hd.out Hq.out Ht.out Hr.out)
              go_roundw
              case rel => exact ⟨j + 1, by omega, by go_num, by rw [HF12.out.1], Lib.hid (by rw [← HF12.out.1]; exact HF12.out.2), Lib.hid (hw4.out.more _)⟩
              case measure => simp [intOf]; omega
          · obtain rfl : j = k := by omega
            have HN := Lib.hid (fun z => numfin_spec (FF j) (bd_lt hB.out) (Bd.fin hB.out) z)
            generalize hS : FF j = S at *
            clear hS
            go_wp2_with fail
            refine (HN.out _).mono ?_
            rintro e w5 ⟨rfl, hd5⟩
            have Hd5 := Lib.hid (Hd3.out.trans (hw4.out.trans hd5))
            clear hd5
            go_wp2
            go_ret2
            exact ⟨by rw [HO.out, HR.out]; rfl, Hd5.out.below _⟩

theorem spec_TestCounts (cs : List Int) (v : Value) (ws : List Int) (u : Value) (w : World) (hn : cs.length ≤ 1048576) (hn2 : ws.length ≤ 1048576) (h : Sl (Value.int .i64) 0 w v cs) (g : Sl (Value.int .i64) 0 w u ws) :
    Calls Try.prog 31 #[v, u] w fun e w' => e = .returned (.tuple #[.float .f32 (res_TestCounts cs ws), .bool (ok_TestCounts cs ws)]) ∧ Below w.heap.size w w' := by
  by_cases hy : 2 ≤ cs.length ∧ cs.length ≤ 64 ∧ ws.length = cs.length
  · exact tcs_yes cs v ws u w hn hn2 h g hy.1 hy.2.1 hy.2.2
  · have ho : ok_TestCounts cs ws = false := by
      unfold ok_TestCounts
      by_cases a : 2 ≤ cs.length
      · by_cases b : cs.length ≤ 64
        · rw [decide_eq_false (fun c => hy ⟨a, b, c⟩), Bool.false_and, Bool.and_false]
        · rw [decide_eq_false b, Bool.and_false, Bool.false_and]
      · rw [decide_eq_false a, Bool.false_and, Bool.false_and]
    rw [tc_no ho, ho]
    exact tcs_no cs v ws u w hn hn2 h g hy
end Go.Proofs.Ytaimbadajgjhaab
