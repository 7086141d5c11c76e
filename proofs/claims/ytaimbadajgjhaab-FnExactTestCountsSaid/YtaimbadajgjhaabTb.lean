/- Contracts: sums of lists; how far counts are from those that are due, the program. -/
import Derived.Test.YtaimbadajgjhaabMc
import Derived.Test.YtaimbadajgjhaabTa
import Derived.Test.YtaimbadajgjhaabNumb
set_option linter.unusedVariables false
namespace Go.Proofs.Ytaimbadajgjhaab
open Go.RowKit Fl

/-- the sum of the first k numbers -/
def sumQ (fs : List Int) : Nat → Int
  | 0 => 0
  | k + 1 => sumQ fs k + fs.getD k 0
set_option maxHeartbeats 1000000 in
theorem sumOfQ_any (fs : List Int) (v : Value) (w : World) (hn : fs.length ≤ 1048576) (hbd : ∀ k, k ≤ fs.length → -9223372036854775808 ≤ sumQ fs k ∧ sumQ fs k ≤ 9223372036854775807) (h : Sl (Value.int .i64) 0 w v fs) :
    Calls Try.prog 73 #[v] w fun e w' => e = .returned (.int .i64 (sumQ fs fs.length)) ∧ Drawn w w' := by
  obtain ⟨q, cap, rfl, hf⟩ := h
  have Hf := Lib.hid hf
  clear hf
  have Hbd := Lib.hid hbd
  have Hst := Lib.hid (fun k => show sumQ fs (k + 1) = sumQ fs k + fs.getD k 0 from rfl)
  clear hbd
  obtain ⟨n, hn1⟩ : ∃ n, n = fs.length := ⟨_, rfl⟩
  rw [← hn1] at hn Hf Hbd
  rw [← hn1]
  clear hn1
  go_enter Try.func73, Try.ntmps73
  go_wp2
  go_loopw [3, 8] (fun c i wr => ∃ k : Nat, k ≤ n ∧ i = .int .i64 (k : Int) ∧ c = .int .i64 (sumQ fs k) ∧ Drawn w wr) (fun _ i _ => n - (intOf i).toNat)
  case atStart => exact ⟨0, Nat.zero_le _, rfl, rfl, Drawn.refl _⟩
  case round =>
    obtain ⟨k, hk, rfl, rfl, hw⟩ := hrel
    by_cases hlt : k < n
    · obtain ⟨hcap, b, off, rfl, hbs, hcell⟩ := Hf.out (by omega)
      have c1 := (hw.cell _).trans (hcell k hlt)
      have hst := Hst.out k
      have hb1 := Hbd.out (k + 1) (by omega)
      rw [hst] at hb1
      have Hst2 := Lib.hid hst
      obtain ⟨m0, m1⟩ := hb1
      clear hcell hst
      generalize fs.getD k 0 = x at *
      generalize sumQ fs k = S at *
      go_wp2
      go_roundw
      case rel => exact ⟨k + 1, by omega, by go_num, by rw [Hst2.out], hw⟩
      case measure => simp [intOf]; omega
    · obtain rfl : k = n := by omega
      go_wp2
      go_ret
      exact ⟨rfl, hw⟩

set_option maxHeartbeats 1000000 in
theorem sumSQ_any (fs : List Int) (v : Value) (w : World) (hn : fs.length ≤ 1048576) (hbd : ∀ k, k ≤ fs.length → -9223372036854775808 ≤ sumQ fs k ∧ sumQ fs k ≤ 9223372036854775807) (h : Sl (Value.int .i64) 0 w v fs) :
    Calls Try.prog 70 #[v] w fun e w' => e = .returned (.int .i64 (sumQ fs fs.length)) ∧ Drawn w w' := by
  obtain ⟨q, cap, rfl, hf⟩ := h
  have Hf := Lib.hid hf
  clear hf
  have Hbd := Lib.hid hbd
  have Hst := Lib.hid (fun k => show sumQ fs (k + 1) = sumQ fs k + fs.getD k 0 from rfl)
  clear hbd
  obtain ⟨n, hn1⟩ : ∃ n, n = fs.length := ⟨_, rfl⟩
  rw [← hn1] at hn Hf Hbd
  rw [← hn1]
  clear hn1
  go_enter Try.func70, Try.ntmps70
  go_wp2
  go_loopw [3, 7] (fun c i wr => ∃ k : Nat, k ≤ n ∧ i = .int .i64 (k : Int) ∧ c = .int .i64 (sumQ fs k) ∧ Drawn w wr) (fun _ i _ => n - (intOf i).toNat)
  case atStart => exact ⟨0, Nat.zero_le _, rfl, rfl, Drawn.refl _⟩
  case round =>
    obtain ⟨k, hk, rfl, rfl, hw⟩ := hrel
    by_cases hlt : k < n
    · obtain ⟨hcap, b, off, rfl, hbs, hcell⟩ := Hf.out (by omega)
      have c1 := (hw.cell _).trans (hcell k hlt)
      have hst := Hst.out k
      have hb1 := Hbd.out (k + 1) (by omega)
      rw [hst] at hb1
      have Hst2 := Lib.hid hst
      obtain ⟨m0, m1⟩ := hb1
      clear hcell hst
      generalize fs.getD k 0 = x at *
      generalize sumQ fs k = S at *
      go_wp2
      go_roundw
      case rel => exact ⟨k + 1, by omega, by go_num, by rw [Hst2.out], hw⟩
      case measure => simp [intOf]; omega
    · obtain rfl : k = n := by omega
      go_wp2
      go_ret
      exact ⟨rfl, hw⟩

theorem sumQ_bd {lo hi : Int} {fs : List Int} (h : allB lo hi fs = true) : ∀ k, k ≤ fs.length → lo * (k : Int) ≤ sumQ fs k ∧ sumQ fs k ≤ hi * (k : Int)
  | 0, _ => by show lo * (0 : Int) ≤ 0 ∧ 0 ≤ hi * (0 : Int); rw [Int.mul_zero, Int.mul_zero]; omega
  | k + 1, hk => by
    have h1 := sumQ_bd h k (by omega)
    have h2 := allB_at h k (by omega)
    rw [sumQ, show ((k + 1 : Nat) : Int) = (k : Int) + 1 from rfl, Int.mul_add, Int.mul_add, Int.mul_one, Int.mul_one]
    omega
def ok_TestCounts (cs ws : List Int) : Bool := (decide (2 ≤ cs.length) && decide (cs.length ≤ 64)) && (decide (ws.length = cs.length) && (allB 0 1000000 cs && (allB 1 1000 ws && !decide (sumQ cs cs.length = 0))))
def res_TestCounts (cs ws : List Int) : Nat := if ok_TestCounts cs ws = true then farF cs ws (sumQ cs cs.length) (sumQ ws ws.length) cs.length else 0
theorem tc_step (cs ws : List Int) (hc : allB 0 1000000 cs = true) (hw : allB 1 1000 ws = true) (h64 : cs.length ≤ 64) (h2 : 2 ≤ cs.length) (hl : ws.length = cs.length) (h0 : sumQ cs cs.length ≠ 0) :
    (1 ≤ sumQ cs cs.length ∧ sumQ cs cs.length ≤ 64000000) ∧ (1 ≤ sumQ ws ws.length ∧ sumQ ws ws.length ≤ 64000) ∧ (∀ k, k < cs.length → 1 ≤ sumQ cs cs.length * ws.getD k 0 ∧ sumQ cs cs.length * ws.getD k 0 ≤ 64000000000) ∧
    ∀ k, k < cs.length → ∀ due d q t r, Bd .f32 (farF cs ws (sumQ cs cs.length) (sumQ ws ws.length) k) (farSB k) →
      FopR .quo .f32 (floatOfInt .f32 (sumQ cs cs.length * ws.getD k 0)) (floatOfInt .f32 (sumQ ws ws.length)) due → FopR .sub .f32 (floatOfInt .f32 (cs.getD k 0)) due d → FopR .mul .f32 d d q → FopR .quo .f32 q due t →
      FopR .add .f32 (farF cs ws (sumQ cs cs.length) (sumQ ws ws.length) k) t r → r = farF cs ws (sumQ cs cs.length) (sumQ ws ws.length) (k + 1) ∧ Bd .f32 r (farSB (k + 1)) := by
  have s1 := sumQ_bd hc cs.length (Nat.le_refl _)
  have s2 := sumQ_bd hw ws.length (Nat.le_refl _)
  have A1 : 1 ≤ sumQ cs cs.length ∧ sumQ cs cs.length ≤ 64000000 := by omega
  have W1 : 1 ≤ sumQ ws ws.length ∧ sumQ ws ws.length ≤ 64000 := by omega
  have P1 : ∀ k, k < cs.length → 1 ≤ sumQ cs cs.length * ws.getD k 0 ∧ sumQ cs cs.length * ws.getD k 0 ≤ 64000000000 := fun k hk => by
    have g := allB_at hw k (by omega)
    have p := Int.mul_pos (show 0 < sumQ cs cs.length by omega) (show 0 < ws.getD k 0 by omega)
    have q := Int.mul_le_mul A1.2 g.2 (by omega) (by omega)
    omega
  refine ⟨A1, W1, P1, fun k hk due d q t r hb h1 h2 h3 h4 h5 => ?_⟩
  obtain ⟨d1, d2, d3⟩ := due_ok (P1 k hk).1 (P1 k hk).2 W1.1 W1.2 h1
  have g := allB_at hc k hk
  obtain ⟨l1, l2⟩ := less_ok d1 d2 g.1 g.2 h2
  obtain ⟨t1, t2⟩ := term_ok d1 d2 d3 l1 l2 h3 h4
  exact far_ok (by omega) rfl hb t1 t2 h5
theorem tc_no {cs ws : List Int} (h : ok_TestCounts cs ws = false) : res_TestCounts cs ws = 0 := by unfold res_TestCounts; rw [h]; rfl

set_option maxRecDepth 100000 in
set_option maxHeartbeats 1000000 in
theorem impl_TestCounts (cs : List Int) (v : Value) (ws : List Int) (u : Value) (w : World) (hn : cs.length ≤ 1048576) (hn2 : ws.length ≤ 1048576) (h : Sl (Value.int .i64) 0 w v cs) (g : Sl (Value.int .i64) 0 w u ws) :
    Calls Try.prog 33 #[v, u] w fun e w' => e = .returned (.tuple #[.float .f32 (res_TestCounts cs ws), .bool (ok_TestCounts cs ws)]) ∧ Below w.heap.size w w' := by
  have HA := Lib.hid (areW_any cs v 0 1000000 w hn h)
  have HB := Lib.hid (fun z (hz : Below w.heap.size w z) => areW_any ws u 1 1000 z hn2 (g.later hz))
  have E : ok_TestCounts cs ws = ((decide (2 ≤ cs.length) && decide (cs.length ≤ 64)) && (decide (ws.length = cs.length) && (allB 0 1000000 cs && (allB 1 1000 ws && !decide (sumQ cs cs.length = 0))))) := rfl
  by_cases h2 : 2 ≤ cs.length ∧ cs.length ≤ 64
  · have HI := Lib.hid (fun z => within_yes (cs.length : Int) 2 64 z (by omega) (by omega))
    rw [decide_eq_true h2.1, decide_eq_true h2.2, Bool.true_and, Bool.true_and] at E
    by_cases hl : ws.length = cs.length
    · rw [decide_eq_true hl, Bool.true_and] at E
      cases hc : allB 0 1000000 cs
      · rw [hc, Bool.false_and] at E
        rw [hc] at HA
        rw [tc_no E, E]
        obtain ⟨p, cap, rfl, -⟩ := h
        obtain ⟨q, cap2, rfl, -⟩ := g
        rw [hl]
        have hne : ((cs.length : Int) != (cs.length : Int)) = false := by simp
        clear E hc hl hn2
        generalize cs.length = n at *
        go_enter Try.func33, Try.ntmps33
        go_wp2_with fail
        refine (HI.out _).mono ?_
        rintro e w' ⟨rfl, rfl⟩
        go_wp2_with fail
        refine (HA.out).mono ?_
        rintro e w1 ⟨rfl, hb⟩
        have Hb := Lib.hid hb
        clear hb
        go_wp2
        go_ret2
        exact ⟨rfl, Hb.out⟩
      · rw [hc, Bool.true_and] at E
        rw [hc] at HA
        cases hw : allB 1 1000 ws
        · rw [hw, Bool.false_and] at E
          rw [hw] at HB
          rw [tc_no E, E]
          obtain ⟨p, cap, rfl, -⟩ := h
          obtain ⟨q, cap2, rfl, -⟩ := g
          rw [hl] at HB ⊢
          have hne : ((cs.length : Int) != (cs.length : Int)) = false := by simp
          clear E hc hw hl hn2
          generalize cs.length = n at *
          go_enter Try.func33, Try.ntmps33
          go_wp2_with fail
          refine (HI.out _).mono ?_
          rintro e w' ⟨rfl, rfl⟩
          go_wp2_with fail
          refine (HA.out).mono ?_
          rintro e w1 ⟨rfl, hb⟩
          have Hb := Lib.hid hb
          clear hb
          go_wp2_with fail
          refine (HB.out _ Hb.out).mono ?_
          rintro e w2 ⟨rfl, hb⟩
          have Hb2 := Lib.hid (below_step Hb.out hb (Nat.le_refl _))
          clear hb
          go_wp2
          go_ret2
          exact ⟨rfl, Hb2.out⟩
        · rw [hw, Bool.true_and] at E
          rw [hw] at HB
          have q1 := sumQ_bd hc
          have q2 := sumQ_bd hw
          have HSA := Lib.hid (fun z (hz : Below w.heap.size w z) => sumOfQ_any cs v z hn (fun k hk => by have := q1 k hk; omega) (h.later hz))
          have HSB := Lib.hid (fun z (hz : Below w.heap.size w z) => sumOfQ_any ws u z hn2 (fun k hk => by have := q2 k hk; omega) (g.later hz))
          clear q1 q2
          by_cases h0 : sumQ cs cs.length = 0
          · rw [decide_eq_true h0] at E
            rw [tc_no E, E]
            rw [h0] at HSA
            obtain ⟨p, cap, rfl, -⟩ := h
            obtain ⟨q, cap2, rfl, -⟩ := g
            rw [hl] at HB HSB ⊢
            have hne : ((cs.length : Int) != (cs.length : Int)) = false := by simp
            clear E hc hw hl hn2 h0
            generalize cs.length = n at *
            go_enter Try.func33, Try.ntmps33
            go_wp2_with fail
            refine (HI.out _).mono ?_
            rintro e w' ⟨rfl, rfl⟩
            go_wp2_with fail
            refine (HA.out).mono ?_
            rintro e w1 ⟨rfl, hb⟩
            have Hb := Lib.hid hb
            clear hb
            go_wp2_with fail
            refine (HB.out _ Hb.out).mono ?_
            rintro e w2 ⟨rfl, hb⟩
            have Hb2 := Lib.hid (below_step Hb.out hb (Nat.le_refl _))
            clear hb
            go_wp2_with fail
            refine (HSA.out _ Hb2.out).mono ?_
            rintro e w3 ⟨rfl, hd⟩
            have Hb3 := Lib.hid (Hb2.out.trans (hd.below _))
            clear hd
            go_wp2_with fail
            refine (HSB.out _ Hb3.out).mono ?_
            rintro e w4 ⟨rfl, hd⟩
            have Hb4 := Lib.hid (Hb3.out.trans (hd.below _))
            clear hd
            go_wp2
            go_ret2
            exact ⟨rfl, Hb4.out⟩
          · rw [decide_eq_false h0] at E
            have E2 : ok_TestCounts cs ws = true := E
            have E3 : res_TestCounts cs ws = farF cs ws (sumQ cs cs.length) (sumQ ws ws.length) cs.length := by unfold res_TestCounts; rw [E2]; rfl
            rw [E3, E2]
            obtain ⟨⟨A1, A2⟩, ⟨W1, W2⟩, P1, hst⟩ := tc_step cs ws hc hw h2.2 h2.1 hl h0
            have HP := Lib.hid P1
            have Hst := Lib.hid hst
            clear P1 hst E E2 E3 hc hw h0
            obtain ⟨p, cap, rfl, hf⟩ := h
            obtain ⟨q, cap2, rfl, hg⟩ := g
            have HF0 : Hid (farF cs ws (sumQ cs cs.length) (sumQ ws ws.length) 0 = 0) := Lib.hid rfl
            have HBd0 := Lib.hid far_zero
            rw [hl] at hg HB HSB Hst W1 W2 HF0 ⊢
            obtain ⟨hcap, b1, off1, rfl, hbs1, hcell1⟩ := hf (by omega)
            obtain ⟨hcap2, b2, off2, rfl, hbs2, hcell2⟩ := hg (by omega)
            have Hc1 := Lib.hid hcell1
            have Hc2 := Lib.hid hcell2
            have hne : ((cs.length : Int) != (cs.length : Int)) = false := by simp
            obtain ⟨n2, n64⟩ := h2
            clear hf hg hcell1 hcell2 hl hn2
            generalize sumQ ws cs.length = W at *
            generalize sumQ cs cs.length = A at *
            generalize hFF : farF cs ws A W = FF at *
            clear hFF
            generalize cs.length = n at *
            have a0 : (A = 0) = False := eq_false (by omega)
            have a1 : (A == 0) = false := by rw [beq_eq_false_iff_ne]; omega
            go_enter Try.func33, Try.ntmps33
            go_wp2_with fail
            refine (HI.out _).mono ?_
            rintro e w' ⟨rfl, rfl⟩
            go_wp2_with fail
            refine (HA.out).mono ?_
            rintro e w1 ⟨rfl, hb⟩
            have Hb := Lib.hid hb
            clear hb
            go_wp2_with fail
            refine (HB.out _ Hb.out).mono ?_
            rintro e w2 ⟨rfl, hb⟩
            have Hb2 := Lib.hid (below_step Hb.out hb (Nat.le_refl _))
            clear hb
            go_wp2_with fail
            refine (HSA.out _ Hb2.out).mono ?_
            rintro e w3 ⟨rfl, hd⟩
            have Hb3 := Lib.hid (Hb2.out.trans (hd.below _))
            clear hd
            go_wp2_with fail
            refine (HSB.out _ Hb3.out).mono ?_
            rintro e w4 ⟨rfl, hd⟩
            have Hb4 := Lib.hid (Hb3.out.trans (hd.below _))
            clear hd
            go_wp2
            go_loopw [8, 42] (fun s i wr => ∃ k : Nat, k ≤ n ∧ i = .int .i64 (k : Int) ∧ s = .float .f32 (FF k) ∧ Hid (Bd .f32 (FF k) (farSB k)) ∧ Hid (Drawn w4 wr)) (fun _ i _ => n - (intOf i).toNat)
            case atStart => exact ⟨0, Nat.zero_le _, rfl, by rw [HF0.out], Lib.hid (by rw [HF0.out]; exact HBd0.out), Lib.hid (Drawn.refl _)⟩
            case round =>
              obtain ⟨k, hk, rfl, rfl, hB, hw⟩ := hrel
              by_cases hlt : k < n
              · have c1 := (hw.out.cell _).trans ((Hb4.out.cell hbs1).trans (Hc1.out k hlt))
                have c2 := (hw.out.cell _).trans ((Hb4.out.cell hbs2).trans (Hc2.out k hlt))
                obtain ⟨p1, p2⟩ := HP.out k hlt
                have Hs := Lib.hid (Hst.out k hlt)
                generalize ws.getD k 0 = x at *
                generalize cs.getD k 0 = c at *
                generalize hS : FF k = S at *
                clear hS
                have HSt := Lib.hid (fun due d q t r => Hs.out due d q t r hB.out)
                clear Hs
                go_wp2_with (first | (refine wpList_farith rfl .quo _ _ _ _ rfl (by simp) .f32 (floatOfInt .f32 (A * x)) _ rfl rfl ?_; intro due nd Hdue) | (refine wpList_farith rfl .sub _ _ _ _ rfl (by simp) .f32 _ _ rfl rfl ?_; intro d nd2 Hd) | (refine wpList_farith rfl .mul _ _ _ _ rfl (by simp) .f32 _ _ rfl rfl ?_; intro q nq Hq) | (refine wpList_farith rfl .quo _ _ _ _ rfl (by simp) .f32 q _ rfl rfl ?_; intro t nt Ht) | (refine wpList_farith rfl .add _ _ _ _ rfl (by simp) .f32 _ _ rfl rfl ?_; intro r nr Hr))
                have HF12 := Lib.hid (HSt.out _ _ _ _ _ Hdue.out Hd.out Hq.out Ht.out Hr.out)
                go_roundw
                case rel => exact ⟨k + 1, by omega, by go_num, by rw [HF12.out.1], Lib.hid (by rw [← HF12.out.1]; exact HF12.out.2), by first | exact Lib.hid (hw.out.more _) | exact Lib.hid (((((hw.out.more nd).more nd2).more nq).more nt).more nr)⟩
                case measure => simp [intOf]; omega
              · obtain rfl : k = n := by omega
                go_wp2
                go_ret2
                exact ⟨rfl, Hb4.out.trans (hw.out.below _)⟩
    · rw [decide_eq_false hl, Bool.false_and] at E
      rw [tc_no E, E]
      have hne : ((ws.length : Int) != (cs.length : Int)) = true := by simp; omega
      have hne2 : ((ws.length : Int) = (cs.length : Int)) = False := eq_false (by omega)
      obtain ⟨p, cap, rfl, -⟩ := h
      obtain ⟨q, cap2, rfl, -⟩ := g
      clear E hl
      generalize cs.length = n at *
      generalize ws.length = m at *
      go_enter Try.func33, Try.ntmps33
      go_wp2_with fail
      refine (HI.out _).mono ?_
      rintro e w' ⟨rfl, rfl⟩
      go_wp2
      go_ret2
      exact ⟨rfl, Below.refl _ _⟩
  · have HI := Lib.hid (fun z => within_no (cs.length : Int) 2 64 z (by omega))
    have E1 : ok_TestCounts cs ws = false := by
      rw [E]
      cases a : decide (2 ≤ cs.length)
      · rfl
      · cases b : decide (cs.length ≤ 64)
        · rfl
        · exact absurd ⟨of_decide_eq_true a, of_decide_eq_true b⟩ h2
    rw [tc_no E1, E1]
    obtain ⟨p, cap, rfl, -⟩ := h
    obtain ⟨q, cap2, rfl, -⟩ := g
    clear E E1 h2
    generalize cs.length = n at *
    generalize ws.length = m at *
    go_enter Try.func33, Try.ntmps33
    go_wp2_with fail
    refine (HI.out _).mono ?_
    rintro e w' ⟨rfl, rfl⟩
    go_wp2
    go_ret2
    exact ⟨rfl, Below.refl _ _⟩
end Go.Proofs.Ytaimbadajgjhaab
