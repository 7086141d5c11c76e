/- Contracts: the throw that gains most, the model. -/
import Derived.Test.YtodmaomngpnboaaTrA
import Derived.Test.YtodmaomngpnboaaNf
import Derived.BigQuiet
set_option linter.unusedVariables false
namespace Go.Proofs.Ytodmaomngpnboaa
open Go.RowKit

theorem prodT_bd (x y : Int) (a : -9 ≤ x ∧ x ≤ 9) (b : 0 ≤ y ∧ y ≤ 200) : -9000 ≤ x * y ∧ x * y ≤ 9000 := by
  have p1 : x * y ≤ 9 * 200 := by
    rcases Int.le_total 0 x with h | h
    · exact Int.le_trans (Int.mul_le_mul_of_nonneg_left b.2 h) (Int.mul_le_mul_of_nonneg_right a.2 (by omega))
    · have := Int.mul_nonneg (show 0 ≤ -x by omega) b.1
      rw [Int.neg_mul] at this
      omega
  have p2 : -(9 * 200) ≤ x * y := by
    rcases Int.le_total 0 x with h | h
    · have := Int.mul_nonneg h b.1; omega
    · have h1 : (-x) * y ≤ 9 * 200 := Int.le_trans (Int.mul_le_mul_of_nonneg_left b.2 (show 0 ≤ -x by omega)) (Int.mul_le_mul_of_nonneg_right (show -x ≤ 9 by omega) (by omega))
      rw [Int.neg_mul] at h1
      omega
  omega
set_option maxRecDepth 100000 in
set_option maxHeartbeats 4000000 in
theorem reply_any (fs cs : List Int) (n : Nat) (v v2 : Value) (w : World) (h2 : 2 ≤ n) (h5 : n ≤ 5) (hl : fs.length = n * n) (hcl : cs.length = n)
    (hf : ∀ k, k < n * n → -9 ≤ fs.getD k 0 ∧ fs.getD k 0 ≤ 9) (hc : ∀ k, 0 ≤ cs.getD k 0 ∧ cs.getD k 0 ≤ 200)
    (h : Sl (Value.int .i64) 0 w v fs) (h' : Sl (Value.int .i64) 0 w v2 cs) :
    Calls Try.prog 69 #[v, v2] w fun e w' => e = .returned (.int .i64 (repL fs n cs : Nat)) ∧ Drawn w w' := by
  have hnn := Nat.mul_le_mul h5 h5
  have hpos : 0 < n * n := Nat.mul_pos (by omega) (by omega)
  obtain ⟨q, cap2, rfl, hcs⟩ := h'
  rw [hcl] at hcs ⊢
  obtain ⟨hcap2, b2, off2, rfl, hbs2, hcell2⟩ := hcs (by omega)
  obtain ⟨q1, cap, rfl, hfs⟩ := h
  obtain ⟨hcap, b, off, rfl, hbs, hcell⟩ := hfs (by omega)
  rw [hl] at hcell hcap ⊢
  clear hcs hfs
  have HC := Lib.hid hcell
  have HC2 := Lib.hid hcell2
  have Hf := Lib.hid hf
  have Hc := Lib.hid hc
  have Hlt := Lib.hid (fun i k (hi : i < n) (hk : k < n) => cell_lt hi hk)
  have HRL := Lib.hid (show repB (gainG fs cs n) n = repL fs n cs from rfl)
  have HRs := Lib.hid (fun m => repB_succ (gainG fs cs n) m)
  have HR0 := Lib.hid (show repB (gainG fs cs n) 0 = 0 from rfl)
  have HRt := Lib.hid (fun m (hm : 0 < m) => repB_lt (gainG fs cs n) m hm)
  have HGn := Lib.hid (fun i => (show gainS fs cs n i n = gainG fs cs n i from rfl))
  have HG0 := Lib.hid (fun i => (show gainS fs cs n i 0 = 0 from rfl))
  have HGs := Lib.hid (fun i k => (show gainS fs cs n i (k + 1) = gainS fs cs n i k + fs.getD (i * n + k) 0 * cs.getD k 0 from rfl))
  have HGb := Lib.hid (fun i (hi : i < n) => gainS_bd fs cs n i 200 (by omega) (fun k hk => hf (i * n + k) (cell_lt hi hk)) hc)
  clear hcell hcell2 hf hc hl hcl
  go_enter Try.func69, Try.ntmps69
  go_wp2
  go_loopw [6, 7, 8] (fun bb mm i wr => ∃ m : Nat, m ≤ n ∧ i = .int .i64 (m : Int) ∧ bb = .int .i64 ((repB (gainG fs cs n) m : Nat) : Int) ∧ mm = .int .i64 (if m = 0 then 0 else gainG fs cs n (repB (gainG fs cs n) m)) ∧ Drawn w wr) (fun _ _ i _ => n - (intOf i).toNat)
  case atStart => exact ⟨0, Nat.zero_le _, rfl, by rw [HR0.out]; rfl, rfl, Drawn.refl _⟩
  case round =>
    obtain ⟨m, hm, rfl, rfl, rfl, hw⟩ := hrel
    by_cases hlt : m < n
    · have Hw := Lib.hid hw
      have HS0 := HG0.out m
      have hsucc := HRs.out m
      have HRtm := Lib.hid (HRt.out m)
      have Hm0 : Hid (m = 0 → (if m = 0 then 0 else gainG fs cs n (repB (gainG fs cs n) m)) = 0) := Lib.hid (fun h => if_pos h)
      have Hm1 : Hid (m ≠ 0 → (if m = 0 then 0 else gainG fs cs n (repB (gainG fs cs n) m)) = gainG fs cs n (repB (gainG fs cs n) m)) := Lib.hid (fun h => if_neg h)
      generalize (if m = 0 then 0 else gainG fs cs n (repB (gainG fs cs n) m)) = MM at *
      have Hsucc := Lib.hid hsucc
      clear hsucc hw
      go_wp2
      obtain ⟨wo, rfl⟩ : ∃ z, z = wr := ⟨_, rfl⟩
      go_loopw [9, 10] (fun g i wi => ∃ k : Nat, k ≤ n ∧ i = .int .i64 (k : Int) ∧ g = .int .i64 (gainS fs cs n m k) ∧ Drawn wo wi) (fun _ i _ => n - (intOf i).toNat)
      case atStart => exact ⟨0, Nat.zero_le _, rfl, by rw [HS0], Drawn.refl _⟩
      case round =>
        obtain ⟨k, hk, rfl, rfl, hwi⟩ := hrel
        by_cases hlk : k < n
        · have l1 := Hlt.out m k hlt hlk
          have c1 := ((Hw.out.trans hwi).cell _).trans (HC.out (m * n + k) l1)
          have c2 := ((Hw.out.trans hwi).cell _).trans (HC2.out k hlk)
          have b1 := HGb.out m hlt k hk
          have b2' := HGb.out m hlt (k + 1) hlk
          have hst := HGs.out m k
          rw [hst] at b2'
          have p1 := Hf.out (m * n + k) l1
          have p2 := Hc.out k
          have Hst := Lib.hid hst
          have m1 : 0 ≤ (m : Int) * (n : Int) ∧ (m : Int) * (n : Int) ≤ 25 := by rw [← Int.natCast_mul]; omega
          have e1 : (m : Int) * (n : Int) + (k : Int) = ((m * n + k : Nat) : Int) := by rw [Int.natCast_add, Int.natCast_mul]
          clear hst
          generalize m * n + k = I1 at *
          generalize fs.getD I1 0 = X at *
          generalize cs.getD k 0 = Y at *
          generalize gainS fs cs n m k = S at *
          obtain ⟨m1a, m1b⟩ := m1
          have xy := prodT_bd X Y p1 p2
          obtain ⟨x1, x2⟩ := p1
          obtain ⟨y1, y2⟩ := p2
          obtain ⟨s1, s2⟩ := b1
          obtain ⟨s3, s4⟩ := b2'
          obtain ⟨xy1, xy2⟩ := xy
          go_wp2
          go_quiet (fail)
          go_wp2
          go_roundw
          case rel => exact ⟨k + 1, by omega, by go_num, by rw [Hst.out], hwi.more _⟩
          case measure => simp [intOf]; omega
        · obtain rfl : k = n := by omega
          have hww := Lib.hid (Hw.out.trans hwi)
          rw [HGn.out m]
          by_cases hm0 : m = 0
          · have hr := Hsucc.out
            rw [if_pos (.inl hm0)] at hr
            subst hm0
            have Hr := Lib.hid hr
            clear hr hwi
            generalize hGG : gainG fs cs k 0 = GG at *
            have HGG := Lib.hid hGG
            clear hGG
            go_wp2
            go_roundw
            case rel => exact ⟨1, by omega, by go_num, by rw [Hr.out], by rw [Hr.out, HGG.out]; rfl, hww.out⟩
            case measure => simp [intOf]; omega
          · have e0 : ((m : Int) == 0) = false := by rw [beq_eq_false_iff_ne]; omega
            have e1 : ((m : Int) = 0) = False := eq_false (by omega)
            have e2 : (m = 0) = False := eq_false hm0
            have hM := Hm1.out hm0
            subst hM
            by_cases hg : gainG fs cs k (repB (gainG fs cs k) m) < gainG fs cs k m
            · have hr := Hsucc.out
              rw [if_pos (.inr hg)] at hr
              have Hr := Lib.hid hr
              clear hr hwi Hm0 Hm1 Hsucc
              have d1 : decide (gainG fs cs k (repB (gainG fs cs k) m) < gainG fs cs k m) = true := decide_eq_true hg
              generalize hGG : gainG fs cs k m = GG at *
              have HGG := Lib.hid hGG
              clear hGG
              generalize gainG fs cs k (repB (gainG fs cs k) m) = G2 at *
              generalize repB (gainG fs cs k) m = RR at *
              go_wp2
              go_roundw
              case rel => exact ⟨m + 1, by omega, by go_num, by rw [Hr.out], by rw [Hr.out, HGG.out]; rfl, hww.out⟩
              case measure => simp [intOf]; omega
            · have hr := Hsucc.out
              rw [if_neg (fun h => h.elim hm0 hg)] at hr
              have Hr := Lib.hid hr
              clear hr hwi Hm0 Hm1 Hsucc
              have d1 : decide (gainG fs cs k (repB (gainG fs cs k) m) < gainG fs cs k m) = false := decide_eq_false hg
              generalize hGG : gainG fs cs k m = GG at *
              generalize hG2 : gainG fs cs k (repB (gainG fs cs k) m) = G2 at *
              have HG2 := Lib.hid hG2
              clear hG2 hGG
              generalize hRR : repB (gainG fs cs k) m = RR at *
              go_wp2
              go_roundw
              case rel => exact ⟨m + 1, by omega, by go_num, by rw [Hr.out], by rw [Hr.out, HG2.out]; rfl, hww.out⟩
              case measure => simp [intOf]; omega
    · obtain rfl : m = n := by omega
      rw [HRL.out]
      go_wp2
      go_ret
      exact ⟨rfl, hw⟩
end Go.Proofs.Ytodmaomngpnboaa
