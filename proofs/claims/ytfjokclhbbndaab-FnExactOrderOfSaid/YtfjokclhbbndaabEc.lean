/- Contracts: ranks, in both texts. -/
import Derived.Test.YtfjokclhbbndaabEb
import Derived.Test.YtfjokclhbbndaabDr
set_option linter.unusedVariables false
namespace Go.Proofs.Ytfjokclhbbndaab
open Go.RowKit

theorem rank_yes (fs : List Int) (h : deckB fs = true) (h2 : fs.length ≤ 20) : ok_RankOf fs = true ∧ res_RankOf fs = (rankR fs fs.length : Int) := by
  unfold ok_RankOf res_RankOf; rw [h, decide_eq_true h2, if_pos ⟨rfl, h2⟩]; exact ⟨rfl, rfl⟩
theorem rank_no (fs : List Int) (h : ¬ (deckB fs = true ∧ fs.length ≤ 20)) : ok_RankOf fs = false ∧ res_RankOf fs = 0 := by
  unfold ok_RankOf res_RankOf; rw [if_neg h]; refine ⟨?_, rfl⟩
  rw [Bool.eq_false_iff]; intro h'; simp only [Bool.and_eq_true, decide_eq_true_eq] at h'; exact h h'
theorem Sl.drop {w : World} {b off n cap : Nat} {fs : List Int} (h : Sl (Value.int .i64) 0 w (.slice (some ⟨b, off, none⟩) n cap) fs) (k : Nat) (hk : k < fs.length) (c : Nat) (hc : fs.length - k ≤ c) : Sl (Value.int .i64) 0 w (.slice (some ⟨b, off + k, none⟩) (n - k) c) (fs.drop k) := by
  obtain ⟨p', cap', e, h⟩ := h
  obtain ⟨hcap, b', off', rfl, hb, hcc⟩ := h (by omega)
  cases e
  refine ⟨_, c, by rw [List.length_drop], fun h0 => ⟨by rw [List.length_drop]; exact hc, b, off + k, rfl, hb, fun i hi => ?_⟩⟩
  rw [List.length_drop] at hi
  rw [Nat.add_assoc, hcc (k + i) (by omega)]
  simp [List.getD]
theorem lessR_yes (fs : List Int) (i k j : Nat) (h : fs.getD (k + j) 0 < fs.getD i 0) : lessR fs i k (j + 1) = lessR fs i k j + 1 := by simp only [lessR, if_pos h]
theorem lessR_no (fs : List Int) (i k j : Nat) (h : ¬ fs.getD (k + j) 0 < fs.getD i 0) : lessR fs i k (j + 1) = lessR fs i k j := by simp only [lessR, if_neg h, Nat.add_zero]

/-- the program counts in what is left: the cards from i on -/
theorem less_any (fs : List Int) (i n : Nat) (v : Value) (w : World) (hfn : fs.length = n) (hi : i < n) (hn : n ≤ 1048576) (h : Sl (Value.int .i64) 0 w v (fs.drop i)) :
    Calls Try.prog 52 #[v, .int .i64 (fs.getD i 0)] w fun e w' => e = .returned (.int .i64 ((lessR fs i i (n - i) : Nat) : Int)) ∧ w = w' := by
  obtain ⟨p, cap, rfl, hf⟩ := h
  rw [List.length_drop, hfn] at hf ⊢
  have Hf := Lib.hid hf
  have Hle := Lib.hid (lessR_le fs i i)
  have Hy := Lib.hid (lessR_yes fs i i)
  have Hno := Lib.hid (lessR_no fs i i)
  have Hdr := Lib.hid (fun j => (show (fs.drop i).getD j 0 = fs.getD (i + j) 0 from by simp [List.getD]))
  clear hf hfn
  have hm : n - i ≤ 1048576 := by omega
  generalize fs.getD i 0 = y at *
  generalize n - i = m at *
  go_enter Try.func52, Try.ntmps52
  go_wp2
  go_loop [5, 10] (fun c i_ => ∃ j : Nat, j ≤ m ∧ i_ = .int .i64 j ∧ c = .int .i64 ((lessR fs i i j : Nat) : Int)) (fun _ i_ => m - (intOf i_).toNat)
  case atStart => exact ⟨0, Nat.zero_le _, rfl, rfl⟩
  case round =>
    obtain ⟨j, hj, rfl, rfl⟩ := hrel
    have hle := Hle.out j
    by_cases hlt : j < m
    · obtain ⟨hcap, b, off, rfl, hbs, hc⟩ := Hf.out (by omega)
      have c1 := hc j hlt
      rw [Hdr.out] at c1
      have hy := Hy.out j
      have hno := Hno.out j
      clear hc
      generalize fs.getD (i + j) 0 = x at *
      by_cases hxy : x < y
      · have Hy2 := Lib.hid (hy hxy)
        have d : decide (x < y) = true := decide_eq_true hxy
        clear hy hno
        go_wp2
        go_round
        case rel => exact ⟨j + 1, by omega, by go_num, by rw [Hy2.out]; go_num⟩
        case measure => simp [intOf]; omega
      · have Hno2 := Lib.hid (hno (by omega))
        have d : decide (x < y) = false := decide_eq_false hxy
        clear hy hno
        go_wp2
        go_round
        case rel => exact ⟨j + 1, by omega, by go_num, by rw [Hno2.out]⟩
        case measure => simp [intOf]; omega
    · obtain rfl : j = m := by omega
      go_wp2
      go_ret
      exact ⟨rfl, rfl⟩

theorem product_any (n : Nat) (w : World) (hn : n ≤ 20) :
    Calls Try.prog 54 #[.int .i64 (n : Int)] w fun e w' => e = .returned (.int .i64 ((fct n : Nat) : Int)) ∧ w = w' := by
  have Hb := Lib.hid (fun k (h : k ≤ 20) => fct_20 k h)
  have Hst := Lib.hid (fun k => (show fct (k + 1) = (k + 1) * fct k from rfl))
  have H1 := Lib.hid (show fct 1 = 1 from rfl)
  have H0 := Lib.hid (show fct 0 = 1 from rfl)
  go_enter Try.func54, Try.ntmps54
  go_wp2
  go_loop [3, 4] (fun o i => ∃ k : Nat, 1 ≤ k ∧ (k ≤ n ∨ k = 1) ∧ i = .int .i64 ((k : Int) + 1) ∧ o = .int .i64 ((fct k : Nat) : Int)) (fun _ i => (n + 1) - (intOf i).toNat)
  case atStart => exact ⟨1, Nat.le_refl _, .inr rfl, rfl, by rw [H1.out]; rfl⟩
  case round =>
    obtain ⟨k, hk1, hk, rfl, rfl⟩ := hrel
    have hb := Hb.out k (by omega)
    by_cases hlt : k + 1 ≤ n
    · have hb2 := Hb.out (k + 1) (by omega)
      rw [Hst.out k] at hb2
      have hm : ((k + 1) * fct k : Nat) = fct k * (k + 1) := Nat.mul_comm _ _
      rw [hm] at hb2
      have hb3 : 0 ≤ ((fct k : Nat) : Int) * ((k : Int) + 1) ∧ ((fct k : Nat) : Int) * ((k : Int) + 1) ≤ 2432902008176640000 := by
        have e : ((fct k : Nat) : Int) * ((k : Int) + 1) = ((fct k * (k + 1) : Nat) : Int) := by push_cast; rfl
        rw [e]; omega
      obtain ⟨m0, m1⟩ := hb3
      have Hs := Lib.hid (show ((fct (k + 1) : Nat) : Int) = ((fct k : Nat) : Int) * ((k : Int) + 1) by rw [Hst.out k, Nat.mul_comm]; push_cast; rfl)
      clear hb2 hm
      generalize ((fct k : Nat) : Int) = F at *
      go_wp2
      go_round
      case rel => exact ⟨k + 1, by omega, by omega, by go_num, by rw [Hs.out]⟩
      case measure => simp [intOf]; omega
    · have Hk := Lib.hid (show fct k = fct n from by
        by_cases e : k = n
        · rw [e]
        · have e1 : k = 1 := by omega
          have e0 : n = 0 := by omega
          rw [e1, e0, H1.out, H0.out])
      go_wp2
      go_ret
      exact ⟨ret_int (by rw [Hk.out]), rfl⟩

set_option maxHeartbeats 2000000 in
theorem rank_spec (fs : List Int) (v : Value) (w : World) (hn : fs.length ≤ 20) (h1 : 1 ≤ fs.length) (h : Sl (Value.int .i64) 0 w v fs) :
    Calls Try.prog 50 #[v] w fun e w' => e = .returned (.int .i64 ((rankS fs fs.length : Nat) : Int)) ∧ Drawn w w' := by
  obtain ⟨p, cap, rfl, hf⟩ := h
  have Hf := Lib.hid hf
  clear hf
  have Hle := Lib.hid (lessR_le fs)
  have Hy := Lib.hid (lessR_yes fs)
  have Hno := Lib.hid (lessR_no fs)
  have Hbd := Lib.hid (fun k (hk : k ≤ fs.length) => rankS_bd fs k hk hn)
  have Hmb := Lib.hid (fun k (hk : k < fs.length) => rankS_mul_bd fs k hk hn)
  have Hst := Lib.hid (fun k => (show rankS fs (k + 1) = rankS fs k + lessR fs k (k + 1) (fs.length - 1 - k) * fct (fs.length - 1 - k) from rfl))
  generalize fs.length = n at *
  go_enter Try.func50, Try.ntmps50
  go_wp2
  go_loopw [4, 5] (fun r i wr => ∃ k : Nat, k ≤ n ∧ i = .int .i64 (k : Int) ∧ r = .int .i64 ((rankS fs k : Nat) : Int) ∧ Drawn w wr) (fun _ i _ => n - (intOf i).toNat)
  case atStart => exact ⟨0, Nat.zero_le _, rfl, rfl, Drawn.refl _⟩
  case round =>
    obtain ⟨k, hk, rfl, rfl, hd⟩ := hrel
    have Hd := Lib.hid hd
    clear hd
    by_cases hlt : k < n
    · have hmb := Hmb.out k hlt
      have hb2 := Hbd.out (k + 1) hlt
      rw [Hst.out k] at hb2
      have Hmb2 := Lib.hid hmb
      have Hb2 := Lib.hid hb2
      clear hmb hb2
      obtain ⟨wo, rfl⟩ : ∃ wo : World, wo = wr := ⟨_, rfl⟩
      go_wp2
      go_loopw [6, 7] (fun c i wr => ∃ j : Nat, k + 1 + j ≤ n ∧ i = .int .i64 ((k : Int) + 1 + (j : Int)) ∧ c = .int .i64 ((lessR fs k (k + 1) j : Nat) : Int) ∧ Drawn w wr) (fun _ i _ => n - (intOf i).toNat)
      case atStart => exact ⟨0, by omega, by go_num, rfl, Hd.out⟩
      case round =>
        obtain ⟨j, hj, rfl, rfl, hd2⟩ := hrel
        have Hd2 := Lib.hid hd2
        have hle := Hle.out k (k + 1) j
        by_cases hlt2 : k + 1 + j < n
        · obtain ⟨hcap, b, off, rfl, hbs, hc⟩ := Hf.out (by omega)
          have c1 : wr.cell? ⟨b, off + (k + 1 + j), none⟩ = some (.int .i64 (fs.getD (k + 1 + j) 0)) := by rw [hd2.cell]; exact hc _ hlt2
          have c2 : wr.cell? ⟨b, off + k, none⟩ = some (.int .i64 (fs.getD k 0)) := by rw [hd2.cell]; exact hc _ hlt
          have hy := Hy.out k (k + 1) j
          have hno := Hno.out k (k + 1) j
          clear hc hd2
          generalize fs.getD (k + 1 + j) 0 = x at *
          generalize fs.getD k 0 = y at *
          by_cases hxy : x < y
          · have Hy2 := Lib.hid (hy hxy)
            have d : decide (x < y) = true := decide_eq_true hxy
            clear hy hno
            go_wp2
            go_region
            all_goals
              go_wp2
              go_roundw
              case rel => exact ⟨j + 1, by omega, by go_num, by rw [Hy2.out]; go_num, Hd2.out.more 1⟩
              case measure => simp [intOf]; omega
          · have Hno2 := Lib.hid (hno (by omega))
            have d : decide (x < y) = false := decide_eq_false hxy
            clear hy hno
            go_wp2
            go_region
            all_goals
              go_wp2
              go_roundw
              case rel => exact ⟨j + 1, by omega, by go_num, by rw [Hno2.out], Hd2.out.more 1⟩
              case measure => simp [intOf]; omega
        · have hjn : j = n - 1 - k := by omega
          have Hj := Lib.hid hjn
          have hsum : rankS fs k + lessR fs k (k + 1) j * fct (n - 1 - k) < 2432902008176640000 := by rw [hjn]; exact Hb2.out
          have hmul : lessR fs k (k + 1) j * fct (n - 1 - k) < 2432902008176640000 := by rw [hjn]; exact Hmb2.out
          have m0 : 0 ≤ ((lessR fs k (k + 1) j : Nat) : Int) * ((fct (n - 1 - k) : Nat) : Int) ∧ ((lessR fs k (k + 1) j : Nat) : Int) * ((fct (n - 1 - k) : Nat) : Int) ≤ 2432902008176640000 ∧ ((rankS fs k : Nat) : Int) + ((lessR fs k (k + 1) j : Nat) : Int) * ((fct (n - 1 - k) : Nat) : Int) ≤ 2432902008176640000 := by
            have e : ((lessR fs k (k + 1) j : Nat) : Int) * ((fct (n - 1 - k) : Nat) : Int) = ((lessR fs k (k + 1) j * fct (n - 1 - k) : Nat) : Int) := by push_cast; rfl
            rw [e]; omega
          obtain ⟨m1, m2, m3⟩ := m0
          have Hfin := Lib.hid (show ((rankS fs (k + 1) : Nat) : Int) = ((rankS fs k : Nat) : Int) + ((lessR fs k (k + 1) j : Nat) : Int) * ((fct (n - 1 - k) : Nat) : Int) by rw [Hst.out k, hjn]; push_cast; rfl)
          have Hpr := Lib.hid (fun (z : World) => product_any (n - 1 - k) z (by omega))
          clear hsum hmul hd2 hle hjn
          generalize lessR fs k (k + 1) j = q at *
          have hcast : (n : Int) - 1 - (k : Int) = ((n - 1 - k : Nat) : Int) := by omega
          have Hcast := Lib.hid hcast
          clear hcast
          generalize fct (n - 1 - k) = F at *
          go_wp2_with fail
          rw [Hcast.out]
          refine (Hpr.out _).mono ?_
          rintro e w' ⟨rfl, rfl⟩
          go_wp2
          go_roundw
          case rel => exact ⟨k + 1, by omega, by go_num, by rw [Hfin.out], Hd2.out⟩
          case measure => simp [intOf]; omega
    · obtain rfl : k = n := by omega
      go_wp2
      go_ret
      exact ⟨rfl, Hd.out⟩
end Go.Proofs.Ytfjokclhbbndaab
