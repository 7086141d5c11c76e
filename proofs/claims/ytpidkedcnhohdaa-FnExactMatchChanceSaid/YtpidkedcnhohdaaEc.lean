/- Contracts: ranks, in both texts. -/
import Derived.Test.YtpidkedcnhohdaaEb
import Derived.Test.YtpidkedcnhohdaaDr
set_option linter.unusedVariables false
namespace Go.Proofs.Ytpidkedcnhohdaa
open Go.RowKit

theorem rank_yes (fs : List Int) (h : deckB fs = true) (h2 : fs.length ≤ 20) : ok_RankOf fs = true ∧ res_RankOf fs = (rankR fs fs.length : Int) := by
  unfold ok_RankOf res_RankOf; rw [h, decide_eq_true h2, if_pos ⟨rfl, h2⟩]; exact ⟨rfl, rfl⟩
theorem rank_no (fs : List Int) (h : ¬ (deckB fs = true ∧ fs.length ≤ 20)) : ok_RankOf fs = false ∧ res_RankOf fs = 0 := by
  unfold ok_RankOf res_RankOf; rw [if_neg h]; refine ⟨?_, rfl⟩
  rw [Bool.eq_false_iff]; intro h'; simp only [Bool.and_eq_true, decide_eq_true_eq] at h'; exact h h'
theorem Sl.drop {w : World} {b off n cap : Nat} {fs : List Int} (h : Sl (Value.int .i64) 0 w (.slice (some ⟨b, off, none⟩) n cap) fs) (k : Nat) (hk : k < fs.length) (c : Nat) (hc : fs.length - k ≤ c) : Sl (Value.int .i64) 0 w (.slice (some ⟨b, off + k, none⟩) (n - k) c) (fs.drop k) := by
  obtain ⟨p', cap', e, h⟩ := h
  obtain ⟨hcap, b', off', rfl, hb, hcc⟩ := h (by omega)
  cases e
  refine ⟨_, c, by rw [List.length_drop], fun h0 => ⟨by rw [List.length_drop]; exact hc, b, off + k, rfl, hb, fun i hi => ?_⟩⟩
  rw [List.length_drop] at hi
  rw [Nat.add_assoc, hcc (k + i) (by omega)]
  simp [List.getD]
theorem lessR_yes (fs : List Int) (i k j : Nat) (h : fs.getD (k + j) 0 < fs.getD i 0) : lessR fs i k (j + 1) = lessR fs i k j + 1 := by simp only [lessR, if_pos h]
theorem lessR_no (fs : List Int) (i k j : Nat) (h : ¬ fs.getD (k + j) 0 < fs.getD i 0) : lessR fs i k (j + 1) = lessR fs i k j := by simp only [lessR, if_neg h, Nat.add_zero]


theorem product_any (n : Nat) (w : World) (hn : n ≤ 20) :
    Calls Try.prog 54 #[.int .i64 (n : Int)] w fun e w' => e = .returned (.int .i64 ((fct n : Nat) : Int)) ∧ w = w' := by
  have Hb := Lib.hid (fun k (h : k ≤ 20) => fct_20 k h)
  have Hst := Lib.hid (fun k => (show fct (k + 1) = (k + 1) * fct k from rfl))
  have H1 := Lib.hid (show fct 1 = 1 from rfl)
  have H0 := Lib.hid (show fct 0 = 1 from rfl)
  go_enter Try.func54, Try.ntmps54
  go_wp2
  go_loop [3, 4] (fun o i => ∃ k : Nat, 1 ≤ k ∧ (k ≤ n ∨ k = 1) ∧ i = .int .i64 ((k : Int) + 1) ∧ o = .int .i64 ((fct k : Nat) : Int)) (fun _ i => (n + 1) - (intOf i).toNat)
  case atStart => exact ⟨1, Nat.le_refl _, .inr rfl, rfl, by rw [H1.out]; rfl⟩
  case round =>
    obtain ⟨k, hk1, hk, rfl, rfl⟩ := hrel
    have hb := Hb.out k (by omega)
    by_cases hlt : k + 1 ≤ n
    · have hb2 := Hb.out (k + 1) (by omega)
      rw [Hst.out k] at hb2
      have hm : ((k + 1) * fct k : Nat) = fct k * (k + 1) := Nat.mul_comm _ _
      rw [hm] at hb2
      have hb3 : 0 ≤ ((fct k : Nat) : Int) * ((k : Int) + 1) ∧ ((fct k : Nat) : Int) * ((k : Int) + 1) ≤ 2432902008176640000 := by
        have e : ((fct k : Nat) : Int) * ((k : Int) + 1) = ((fct k * (k + 1) : Nat) : Int) := by push_cast; rfl
        rw [e]; omega
      obtain ⟨m0, m1⟩ := hb3
      have Hs := Lib.hid (show ((fct (k + 1) : Nat) : Int) = ((fct k : Nat) : Int) * ((k : Int) + 1) by rw [Hst.out k, Nat.mul_comm]; push_cast; rfl)
      clear hb2 hm
      generalize ((fct k : Nat) : Int) = F at *
      go_wp2
      go_round
      case rel => exact ⟨k + 1, by omega, by omega, by go_num, by rw [Hs.out]⟩
      case measure => simp [intOf]; omega
    · have Hk := Lib.hid (show fct k = fct n from by
        by_cases e : k = n
        · rw [e]
        · have e1 : k = 1 := by omega
          have e0 : n = 0 := by omega
          rw [e1, e0, H1.out, H0.out])
      go_wp2
      go_ret
      exact ⟨ret_int (by rw [Hk.out]), rfl⟩

