/- Contracts: ranks, in both texts. -/
import Derived.Test.YtolmhnekfokpdacEb
import Derived.Test.YtolmhnekfokpdacDr
set_option linter.unusedVariables false
namespace Go.Proofs.Ytolmhnekfokpdac
open Go.RowKit

theorem rank_yes (fs : List Int) (h : deckB fs = true) (h2 : fs.length ≤ 20) : ok_RankOf fs = true ∧ res_RankOf fs = (rankR fs fs.length : Int) := by
  unfold ok_RankOf res_RankOf; rw [h, decide_eq_true h2, if_pos ⟨rfl, h2⟩]; exact ⟨rfl, rfl⟩
theorem rank_no (fs : List Int) (h : ¬ (deckB fs = true ∧ fs.length ≤ 20)) : ok_RankOf fs = false ∧ res_RankOf fs = 0 := by
  unfold ok_RankOf res_RankOf; rw [if_neg h]; refine ⟨?_, rfl⟩
  rw [Bool.eq_false_iff]; intro h'; simp only [Bool.and_eq_true, decide_eq_true_eq] at h'; exact h h'
theorem Sl.drop {w : World} {b off n cap : Nat} {fs : List Int} (h : Sl (Value.int .i64) 0 w (.slice (some ⟨b, off, none⟩) n cap) fs) (k : Nat) (hk : k < fs.length) (c : Nat) (hc : fs.length - k ≤ c) : Sl (Value.int .i64) 0 w (.slice (some ⟨b, off + k, none⟩) (n - k) c) (fs.drop k) := by
  obtain ⟨p', cap', e, h⟩ := h
  obtain ⟨hcap, b', off', rfl, hb, hcc⟩ := h (by omega)
  cases e
  refine ⟨_, c, by rw [List.length_drop], fun h0 => ⟨by rw [List.length_drop]; exact hc, b, off + k, rfl, hb, fun i hi => ?_⟩⟩
  rw [List.length_drop] at hi
  rw [Nat.add_assoc, hcc (k + i) (by omega)]
  simp [List.getD]
theorem lessR_yes (fs : List Int) (i k j : Nat) (h : fs.getD (k + j) 0 < fs.getD i 0) : lessR fs i k (j + 1) = lessR fs i k j + 1 := by simp only [lessR, if_pos h]
theorem lessR_no (fs : List Int) (i k j : Nat) (h : ¬ fs.getD (k + j) 0 < fs.getD i 0) : lessR fs i k (j + 1) = lessR fs i k j := by simp only [lessR, if_neg h, Nat.add_zero]



