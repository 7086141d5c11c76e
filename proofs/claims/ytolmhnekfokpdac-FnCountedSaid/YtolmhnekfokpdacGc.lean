/- Contracts: a word in a ring, in the program. -/
import Derived.Test.YtolmhnekfokpdacGb
import Derived.Laws.NewBlocks
import Derived.RegionTactic
set_option linter.unusedVariables false
namespace Go.Proofs.Ytolmhnekfokpdac
open Go.RowKit

def bitI (fs : List Int) (i m j : Nat) : Int := if j < m then ringAt fs i j else 0
def bitsA (fs : List Int) (i m : Nat) : Array Value := #[.int .i64 (bitI fs i m 0), .int .i64 (bitI fs i m 1), .int .i64 (bitI fs i m 2), .int .i64 (bitI fs i m 3), .int .i64 (bitI fs i m 4), .int .i64 (bitI fs i m 5)]
theorem bitsA_zero (fs : List Int) (i : Nat) : bitsA fs i 0 = #[Value.int .i64 0, Value.int .i64 0, Value.int .i64 0, Value.int .i64 0, Value.int .i64 0, Value.int .i64 0] := rfl
theorem bitI_new (fs : List Int) (i k : Nat) : bitI fs i (k + 1) k = ringAt fs i k := if_pos (by omega)
theorem bitI_old (fs : List Int) (i k j : Nat) (h : j ≠ k) : bitI fs i (k + 1) j = bitI fs i k j := by
  unfold bitI
  by_cases h1 : j < k
  · rw [if_pos h1, if_pos (by omega)]
  · rw [if_neg h1, if_neg (by omega)]
theorem bitsA_set (fs : List Int) (i k : Nat) (hk : k < 6) : (bitsA fs i k).setIfInBounds k (.int .i64 (ringAt fs i k)) = bitsA fs i (k + 1) := by
  rw [← bitI_new]
  obtain rfl | rfl | rfl | rfl | rfl | rfl : k = 0 ∨ k = 1 ∨ k = 2 ∨ k = 3 ∨ k = 4 ∨ k = 5 := by omega
  all_goals
    unfold bitsA
    simp only [bitI_old _ _ _ _ (show (0 : Nat) ≠ 1 by decide), bitI_old _ _ _ _ (show (0 : Nat) ≠ 2 by decide), bitI_old _ _ _ _ (show (0 : Nat) ≠ 3 by decide), bitI_old _ _ _ _ (show (0 : Nat) ≠ 4 by decide), bitI_old _ _ _ _ (show (0 : Nat) ≠ 5 by decide), bitI_old _ _ _ _ (show (1 : Nat) ≠ 0 by decide), bitI_old _ _ _ _ (show (1 : Nat) ≠ 2 by decide), bitI_old _ _ _ _ (show (1 : Nat) ≠ 3 by decide), bitI_old _ _ _ _ (show (1 : Nat) ≠ 4 by decide), bitI_old _ _ _ _ (show (1 : Nat) ≠ 5 by decide), bitI_old _ _ _ _ (show (2 : Nat) ≠ 0 by decide), bitI_old _ _ _ _ (show (2 : Nat) ≠ 1 by decide), bitI_old _ _ _ _ (show (2 : Nat) ≠ 3 by decide), bitI_old _ _ _ _ (show (2 : Nat) ≠ 4 by decide), bitI_old _ _ _ _ (show (2 : Nat) ≠ 5 by decide), bitI_old _ _ _ _ (show (3 : Nat) ≠ 0 by decide), bitI_old _ _ _ _ (show (3 : Nat) ≠ 1 by decide), bitI_old _ _ _ _ (show (3 : Nat) ≠ 2 by decide), bitI_old _ _ _ _ (show (3 : Nat) ≠ 4 by decide), bitI_old _ _ _ _ (show (3 : Nat) ≠ 5 by decide), bitI_old _ _ _ _ (show (4 : Nat) ≠ 0 by decide), bitI_old _ _ _ _ (show (4 : Nat) ≠ 1 by decide), bitI_old _ _ _ _ (show (4 : Nat) ≠ 2 by decide), bitI_old _ _ _ _ (show (4 : Nat) ≠ 3 by decide), bitI_old _ _ _ _ (show (4 : Nat) ≠ 5 by decide), bitI_old _ _ _ _ (show (5 : Nat) ≠ 0 by decide), bitI_old _ _ _ _ (show (5 : Nat) ≠ 1 by decide), bitI_old _ _ _ _ (show (5 : Nat) ≠ 2 by decide), bitI_old _ _ _ _ (show (5 : Nat) ≠ 3 by decide), bitI_old _ _ _ _ (show (5 : Nat) ≠ 4 by decide)]
    rfl
theorem bitsA_some (fs : List Int) (i m k : Nat) (hk : k < 6) : ∃ v, (bitsA fs i m)[k]? = some v := by
  obtain rfl | rfl | rfl | rfl | rfl | rfl : k = 0 ∨ k = 1 ∨ k = 2 ∨ k = 3 ∨ k = 4 ∨ k = 5 := by omega
  all_goals exact ⟨_, rfl⟩

set_option maxRecDepth 100000 in
set_option maxHeartbeats 2000000 in
theorem from_any (fs : List Int) (v : Value) (i m : Nat) (w : World) (hn : fs.length ≤ 64) (hi : i < fs.length) (hm : m ≤ 6) (h : Sl (Value.int .i64) 0 w v fs) :
    Calls Try.prog 90 #[v, .int .i64 (i : Int), .int .i64 (m : Int)] w fun e w' => e = .returned (.agg (bitsA fs i m)) ∧ w' = (w.alloc (.cells (bitsA fs i m) 109)).alloc (.cells (bitsA fs i m) 109) := by
  obtain ⟨p, cap, rfl, hf⟩ := h
  have Hf := Lib.hid hf
  clear hf
  have Hra : Hid (∀ k, ringAt fs i k = fs.getD ((i + k) % fs.length) 0) := Lib.hid (fun k => rfl)
  have Hset := Lib.hid (bitsA_set fs i)
  have Hsome := Lib.hid (bitsA_some fs i)
  generalize hlen : fs.length = n at *
  have Hlen := Lib.hid hlen
  clear hlen
  go_enter Try.func90, Try.ntmps90
  go_wp2
  go_loopw [8, 10] (fun _ j wr => ∃ k : Nat, k ≤ m ∧ j = .int .i64 (k : Int) ∧ wr = (w.alloc (.cells #[Value.int .i64 0, Value.int .i64 0, Value.int .i64 0, Value.int .i64 0, Value.int .i64 0, Value.int .i64 0] 109)).alloc (.cells (bitsA fs i k) 109)) (fun _ j _ => m - (intOf j).toNat)
  case atStart => exact ⟨0, Nat.zero_le _, rfl, rfl⟩
  case round =>
    obtain ⟨k, hk, rfl, rfl⟩ := hrel
    by_cases hlt : k < m
    · obtain ⟨hcap, b, off, rfl, hbs, hc⟩ := Hf.out (by omega)
      have hr : (i + k) % n < n := Nat.mod_lt _ (by omega)
      have c1 := hc ((i + k) % n) hr
      clear hc
      have hst := Hset.out k (by omega)
      rw [Hra.out k] at hst
      have ht : ((i : Int) + (k : Int)) % (n : Int) = (((i + k) % n : Nat) : Int) := rfl
      generalize (i + k) % n = r at *
      generalize fs.getD r 0 = x at *
      have Hst := Lib.hid hst
      clear hst
      obtain ⟨y, hy⟩ := Hsome.out k k (by omega)
      generalize bitsA fs i k = Cs at *
      have c1' : ((w.alloc (.cells #[Value.int .i64 0, Value.int .i64 0, Value.int .i64 0, Value.int .i64 0, Value.int .i64 0, Value.int .i64 0] 109)).alloc (.cells Cs 109)).cell? ⟨b, off + r, none⟩ = some (.int .i64 x) := by
        rw [World.cell?_alloc_lt _ _ _ (by simp; omega), World.cell?_alloc_lt _ _ _ hbs]; exact c1
      go_wp2
      go_roundw
      case rel => exact ⟨k + 1, by omega, by go_num, by rw [← Hst.out]⟩
      case measure => simp [intOf]; omega
    · obtain rfl : k = m := by omega
      have HB := Lib.hid (show bitsA fs i k = #[.int .i64 (bitI fs i k 0), .int .i64 (bitI fs i k 1), .int .i64 (bitI fs i k 2), .int .i64 (bitI fs i k 3), .int .i64 (bitI fs i k 4), .int .i64 (bitI fs i k 5)] from rfl)
      rw [HB.out]
      generalize bitI fs i k 0 = x0 at *
      generalize bitI fs i k 1 = x1 at *
      generalize bitI fs i k 2 = x2 at *
      generalize bitI fs i k 3 = x3 at *
      generalize bitI fs i k 4 = x4 at *
      generalize bitI fs i k 5 = x5 at *
      go_wp2
      refine bodyPost_ret_by (v := .agg #[.int .i64 x0, .int .i64 x1, .int .i64 x2, .int .i64 x3, .int .i64 x4, .int .i64 x5]) ?_ rfl ⟨by rw [HB.out], ?_⟩
      · first | (simp [results, Try.results90, go_sem]; done) | (simp [results, Try.f90, go_sem]; trace_state; done)
      · rw [HB.out]

theorem ringAt_own (gs : List Int) (j : Nat) (h : j < gs.length) : ringAt gs 0 j = gs.getD j 0 := by
  unfold ringAt
  rw [Nat.zero_add, Nat.mod_eq_of_lt h]
theorem good_iff (fs gs : List Int) (q : Nat) : ∀ m, goodR fs gs q m = true ↔ ∀ j, j < m → ringAt fs q j = gs.getD j 0
  | 0 => ⟨fun _ j hj => absurd hj (by omega), fun _ => rfl⟩
  | m + 1 => by
    rw [good_step, Bool.and_eq_true, good_iff fs gs q m, beq_iff_eq]
    constructor
    · rintro ⟨h1, h2⟩ j hj
      by_cases e : j = m
      · subst e; exact h2
      · exact h1 j (by omega)
    · intro h
      exact ⟨fun j hj => h j (by omega), h m (by omega)⟩
theorem good_bits (fs gs : List Int) (q m : Nat) (hm : gs.length = m) (h6 : m ≤ 6) : goodR fs gs q m = true ↔ ∀ j, j < 6 → bitI fs q m j = bitI gs 0 m j := by
  subst hm
  rw [good_iff]
  constructor
  · intro h j hj
    unfold bitI
    split
    · rename_i hl; rw [h j hl, ringAt_own gs j hl]
    · rfl
  · intro h j hj
    have := h j (by omega)
    unfold bitI at this
    rw [if_pos hj, if_pos hj, ringAt_own gs j hj] at this
    exact this
theorem six_iff (p : Nat → Prop) : (∀ j, j < 6 → p j) ↔ p 0 ∧ p 1 ∧ p 2 ∧ p 3 ∧ p 4 ∧ p 5 := by
  constructor
  · intro h
    exact ⟨h 0 (by omega), h 1 (by omega), h 2 (by omega), h 3 (by omega), h 4 (by omega), h 5 (by omega)⟩
  · rintro ⟨h0, h1, h2, h3, h4, h5⟩ j hj
    obtain rfl | rfl | rfl | rfl | rfl | rfl : j = 0 ∨ j = 1 ∨ j = 2 ∨ j = 3 ∨ j = 4 ∨ j = 5 := by omega
    all_goals assumption
theorem good_no (fs gs : List Int) (q m : Nat) (hm : gs.length = m) (h6 : m ≤ 6) (h : goodR fs gs q m = false) : ¬ (bitI fs q m 0 = bitI gs 0 m 0 ∧ bitI fs q m 1 = bitI gs 0 m 1 ∧ bitI fs q m 2 = bitI gs 0 m 2 ∧ bitI fs q m 3 = bitI gs 0 m 3 ∧ bitI fs q m 4 = bitI gs 0 m 4 ∧ bitI fs q m 5 = bitI gs 0 m 5) := by
  intro hc
  rw [← six_iff (fun j => bitI fs q m j = bitI gs 0 m j), ← good_bits fs gs q m hm h6, h] at hc
  exact Bool.noConfusion hc
theorem good_same (fs gs : List Int) (q m : Nat) (hm : gs.length = m) (h6 : m ≤ 6) (h : goodR fs gs q m = true) : bitsA fs q m = bitsA gs 0 m := by
  have h' := (good_bits fs gs q m hm h6).1 h
  unfold bitsA
  rw [h' 0 (by omega), h' 1 (by omega), h' 2 (by omega), h' 3 (by omega), h' 4 (by omega), h' 5 (by omega)]
theorem good_diff (fs gs : List Int) (q m : Nat) (hm : gs.length = m) (h6 : m ≤ 6) (h : goodR fs gs q m = false) : bitsA fs q m ≠ bitsA gs 0 m := by
  intro hc
  refine good_no fs gs q m hm h6 h ?_
  unfold bitsA at hc
  simpa using hc
end Go.Proofs.Ytolmhnekfokpdac
