/- Contracts: the greatest of a list, its first place, in the library. -/
import Derived.Test.YtodmaomngpnboaaTrA
import Derived.Test.YtodmaomngpnboaaLk
import Derived.BigQuiet
import Derived.Lib.MinMax
set_option linter.unusedVariables false
namespace Go.Proofs.Ytodmaomngpnboaa
open Go.RowKit

/-- the greatest of the first k + 1 numbers -/
def maxF (fs : List Int) : Nat → Int
  | 0 => fs.getD 0 0
  | k + 1 => max (maxF fs k) (fs.getD (k + 1) 0)
theorem maxF_ge (fs : List Int) : ∀ k j, j ≤ k → fs.getD j 0 ≤ maxF fs k
  | 0, j, h => by obtain rfl : j = 0 := by omega
                  exact Int.le_refl _
  | k + 1, j, h => by
    show _ ≤ max (maxF fs k) (fs.getD (k + 1) 0)
    by_cases e : j = k + 1
    · subst e; exact Int.le_max_right _ _
    · exact Int.le_trans (maxF_ge fs k j (by omega)) (Int.le_max_left _ _)
theorem maxF_mem (fs : List Int) : ∀ k, ∃ j, j ≤ k ∧ maxF fs k = fs.getD j 0
  | 0 => ⟨0, Nat.le_refl _, rfl⟩
  | k + 1 => by
    obtain ⟨j, hj, e⟩ := maxF_mem fs k
    show ∃ j, j ≤ k + 1 ∧ max (maxF fs k) (fs.getD (k + 1) 0) = fs.getD j 0
    rcases Int.le_total (maxF fs k) (fs.getD (k + 1) 0) with h | h
    · exact ⟨k + 1, Nat.le_refl _, Int.max_eq_right h⟩
    · exact ⟨j, by omega, by rw [Int.max_eq_left h, e]⟩
set_option maxHeartbeats 1000000 in
theorem maxI_any (fs : List Int) (v : Value) (w : World) (hn : fs.length ≤ 1048576) (h0 : 0 < fs.length) (h : Sl (Value.int .i64) 0 w v fs) :
    Calls Try.prog 128 #[v] w fun e w' => e = .returned (.int .i64 (maxF fs (fs.length - 1))) ∧ w = w' := by
  obtain ⟨p, cap, rfl, hf⟩ := h
  obtain ⟨hcap, b, off, rfl, hbs, hcell⟩ := hf h0
  have Hcell := Lib.hid hcell
  have g0 := hcell 0 h0
  rw [Nat.add_zero] at g0
  have HF := Lib.hid (show maxF fs 0 = fs.getD 0 0 from rfl)
  have HS := Lib.hid (fun k => (show maxF fs (k + 1) = max (maxF fs k) (fs.getD (k + 1) 0) from rfl))
  clear hf hcell
  generalize fs.getD 0 0 = F0 at *
  generalize hM : maxF fs = M at *
  clear hM
  generalize fs.length = n at *
  go_enter Try.func128, Try.ntmps128
  go_wp2
  go_loop [3, 4] (fun m i => ∃ k : Nat, k < n ∧ i = .int .i64 ((k + 1 : Nat) : Int) ∧ m = .int .i64 (M k)) (fun _ i => n - (intOf i).toNat)
  case atStart => exact ⟨0, h0, rfl, by rw [HF.out]⟩
  case round =>
    obtain ⟨k, hk, rfl, rfl⟩ := hrel
    by_cases hlt : k + 1 < n
    · have c := Hcell.out (k + 1) hlt
      have Hs := Lib.hid (HS.out k)
      generalize fs.getD (k + 1) 0 = x at *
      generalize hMk : M k = mk at *
      go_wp2
      go_round
      case rel => exact ⟨k + 1, hlt, by go_num, by rw [Hs.out]⟩
      case measure => simp [intOf]; omega
    · obtain rfl : n = k + 1 := by omega
      go_wp2
      go_ret
      exact ⟨rfl, rfl⟩

set_option maxHeartbeats 1000000 in
/-- the first place of a number that is there -/
theorem idxI_any (fs : List Int) (v : Value) (x : Int) (z : Nat) (w : World) (hn : fs.length ≤ 1048576) (hz : z < fs.length) (hx : fs.getD z 0 = x) (hf : ∀ j, j < z → fs.getD j 0 ≠ x) (h : Sl (Value.int .i64) 0 w v fs) :
    Calls Try.prog 127 #[v, .int .i64 x] w fun e w' => e = .returned (.int .i64 (z : Int)) ∧ w = w' := by
  obtain ⟨p, cap, rfl, hc⟩ := h
  obtain ⟨hcap, b, off, rfl, hbs, hcell⟩ := hc (by omega)
  have Hcell := Lib.hid hcell
  have Hf := Lib.hid hf
  have Hx := Lib.hid hx
  clear hc hcell hf hx
  generalize fs.length = n at *
  go_enter Try.func127, Try.ntmps127
  go_wp2
  go_loopw [8] (fun i wr => ∃ k : Nat, k ≤ z ∧ i = .int .i64 (k : Int) ∧ Hid (wr = w)) (fun i _ => n - (intOf i).toNat)
  case atStart => exact ⟨0, Nat.zero_le _, rfl, Lib.hid rfl⟩
  case round =>
    obtain ⟨k, hk, rfl, hw⟩ := hrel
    obtain rfl := hw.out
    have c := Hcell.out k (by omega)
    have hkn : k < n := by omega
    by_cases e : k = z
    · subst e
      rw [Hx.out] at c
      go_wp2
      go_ret
      exact ⟨rfl, rfl⟩
    · have hne : ¬ x = fs.getD k 0 := fun h => Hf.out k (by omega) h.symm
      have nb : (x == fs.getD k 0) = false := by rw [beq_eq_false_iff_ne]; exact hne
      have nb2 : (x = fs.getD k 0) = False := eq_false hne
      clear hne
      generalize fs.getD k 0 = y at *
      go_wp2
      go_roundw
      case rel => exact ⟨k + 1, by omega, by go_num, Lib.hid (by first | trivial | rfl)⟩
      case measure => simp [intOf]; omega
end Go.Proofs.Ytodmaomngpnboaa
