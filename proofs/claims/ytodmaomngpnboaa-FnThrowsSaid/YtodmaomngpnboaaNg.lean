/- Contracts: even throws: the model; what the program takes of the library, its closure. -/
import Derived.Test.YtodmaomngpnboaaNf
import Derived.Test.YtodmaomngpnboaaMk
import Derived.BigQuiet
import Derived.Lib.MinMax
set_option linter.unusedVariables false
namespace Go.Proofs.Ytodmaomngpnboaa
open Go.RowKit

def evG (fs : List Int) : Int := gcdI (gcdI (fs.getD 5 0) (fs.getD 6 0)) (fs.getD 1 0)
def ok_EvenThrows (fs : List Int) : Bool := (decide (thrN fs.length = 3) && oppB fs 3) && (decide (1 ≤ fs.getD 1 0) && (decide (1 ≤ fs.getD 5 0) && decide (1 ≤ fs.getD 6 0)))
def res_EvenThrows (fs : List Int) : List Int := if ok_EvenThrows fs = true then [fs.getD 5 0 / evG fs, fs.getD 6 0 / evG fs, fs.getD 1 0 / evG fs] else []
theorem len_EvenThrows (fs : List Int) : (res_EvenThrows fs).length ≤ 1048576 := by
  unfold res_EvenThrows
  split
  · show 3 ≤ 1048576; omega
  · show 0 ≤ 1048576; omega
theorem sw_three (w : World) (a b c : Int) (t : TypeId) (lo : Nat) (hlo : lo ≤ w.heap.size) : Sw (Value.int .i64) 0 (w.alloc (.cells #[.int .i64 a, .int .i64 b, .int .i64 c] t)) (.slice (some ⟨w.heap.size, 0, none⟩) 3 3) [a, b, c] lo (w.alloc (.cells #[.int .i64 a, .int .i64 b, .int .i64 c] t)).heap.size := by
  refine ⟨_, _, rfl, fun _ => ⟨Nat.le_refl _, w.heap.size, 0, rfl, hlo, by simp, Nat.le_refl _, fun i hi => ⟨?_, ?_⟩⟩⟩
  · obtain rfl | rfl | rfl : i = 0 ∨ i = 1 ∨ i = 2 := by simp at hi; omega
    all_goals exact World.cell?_alloc_at _ _ _ _ rfl
  · rw [frozen?_alloc_cells]
    simp [World.frozen?]
/-- the cells while the factor is taken out -/
def evL (a b c g : Int) : Nat → List Int
  | 0 => [a, b, c]
  | 1 => [a / g, b, c]
  | 2 => [a / g, b / g, c]
  | _ => [a / g, b / g, c / g]
theorem evL_len (a b c g : Int) (j : Nat) : (evL a b c g j).length = 3 := by
  unfold evL; split <;> rfl
theorem evL_src (a b c g : Int) (j : Nat) (hj : j < 3) : (evL a b c g j).getD j 0 = [a, b, c].getD j 0 := by
  obtain rfl | rfl | rfl : j = 0 ∨ j = 1 ∨ j = 2 := by omega
  all_goals rfl
theorem evL_set (a b c g : Int) (j : Nat) (hj : j < 3) : (evL a b c g j).set j ([a, b, c].getD j 0 / g) = evL a b c g (j + 1) := by
  obtain rfl | rfl | rfl : j = 0 ∨ j = 1 ∨ j = 2 := by omega
  all_goals rfl
theorem ev_bd (fs : List Int) (h : oppB fs 3 = true) (hl : fs.length = 9) (k : Nat) (hk : k < 9) : -9 ≤ fs.getD k 0 ∧ fs.getD k 0 ≤ 9 := by
  unfold oppB at h
  rw [Bool.and_eq_true] at h
  exact allB_at h.1 k (by omega)
theorem thr3 (L : Nat) (h : thrN L = 3) : L = 9 := by
  rcases thrN_bd L with e | ⟨_, _, e⟩
  · omega
  · rw [h] at e; exact e

/-- the least of the first k + 1 numbers -/
def minF (fs : List Int) : Nat → Int
  | 0 => fs.getD 0 0
  | k + 1 => min (minF fs k) (fs.getD (k + 1) 0)
set_option maxHeartbeats 1000000 in
theorem minI_any (fs : List Int) (v : Value) (w : World) (hn : fs.length ≤ 1048576) (h0 : 0 < fs.length) (h : Sl (Value.int .i64) 0 w v fs) :
    Calls Try.prog 74 #[v] w fun e w' => e = .returned (.int .i64 (minF fs (fs.length - 1))) ∧ w = w' := by
  obtain ⟨p, cap, rfl, hf⟩ := h
  obtain ⟨hcap, b, off, rfl, hbs, hcell⟩ := hf h0
  have Hcell := Lib.hid hcell
  have g0 := hcell 0 h0
  rw [Nat.add_zero] at g0
  have HF := Lib.hid (show minF fs 0 = fs.getD 0 0 from rfl)
  have HS := Lib.hid (fun k => (show minF fs (k + 1) = min (minF fs k) (fs.getD (k + 1) 0) from rfl))
  clear hf hcell
  generalize fs.getD 0 0 = F0 at *
  generalize hM : minF fs = M at *
  clear hM
  generalize fs.length = n at *
  go_enter Try.func74, Try.ntmps74
  go_wp2
  go_loop [3, 4] (fun m i => ∃ k : Nat, k < n ∧ i = .int .i64 ((k + 1 : Nat) : Int) ∧ m = .int .i64 (M k)) (fun _ i => n - (intOf i).toNat)
  case atStart => exact ⟨0, h0, rfl, by rw [HF.out]⟩
  case round =>
    obtain ⟨k, hk, rfl, rfl⟩ := hrel
    by_cases hlt : k + 1 < n
    · have c := Hcell.out (k + 1) hlt
      have Hs := Lib.hid (HS.out k)
      generalize fs.getD (k + 1) 0 = x at *
      generalize hMk : M k = mk at *
      go_wp2
      go_round
      case rel => exact ⟨k + 1, hlt, by go_num, by rw [Hs.out]⟩
      case measure => simp [intOf]; omega
    · obtain rfl : n = k + 1 := by omega
      go_wp2
      go_ret
      exact ⟨rfl, rfl⟩

theorem clo_even (fs : List Int) (v : Value) (bw bt i k : Nat) (w : World) (hl : fs.length = 9) (hi : i < 3) (hk : k < 3) (h : Sl (Value.int .i64) 0 w v fs) (c1 : w.cell? ⟨bw, 0, none⟩ = some v) (c2 : w.cell? ⟨bt, 0, none⟩ = some (.int .i64 3)) :
    Calls Try.prog 73 #[.int .i64 (i : Int), .int .i64 (k : Int), .pointer (some ⟨bw, 0, none⟩), .pointer (some ⟨bt, 0, none⟩)] w fun e w' => e = .returned (.int .i64 (fs.getD (i * 3 + k) 0)) ∧ w = w' := by
  obtain ⟨p, cap, rfl, hf⟩ := h
  obtain ⟨hcap, b, off, rfl, hbs, hcell⟩ := hf (by omega)
  have g := hcell (i * 3 + k) (by omega)
  have e1 : (i : Int) * 3 + (k : Int) = ((i * 3 + k : Nat) : Int) := by omega
  have hlt : i * 3 + k < 9 := by omega
  rw [hl] at c1 hcap
  clear hf hcell
  generalize fs.getD (i * 3 + k) 0 = x at *
  generalize i * 3 + k = I at *
  go_enter Try.func73, Try.ntmps73
  go_wp2
  go_ret
  exact ⟨rfl, rfl⟩
end Go.Proofs.Ytodmaomngpnboaa
