/- Contracts: sums of dice, the program: all sums; greatest faces; sums of lists; how many rows. -/
import Derived.Test.YtodmaomngpnboaaMu
set_option linter.unusedVariables false
namespace Go.Proofs.Ytodmaomngpnboaa
open Go.RowKit Go.Maps

theorem wayF_top (ds : List (List Int)) (h6 : ds.length ≤ 6) (h : ∀ k, k < ds.length → dieB (ds.getD k []) = true) (j : Nat) (hj : j ≤ ds.length) (k : Int) : wayF ds j k ≤ 2985984 := by
  by_cases e : k < 0 ∨ (topN ds j : Int) ≤ k
  · rw [wayF_out ds h j hj k e]; omega
  · have := wayF_le ds h6 h j hj k.toNat (by omega)
    rwa [Int.toNat_of_nonneg (by omega)] at this

/-- the sum of the first k numbers -/
def sumL (fs : List Int) : Nat → Int
  | 0 => 0
  | k + 1 => sumL fs k + fs.getD k 0
set_option maxHeartbeats 1000000 in
theorem sumOf_any (fs : List Int) (v : Value) (w : World) (hn : fs.length ≤ 1048576) (hbd : ∀ k, k ≤ fs.length → -9223372036854775808 ≤ sumL fs k ∧ sumL fs k ≤ 9223372036854775807) (h : Sl (Value.int .i64) 0 w v fs) :
    Calls Try.prog 139 #[v] w fun e w' => e = .returned (.int .i64 (sumL fs fs.length)) ∧ Drawn w w' := by
  obtain ⟨q, cap, rfl, hf⟩ := h
  have Hf := Lib.hid hf
  clear hf
  have Hbd := Lib.hid hbd
  have Hst := Lib.hid (fun k => show sumL fs (k + 1) = sumL fs k + fs.getD k 0 from rfl)
  clear hbd
  obtain ⟨n, hn1⟩ : ∃ n, n = fs.length := ⟨_, rfl⟩
  rw [← hn1] at hn Hf Hbd
  rw [← hn1]
  clear hn1
  go_enter Try.func139, Try.ntmps139
  go_wp2
  go_loopw [3, 8] (fun c i wr => ∃ k : Nat, k ≤ n ∧ i = .int .i64 (k : Int) ∧ c = .int .i64 (sumL fs k) ∧ Drawn w wr) (fun _ i _ => n - (intOf i).toNat)
  case atStart => exact ⟨0, Nat.zero_le _, rfl, rfl, Drawn.refl _⟩
  case round =>
    obtain ⟨k, hk, rfl, rfl, hw⟩ := hrel
    by_cases hlt : k < n
    · obtain ⟨hcap, b, off, rfl, hbs, hcell⟩ := Hf.out (by omega)
      have c1 := (hw.cell _).trans (hcell k hlt)
      have hst := Hst.out k
      have hb1 := Hbd.out (k + 1) (by omega)
      rw [hst] at hb1
      have Hst2 := Lib.hid hst
      obtain ⟨m0, m1⟩ := hb1
      clear hcell hst
      generalize fs.getD k 0 = x at *
      generalize sumL fs k = S at *
      go_wp2
      go_roundw
      case rel => exact ⟨k + 1, by omega, by go_num, by rw [Hst2.out], hw⟩
      case measure => simp [intOf]; omega
    · obtain rfl : k = n := by omega
      go_wp2
      go_ret
      exact ⟨rfl, hw⟩
end Go.Proofs.Ytodmaomngpnboaa
