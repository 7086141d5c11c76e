/- Contracts: lists compared and summed by the laws of many bytes; literals; what the law of throws asks of the numbers, by kernel. -/
import Derived.Test.YtodmaomngpnboaaTrG
import Derived.Test.YtodmaomngpnboaaTe
import Derived.Test.YtodmaomngpnboaaNi
import Derived.BigQuiet
set_option linter.unusedVariables false
namespace Go.Proofs.Ytodmaomngpnboaa
open Go.RowKit
attribute [local go_sem] Oper.semAt_some

set_option maxHeartbeats 1000000 in
theorem ints10_any (fs : List Int) (v u : Value) (w : World) (hn : fs.length ≤ 1048576) (h : Sl (Value.int .i64) 0 w v fs) (g : Sl (Value.int .i64) 0 w u fs) :
    Calls Try.prog 24 #[v, u] w fun e w' => e = .returned (.bool true) ∧ Drawn w w' := by
  obtain ⟨p, cap, rfl, hf⟩ := h
  obtain ⟨q, cap', rfl, hg⟩ := g
  have Hf := Lib.hid hf
  have Hg := Lib.hid hg
  clear hf hg
  generalize fs.length = n at *
  have hne : ((n : Int) != (n : Int)) = false := by simp
  go_enter Try.func24, Try.ntmps24
  go_wp2
  go_loopw [13] (fun i wr => ∃ k : Nat, k ≤ n ∧ i = .int .i64 (k : Int) ∧ Drawn w wr) (fun i _ => n - (intOf i).toNat)
  case atStart => exact ⟨0, Nat.zero_le _, rfl, Drawn.refl _⟩
  case round =>
    obtain ⟨k, hk, rfl, hd⟩ := hrel
    by_cases hlt : k < n
    · obtain ⟨hcap, b, off, rfl, hbs, hc⟩ := Hf.out (by omega)
      obtain ⟨hcap', b', off', rfl, hbs', hc'⟩ := Hg.out (by omega)
      have c1 := (hd.cell _).trans (hc k hlt)
      have c2 := (hd.cell _).trans (hc' k hlt)
      clear hc hc'
      generalize fs.getD k 0 = x at *
      have nb : (x != x) = false := by simp
      go_wp2
      go_quiet (fail)
      go_wp2
      go_roundw
      case rel => exact ⟨k + 1, by omega, by go_num, hd.more _⟩
      case measure => simp [intOf]; omega
    · obtain rfl : k = n := by omega
      go_wp2
      go_ret
      exact ⟨rfl, hd⟩

/-- the sum of the first k -/
def sumK (fs : List Int) : Nat → Int
  | 0 => 0
  | k + 1 => sumK fs k + fs.getD k 0
set_option maxHeartbeats 1000000 in
theorem sum10_any (fs : List Int) (v : Value) (w : World) (hn : fs.length ≤ 1048576) (hb : ∀ k, k ≤ fs.length → 0 ≤ sumK fs k ∧ sumK fs k ≤ 1000000000000000) (h : Sl (Value.int .i64) 0 w v fs) :
    Calls Try.prog 25 #[v] w fun e w' => e = .returned (.int .i64 (sumK fs fs.length)) ∧ w = w' := by
  obtain ⟨p, cap, rfl, hf⟩ := h
  have Hf := Lib.hid hf
  have Hb := Lib.hid hb
  have HS := Lib.hid (fun k => (show sumK fs (k + 1) = sumK fs k + fs.getD k 0 from rfl))
  have H0 := Lib.hid (show sumK fs 0 = 0 from rfl)
  clear hf hb
  generalize fs.length = n at *
  go_enter Try.func25, Try.ntmps25
  go_wp2
  go_loopw [3, 7] (fun s i wr => ∃ k : Nat, k ≤ n ∧ i = .int .i64 (k : Int) ∧ s = .int .i64 (sumK fs k) ∧ Hid (wr = w)) (fun _ i _ => n - (intOf i).toNat)
  case atStart => exact ⟨0, Nat.zero_le _, rfl, by rw [H0.out], Lib.hid rfl⟩
  case round =>
    obtain ⟨k, hk, rfl, rfl, hw⟩ := hrel
    obtain rfl := hw.out
    by_cases hlt : k < n
    · obtain ⟨hcap, b, off, rfl, hbs, hc⟩ := Hf.out (by omega)
      have c1 := hc k hlt
      have b1 := Hb.out k hk
      have b2 := Hb.out (k + 1) hlt
      have hs := HS.out k
      rw [hs] at b2
      have Hs := Lib.hid hs
      clear hc hs
      generalize fs.getD k 0 = x at *
      generalize sumK fs k = S at *
      obtain ⟨b11, b12⟩ := b1
      obtain ⟨b21, b22⟩ := b2
      go_wp2
      go_roundw
      case rel => exact ⟨k + 1, by omega, by go_num, by rw [Hs.out], Lib.hid (by first | trivial | rfl)⟩
      case measure => simp [intOf]; omega
    · obtain rfl : k = n := by omega
      go_wp2
      go_ret
      exact ⟨rfl, rfl⟩
theorem sw_lit (w : World) (R : Array Value) (L : List Int) (t : TypeId) (hR : R.toList = L.map (Value.int .i64)) : Sw (Value.int .i64) 0 (w.alloc (.cells R t)) (.slice (some ⟨w.heap.size, 0, none⟩) L.length L.length) L w.heap.size (w.heap.size + 1) := by
  refine ⟨_, _, rfl, fun _ => ⟨Nat.le_refl _, w.heap.size, 0, rfl, Nat.le_refl _, by omega, by simp, fun i hi => ⟨?_, ?_⟩⟩⟩
  · refine (World.cell?_alloc_at _ _ _ _ rfl).trans ?_
    rw [Nat.zero_add, ← Array.getElem?_toList, hR, List.getElem?_map, List.getElem?_eq_getElem hi, getD_lt _ _ _ hi]
    rfl
  · rw [frozen?_alloc_cells]
    simp [World.frozen?]
/-- three throws, and the same ones turned around -/
def winsL (a b c : Nat) : List Int := [0, a, -c, -a, 0, b, c, -b, 0]
def winsN (a b c : Nat) : List Int := [0, -a, c, a, 0, -b, -c, b, 0]
def evE (a b c k : Nat) : Int := (res_EvenThrows (winsL a b c)).getD k 0
def evB (a b c : Nat) : Bool :=
  ok_EvenThrows (winsL a b c) && !ok_EvenThrows (winsN a b c) && thrB (winsL a b c) && (res_EvenThrows (winsL a b c)).length == 3 &&
  ((List.range 3).all fun i => decide (1 ≤ evE a b c i) && decide (evE a b c i ≤ 9) && decide (evE a b c 0 * (winsL a b c).getD i 0 + evE a b c 1 * (winsL a b c).getD (3 + i) 0 + evE a b c 2 * (winsL a b c).getD (6 + i) 0 = 0))
theorem ev_all : ∀ a, a < 9 → ∀ b, b < 9 → ∀ c, c < 9 → evB (a + 1) (b + 1) (c + 1) = true := by decide +kernel
end Go.Proofs.Ytodmaomngpnboaa
