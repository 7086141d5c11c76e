/- Contracts: decks, in both texts. -/
import Derived.Test.YtfihnnhgegdjkaaLk
import Derived.Test.YtfihnnhgegdjkaaDq
import Derived.Deep.QuietTactic
import Derived.BigQuiet
import Derived.StillTailTactics
import Derived.Deep.RegionWith
import Derived.Outline
set_option linter.unusedVariables false
namespace Go.Proofs.Ytfihnnhgegdjkaa
open Go.RowKit

theorem Sl.take {w : World} {p : Option Addr} {n cap : Nat} {fs : List Int} (h : Sl (Value.int .i64) 0 w (.slice p n cap) fs) (k : Nat) (hk : k ≤ fs.length) (c : Nat) (hkc : k ≤ c) : Sl (Value.int .i64) 0 w (.slice p k c) (fs.take k) := by
  obtain ⟨p', cap', e, h⟩ := h
  cases e
  refine ⟨p, c, by rw [List.length_take, Nat.min_eq_left hk], fun h0 => ?_⟩
  rw [List.length_take, Nat.min_eq_left hk] at h0
  obtain ⟨hcap, b, off, rfl, hb, hc⟩ := h (by omega)
  refine ⟨by rw [List.length_take, Nat.min_eq_left hk]; exact hkc, b, off, rfl, hb, fun i hi => ?_⟩
  rw [List.length_take, Nat.min_eq_left hk] at hi
  rw [hc i (by omega)]
  simp [List.getD, hi]

theorem quiet_same {P : Program} {f : FuncId} {args : Array Value} {w : World} {n : Nat} {v : Value} (h : Calls P f args (w.drewN n) fun e w' => e = .returned v ∧ w.drewN n = w') :
    Calls P f args (w.drewN n) fun e w'' => e = .returned v ∧ ∃ m, w'' = w.drewN m := h.mono fun _ _ ⟨he, hm⟩ => ⟨he, n, hm.symm⟩








def ok_IsDeck (fs : List Int) : Bool := deckB fs
