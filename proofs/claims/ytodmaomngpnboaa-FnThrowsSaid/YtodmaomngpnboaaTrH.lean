/- Two results that lie apart, with bounds. -/
import Derived.Test.YtodmaomngpnboaaTrF
set_option linter.unusedVariables false
namespace Go.Proofs.Ytodmaomngpnboaa
open Go.RowKit
def TwoB (w w' : World) (r0 r1 : Value) (l0 l1 : List Int) : Prop :=
  ∃ a0 b0 a1 b1, Sw (Value.int .i64) 0 w' r0 l0 a0 b0 ∧ Sw (Value.int .i64) 0 w' r1 l1 a1 b1 ∧ w.heap.size ≤ a0 ∧ w.heap.size ≤ a1 ∧ b0 ≤ w'.heap.size ∧ b1 ≤ w'.heap.size ∧ (b0 ≤ a1 ∨ b1 ≤ a0)
theorem sw_hi {w : World} {v : Value} {fs : List Int} {lo hi : Nat} (h : Sw (Value.int .i64) 0 w v fs lo hi) (h0 : 0 < fs.length) : hi ≤ w.heap.size := by
  obtain ⟨p, cap, rfl, hx⟩ := h
  obtain ⟨_, _, _, _, _, _, h3, _⟩ := hx h0
  exact h3
theorem sw_none {w : World} {v : Value} {fs : List Int} {lo hi : Nat} (h : Sw (Value.int .i64) 0 w v fs lo hi) (h0 : ¬ 0 < fs.length) (a b : Nat) : Sw (Value.int .i64) 0 w v fs a b := by
  obtain ⟨p, cap, rfl, hx⟩ := h
  exact ⟨p, cap, rfl, fun h => absurd h h0⟩
theorem TwoR.bounded {w w' : World} {r0 r1 : Value} {l0 l1 : List Int} (h : TwoR w w' r0 r1 l0 l1) (hs : w.heap.size ≤ w'.heap.size) : TwoB w w' r0 r1 l0 l1 := by
  obtain ⟨a0, b0, a1, b1, h0, h1, g0, g1, gd⟩ := h
  by_cases e0 : 0 < l0.length
  · by_cases e1 : 0 < l1.length
    · exact ⟨a0, b0, a1, b1, h0, h1, g0, g1, sw_hi h0 e0, sw_hi h1 e1, gd⟩
    · exact ⟨a0, b0, w.heap.size, w.heap.size, h0, sw_none h1 e1 _ _, g0, Nat.le_refl _, sw_hi h0 e0, hs, .inr g0⟩
  · by_cases e1 : 0 < l1.length
    · exact ⟨w.heap.size, w.heap.size, a1, b1, sw_none h0 e0 _ _, h1, Nat.le_refl _, g1, hs, sw_hi h1 e1, .inl g1⟩
    · exact ⟨w.heap.size, w.heap.size, w.heap.size, w.heap.size, sw_none h0 e0 _ _, sw_none h1 e1 _ _, Nat.le_refl _, Nat.le_refl _, hs, hs, .inl (Nat.le_refl _)⟩
theorem two_bounded {P : Program} {f : FuncId} {args : Array Value} {w : World} {ok : Bool} {l0 l1 : List Int}
    (h : Calls P f args w fun e w' => ∃ r0 r1, e = .returned (.tuple #[r0, r1, .bool ok]) ∧ TwoR w w' r0 r1 l0 l1 ∧ Below w.heap.size w w') :
    Calls P f args w fun e w' => ∃ r0 r1, e = .returned (.tuple #[r0, r1, .bool ok]) ∧ TwoB w w' r0 r1 l0 l1 ∧ Below w.heap.size w w' :=
  h.mono fun e w' ⟨r0, r1, he, ht, hb⟩ => ⟨r0, r1, he, ht.bounded hb.size, hb⟩
end Go.Proofs.Ytodmaomngpnboaa
