/- Dice by value, and lists of dice: what they read as; the law's helpers at them. -/
import Derived.Test.YtodmaomngpnboaaLk
import Derived.RangeFuncBox
set_option linter.unusedVariables false
namespace Go.Proofs.Ytodmaomngpnboaa
open Go.RowKit

/-- v is a die whose faces read as the list -/
def Dv (w : World) (v : Value) (fs : List Int) : Prop := ∃ s, v = .agg #[s] ∧ Sl (Value.int .i64) 0 w s fs
/-- .. which may be written, its faces between lo and hi -/
def Dw (w : World) (v : Value) (fs : List Int) (lo hi : Nat) : Prop := ∃ s, v = .agg #[s] ∧ Sw (Value.int .i64) 0 w s fs lo hi
theorem Dw.dv {w : World} {v : Value} {fs : List Int} {lo hi : Nat} (h : Dw w v fs lo hi) : Dv w v fs := by obtain ⟨s, e, h⟩ := h; exact ⟨s, e, h.sl⟩
theorem Dv.later {w w' : World} {v : Value} {fs : List Int} (h : Dv w v fs) (hb : Below w.heap.size w w') : Dv w' v fs := by obtain ⟨s, e, h⟩ := h; exact ⟨s, e, h.later hb⟩
theorem Dw.later {w w' : World} {v : Value} {fs : List Int} {lo hi : Nat} (h : Dw w v fs lo hi) (hb : Below w.heap.size w w') : Dw w' v fs lo hi := by obtain ⟨s, e, h⟩ := h; exact ⟨s, e, h.later hb⟩
theorem Dw.apart {w w' : World} {v : Value} {fs : List Int} {lo hi l2 h2 : Nat} (h : Dw w v fs lo hi) (g : Only l2 h2 w w') (ha : hi ≤ l2 ∨ h2 ≤ lo) : Dw w' v fs lo hi := by obtain ⟨s, e, h⟩ := h; exact ⟨s, e, h.apart g ha⟩
theorem Dw.mono {w : World} {v : Value} {fs : List Int} {lo hi lo' hi' : Nat} (h : Dw w v fs lo hi) (h1 : lo' ≤ lo) (h2 : hi ≤ hi') (h3 : hi' ≤ w.heap.size) : Dw w v fs lo' hi' := by obtain ⟨s, e, h⟩ := h; exact ⟨s, e, h.mono h1 h2 h3⟩

theorem box_below {w w' : World} {n B : Nat} {t : TypeId} {v : Value} (h : Boxed w B t v) (hb : Below n w w') (hB : B < n) : Boxed w' B t v := (hb.block B hB).trans h

theorem box_set {w : World} {B : Nat} {t : TypeId} {v : Value} (h : Boxed w B t v) (v' : Value) : Boxed (w.setCell ⟨B, 0, none⟩ v') B t v' := h.set v'
theorem box_other {w : World} {B b : Nat} {t : TypeId} {v : Value} (h : Boxed w B t v) (v' : Value) (hne : B ≠ b) : Boxed (w.setCell ⟨b, 0, none⟩ v') B t v := h.kept (grownBy_setCell' w b v') (fun e => hne (Option.some.inj e))



/-- what is left of a budget behind n things -/
def szV (n : Nat) (left : Int) : Int := if left - n < 0 then -1 else left - n
set_option maxHeartbeats 400000 in
theorem szI_any (p : Option Addr) (n cap : Nat) (left : Int) (w : World) (hn : n ≤ maxLen) (h1 : left ≤ 1048576) (h0 : 0 ≤ left) :
    Calls Try.prog 104 #[.slice p n cap, .int .i64 left] w fun e w' => e = .returned (.int .i64 (szV n left)) ∧ w = w' := by
  unfold maxLen at hn
  have e0 : szV n left = if left - n < 0 then -1 else left - n := rfl
  have E := Lib.hid e0
  clear e0
  generalize szV n left = R at *
  go_enter Try.func104, Try.ntmps104
  by_cases hlt : left - n < 0
  · have E2 := Lib.hid (E.out.trans (if_pos hlt))
    go_wp2
    go_ret
    exact ⟨ret_int E2.out.symm, rfl⟩
  · have E2 := Lib.hid (E.out.trans (if_neg hlt))
    go_wp2
    go_ret
    exact ⟨ret_int E2.out.symm, rfl⟩
