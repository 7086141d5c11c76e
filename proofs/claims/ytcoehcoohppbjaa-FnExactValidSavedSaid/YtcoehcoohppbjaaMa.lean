/- Dice by value, and lists of dice: what they read as; the law's helpers at them. -/
import Derived.Test.YtcoehcoohppbjaaLk
import Derived.RangeFuncBox
set_option linter.unusedVariables false
namespace Go.Proofs.Ytcoehcoohppbjaa
open Go.RowKit

/-- v is a die whose faces read as the list -/
def Dv (w : World) (v : Value) (fs : List Int) : Prop := ∃ s, v = .agg #[s] ∧ Sl (Value.int .i64) 0 w s fs
/-- .. which may be written, its faces between lo and hi -/
def Dw (w : World) (v : Value) (fs : List Int) (lo hi : Nat) : Prop := ∃ s, v = .agg #[s] ∧ Sw (Value.int .i64) 0 w s fs lo hi
theorem Dw.dv {w : World} {v : Value} {fs : List Int} {lo hi : Nat} (h : Dw w v fs lo hi) : Dv w v fs := by obtain ⟨s, e, h⟩ := h; exact ⟨s, e, h.sl⟩
theorem Dv.later {w w' : World} {v : Value} {fs : List Int} (h : Dv w v fs) (hb : Below w.heap.size w w') : Dv w' v fs := by obtain ⟨s, e, h⟩ := h; exact ⟨s, e, h.later hb⟩
theorem Dw.later {w w' : World} {v : Value} {fs : List Int} {lo hi : Nat} (h : Dw w v fs lo hi) (hb : Below w.heap.size w w') : Dw w' v fs lo hi := by obtain ⟨s, e, h⟩ := h; exact ⟨s, e, h.later hb⟩
theorem Dw.apart {w w' : World} {v : Value} {fs : List Int} {lo hi l2 h2 : Nat} (h : Dw w v fs lo hi) (g : Only l2 h2 w w') (ha : hi ≤ l2 ∨ h2 ≤ lo) : Dw w' v fs lo hi := by obtain ⟨s, e, h⟩ := h; exact ⟨s, e, h.apart g ha⟩
theorem Dw.mono {w : World} {v : Value} {fs : List Int} {lo hi lo' hi' : Nat} (h : Dw w v fs lo hi) (h1 : lo' ≤ lo) (h2 : hi ≤ hi') (h3 : hi' ≤ w.heap.size) : Dw w v fs lo' hi' := by obtain ⟨s, e, h⟩ := h; exact ⟨s, e, h.mono h1 h2 h3⟩

theorem box_below {w w' : World} {n B : Nat} {t : TypeId} {v : Value} (h : Boxed w B t v) (hb : Below n w w') (hB : B < n) : Boxed w' B t v := (hb.block B hB).trans h

theorem box_set {w : World} {B : Nat} {t : TypeId} {v : Value} (h : Boxed w B t v) (v' : Value) : Boxed (w.setCell ⟨B, 0, none⟩ v') B t v' := h.set v'
theorem box_other {w : World} {B b : Nat} {t : TypeId} {v : Value} (h : Boxed w B t v) (v' : Value) (hne : B ≠ b) : Boxed (w.setCell ⟨b, 0, none⟩ v') B t v := h.kept (grownBy_setCell' w b v') (fun e => hne (Option.some.inj e))

set_option maxHeartbeats 400000 in
theorem toDie_any (fs : List Int) (v : Value) (w : World) (hn : fs.length ≤ 1048576) (h : Dv w v fs) :
    Calls Try.prog 127 #[v] w fun e w' => ∃ v', e = .returned v' ∧ Dw w' v' fs w.heap.size w'.heap.size ∧ Below w.heap.size w w' := by
  obtain ⟨s, rfl, h⟩ := h
  have H := Lib.hid (fun z (hb : Below w.heap.size w z) => toI_any fs s z hn (h.later hb))
  clear h
  go_enter Try.func127, Try.ntmps127
  go_wp2_with fail
  have hb0 := (((Below.refl _ w).alloc (Nat.le_refl _) (.cells #[s] 134)).alloc (by simp) (.cells #[Value.slice none 0 0] 93)).alloc (by simp; omega) (.cells #[Value.slice none 0 0] 93)
  have b2 := Boxed.new ((w.alloc (.cells #[s] 134)).alloc (.cells #[Value.slice none 0 0] 93)) 93 (.slice none 0 0)
  have b1 := (Boxed.new (w.alloc (.cells #[s] 134)) 93 (.slice none 0 0)).alloc (.cells #[Value.slice none 0 0] 93)
  have e1 : (w.alloc (.cells #[s] 134)).heap.size = w.heap.size + 1 := by simp
  have e2 : ((w.alloc (.cells #[s] 134)).alloc (.cells #[Value.slice none 0 0] 93)).heap.size = w.heap.size + 1 + 1 := by simp
  rw [e2] at b2
  rw [e1] at b1
  refine (H.out _ hb0).mono ?_
  rintro e w2 ⟨s2, rfl, hs, hb⟩
  have d2 := box_below b2 hb (by simp)
  have d1 := box_below b1 hb (by simp)
  have Hb := Lib.hid (hb0.trans (hb.mono hb0.size))
  have hz := hb.size
  rw [World.size_alloc, e2] at hz hs
  clear hb hb0 b1 b2 e1 e2
  have Hs := Lib.hid hs
  obtain ⟨p2, cap2, rfl, -⟩ := hs
  have k1 := d1.cell
  have k2 := d2.cell
  have g1 := d1.frozen
  have g2 := d2.frozen
  go_wp2
  have q1 : ((w2.setCell ⟨w.heap.size + 1 + 1, 0, none⟩ (.slice p2 fs.length cap2)).setCell ⟨w.heap.size + 1, 0, none⟩ (.slice p2 fs.length cap2)).cell? ⟨w.heap.size + 1, 0, none⟩ = some (.slice p2 fs.length cap2) := (box_set (box_other d1 _ (by omega)) _).cell
  refine bodyPost_ret (v := .agg #[.slice p2 fs.length cap2]) ?_ rfl ⟨_, rfl, ⟨_, rfl, ?_⟩, ?_⟩
  · simp [results, Try.results127, go_sem, q1]
  · have := (Hs.out.apart (Only.step' (Only.step' (Only.refl 0 (w.heap.size + 1 + 1 + 1) w2) ⟨w.heap.size + 1 + 1, 0, none⟩ (.slice p2 fs.length cap2) (Nat.zero_le _) (Nat.lt_succ_self _)) ⟨w.heap.size + 1, 0, none⟩ (.slice p2 fs.length cap2) (Nat.zero_le _) (by show w.heap.size + 1 < _; omega)) (.inr (Nat.le_refl _)))
    exact this.mono (by omega) (by simp) (Nat.le_refl _)
  · exact (Hb.out.setCell (by show _ ≤ w.heap.size + 1 + 1; omega) _).setCell (by show _ ≤ w.heap.size + 1; omega) _

set_option maxHeartbeats 400000 in
theorem eqDie_any (fs : List Int) (v u : Value) (w : World) (hn : fs.length ≤ 1048576) (h : Dv w v fs) (g : Dv w u fs) :
    Calls Try.prog 130 #[v, u] w fun e w' => e = .returned (.bool true) ∧ Below w.heap.size w w' := by
  obtain ⟨s, rfl, h⟩ := h
  obtain ⟨t, rfl, g⟩ := g
  have H := Lib.hid (fun z (hb : Below w.heap.size w z) => eqI_any fs s t z hn (h.later hb) (g.later hb))
  clear h g
  have hb0 := Lib.hid (((Below.refl _ w).alloc (Nat.le_refl _) (.cells #[s] 93)).alloc (by simp) (.cells #[t] 93))
  go_enter Try.func130, Try.ntmps130
  go_wp2_with fail
  refine (H.out _ hb0.out).mono ?_
  rintro e w2 ⟨rfl, ho⟩
  have Hb := Lib.hid (Below.still hb0.out ho)
  clear hb0 ho
  go_wp2
  go_ret
  exact ⟨rfl, Hb.out⟩

/-- what is left of a budget behind n things -/
def szV (n : Nat) (left : Int) : Int := if left - n < 0 then -1 else left - n
set_option maxHeartbeats 400000 in
theorem szI_any (p : Option Addr) (n cap : Nat) (left : Int) (w : World) (hn : n ≤ maxLen) (h1 : left ≤ 1048576) (h0 : 0 ≤ left) :
    Calls Try.prog 62 #[.slice p n cap, .int .i64 left] w fun e w' => e = .returned (.int .i64 (szV n left)) ∧ w = w' := by
  unfold maxLen at hn
  have e0 : szV n left = if left - n < 0 then -1 else left - n := rfl
  have E := Lib.hid e0
  clear e0
  generalize szV n left = R at *
  go_enter Try.func62, Try.ntmps62
  by_cases hlt : left - n < 0
  · have E2 := Lib.hid (E.out.trans (if_pos hlt))
    go_wp2
    go_ret
    exact ⟨ret_int E2.out.symm, rfl⟩
  · have E2 := Lib.hid (E.out.trans (if_neg hlt))
    go_wp2
    go_ret
    exact ⟨ret_int E2.out.symm, rfl⟩
set_option maxHeartbeats 400000 in
theorem szDie_any (fs : List Int) (v : Value) (left : Int) (w : World) (hn : fs.length ≤ maxLen) (h : Dv w v fs) (h1 : left ≤ 1048576) (h0 : 0 ≤ left) :
    Calls Try.prog 124 #[v, .int .i64 left] w fun e w' => e = .returned (.int .i64 (szV fs.length left)) ∧ Below w.heap.size w w' := by
  obtain ⟨s, rfl, h⟩ := h
  obtain ⟨p, cap, rfl, -⟩ := h
  have H := Lib.hid (fun z => szI_any p fs.length cap left z hn h1 h0)
  have hR : szV fs.length left = -1 ∨ 0 ≤ szV fs.length left ∧ szV fs.length left ≤ 1048576 := by unfold szV; split <;> omega
  generalize szV fs.length left = R at *
  generalize fs.length = n at *
  clear hn
  have hb0 := Lib.hid ((Below.refl _ w).alloc (Nat.le_refl _) (.cells #[.slice p n cap] 134))
  go_enter Try.func124, Try.ntmps124
  go_wp2_with fail
  refine (H.out _).mono ?_
  rintro e w2 ⟨rfl, rfl⟩
  clear H
  rcases hR with rfl | ⟨r0, r1⟩
  · go_wp2
    go_ret
    exact ⟨rfl, hb0.out⟩
  · go_wp2
    go_ret
    exact ⟨rfl, hb0.out⟩
