/- Contracts: how two ranks compare, in the program. -/
import Derived.Test.YtodmaomngpnboaaMb
import Derived.Test.YtodmaomngpnboaaQa
import Derived.Test.YtodmaomngpnboaaOe
import Derived.RangeFuncBox
import Derived.Deep.RegionLawGrows
import Derived.StillTailTactics
set_option linter.unusedVariables false
namespace Go.Proofs.Ytodmaomngpnboaa
open Go.RowKit
/-- how two numbers compare -/
def cmpJ (a b : Int) : Int := if a < b then -1 else if b < a then 1 else 0
set_option maxHeartbeats 1000000 in
theorem compareJ_any (a b : Int) (w : World) : Calls Try.prog 159 #[.int .i64 a, .int .i64 b] w fun e w' => e = .returned (.int .i64 (cmpJ a b)) ∧ w = w' := by
  have HA := Lib.hid (fun z => nan_any a z)
  have HB := Lib.hid (fun z => nan_any b z)
  unfold cmpJ
  by_cases h1 : a < b
  · rw [if_pos h1]
    have d1 : decide (a < b) = true := decide_eq_true h1
    go_enter Try.func159, Try.ntmps159
    go_wp2_with (first | (go_at_call 177; (with_reducible refine (HA.out _).mono ?_); rintro e w' ⟨rfl, rfl⟩) | (go_at_call 177; (with_reducible refine (HB.out _).mono ?_); rintro e w' ⟨rfl, rfl⟩))
    go_ret
    exact ⟨rfl, rfl⟩
  · rw [if_neg h1]
    have d1 : decide (a < b) = false := decide_eq_false h1
    by_cases h2 : b < a
    · rw [if_pos h2]
      have d2 : decide (b < a) = true := decide_eq_true h2
      go_enter Try.func159, Try.ntmps159
      go_wp2_with (first | (go_at_call 177; (with_reducible refine (HA.out _).mono ?_); rintro e w' ⟨rfl, rfl⟩) | (go_at_call 177; (with_reducible refine (HB.out _).mono ?_); rintro e w' ⟨rfl, rfl⟩))
      go_ret
      exact ⟨rfl, rfl⟩
    · rw [if_neg h2]
      have d2 : decide (b < a) = false := decide_eq_false h2
      go_enter Try.func159, Try.ntmps159
      go_wp2_with (first | (go_at_call 177; (with_reducible refine (HA.out _).mono ?_); rintro e w' ⟨rfl, rfl⟩) | (go_at_call 177; (with_reducible refine (HB.out _).mono ?_); rintro e w' ⟨rfl, rfl⟩))
      go_ret
      exact ⟨rfl, rfl⟩
theorem alloc2_cells (w : World) (x y : Value) (t : TypeId) : (w.alloc (.cells #[x, y] t)).cell? ⟨w.heap.size, 0, none⟩ = some x ∧ (w.alloc (.cells #[x, y] t)).cell? ⟨w.heap.size, 1, none⟩ = some y := by
  have h := fun j => cell_of_row (w.alloc (.cells #[x, y] t)) w.heap.size j #[x, y] t (0, 0) (heap_alloc_new w _)
  exact ⟨h 0, h 1⟩
def orJ (x y : Int) : Int := if x = 0 then y else x
set_option maxHeartbeats 1000000 in
theorem orJ_any (x y : Int) (B cap : Nat) (w : World) (c0 : w.cell? ⟨B, 0, none⟩ = some (.int .i64 x)) (c1 : w.cell? ⟨B, 1, none⟩ = some (.int .i64 y)) :
    Calls Try.prog 158 #[.slice (some ⟨B, 0, none⟩) 2 cap] w fun e w' => e = .returned (.int .i64 (orJ x y)) ∧ w = w' := by
  unfold orJ
  go_enter Try.func158, Try.ntmps158
  go_wp2
  go_loopw [8] (fun i wr => ∃ k : Nat, k ≤ 2 ∧ i = .int .i64 (k : Int) ∧ Hid ((0 < k → x = 0) ∧ (1 < k → y = 0)) ∧ Hid (wr = w)) (fun i _ => 2 - (intOf i).toNat)
  case atStart => exact ⟨0, by omega, rfl, Lib.hid ⟨fun h => by omega, fun h => by omega⟩, Lib.hid rfl⟩
  case round =>
    obtain ⟨k, hk, rfl, hh, hw⟩ := hrel
    obtain rfl := hw.out
    rcases (show k = 0 ∨ k = 1 ∨ k = 2 by omega) with rfl | rfl | rfl
    · by_cases hx : x = 0
      · subst hx
        go_wp2
        go_roundw
        case rel => exact ⟨1, by omega, by go_num, Lib.hid ⟨fun _ => by first | rfl | trivial, fun h => by omega⟩, Lib.hid (by first | trivial | rfl)⟩
        case measure => simp [intOf]
      · have hx2 : (x != 0) = true := by simp [hx]
        have hx3 : (x = 0) = False := eq_false hx
        go_wp2
        go_ret
        exact ⟨ret_int (by simp), rfl⟩
    · have hx := hh.out.1 (by omega)
      subst hx
      by_cases hy : y = 0
      · subst hy
        go_wp2
        go_roundw
        case rel => exact ⟨2, by omega, by go_num, Lib.hid ⟨fun _ => by first | rfl | trivial, fun _ => by first | rfl | trivial⟩, Lib.hid (by first | trivial | rfl)⟩
        case measure => simp [intOf]
      · have hx2 : (y != 0) = true := by simp [hy]
        have hx3 : (y = 0) = False := eq_false hy
        go_wp2
        go_ret
        exact ⟨ret_int (by simp), rfl⟩
    · have hx := hh.out.1 (by omega)
      have hy := hh.out.2 (by omega)
      subst hx
      subst hy
      go_wp2
      go_ret
      exact ⟨ret_int (by simp), rfl⟩

/-- the counts lie in a row -/
def CntIn (w : World) (G : Nat) (c : List Nat) : Prop := ∀ r, r < 13 → w.cell? ⟨G, r, none⟩ = some (.int .i64 (cAt c r : Int))
def cmpR (c : List Nat) (a b : Nat) : Int := orJ (cmpJ (cAt c b : Int) (cAt c a : Int)) (cmpJ (b : Int) (a : Int))
theorem cmpR_lt (c : List Nat) (a b : Nat) : cmpR c a b < 0 ↔ ¬ leR c b a := by
  unfold cmpR orJ cmpJ leR
  generalize cAt c a = x
  generalize cAt c b = y
  split <;> split at * <;> (try split at *) <;> (try split) <;> (try split) <;> omega
set_option maxRecDepth 100000 in
set_option maxHeartbeats 4000000 in
theorem cloR_any (c : List Nat) (G a b : Nat) (w : World) (ha : a < 13) (hb : b < 13) (hc : CntIn w G c) :
    Calls Try.prog 157 #[.int .i64 (a : Int), .int .i64 (b : Int), .pointer (some ⟨G, 0, none⟩)] w fun e w' => e = .returned (.int .i64 (cmpR c a b)) ∧ Below w.heap.size w w' := by
  have e1 := hc a ha
  have e2 := hc b hb
  have H1 := Lib.hid (fun z => compareJ_any (cAt c b : Int) (cAt c a : Int) z)
  have H2 := Lib.hid (fun z => compareJ_any (b : Int) (a : Int) z)
  have HO := Lib.hid (fun x y B cap z c0 c1 => orJ_any x y B cap z c0 c1)
  have E := Lib.hid (show cmpR c a b = orJ (cmpJ (cAt c b : Int) (cAt c a : Int)) (cmpJ (b : Int) (a : Int)) from rfl)
  generalize cmpR c a b = R at *
  clear hc
  generalize (cAt c a : Int) = x1 at *
  generalize (cAt c b : Int) = x2 at *
  generalize cmpJ x2 x1 = C1 at *
  generalize cmpJ (b : Int) (a : Int) = C2 at *
  go_enter Try.func157, Try.ntmps157
  have HS1 := Lib.hid ((H1.out w.drew).mono (fun e z h => (⟨h.1, h.2.symm⟩ : e = .returned (.int .i64 C1) ∧ z = w.drew)))
  have HS2 := Lib.hid ((H2.out w.drew).mono (fun e z h => (⟨h.1, h.2.symm⟩ : e = .returned (.int .i64 C2) ∧ z = w.drew)))
  have HO2 := Lib.hid (HO.out C1 C2 w.drew.heap.size 2 (w.drew.alloc (.cells #[.int .i64 C1, .int .i64 C2] 3)) (alloc2_cells w.drew (.int .i64 C1) (.int .i64 C2) 3).1 (alloc2_cells w.drew (.int .i64 C1) (.int .i64 C2) 3).2)
  have Hbz := Lib.hid ((Below.refl w.heap.size w).drew.alloc (Nat.le_refl _) (.cells #[.int .i64 C1, .int .i64 C2] 3))
  have e1' : w.drew.cell? ⟨G, a, none⟩ = _ := e1
  have e2' : w.drew.cell? ⟨G, b, none⟩ = _ := e2
  have q1 : ((a : Int) < 13) = True := eq_true (by omega)
  have q2 : ((b : Int) < 13) = True := eq_true (by omega)
  go_wp2_with fail
  refine wp_region_still_tail 10 (by kernel_rfl) (by kernel_rfl) ?_
  simp only [List.take_succ_cons, List.take_zero, List.drop_succ_cons, List.drop_zero]
  repeat still_step
  still_call HS1.out
  repeat still_step
  still_call HS2.out
  refine wpStill_nil ?_
  change wpList _ _ _ _ _ w.drew
  go_wp2_with (go_at_call 158; refine (HO2.out).mono ?_; rintro e w' ⟨rfl, rfl⟩)
  go_ret
  exact ⟨ret_int E.out.symm, Hbz.out⟩
end Go.Proofs.Ytodmaomngpnboaa
