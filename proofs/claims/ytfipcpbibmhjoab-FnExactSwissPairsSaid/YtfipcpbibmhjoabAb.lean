/- Contracts: how two players compare, and a stable sort of at most 16, in the program. -/
import Derived.Test.YtfipcpbibmhjoabAa
import Derived.Test.YtfipcpbibmhjoabMb
import Derived.Test.YtfipcpbibmhjoabSg
import Derived.RangeFuncBox
import Derived.Deep.RegionLawGrows
import Derived.StillTailTactics
set_option linter.unusedVariables false
namespace Go.Proofs.Ytfipcpbibmhjoab
open Go.RowKit
/-- how two numbers compare -/
def cmpJ (a b : Int) : Int := if a < b then -1 else if b < a then 1 else 0
set_option maxHeartbeats 1000000 in
theorem compareJ_any (a b : Int) (w : World) : Calls Try.prog 102 #[.int .i64 a, .int .i64 b] w fun e w' => e = .returned (.int .i64 (cmpJ a b)) ∧ w = w' := by
  have HA := Lib.hid (fun z => nan_any a z)
  have HB := Lib.hid (fun z => nan_any b z)
  unfold cmpJ
  by_cases h1 : a < b
  · rw [if_pos h1]
    have d1 : decide (a < b) = true := decide_eq_true h1
    go_enter Try.func102, Try.ntmps102
    go_wp2_with (first | (go_at_call 135; (with_reducible refine (HA.out _).mono ?_); rintro e w' ⟨rfl, rfl⟩) | (go_at_call 135; (with_reducible refine (HB.out _).mono ?_); rintro e w' ⟨rfl, rfl⟩))
    go_ret
    exact ⟨rfl, rfl⟩
  · rw [if_neg h1]
    have d1 : decide (a < b) = false := decide_eq_false h1
    by_cases h2 : b < a
    · rw [if_pos h2]
      have d2 : decide (b < a) = true := decide_eq_true h2
      go_enter Try.func102, Try.ntmps102
      go_wp2_with (first | (go_at_call 135; (with_reducible refine (HA.out _).mono ?_); rintro e w' ⟨rfl, rfl⟩) | (go_at_call 135; (with_reducible refine (HB.out _).mono ?_); rintro e w' ⟨rfl, rfl⟩))
      go_ret
      exact ⟨rfl, rfl⟩
    · rw [if_neg h2]
      have d2 : decide (b < a) = false := decide_eq_false h2
      go_enter Try.func102, Try.ntmps102
      go_wp2_with (first | (go_at_call 135; (with_reducible refine (HA.out _).mono ?_); rintro e w' ⟨rfl, rfl⟩) | (go_at_call 135; (with_reducible refine (HB.out _).mono ?_); rintro e w' ⟨rfl, rfl⟩))
      go_ret
      exact ⟨rfl, rfl⟩
theorem alloc2_cells (w : World) (x y : Value) (t : TypeId) : (w.alloc (.cells #[x, y] t)).cell? ⟨w.heap.size, 0, none⟩ = some x ∧ (w.alloc (.cells #[x, y] t)).cell? ⟨w.heap.size, 1, none⟩ = some y := by
  have h := fun j => cell_of_row (w.alloc (.cells #[x, y] t)) w.heap.size j #[x, y] t (0, 0) (heap_alloc_new w _)
  exact ⟨h 0, h 1⟩
def orJ (x y : Int) : Int := if x = 0 then y else x
set_option maxHeartbeats 1000000 in
theorem orJ_any (x y : Int) (B cap : Nat) (w : World) (c0 : w.cell? ⟨B, 0, none⟩ = some (.int .i64 x)) (c1 : w.cell? ⟨B, 1, none⟩ = some (.int .i64 y)) :
    Calls Try.prog 101 #[.slice (some ⟨B, 0, none⟩) 2 cap] w fun e w' => e = .returned (.int .i64 (orJ x y)) ∧ w = w' := by
  unfold orJ
  go_enter Try.func101, Try.ntmps101
  go_wp2
  go_loopw [8] (fun i wr => ∃ k : Nat, k ≤ 2 ∧ i = .int .i64 (k : Int) ∧ Hid ((0 < k → x = 0) ∧ (1 < k → y = 0)) ∧ Hid (wr = w)) (fun i _ => 2 - (intOf i).toNat)
  case atStart => exact ⟨0, by omega, rfl, Lib.hid ⟨fun h => by omega, fun h => by omega⟩, Lib.hid rfl⟩
  case round =>
    obtain ⟨k, hk, rfl, hh, hw⟩ := hrel
    obtain rfl := hw.out
    rcases (show k = 0 ∨ k = 1 ∨ k = 2 by omega) with rfl | rfl | rfl
    · by_cases hx : x = 0
      · subst hx
        go_wp2
        go_roundw
        case rel => exact ⟨1, by omega, by go_num, Lib.hid ⟨fun _ => by first | rfl | trivial, fun h => by omega⟩, Lib.hid (by first | trivial | rfl)⟩
        case measure => simp [intOf]
      · have hx2 : (x != 0) = true := by simp [hx]
        have hx3 : (x = 0) = False := eq_false hx
        go_wp2
        go_ret
        exact ⟨ret_int (by simp), rfl⟩
    · have hx := hh.out.1 (by omega)
      subst hx
      by_cases hy : y = 0
      · subst hy
        go_wp2
        go_roundw
        case rel => exact ⟨2, by omega, by go_num, Lib.hid ⟨fun _ => by first | rfl | trivial, fun _ => by first | rfl | trivial⟩, Lib.hid (by first | trivial | rfl)⟩
        case measure => simp [intOf]
      · have hx2 : (y != 0) = true := by simp [hy]
        have hx3 : (y = 0) = False := eq_false hy
        go_wp2
        go_ret
        exact ⟨ret_int (by simp), rfl⟩
    · have hx := hh.out.1 (by omega)
      have hy := hh.out.2 (by omega)
      subst hx
      subst hy
      go_wp2
      go_ret
      exact ⟨ret_int (by simp), rfl⟩
def cmpT (s o : List Int) (a b : Nat) : Int := orJ (cmpJ (s.getD b 0) (s.getD a 0)) (cmpJ (o.getD b 0) (o.getD a 0))
theorem cmpT_lt (s o : List Int) (a b : Nat) : (cmpT s o a b < 0) ↔ kb s o a b := by
  unfold cmpT orJ cmpJ kb
  generalize s.getD a 0 = x
  generalize s.getD b 0 = y
  generalize o.getD a 0 = z
  generalize o.getD b 0 = u
  split <;> split at * <;> (try split at *) <;> (try split) <;> (try split) <;> omega
set_option maxRecDepth 100000 in
set_option maxHeartbeats 4000000 in
theorem cloT_any (s o : List Int) (vs vo : Value) (a b : Nat) (Bs Bo : Nat) (w : World) (hs : Sl (Value.int .i64) 0 w vs s) (ho : Sl (Value.int .i64) 0 w vo o) (ha : a < s.length) (hb : b < s.length) (hl : o.length = s.length)
    (k1 : w.cell? ⟨Bs, 0, none⟩ = some vs) (k2 : w.cell? ⟨Bo, 0, none⟩ = some vo) (hn : s.length ≤ 1048576) :
    Calls Try.prog 100 #[.int .i64 (a : Int), .int .i64 (b : Int), .pointer (some ⟨Bs, 0, none⟩), .pointer (some ⟨Bo, 0, none⟩)] w fun e w' => e = .returned (.int .i64 (cmpT s o a b)) ∧ Below w.heap.size w w' := by
  obtain ⟨p1, cap1, rfl, hf1⟩ := hs
  obtain ⟨p2, cap2, rfl, hf2⟩ := ho
  obtain ⟨hc1, b1, off1, rfl, hbs1, hcs1⟩ := hf1 (by omega)
  obtain ⟨hc2, b2, off2, rfl, hbs2, hcs2⟩ := hf2 (by omega)
  have e1 := hcs1 a ha
  have e2 := hcs1 b hb
  have e3 := hcs2 a (by omega)
  have e4 := hcs2 b (by omega)
  rw [hl] at *
  have H1 := Lib.hid (fun z => compareJ_any (s.getD b 0) (s.getD a 0) z)
  have H2 := Lib.hid (fun z => compareJ_any (o.getD b 0) (o.getD a 0) z)
  have HO := Lib.hid (fun x y B cap z c0 c1 => orJ_any x y B cap z c0 c1)
  have E := Lib.hid (show cmpT s o a b = orJ (cmpJ (s.getD b 0) (s.getD a 0)) (cmpJ (o.getD b 0) (o.getD a 0)) from rfl)
  generalize cmpT s o a b = R at *
  clear hf1 hf2 hcs1 hcs2
  generalize s.getD a 0 = x1 at *
  generalize s.getD b 0 = x2 at *
  generalize o.getD a 0 = x3 at *
  generalize o.getD b 0 = x4 at *
  generalize cmpJ x2 x1 = C1 at *
  generalize cmpJ x4 x3 = C2 at *
  generalize s.length = n at *
  go_enter Try.func100, Try.ntmps100
  have HS1 := Lib.hid ((H1.out w.drew).mono (fun e z h => (⟨h.1, h.2.symm⟩ : e = .returned (.int .i64 C1) ∧ z = w.drew)))
  have HS2 := Lib.hid ((H2.out w.drew).mono (fun e z h => (⟨h.1, h.2.symm⟩ : e = .returned (.int .i64 C2) ∧ z = w.drew)))
  have HO2 := Lib.hid (HO.out C1 C2 w.drew.heap.size 2 (w.drew.alloc (.cells #[.int .i64 C1, .int .i64 C2] 3)) (alloc2_cells w.drew (.int .i64 C1) (.int .i64 C2) 3).1 (alloc2_cells w.drew (.int .i64 C1) (.int .i64 C2) 3).2)
  have Hbz := Lib.hid ((Below.refl w.heap.size w).drew.alloc (Nat.le_refl _) (.cells #[.int .i64 C1, .int .i64 C2] 3))
  have k1' : w.drew.cell? ⟨Bs, 0, none⟩ = _ := k1
  have k2' : w.drew.cell? ⟨Bo, 0, none⟩ = _ := k2
  have e1' : w.drew.cell? ⟨b1, off1 + a, none⟩ = _ := e1
  have e2' : w.drew.cell? ⟨b1, off1 + b, none⟩ = _ := e2
  have e3' : w.drew.cell? ⟨b2, off2 + a, none⟩ = _ := e3
  have e4' : w.drew.cell? ⟨b2, off2 + b, none⟩ = _ := e4
  go_wp2_with fail
  refine wp_region_still_tail 18 (by kernel_rfl) (by kernel_rfl) ?_
  simp only [List.take_succ_cons, List.take_zero, List.drop_succ_cons, List.drop_zero]
  repeat still_step
  still_call HS1.out
  repeat still_step
  still_call HS2.out
  refine wpStill_nil ?_
  change wpList _ _ _ _ _ w.drew
  go_wp2_with (go_at_call 101; refine (HO2.out).mono ?_; rintro e w' ⟨rfl, rfl⟩)
  go_ret
  exact ⟨ret_int E.out.symm, Hbz.out⟩
end Go.Proofs.Ytfipcpbibmhjoab
