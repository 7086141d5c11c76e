/- Contracts: streaks, the program. -/
import Derived.Test.YticocfoheenmdaaWi
import Derived.Test.YticocfoheenmdaaWk
import Derived.Test.YticocfoheenmdaaYr
set_option linter.unusedVariables false
namespace Go.Proofs.Yticocfoheenmdaa
open Go.RowKit Go.Maps

set_option maxHeartbeats 1000000 in
theorem streak_any (T n : Nat) (w : World) (n1 : 1 ≤ n) (n2 : n ≤ 60) (hT : T ≤ 60) :
    Calls Try.prog 35 #[.int .i64 (T : Int), .int .i64 (n : Int)] w fun e w' => e = .returned (.int .i64 (pwI 2 T - fewer T n)) ∧ Below w.heap.size w w' := by
  have hal : Below w.heap.size w (w.alloc (.cells #[.int .i64 1] 2)) := (Below.refl _ _).alloc (Nat.le_refl _) _
  have hS : Sl (Value.int .i64) 0 (w.alloc (.cells #[.int .i64 1] 2)) (.slice (some ⟨w.heap.size, 0, none⟩) 1 1) [1] :=
    ⟨_, _, rfl, fun _ => ⟨Nat.le_refl _, _, _, rfl, by simp, fun i hi => by
      obtain rfl : i = 0 := by simpa using hi
      exact World.cell?_alloc_at _ _ _ _ rfl⟩⟩
  have HR := Lib.hid (repeat_any 1 n _ _ n1 (by omega) hS)
  have HP := Lib.hid (fun z => powerQ_any 2 T z (by omega) (fun k hk => by have := pw2_bd k (by omega); omega))
  have hW := fun r z (h : Sl (Value.int .i64) 0 z r (onesL n)) => without_any (onesL n) 2 n T r z (onesL_len n) n1 (by omega) (by omega) hT h (fun i hi => by have := pw2_bd i (by omega); show pwI 2 i ≤ _; omega)
  rw [show ((2 : Nat) : Int) = 2 from rfl] at hW
  have HW := Lib.hid hW
  obtain ⟨f0, f1⟩ := fewer_bd T n
  obtain ⟨p0, p1⟩ := pw2_bd T (by omega)
  have HF : Hid (sumA (fun k => rwI (onesL n) 2 n T (k : Int)) n = fewer T n) := Lib.hid rfl
  have Hal := Lib.hid hal
  rw [HF.out] at HW
  generalize fewer T n = F at *
  generalize pwI 2 T = P at *
  clear hal hS hW HF
  go_enter Try.func35, Try.ntmps35
  go_wp2_with fail
  refine HR.out.mono ?_
  rintro e w1 ⟨r, rfl, hr, hb1⟩
  have Hr := Lib.hid hr
  have Hb1 := Lib.hid (Hal.out.trans (hb1.mono (by simp)))
  clear hr hb1 HR
  go_wp2_with fail
  refine (HP.out _).mono ?_
  rintro e w2 ⟨rfl, hb2⟩
  have Hr2 := Lib.hid (Hr.out.later hb2).sl
  have Hb2 := Lib.hid (Hb1.out.trans (hb2.mono Hb1.out.size))
  clear hb2 HP
  go_wp2_with fail
  refine (HW.out _ _ Hr2.out).mono ?_
  rintro e w3 ⟨rfl, hb3⟩
  have Hb3 := Lib.hid (Hb2.out.trans (hb3.mono Hb2.out.size))
  clear hb3
  go_wp2
  go_ret
  exact ⟨rfl, Hb3.out⟩
end Go.Proofs.Yticocfoheenmdaa
