/- Contracts: in how many orders votes are always more, in the program. -/
import Derived.Deep.Cut
import Derived.Deep.DeepCutAuto
import Derived.Deep.CutBlock
import Derived.Test.YtfihnnhgegdjkaaQg
import Derived.Test.YtfihnnhgegdjkaaQd
import Derived.Test.YtfihnnhgegdjkaaQc
set_option linter.unusedVariables false
namespace Go.Proofs.Ytfihnnhgegdjkaa
open Go.RowKit

def ballotN (c b : Nat) : Nat := setsR (c + b) b * (c - b) / (c + b)
theorem sets_bd : ∀ c : Nat, c < 14 → ∀ b : Nat, b < 13 → setsR (c + b) b ≤ 100000000 := by decide +kernel
set_option maxHeartbeats 1000000 in
theorem ballot_any (a b : Nat) (t : Bool) (ha : a ≤ 12) (hb1 : 1 ≤ b) (hb : b ≤ 12) (w : World) :
    Calls Try.prog 16 #[.int .i64 (a : Int), .int .i64 (b : Int), .bool t] w fun e w' => e = .returned (.tuple #[.int .i64 ((ballotN (if t then a + 1 else a) b : Nat) : Int), .bool true]) ∧ w = w' := by
  have HV := Lib.hid (votes_yes (a : Int) (b : Int) 60 w (by omega) (by unfold votes_P; omega))
  have d0 : decide (60 < (a : Int) + (b : Int)) = false := decide_eq_false (by omega)
  obtain ⟨c, hc⟩ : ∃ c, c = if t then a + 1 else a := ⟨_, rfl⟩
  have hc13 : c ≤ 13 := by cases t <;> simp at hc <;> omega
  rw [← hc]
  have HS := Lib.hid (fun z => countQ_any (c + b) b z (by omega) (by omega))
  have hsb := sets_bd c (by omega) b (by omega)
  have HR := Lib.hid (show ballotN c b = setsR (c + b) b * (c - b) / (c + b) from rfl)
  generalize ballotN c b = R at *
  generalize setsR (c + b) b = N at *
  have E1 := Lib.hid (show (c : Int) + (b : Int) = ((c + b : Nat) : Int) by omega)
  have hsb0 : True := trivial
  have dz : ((c : Int) + (b : Int) = 0) = False := eq_false (by omega)
  have hm0 : 0 ≤ (N : Int) * (max ((c : Int) - (b : Int)) 0) := Int.mul_nonneg (by omega) (Int.le_max_right _ _)
  have hmx : max ((c : Int) - (b : Int)) 0 = ((c - b : Nat) : Int) := by
    rcases Nat.lt_or_ge b c with h | h
    · rw [Int.max_eq_left (by omega)]; omega
    · rw [Int.max_eq_right (by omega)]; omega
  have hm1 : (N : Int) * ((c - b : Nat) : Int) ≤ 2000000000 := by
    have h1 : N * (c - b) ≤ 100000000 * 13 := Nat.mul_le_mul hsb (by omega)
    have h2 : ((N * (c - b) : Nat) : Int) = (N : Int) * ((c - b : Nat) : Int) := Int.natCast_mul _ _
    omega
  have hm2 : 0 ≤ (N : Int) * ((c - b : Nat) : Int) := by rw [← hmx]; exact hm0
  clear hm0
  have HQ : Hid ((N : Int) * ((c - b : Nat) : Int) / ((c : Int) + (b : Int)) = (R : Int)) := Lib.hid (by rw [HR.out, Int.natCast_ediv, Int.natCast_mul]; rfl)
  obtain ⟨d, hd⟩ : ∃ d, d = c - b := ⟨_, rfl⟩
  rw [← hd] at hmx hm1 hm2 HQ
  clear hd
  cases t with
  | true =>
    have hca : c = a + 1 := by simpa using hc
    have Ea := Lib.hid (show (a : Int) + 1 = (c : Int) by omega)
    clear hc hca
    go_enter Try.func16, Try.ntmps16
    go_wp2_with fail
    refine HV.out.mono ?_
    rintro e w' ⟨rfl, rfl⟩
    go_upto_region 5 with fail
    rw [Ea.out]
    go_wp2_with fail
    rw [E1.out]
    refine (HS.out _).mono ?_
    rintro e w' ⟨rfl, rfl⟩
    go_wp2
    go_ret2
    exact ⟨by rw [← HQ.out]; first | rfl | (trace_state; sorry), rfl⟩
  | false =>
    have hca : c = a := by simpa using hc
    subst hca
    clear hc
    go_enter Try.func16, Try.ntmps16
    go_wp2_with fail
    refine HV.out.mono ?_
    rintro e w' ⟨rfl, rfl⟩
    go_wp2_with fail
    rw [E1.out]
    refine (HS.out _).mono ?_
    rintro e w' ⟨rfl, rfl⟩
    go_wp2
    go_ret2
    exact ⟨by rw [← HQ.out]; first | rfl | (trace_state; sorry), rfl⟩
end Go.Proofs.Ytfihnnhgegdjkaa
