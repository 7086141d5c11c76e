/- Contracts: values of rows of pins: SplitValues, both whole. -/
import Derived.Test.YtodmaomngpnboaaYh
set_option linter.unusedVariables false
namespace Go.Proofs.Ytodmaomngpnboaa
open Go.RowKit

def okSV (n : Int) : Prop := 0 ≤ n ∧ n ≤ 60
instance (n : Int) : Decidable (okSV n) := by unfold okSV; infer_instance
def ok_SplitValues (n : Int) : Bool := decide (okSV n)
def res_SplitValues (n : Int) : List Int := if okSV n then valS (n.toNat + 1) else []
theorem len_SplitValues (n : Int) : (res_SplitValues n).length ≤ 1048576 := by
  unfold res_SplitValues
  split
  · rename_i h
    unfold okSV at h
    rw [valS_len]; omega
  · exact Nat.zero_le _
set_option maxHeartbeats 1000000 in
theorem impl_SplitValues (a : Int) (al : -9223372036854775808 ≤ a) (au : a ≤ 9223372036854775807) (w : World) :
    Calls Try.prog 39 #[.int .i64 a] w fun e w' => ∃ r, e = .returned (.tuple #[r, .bool (ok_SplitValues a)]) ∧ Sw (Value.int .i64) 0 w' r (res_SplitValues a) w.heap.size w'.heap.size ∧ Below w.heap.size w w' := by
  unfold ok_SplitValues res_SplitValues
  by_cases h : okSV a
  · rw [if_pos h, decide_eq_true h]
    unfold okSV at h
    obtain ⟨n, rfl⟩ : ∃ n : Nat, a = n := ⟨a.toNat, by omega⟩
    rw [Int.toNat_natCast]
    have HA := Lib.hid (fun z => within_yes (n : Int) 0 60 z h.1 h.2)
    have HV := Lib.hid (values_any n 93 #[] valS (fun k => leftA (valS k) k) w (by omega) rfl (fun k => rfl) valS_len (fun k hk => by have := leftA_len (valS k) k; omega)
      (run_enter Try.func93 (by kernel_rfl) (by kernel_rfl))
      (fun k v w' hk hb' hv => by
        have := clo_split (valS k) v w' (by rw [valS_len]; omega) hv
        rw [valS_len] at this
        exact this))
    generalize valS (n + 1) = V at *
    go_enter Try.func39, Try.ntmps39
    go_wp2_with (first | (go_at_call 71; (with_reducible refine (HA.out _).mono ?_); rintro e w3 ⟨rfl, rfl⟩) | (go_at_call 91; (refine HV.out.mono ?_); rintro e w2 ⟨r, rfl, hr, hb2⟩; have Hr := Lib.hid hr; have Hb2 := Lib.hid hb2; clear hr hb2))
    go_ret2
    exact ⟨_, rfl, Hr.out, Hb2.out⟩
  · rw [if_neg h, decide_eq_false h]
    unfold okSV at h
    have HA := Lib.hid (fun z => within_no a 0 60 z (by omega))
    clear h
    go_enter Try.func39, Try.ntmps39
    go_wp2_with (go_at_call 71; (with_reducible refine (HA.out _).mono ?_); rintro e w3 ⟨rfl, rfl⟩)
    go_ret2
    exact ⟨_, rfl, Sw.nil _ _ _ _ _ _ _, Below.refl _ _⟩
