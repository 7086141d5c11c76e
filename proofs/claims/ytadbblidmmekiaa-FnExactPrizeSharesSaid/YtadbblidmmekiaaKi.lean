/- Contracts: chances of places, whole. -/
import Derived.Test.YtadbblidmmekiaaKg
import Derived.Test.YtadbblidmmekiaaKh
set_option linter.unusedVariables false
namespace Go.Proofs.Ytadbblidmmekiaa
open Go.RowKit

def ok_PlaceChances (fs : List Int) : Bool := stackB fs
def res_PlaceChances (fs : List Int) : List Nat := if stackB fs = true then allC fs fs.length else []
theorem len_PlaceChances (fs : List Int) : (res_PlaceChances fs).length ≤ 1048576 := by
  unfold res_PlaceChances
  split
  · rename_i h
    rw [allC_len]
    have h6 := (stackB_yes h).2.1
    have : fs.length * fs.length ≤ 6 * 6 := Nat.mul_le_mul h6 h6
    omega
  · exact Nat.zero_le _
theorem spec_PlaceChances (fs : List Int) (v : Value) (w : World) (hn : fs.length ≤ 1048576) (h : Sl (Value.int .i64) 0 w v fs) :
    Calls Try.prog 47 #[v] w fun e w' => ∃ r, e = .returned (.tuple #[r, .bool (ok_PlaceChances fs)]) ∧ SwF w' r (res_PlaceChances fs) w.heap.size w'.heap.size ∧ Below w.heap.size w w' := by
  unfold ok_PlaceChances res_PlaceChances
  cases hB : stackB fs
  · have Hc := Lib.hid (stacks_spec fs v w hn h)
    rw [hB] at Hc
    rw [if_neg Bool.false_ne_true]
    obtain ⟨p, cap, rfl, hf⟩ := h
    clear hf hB
    go_enter Try.func47, Try.ntmps47
    go_wp2_with fail
    refine Hc.out.mono ?_
    rintro e w' ⟨rfl, rfl⟩
    go_wp2
    go_ret2
    exact ⟨_, rfl, SwF.nil _ _ _ _ _, Below.refl _ _⟩
  · rw [if_pos rfl]
    exact pc_spec fs v w hB h
theorem impl_PlaceChances (fs : List Int) (v : Value) (w : World) (hn : fs.length ≤ 1048576) (h : Sl (Value.int .i64) 0 w v fs) :
    Calls Try.prog 49 #[v] w fun e w' => ∃ r, e = .returned (.tuple #[r, .bool (ok_PlaceChances fs)]) ∧ SwF w' r (res_PlaceChances fs) w.heap.size w'.heap.size ∧ Below w.heap.size w w' := by
  unfold ok_PlaceChances res_PlaceChances
  cases hB : stackB fs
  · have Hc := Lib.hid (areStacks_any fs v w hn h)
    rw [hB] at Hc
    rw [if_neg Bool.false_ne_true]
    obtain ⟨p, cap, rfl, hf⟩ := h
    clear hf hB
    go_enter Try.func49, Try.ntmps49
    go_wp2_with fail
    refine Hc.out.mono ?_
    rintro e w' ⟨rfl, rfl⟩
    go_wp2
    go_ret2
    exact ⟨_, rfl, SwF.nil _ _ _ _ _, Below.refl _ _⟩
  · rw [if_pos rfl]
    exact pc_impl fs v w hB h
end Go.Proofs.Ytadbblidmmekiaa
