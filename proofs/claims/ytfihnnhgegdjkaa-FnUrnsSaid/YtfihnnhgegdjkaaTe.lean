/- How the laws of many bytes choose numbers, with a number behind the bytes' end. -/
import Derived.Test.YtfihnnhgegdjkaaCk
import Derived.Test.YtfihnnhgegdjkaaLo
import Derived.WalkKit
import Derived.ProofKit
import Derived.Lib.Hide
set_option linter.unusedVariables false
namespace Go.Proofs.Ytfihnnhgegdjkaa
open Go.RowKit
attribute [local go_sem] Oper.semAt_some

/-- bytes -/
def BsB (bs : List Int) : Prop := ∀ x ∈ bs, 0 ≤ x ∧ x ≤ 255
theorem BsB.at {bs : List Int} (h : BsB bs) (k : Nat) (hk : k < bs.length) : 0 ≤ bs.getD k 0 ∧ bs.getD k 0 ≤ 255 := by
  have : bs.getD k 0 = bs[k] := by simp [List.getD, hk]
  rw [this]
  exact h _ (List.getElem_mem hk)
/-- the number that the byte at k chooses -/
def b10V (bs : List Int) (k n : Nat) : Nat := if n ≤ 1 then 0 else if k < bs.length then (bs.getD k 0).toNat % n else (k * 37 + 11) % n
theorem b10V_lt (bs : List Int) (k n : Nat) (h : 1 ≤ n) : b10V bs k n < n := by
  unfold b10V
  split
  · omega
  · split <;> exact Nat.mod_lt _ (by omega)


