/- Sums of eighths, by the kernel. -/
import Derived.Test.YticocfoheenmdaaPwA
set_option linter.unusedVariables false
namespace Go.Proofs.Yticocfoheenmdaa
namespace Fl
open Ieee
def chkA (A : Nat) : List Nat → List Nat → Bool
  | b :: bs, c :: cs => floatBits .add .f32 A b == some c && chkA A bs cs
  | _, _ => true
theorem chkA_at (A : Nat) : ∀ (bs cs : List Nat) (i : Nat), chkA A bs cs = true → i < bs.length → i < cs.length → floatBits .add .f32 A (bs.getD i 0) = some (cs.getD i 0)
  | b :: bs, c :: cs, 0, h, _, _ => by
    unfold chkA at h
    exact eq_of_beq (Bool.and_eq_true_iff.1 h).1
  | b :: bs, c :: cs, i + 1, h, h1, h2 => by
    unfold chkA at h
    exact chkA_at A bs cs i (Bool.and_eq_true_iff.1 h).2 (by simpa using h1) (by simpa using h2)
  | [], _, i, _, h1, _ => absurd h1 (by simp)
  | _ :: _, [], i, _, _, h2 => absurd h2 (by simp)
set_option maxRecDepth 100000 in
theorem a_tab : ((List.range 65).all fun k => chkA (xT.getD (k + 32) 0) ((xT.drop 32).take 65) ((xT.drop k).take 65)) = true := by decide +kernel
theorem a_at (k m : Nat) (hk : k < 65) (hm : m < 65) : floatBits .add .f32 (X8 (k + 32)) (X8 (m + 32)) = some (X8 (k + m)) := by
  have h2 : xT.length = 129 := by decide +kernel
  have h := List.all_eq_true.1 a_tab k (List.mem_range.2 hk)
  have h3 := chkA_at _ _ _ m h (by rw [List.length_take, List.length_drop]; omega) (by rw [List.length_take, List.length_drop]; omega)
  rw [x_at _ (by omega), x_at _ (by omega), x_at _ (by omega)]
  simp only [List.getD, List.getElem?_take, if_pos hm, List.getElem?_drop] at h3 ⊢
  rw [show m + 32 = 32 + m by omega]
  exact h3
end Fl
end Go.Proofs.Yticocfoheenmdaa
