/- Products of exponentials, by the kernel. -/
import Derived.Test.YticocfoheenmdaaPwA
set_option linter.unusedVariables false
namespace Go.Proofs.Yticocfoheenmdaa
namespace Fl
open Ieee
set_option maxRecDepth 100000 in
theorem p_tab : ((List.range 65).all fun k => chkR (wT.getD (k + 32) 0) ((wT.drop 32).take 65) ((wT.drop k).take 65)) = true := by decide +kernel
theorem p_at (k m : Nat) (hk : k < 65) (hm : m < 65) : chkP (wT.getD (k + 32) 0) (wT.getD (m + 32) 0) (wT.getD (k + m) 0) = true := by
  have h2 : wT.length = 129 := by decide +kernel
  have h := List.all_eq_true.1 p_tab k (List.mem_range.2 hk)
  have h3 := chkR_at _ _ _ m h (by rw [List.length_take, List.length_drop]; omega) (by rw [List.length_take, List.length_drop]; omega)
  simp only [List.getD, List.getElem?_take, if_pos hm, List.getElem?_drop] at h3 ⊢
  rw [show m + 32 = 32 + m by omega]
  exact h3
theorem chk_parts {A b c : Nat} (h : chkP A b c = true) : floatBits .mul .f64 A b = some (fop .mul .f64 A b) ∧ gapB (fop .mul .f64 A b) c = true ∧ floatBits .mul .f64 cM c = some (fop .mul .f64 cM c) ∧ ltF (gapN (fop .mul .f64 A b) c) (fop .mul .f64 cM c) = true := by
  unfold chkP at h
  simp only [Bool.and_eq_true, beq_iff_eq] at h
  exact ⟨h.1.1.1, h.1.1.2, h.1.2, h.2⟩
end Fl
end Go.Proofs.Yticocfoheenmdaa
