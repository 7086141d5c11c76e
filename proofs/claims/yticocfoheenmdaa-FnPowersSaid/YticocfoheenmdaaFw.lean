/- The finitely many exponentials that a law asks for. Imports nothing of the translation. -/
import Derived.Test.YticocfoheenmdaaFv
set_option linter.unusedVariables false
namespace Go.Proofs.Yticocfoheenmdaa
namespace Fl
open Ieee
/-- eighths, from -8 to 8 -/
def X8 (k : Nat) : Nat := fop .quo .f32 (floatOfInt .f32 ((k : Int) - 64)) 1090519040
def wideN (x : Nat) : Nat := (floatToFloatBits .f32 x .f64).getD 0
def narrowN (y : Nat) : Nat := (floatToFloatBits .f64 y .f32).getD 0
def expN (k : Nat) : Nat := narrowN (expF (wideN (X8 k)))
set_option maxRecDepth 100000 in
theorem pw_ok : ∀ k, k < 129 → (decide (X8 k < 4294967296 ∧ X8 k % 2147483648 ≤ 1090519040) && floatToFloatBits .f32 (X8 k) .f64 == some (wideN (X8 k)) && decide (tE (wideN (X8 k)) % 9223372036854775808 ≤ pb (-5)) && floatToFloatBits .f64 (expF (wideN (X8 k))) .f32 == some (expN k)) = true := by decide +kernel
end Fl
end Go.Proofs.Yticocfoheenmdaa
