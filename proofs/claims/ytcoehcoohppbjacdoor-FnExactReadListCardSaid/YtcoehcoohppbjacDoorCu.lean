/- The door of lists that are read. -/
import Derived.Test.YtcoehcoohppbjacDoorCt
import Derived.Test.YtcoehcoohppbjacDoorCards
import Derived.Lay
set_option linter.unusedVariables false
namespace Go.Proofs.YtcoehcoohppbjacDoor.fnExactReadList
open Go.ChangeShapes Go.WideShapes Go.ChangeAt Go.RowKit
theorem door_met (os : Os) (args : Array Value) : laidMetH Tryd.prog Rows.fnExactReadListRow.laid ((World.laidAll Tryd.prog os Rows.fnExactReadListRow.laid).forCall (fun _ _ => 0) ⟨#[], args, []⟩).memory := by
  rw [MakeChecks.laidMetH_plain _ _ _ (by kernel_rfl)]
  exact laidMet_laidAll _ (by kernel_rfl) (by kernel_rfl)
theorem door_shape (os : Os) (args : Array Value) : ((World.laidAll Tryd.prog os Rows.fnExactReadListRow.laid).forCall (fun _ _ => 0) ⟨#[], args, []⟩).Shaped Tryd.prog := World.shaped_of_ZipB (by kernel_rfl) (by kernel_rfl)
end Go.Proofs.YtcoehcoohppbjacDoor.fnExactReadList
