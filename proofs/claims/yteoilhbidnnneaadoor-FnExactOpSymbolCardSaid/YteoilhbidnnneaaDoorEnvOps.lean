/-
  What the table of operators' symbols holds.
  Conditions: the variable holds what the program's text lays.
-/
import Derived.Test.YteoilhbidnnneaaDoorOpSy
import Derived.Test.YteoilhbidnnneaaDoorRows
import Derived.Stop.LaidErr
import Derived.LaidMore
import Derived.LaidHandle
namespace Go.Proofs.YteoilhbidnnneaaDoor.ops
open Go.ChangeShapes Go.WideShapes Go.ChangeAt Go.RowKit
set_option linter.unusedVariables false

namespace env
def laidOf : List (String × DataW Unit) := Rows.fnExactOpSymbolRow.laid
theorem env_of {W : World} (h : laidMetH Tryd.prog laidOf W) : Tab W := by
  rw [MakeChecks.laidMetH_plain _ _ _ (by kernel_rfl)] at h
  exact of_reads (Lib.laidMet.reads h (List.mem_cons_self ..))
theorem door_met (os : Os) (args : Array Value) : laidMetH Tryd.prog laidOf ((World.doorLaid Tryd.prog 400 os).forCall (fun _ _ => 0) ⟨#[], args, []⟩).memory :=
  laidMetH_of_parts3 (fuel := 8) (laidMet_of_run' 8 (by kernel_rfl) (by kernel_rfl)) (by kernel_rfl) (by kernel_rfl)
end env

end Go.Proofs.YteoilhbidnnneaaDoor.ops
