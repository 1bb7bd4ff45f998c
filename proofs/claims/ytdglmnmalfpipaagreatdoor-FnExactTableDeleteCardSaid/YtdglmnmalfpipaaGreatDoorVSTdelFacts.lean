/-
  The closed facts of FnExactTableDelete's row that the kernel computes, each by itself.
  Conditions: none.
-/
import Derived.Test.YtdglmnmalfpipaaGreatDoorRows
import Derived.JoinedOf
import Derived.SevenTiedAt
import Derived.WalkKit
import Derived.ProofKit
namespace Go.Proofs.YtdglmnmalfpipaaGreatDoor.fnExactTableDelete
open Go.ChangeShapes Go.WideShapes Go.ChangeAt Go.RowKit
set_option linter.unusedVariables false

theorem jf1 : (Rows.fnExactTableDeleteRow.inPlace == Tryz.pinned.checked.prog.inPlace 8) = true := by kernel_rfl
theorem jf2 : (Rows.fnExactTableDeleteRow.unfollowed == Tryz.pinned.checked.prog.unfollowed 8) = true := by kernel_rfl
theorem jf3 : (Rows.fnExactTableDeleteRow.recurses == Tryz.pinned.checked.prog.recurses 8) = true := by kernel_rfl
theorem jf4 : (Rows.fnExactTableDeleteRow.named == Tryz.pinned.checked.prog.varsNamed 8) = true := by kernel_rfl
theorem closed : joinedFacts Tryz.pinned.checked.prog 8 Tryz.f8 Rows.fnExactTableDeleteSpec Rows.fnExactTableDeleteRow = true := by
  unfold joinedFacts
  rw [jf1, jf2, jf3, jf4]
  kernel_rfl

end Go.Proofs.YtdglmnmalfpipaaGreatDoor.fnExactTableDelete

