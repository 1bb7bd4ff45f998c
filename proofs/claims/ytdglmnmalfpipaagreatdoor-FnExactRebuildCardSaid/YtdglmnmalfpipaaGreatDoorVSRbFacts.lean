/-
  The closed facts of FnExactRebuild's row that the kernel computes, each by itself.
  Conditions: none.
-/
import Derived.Test.YtdglmnmalfpipaaGreatDoorRows
import Derived.JoinedOf
import Derived.SevenTiedAt
import Derived.WalkKit
import Derived.ProofKit
namespace Go.Proofs.YtdglmnmalfpipaaGreatDoor.fnExactRebuild
open Go.ChangeShapes Go.WideShapes Go.ChangeAt Go.RowKit
set_option linter.unusedVariables false

theorem jf1 : (Rows.fnExactRebuildRow.inPlace == Tryz.pinned.checked.prog.inPlace 9) = true := by kernel_rfl
theorem jf2 : (Rows.fnExactRebuildRow.unfollowed == Tryz.pinned.checked.prog.unfollowed 9) = true := by kernel_rfl
theorem jf3 : (Rows.fnExactRebuildRow.recurses == Tryz.pinned.checked.prog.recurses 9) = true := by kernel_rfl
theorem jf4 : (Rows.fnExactRebuildRow.named == Tryz.pinned.checked.prog.varsNamed 9) = true := by kernel_rfl
theorem closed : joinedFacts Tryz.pinned.checked.prog 9 Tryz.f9 Rows.fnExactRebuildSpec Rows.fnExactRebuildRow = true := by
  unfold joinedFacts
  rw [jf1, jf2, jf3, jf4]
  kernel_rfl

end Go.Proofs.YtdglmnmalfpipaaGreatDoor.fnExactRebuild

