/-
  The closed facts of FnExactSetPath's row that the kernel computes, each by itself.
  Conditions: none.
-/
import Derived.Test.YtbgffmiffmmohaaGreatDoorRows
import Derived.JoinedOf
import Derived.SevenTiedAt
import Derived.WalkKit
import Derived.ProofKit
namespace Go.Proofs.YtbgffmiffmmohaaGreatDoor.fnExactSetPath
open Go.ChangeShapes Go.WideShapes Go.ChangeAt Go.RowKit
set_option linter.unusedVariables false

theorem jf1 : (Rows.fnExactSetPathRow.inPlace == Tryz.pinned.checked.prog.inPlace 6) = true := by kernel_rfl
theorem jf2 : (Rows.fnExactSetPathRow.unfollowed == Tryz.pinned.checked.prog.unfollowed 6) = true := by kernel_rfl
theorem jf3 : (Rows.fnExactSetPathRow.recurses == Tryz.pinned.checked.prog.recurses 6) = true := by kernel_rfl
theorem jf4 : (Rows.fnExactSetPathRow.named == Tryz.pinned.checked.prog.varsNamed 6) = true := by kernel_rfl
theorem closed : joinedFacts Tryz.pinned.checked.prog 6 Tryz.f6 Rows.fnExactSetPathSpec Rows.fnExactSetPathRow = true := by
  unfold joinedFacts
  rw [jf1, jf2, jf3, jf4]
  kernel_rfl

end Go.Proofs.YtbgffmiffmmohaaGreatDoor.fnExactSetPath

