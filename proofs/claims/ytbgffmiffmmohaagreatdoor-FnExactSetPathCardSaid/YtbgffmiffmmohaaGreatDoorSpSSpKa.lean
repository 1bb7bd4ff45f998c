/-
  Closed facts of the card of FnExactSetPath that the kernel computes.
  Conditions: none.
-/
import Derived.Test.YtbgffmiffmmohaaGreatDoorRows
import Derived.Test.YtbgffmiffmmohaaGreatDoorCards
import Derived.SevenTiedAt
import Derived.WalkKit
namespace Go.Proofs.YtbgffmiffmmohaaGreatDoor.fnExactSetPath
set_option linter.unusedVariables false

theorem kf1 : Rows.fnExactSetPathRow.wfByText (OpenSpec.ofChange Rows.fnExactSetPathSpec) = true := by kernel_rfl
theorem kf2 : Tryz.pinned.checked.prog.mainIs = some (Rows.fnExactSetPathCard.stood.harness.1, Rows.fnExactSetPathCard.stood.harness.2.toList) := by kernel_rfl
theorem kf4 : Tryz.prog.funcNamed "loop.example/g03011/laws.FnExactSetPath" = some 6 := by kernel_rfl

end Go.Proofs.YtbgffmiffmmohaaGreatDoor.fnExactSetPath

