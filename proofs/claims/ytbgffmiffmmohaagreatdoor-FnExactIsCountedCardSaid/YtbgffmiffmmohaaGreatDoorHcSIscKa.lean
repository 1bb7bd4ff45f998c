/-
  Closed facts of the card of FnExactIsCounted that the kernel computes.
  Conditions: none.
-/
import Derived.Test.YtbgffmiffmmohaaGreatDoorRows
import Derived.Test.YtbgffmiffmmohaaGreatDoorCards
import Derived.SevenTiedAt
import Derived.WalkKit
namespace Go.Proofs.YtbgffmiffmmohaaGreatDoor.fnExactIsCounted
set_option linter.unusedVariables false

theorem kf1 : Rows.fnExactIsCountedRow.wfByText (OpenSpec.ofChange Rows.fnExactIsCountedSpec) = true := by kernel_rfl
theorem kf2 : Tryz.pinned.checked.prog.mainIs = some (Rows.fnExactIsCountedCard.stood.harness.1, Rows.fnExactIsCountedCard.stood.harness.2.toList) := by kernel_rfl
theorem kf4 : Tryz.prog.funcNamed "loop.example/g03011/laws.FnExactIsCounted" = some 11 := by kernel_rfl

end Go.Proofs.YtbgffmiffmmohaaGreatDoor.fnExactIsCounted

