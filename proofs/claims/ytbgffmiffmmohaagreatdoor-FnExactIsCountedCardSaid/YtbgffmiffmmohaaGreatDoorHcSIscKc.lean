/-
  Closed facts of the card of FnExactIsCounted that the kernel computes.
  Conditions: none.
-/
import Derived.Test.YtbgffmiffmmohaaGreatDoorRows
import Derived.Test.YtbgffmiffmmohaaGreatDoorCards
import Derived.SevenTiedAt
import Derived.WalkKit
namespace Go.Proofs.YtbgffmiffmmohaaGreatDoor.fnExactIsCounted
set_option linter.unusedVariables false

theorem kf6 : false = Rows.fnExactIsCountedRow.goesBy Tryz.pinned.checked.prog := by kernel_rfl

end Go.Proofs.YtbgffmiffmmohaaGreatDoor.fnExactIsCounted

