/-
  Closed facts of the card of FnExactSetPath that the kernel computes.
  Conditions: none.
-/
import Derived.Test.YtbgffmiffmmohaaGreatDoorRows
import Derived.Test.YtbgffmiffmmohaaGreatDoorCards
import Derived.SevenTiedAt
import Derived.WalkKit
namespace Go.Proofs.YtbgffmiffmmohaaGreatDoor.fnExactSetPath
set_option linter.unusedVariables false

theorem kf3 : Rows.fnExactSetPathCard.stood.looks = Tryz.pinned.checked.prog.looks [] := by kernel_rfl
theorem kf5 : ([55, 62, 4, 55].all fun u => !Tryz.prog.wantsStandIn u) = true := by kernel_rfl

end Go.Proofs.YtbgffmiffmmohaaGreatDoor.fnExactSetPath

