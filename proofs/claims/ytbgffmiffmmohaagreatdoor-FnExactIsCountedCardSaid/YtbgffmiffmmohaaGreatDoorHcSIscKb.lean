/-
  Closed facts of the card of FnExactIsCounted that the kernel computes.
  Conditions: none.
-/
import Derived.Test.YtbgffmiffmmohaaGreatDoorRows
import Derived.Test.YtbgffmiffmmohaaGreatDoorCards
import Derived.SevenTiedAt
import Derived.WalkKit
namespace Go.Proofs.YtbgffmiffmmohaaGreatDoor.fnExactIsCounted
set_option linter.unusedVariables false

theorem kf3 : Rows.fnExactIsCountedCard.stood.looks = Tryz.pinned.checked.prog.looks [] := by kernel_rfl
theorem kf5 : ([73, 89].all fun u => !Tryz.prog.wantsStandIn u) = true := by kernel_rfl

end Go.Proofs.YtbgffmiffmmohaaGreatDoor.fnExactIsCounted

