/-
  Closed facts of the card of FnExactIsHeap that the kernel computes.
  Conditions: none.
-/
import Derived.Test.YtbgffmiffmmohaaGreatDoorRows
import Derived.Test.YtbgffmiffmmohaaGreatDoorCards
import Derived.SevenTiedAt
import Derived.WalkKit
namespace Go.Proofs.YtbgffmiffmmohaaGreatDoor.fnExactIsHeap
set_option linter.unusedVariables false

theorem kf6 : false = Rows.fnExactIsHeapRow.goesBy Tryz.pinned.checked.prog := by kernel_rfl

end Go.Proofs.YtbgffmiffmmohaaGreatDoor.fnExactIsHeap

