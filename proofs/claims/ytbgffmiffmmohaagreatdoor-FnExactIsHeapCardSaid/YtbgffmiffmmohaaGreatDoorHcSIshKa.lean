/-
  Closed facts of the card of FnExactIsHeap that the kernel computes.
  Conditions: none.
-/
import Derived.Test.YtbgffmiffmmohaaGreatDoorRows
import Derived.Test.YtbgffmiffmmohaaGreatDoorCards
import Derived.SevenTiedAt
import Derived.WalkKit
namespace Go.Proofs.YtbgffmiffmmohaaGreatDoor.fnExactIsHeap
set_option linter.unusedVariables false

theorem kf1 : Rows.fnExactIsHeapRow.wfByText (OpenSpec.ofChange Rows.fnExactIsHeapSpec) = true := by kernel_rfl
theorem kf2 : Tryz.pinned.checked.prog.mainIs = some (Rows.fnExactIsHeapCard.stood.harness.1, Rows.fnExactIsHeapCard.stood.harness.2.toList) := by kernel_rfl
theorem kf4 : Tryz.prog.funcNamed "loop.example/g03011/laws.FnExactIsHeap" = some 7 := by kernel_rfl

end Go.Proofs.YtbgffmiffmmohaaGreatDoor.fnExactIsHeap

