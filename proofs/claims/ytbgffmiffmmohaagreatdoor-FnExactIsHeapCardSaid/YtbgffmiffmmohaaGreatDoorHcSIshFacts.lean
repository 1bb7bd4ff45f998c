/-
  The closed facts of FnExactIsHeap's row that the kernel computes, each by itself.
  Conditions: none.
-/
import Derived.Test.YtbgffmiffmmohaaGreatDoorRows
import Derived.JoinedOf
import Derived.SevenTiedAt
import Derived.WalkKit
import Derived.ProofKit
namespace Go.Proofs.YtbgffmiffmmohaaGreatDoor.fnExactIsHeap
open Go.ChangeShapes Go.WideShapes Go.ChangeAt Go.RowKit
set_option linter.unusedVariables false

theorem jf1 : (Rows.fnExactIsHeapRow.inPlace == Tryz.pinned.checked.prog.inPlace 7) = true := by kernel_rfl
theorem jf2 : (Rows.fnExactIsHeapRow.unfollowed == Tryz.pinned.checked.prog.unfollowed 7) = true := by kernel_rfl
theorem jf3 : (Rows.fnExactIsHeapRow.recurses == Tryz.pinned.checked.prog.recurses 7) = true := by kernel_rfl
theorem jf4 : (Rows.fnExactIsHeapRow.named == Tryz.pinned.checked.prog.varsNamed 7) = true := by kernel_rfl
theorem closed : joinedFacts Tryz.pinned.checked.prog 7 Tryz.f7 Rows.fnExactIsHeapSpec Rows.fnExactIsHeapRow = true := by
  unfold joinedFacts
  rw [jf1, jf2, jf3, jf4]
  kernel_rfl

end Go.Proofs.YtbgffmiffmmohaaGreatDoor.fnExactIsHeap

