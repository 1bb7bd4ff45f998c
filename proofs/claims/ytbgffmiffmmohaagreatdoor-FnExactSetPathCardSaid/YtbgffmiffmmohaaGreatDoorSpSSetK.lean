/-
  SetKey of the project.
  Conditions: the values hold at most 2^20 and two items and 10^9 letters; the package variables of the library's reading of numbers hold what the program's text lays.
-/
import Derived.Test.YtbgffmiffmmohaaGreatDoorSpB5
import Derived.Test.YtbgffmiffmmohaaGreatDoorSpSGetK
import Derived.Test.YtbgffmiffmmohaaGreatDoorSpB1
namespace Go.Proofs.YtbgffmiffmmohaaGreatDoor.tree
open Go.ChangeShapes Go.WideShapes Go.ChangeAt Go.RowKit
set_option linter.unusedVariables false

theorem keyB_num {y : Ky} (h : keyB y = true) (ht : y.text = false) : -1000000000 ≤ y.num ∧ y.num ≤ 1000000000 := by
  unfold keyB nums.inr at h
  rw [ht] at h
  simp at h
  exact h.1


end Go.Proofs.YtbgffmiffmmohaaGreatDoor.tree

