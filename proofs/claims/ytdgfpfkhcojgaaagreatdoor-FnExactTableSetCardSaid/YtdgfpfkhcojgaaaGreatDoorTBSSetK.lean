/-
  SetKey of the project.
  Conditions: the values hold at most 2^20 and two items and 10^9 letters; the package variables of the library's reading of numbers hold what the program's text lays.
-/
import Derived.Test.YtdgfpfkhcojgaaaGreatDoorTBB5
import Derived.Test.YtdgfpfkhcojgaaaGreatDoorTBSGetK
import Derived.Test.YtdgfpfkhcojgaaaGreatDoorTBB1
namespace Go.Proofs.YtdgfpfkhcojgaaaGreatDoor.tree
open Go.ChangeShapes Go.WideShapes Go.ChangeAt Go.RowKit
set_option linter.unusedVariables false

theorem keyB_num {y : Ky} (h : keyB y = true) (ht : y.text = false) : -1000000000 ≤ y.num ∧ y.num ≤ 1000000000 := by
  unfold keyB nums.inr at h
  rw [ht] at h
  simp at h
  exact h.1


end Go.Proofs.YtdgfpfkhcojgaaaGreatDoor.tree

