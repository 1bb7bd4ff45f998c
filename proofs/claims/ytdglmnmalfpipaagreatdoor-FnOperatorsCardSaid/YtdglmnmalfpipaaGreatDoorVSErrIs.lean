/-
  errors.Is of two errors of errors.New's make: the same one, or two; and the code of a conversion's error.
  Conditions: the package variables of the project's two errors hold pointers that are not the same.
-/
import Derived.Test.YtdglmnmalfpipaaGreatDoorVSTreeEq
import Derived.LaidEql
import Derived.Stop.Asserts
import Derived.RowKitTokens
namespace Go.Proofs.YtdglmnmalfpipaaGreatDoor.ers
open Go.ChangeShapes Go.WideShapes Go.ChangeAt Go.RowKit Go.Extern.Stop Go.Stop Go.Extern tree
set_option linter.unusedVariables false




end Go.Proofs.YtdglmnmalfpipaaGreatDoor.ers

