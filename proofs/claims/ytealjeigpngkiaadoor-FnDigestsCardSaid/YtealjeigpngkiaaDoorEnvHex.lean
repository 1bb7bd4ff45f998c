/-
  What the package variables that a row lists hold gives what the library's FormatInt wants at base 16.
  Conditions: the variables hold what the program's text lays.
-/
import Derived.Test.YtealjeigpngkiaaDoorHexFmt
import Derived.Test.YtealjeigpngkiaaDoorRows
import Derived.Stop.LaidErr
import Derived.LaidMore
import Derived.LaidHandle
namespace Go.Proofs.YtealjeigpngkiaaDoor.lad
open Go.ChangeShapes Go.WideShapes Go.ChangeAt Go.RowKit

def laidOf : List (String × DataW Unit) := Rows.fnExactHexTextRow.laid

theorem tTab : (Tryd.prog.globals[3]?).map (·.type) = some 82 := by kernel_rfl

theorem env_of {W : World} (h : laidMetH Tryd.prog laidOf W) : hfm.Tab W := by
  rw [MakeChecks.laidMetH_plain _ _ _ (by kernel_rfl)] at h
  exact Lib.tabIs_of_head hfm.gTab tTab Tryd.underlying82 Tryd.underlying5 (by kernel_rfl) (by kernel_rfl) h.tail

theorem door_met (os : Os) (args : Array Value) : laidMetH Tryd.prog laidOf ((World.doorLaid Tryd.prog 400 os).forCall (fun _ _ => 0) ⟨#[], args, []⟩).memory :=
  laidMetH_of_parts3 (fuel := 8) (laidMet_of_run' 8 (by kernel_rfl) (by kernel_rfl)) (by kernel_rfl) (by kernel_rfl)

end Go.Proofs.YtealjeigpngkiaaDoor.lad
