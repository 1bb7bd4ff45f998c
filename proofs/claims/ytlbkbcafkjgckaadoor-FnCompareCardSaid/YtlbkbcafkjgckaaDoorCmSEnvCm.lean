/-
  What the package variables that the rows of comparing list hold.
  Conditions: the variables hold what the program's text lays.
-/
import Derived.Test.YtlbkbcafkjgckaaDoorCmSNumOf
import Derived.Test.YtlbkbcafkjgckaaDoorCmSEnvTx
namespace Go.Proofs.YtlbkbcafkjgckaaDoor.ers
open Go.ChangeShapes Go.WideShapes Go.ChangeAt Go.RowKit
set_option linter.unusedVariables false

/-- What comparing wants of the world. -/
def CmE (w : World) : Prop := fmt.Tab w ∧ (∃ a, HasT w a) ∧ ∃ b, HasN w b
theorem CmE.stays {w w' : World} (h : CmE w) (hb : Below w.heap.size w w') : CmE w' := ⟨h.1.stays hb, h.2.1.imp fun a h => h.stays hb, h.2.2.imp fun a h => h.stays hb⟩

namespace cmp
def laidOf : List (String × DataW Unit) := Rows.fnExactCompareValuesRow.laid
theorem env_of {W : World} (h : laidMetH Tryd.prog laidOf W) : CmE W := by
  rw [MakeChecks.laidMetH_plain _ _ _ (by kernel_rfl)] at h
  refine ⟨Lib.tabIs_of_head fmt.gTab tTab Tryd.underlying201 Tryd.underlying189 (by kernel_rfl) (by kernel_rfl) h.tail.tail, ?_⟩
  obtain ⟨a0, a1, s0, s1, c0, c1, t0, t1, hv0, hv1, -, -, -, -, -, -, hne, hb0, hb1⟩ := laid_sentinels2 h.tail.tail.tail gT tT gN tN Tryd.underlying98 rowErr Tryd.underlying206 Tryd.underlying208 rfl rfl Tryd.underlying9 cellsErr cellsStr
  exact ⟨⟨a0, hv0⟩, ⟨a1, hv1⟩⟩
theorem door_met (os : Os) (args : Array Value) : laidMetH Tryd.prog laidOf ((World.doorLaid Tryd.prog 400 os).forCall (fun _ _ => 0) ⟨#[], args, []⟩).memory :=
  laidMetH_of_parts3 (fuel := 8) (laidMet_of_run' 8 (by kernel_rfl) (by kernel_rfl)) (by kernel_rfl) (by kernel_rfl)
end cmp

end Go.Proofs.YtlbkbcafkjgckaaDoor.ers

