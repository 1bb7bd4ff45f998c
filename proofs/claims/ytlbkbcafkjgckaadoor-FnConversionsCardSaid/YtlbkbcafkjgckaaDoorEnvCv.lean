/-
  What the package variables that the row of FnConversions lists hold.
  Conditions: the variables hold what the program's text lays.
-/
import Derived.Test.YtlbkbcafkjgckaaDoorEnvTx
import Derived.Test.YtlbkbcafkjgckaaDoorParse
namespace Go.Proofs.YtlbkbcafkjgckaaDoor.ers
open Go.ChangeShapes Go.WideShapes Go.ChangeAt Go.RowKit
set_option linter.unusedVariables false

/-- What FnConversions wants of the world. -/
def CvE (w : World) : Prop := prs.Env w ∧ NuE w
theorem CvE.stays {w w' : World} (h : CvE w) (hb : Below w.heap.size w w') : CvE w' := ⟨h.1.stays hb, h.2.stays hb⟩
theorem tES : (Tryd.prog.globals[3]?).map (·.type) = some 98 := by kernel_rfl
theorem tER : (Tryd.prog.globals[4]?).map (·.type) = some 98 := by kernel_rfl
namespace conv
def laidOf : List (String × DataW Unit) := Rows.fnConversionsRow.laid
theorem env_of {W : World} (h : laidMetH Tryd.prog laidOf W) : CvE W := by
  rw [MakeChecks.laidMetH_plain _ _ _ (by kernel_rfl)] at h
  refine ⟨⟨Lib.tabIs_of_head fmt.gTab tTab Tryd.underlying201 Tryd.underlying189 (by kernel_rfl) (by kernel_rfl) h.tail.tail, ?_, ?_⟩, ?_⟩
  · obtain ⟨a1, s1, hv1, -, -, -⟩ := laid_sentinel h.tail.tail.tail.tail prs.gES tES Tryd.underlying98 rowErr Tryd.underlying206 Tryd.underlying208 rfl rfl Tryd.underlying9 cellsErr cellsStr
    exact ⟨_, _, hv1⟩
  · obtain ⟨a1, s1, hv1, -, -, -⟩ := laid_sentinel h.tail.tail.tail prs.gER tER Tryd.underlying98 rowErr Tryd.underlying206 Tryd.underlying208 rfl rfl Tryd.underlying9 cellsErr cellsStr
    exact ⟨_, _, hv1⟩
  · obtain ⟨a0, a1, s0, s1, c0, c1, t0, t1, hv0, hv1, -, -, -, -, -, -, hne, hb0, hb1⟩ := laid_sentinels2 h.tail.tail.tail.tail.tail gT tT gN tN Tryd.underlying98 rowErr Tryd.underlying206 Tryd.underlying208 rfl rfl Tryd.underlying9 cellsErr cellsStr
    exact ⟨a0, a1, c0, c1, t0, t1, hv0, hv1, hne.symm, hb0, hb1⟩
theorem door_met (os : Os) (args : Array Value) : laidMetH Tryd.prog laidOf ((World.doorLaid Tryd.prog 400 os).forCall (fun _ _ => 0) ⟨#[], args, []⟩).memory :=
  laidMetH_of_parts3 (fuel := 8) (laidMet_of_run' 8 (by kernel_rfl) (by kernel_rfl)) (by kernel_rfl) (by kernel_rfl)
end conv

end Go.Proofs.YtlbkbcafkjgckaaDoor.ers
