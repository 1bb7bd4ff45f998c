/-
  What the package variables that the row of FnValues lists hold.
  Conditions: the variables hold what the program's text lays.
-/
import Derived.Test.YteiijemjofaihaaDoorEnvKey
import Derived.Test.YteiijemjofaihaaDoorKinds
namespace Go.Proofs.YteiijemjofaihaaDoor.prs
open Go.ChangeShapes Go.WideShapes Go.ChangeAt Go.RowKit
set_option linter.unusedVariables false

/-- What FnValues wants of the world. -/
def VlE (w : World) : Prop := Env w ∧ kinds.Tab w
theorem VlE.stays {w w' : World} (h : VlE w) (hb : RowKit.Below w.heap.size w w') : VlE w' := ⟨h.1.stays hb, h.2.stays hb⟩
namespace vals
def laidOf : List (String × DataW Unit) := Rows.fnValuesRow.laid
theorem env_of {W : World} (h : laidMetH Tryd.prog laidOf W) : VlE W := by
  rw [MakeChecks.laidMetH_plain _ _ _ (by kernel_rfl)] at h
  refine ⟨⟨Lib.tabIs_of_head fmt.gTab tTab Tryd.underlying219 Tryd.underlying177 (by kernel_rfl) (by kernel_rfl) h.tail.tail, ?_, ?_⟩, ?_⟩
  · obtain ⟨a1, s1, hv1, -, -, -⟩ := laid_sentinel h.tail.tail.tail.tail gES tES Tryd.underlying96 rowErr Tryd.underlying222 Tryd.underlying224 rfl rfl Tryd.underlying9 cellsErr cellsStr
    exact ⟨_, _, hv1⟩
  · obtain ⟨a1, s1, hv1, -, -, -⟩ := laid_sentinel h.tail.tail.tail gER tER Tryd.underlying96 rowErr Tryd.underlying222 Tryd.underlying224 rfl rfl Tryd.underlying9 cellsErr cellsStr
    exact ⟨_, _, hv1⟩
  · exact kinds.of_reads (Lib.laidMet.reads h.tail.tail.tail.tail.tail (List.mem_cons_self ..))
theorem door_met (os : Os) (args : Array Value) : laidMetH Tryd.prog laidOf ((World.doorLaid Tryd.prog 400 os).forCall (fun _ _ => 0) ⟨#[], args, []⟩).memory :=
  laidMetH_of_parts3 (fuel := 8) (laidMet_of_run' 8 (by kernel_rfl) (by kernel_rfl)) (by kernel_rfl) (by kernel_rfl)
end vals

end Go.Proofs.YteiijemjofaihaaDoor.prs
