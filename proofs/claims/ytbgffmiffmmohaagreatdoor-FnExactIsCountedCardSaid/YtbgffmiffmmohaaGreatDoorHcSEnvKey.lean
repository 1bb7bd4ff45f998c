/-
  What the package variables that a row lists hold gives what the library's reading and writing of numbers want.
  Conditions: the variables hold what the program's text lays.
-/
import Derived.Test.YtbgffmiffmmohaaGreatDoorHcB1
import Derived.Test.YtbgffmiffmmohaaGreatDoorRows
import Derived.Stop.LaidErr
import Derived.LaidMore
import Derived.LaidHandle
namespace Go.Proofs.YtbgffmiffmmohaaGreatDoor.prs
open Go.ChangeShapes Go.WideShapes Go.ChangeAt Go.RowKit

def laidOf : List (String × DataW Unit) := Rows.fnTablesRow.laid

theorem tTab : (Tryz.prog.globals[2]?).map (·.type) = some 283 := by kernel_rfl
theorem tES : (Tryz.prog.globals[0]?).map (·.type) = some 242 := by kernel_rfl
theorem tER : (Tryz.prog.globals[1]?).map (·.type) = some 242 := by kernel_rfl
theorem cellsErr : Tryz.prog.cellsOf 276 = 1 := by kernel_rfl
theorem cellsStr : Tryz.prog.cellsOf 9 = 1 := by kernel_rfl
theorem star : "*" ++ "errors.errorString" = "*errors.errorString" := by decide
theorem rowErr (u : TypeId) (h : Tryz.prog.typeName? 3 u = some "*errors.errorString") : u = 274 :=
  typeName_ptr_named (nm := "errors.errorString") (by rw [star]; kernel_rfl) (by kernel_rfl) (by decide) u (by rw [star]; exact h)

theorem env_of {W : World} (h : laidMetH Tryz.prog laidOf W) : Env W := by
  rw [MakeChecks.laidMetH_plain _ _ _ (by kernel_rfl)] at h
  refine ⟨Lib.tabIs_of_head fmt.gTab tTab Tryz.underlying283 Tryz.underlying240 (by kernel_rfl) (by kernel_rfl) h.tail.tail, ?_, ?_⟩
  · obtain ⟨a1, s1, hv1, -, -, -⟩ := laid_sentinel h.tail.tail.tail.tail gES tES Tryz.underlying242 rowErr Tryz.underlying274 Tryz.underlying276 rfl rfl Tryz.underlying9 cellsErr cellsStr
    exact ⟨_, _, hv1⟩
  · obtain ⟨a1, s1, hv1, -, -, -⟩ := laid_sentinel h.tail.tail.tail gER tER Tryz.underlying242 rowErr Tryz.underlying274 Tryz.underlying276 rfl rfl Tryz.underlying9 cellsErr cellsStr
    exact ⟨_, _, hv1⟩

theorem door_met (os : Os) (args : Array Value) : laidMetH Tryz.prog laidOf ((World.doorLaid Tryz.prog 400 os).forCall (fun _ _ => 0) ⟨#[], args, []⟩).memory :=
  laidMetH_of_parts3 (fuel := 8) (laidMet_of_run' 8 (by kernel_rfl) (by kernel_rfl)) (by kernel_rfl) (by kernel_rfl)

end Go.Proofs.YtbgffmiffmmohaaGreatDoor.prs

