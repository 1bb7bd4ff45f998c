/-
  What the package variables that a row lists hold gives what the library's reading and writing of numbers want.
  Conditions: the variables hold what the program's text lays.
-/
import Derived.Test.YtbgffmiffmmohaaDoorIhB1
import Derived.Test.YtbgffmiffmmohaaDoorRows
import Derived.Stop.LaidErr
import Derived.LaidMore
import Derived.LaidHandle
namespace Go.Proofs.YtbgffmiffmmohaaDoor.prs
open Go.ChangeShapes Go.WideShapes Go.ChangeAt Go.RowKit

def laidOf : List (String × DataW Unit) := Rows.fnPathsRow.laid

theorem tTab : (Tryd.prog.globals[2]?).map (·.type) = some 195 := by kernel_rfl
theorem tES : (Tryd.prog.globals[0]?).map (·.type) = some 158 := by kernel_rfl
theorem tER : (Tryd.prog.globals[1]?).map (·.type) = some 158 := by kernel_rfl
theorem cellsErr : Tryd.prog.cellsOf 187 = 1 := by kernel_rfl
theorem cellsStr : Tryd.prog.cellsOf 9 = 1 := by kernel_rfl
theorem star : "*" ++ "errors.errorString" = "*errors.errorString" := by decide
theorem rowErr (u : TypeId) (h : Tryd.prog.typeName? 3 u = some "*errors.errorString") : u = 185 :=
  typeName_ptr_named (nm := "errors.errorString") (by rw [star]; kernel_rfl) (by kernel_rfl) (by decide) u (by rw [star]; exact h)

theorem env_of {W : World} (h : laidMetH Tryd.prog laidOf W) : Env W := by
  rw [MakeChecks.laidMetH_plain _ _ _ (by kernel_rfl)] at h
  refine ⟨Lib.tabIs_of_head fmt.gTab tTab Tryd.underlying195 Tryd.underlying176 (by kernel_rfl) (by kernel_rfl) h.tail.tail, ?_, ?_⟩
  · obtain ⟨a1, s1, hv1, -, -, -⟩ := laid_sentinel h.tail.tail.tail.tail gES tES Tryd.underlying158 rowErr Tryd.underlying185 Tryd.underlying187 rfl rfl Tryd.underlying9 cellsErr cellsStr
    exact ⟨_, _, hv1⟩
  · obtain ⟨a1, s1, hv1, -, -, -⟩ := laid_sentinel h.tail.tail.tail gER tER Tryd.underlying158 rowErr Tryd.underlying185 Tryd.underlying187 rfl rfl Tryd.underlying9 cellsErr cellsStr
    exact ⟨_, _, hv1⟩

theorem door_met (os : Os) (args : Array Value) : laidMetH Tryd.prog laidOf ((World.doorLaid Tryd.prog 400 os).forCall (fun _ _ => 0) ⟨#[], args, []⟩).memory :=
  laidMetH_of_parts3 (fuel := 8) (laidMet_of_run' 8 (by kernel_rfl) (by kernel_rfl)) (by kernel_rfl) (by kernel_rfl)

end Go.Proofs.YtbgffmiffmmohaaDoor.prs

