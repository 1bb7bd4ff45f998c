/-
  What the package variables that the rows of this seat list hold gives what the escapers and unescapers want.
  Conditions: the variables hold what the program's text lays.
-/
import Derived.Test.YtofdnpbmanonpaaDoorEnts
import Derived.Test.YtofdnpbmanonpaaDoorRows
import Derived.Stop.LaidErr
import Derived.LaidMore
import Derived.LaidHandle
namespace Go.Proofs.YtofdnpbmanonpaaDoor.ents
open Go.ChangeShapes Go.WideShapes Go.ChangeAt Go.RowKit
set_option linter.unusedVariables false

/-- What the library's reading of digits wants where it fails. -/
def Err (w : World) : Prop := ∃ tp p, w.var? Tryd.prog "strconv.ErrSyntax" = some #[.iface tp p]
theorem gES : Tryd.prog.globalNamed "strconv.ErrSyntax" = some 1 := by kernel_rfl
theorem staysErr : seq.Stays Err := fun w w' ⟨t, p, h⟩ hb => ⟨t, p, Joins.var_stays gES h hb (Nat.le_refl _)⟩

theorem tES : (Tryd.prog.globals[1]?).map (·.type) = some 56 := by kernel_rfl
theorem cellsErr : Tryd.prog.cellsOf 90 = 1 := by kernel_rfl
theorem star : "*" ++ "errors.errorString" = "*errors.errorString" := by decide
theorem rowErr (u : TypeId) (h : Tryd.prog.typeName? 3 u = some "*errors.errorString") : u = 88 :=
  typeName_ptr_named (nm := "errors.errorString") (by rw [star]; kernel_rfl) (by kernel_rfl) (by decide) u (by rw [star]; exact h)
def Both (w : World) : Prop := Ent w ∧ Err w
theorem staysBoth : seq.Stays Both := fun w w' h hb => ⟨stays w w' h.1 hb, staysErr w w' h.2 hb⟩

namespace envE
def laidOf : List (String × DataW Unit) := Rows.fnExactEscapeHTMLRow.laid
theorem env_of {W : World} (h : laidMetH Tryd.prog laidOf W) : Ent W := by
  rw [MakeChecks.laidMetH_plain _ _ _ (by kernel_rfl)] at h
  exact of_reads (Lib.laidMet.reads h (List.mem_cons_self ..))
theorem door_met (os : Os) (args : Array Value) : laidMetH Tryd.prog laidOf ((World.doorLaid Tryd.prog 400 os).forCall (fun _ _ => 0) ⟨#[], args, []⟩).memory :=
  laidMetH_of_parts3 (fuel := 8) (laidMet_of_run' 8 (by kernel_rfl) (by kernel_rfl)) (by kernel_rfl) (by kernel_rfl)
end envE

namespace envS
def laidOf : List (String × DataW Unit) := Rows.fnExactUnescapeURLRow.laid
theorem env_of {W : World} (h : laidMetH Tryd.prog laidOf W) : Err W := by
  rw [MakeChecks.laidMetH_plain _ _ _ (by kernel_rfl)] at h
  obtain ⟨a1, s1, hv1, -, -, -⟩ := laid_sentinel h.tail.tail.tail.tail gES tES Tryd.underlying56 rowErr Tryd.underlying88 Tryd.underlying90 rfl rfl Tryd.underlying9 cellsErr c9
  exact ⟨_, _, hv1⟩
theorem door_met (os : Os) (args : Array Value) : laidMetH Tryd.prog laidOf ((World.doorLaid Tryd.prog 400 os).forCall (fun _ _ => 0) ⟨#[], args, []⟩).memory :=
  laidMetH_of_parts3 (fuel := 8) (laidMet_of_run' 8 (by kernel_rfl) (by kernel_rfl)) (by kernel_rfl) (by kernel_rfl)
end envS

namespace envA
def laidOf : List (String × DataW Unit) := Rows.fnExactEscapeInRow.laid
theorem env_of {W : World} (h : laidMetH Tryd.prog laidOf W) : Both W := by
  rw [MakeChecks.laidMetH_plain _ _ _ (by kernel_rfl)] at h
  refine ⟨of_reads (Lib.laidMet.reads h ?_), ?_⟩
  · exact List.mem_cons_of_mem _ (List.mem_cons_of_mem _ (List.mem_cons_of_mem _ (List.mem_cons_of_mem _ (List.mem_cons_of_mem _ (List.mem_cons_self ..)))))
  · obtain ⟨a1, s1, hv1, -, -, -⟩ := laid_sentinel h.tail.tail.tail.tail gES tES Tryd.underlying56 rowErr Tryd.underlying88 Tryd.underlying90 rfl rfl Tryd.underlying9 cellsErr c9
    exact ⟨_, _, hv1⟩
theorem door_met (os : Os) (args : Array Value) : laidMetH Tryd.prog laidOf ((World.doorLaid Tryd.prog 400 os).forCall (fun _ _ => 0) ⟨#[], args, []⟩).memory :=
  laidMetH_of_parts3 (fuel := 8) (laidMet_of_run' 8 (by kernel_rfl) (by kernel_rfl)) (by kernel_rfl) (by kernel_rfl)
end envA

end Go.Proofs.YtofdnpbmanonpaaDoor.ents
