/-
  What the package variables that the rows of ToText and ToNumber list hold.
  Conditions: the variables hold what the program's text lays.
-/
import Derived.Test.YtlbkbcafkjgckaaDoorCmSTextOf
import Derived.Test.YtlbkbcafkjgckaaDoorRows
import Derived.Stop.LaidErr
import Derived.Stop.LaidTwo
import Derived.LaidMore
import Derived.LaidHandle
namespace Go.Proofs.YtlbkbcafkjgckaaDoor.ers
open Go.ChangeShapes Go.WideShapes Go.ChangeAt Go.RowKit
set_option linter.unusedVariables false

theorem tTab : (Tryd.prog.globals[5]?).map (·.type) = some 201 := by kernel_rfl
theorem tT : (Tryd.prog.globals[0]?).map (·.type) = some 98 := by kernel_rfl
theorem tN : (Tryd.prog.globals[1]?).map (·.type) = some 98 := by kernel_rfl
theorem cellsErr : Tryd.prog.cellsOf 208 = 1 := by kernel_rfl
theorem cellsStr : Tryd.prog.cellsOf 9 = 1 := by kernel_rfl
theorem star : "*" ++ "errors.errorString" = "*errors.errorString" := by decide
theorem rowErr (u : TypeId) (h : Tryd.prog.typeName? 3 u = some "*errors.errorString") : u = 206 :=
  typeName_ptr_named (nm := "errors.errorString") (by rw [star]; kernel_rfl) (by kernel_rfl) (by decide) u (by rw [star]; exact h)

/-- What ToText wants of the world. -/
def TxE (w : World) : Prop := fmt.Tab w ∧ ∃ a, HasT w a
theorem TxE.stays {w w' : World} (h : TxE w) (hb : Below w.heap.size w w') : TxE w' := ⟨h.1.stays hb, h.2.imp fun a h => h.stays hb⟩
/-- What ToNumber wants of the world. -/
def NuE (w : World) : Prop := ∃ a b ca cb ta tb, HasT w a ∧ HasN w b ∧ b ≠ a ∧ w.heap[a.block]? = some (.cells ca ta (0, 0)) ∧ w.heap[b.block]? = some (.cells cb tb (0, 0))
theorem NuE.stays {w w' : World} (h : NuE w) (hb : Below w.heap.size w w') : NuE w' := by
  obtain ⟨a, b, ca, cb, ta, tb, h1, h2, h3, h4, h5⟩ := h
  exact ⟨a, b, ca, cb, ta, tb, h1.stays hb, h2.stays hb, h3, (hb.block _ (Array.getElem?_eq_some_iff.1 h4).1).trans h4, (hb.block _ (Array.getElem?_eq_some_iff.1 h5).1).trans h5⟩

theorem readT {H : Type} (enc : TypeId × Value → H) {X : World} {a : Addr} (h : HasT X a) (sp : Nat → Bool) :
    DataW.TrodVars enc Tryd.prog X sp ["loop.example/g03011/impl.errNoText"] [tok enc (.iface 206 (.pointer (some a)))] [.cell 0 0] :=
  vars_read1 enc gT tT Tryd.underlying98 h trivial sp
theorem readNT {H : Type} (enc : TypeId × Value → H) {X : World} {a b : Addr} (h : HasT X a) (k : HasN X b) (sp : Nat → Bool) :
    DataW.TrodVars enc Tryd.prog X sp ["loop.example/g03011/impl.errNoNumber", "loop.example/g03011/impl.errNoText"] [tok enc (.iface 206 (.pointer (some b))), tok enc (.iface 206 (.pointer (some a)))] [.cell 1 0, .cell 0 0] :=
  vars_read2 enc gN tN Tryd.underlying98 k trivial gT tT Tryd.underlying98 h trivial sp
theorem readTN {H : Type} (enc : TypeId × Value → H) {X : World} {a b : Addr} (h : HasT X a) (k : HasN X b) (sp : Nat → Bool) :
    DataW.TrodVars enc Tryd.prog X sp ["loop.example/g03011/impl.errNoText", "loop.example/g03011/impl.errNoNumber"] [tok enc (.iface 206 (.pointer (some a))), tok enc (.iface 206 (.pointer (some b)))] [.cell 0 0, .cell 1 0] :=
  vars_read2 enc gT tT Tryd.underlying98 h trivial gN tN Tryd.underlying98 k trivial sp

namespace text
def laidOf : List (String × DataW Unit) := Rows.fnExactToTextRow.laid
theorem env_of {W : World} (h : laidMetH Tryd.prog laidOf W) : TxE W := by
  rw [MakeChecks.laidMetH_plain _ _ _ (by kernel_rfl)] at h
  refine ⟨Lib.tabIs_of_head fmt.gTab tTab Tryd.underlying201 Tryd.underlying189 (by kernel_rfl) (by kernel_rfl) h.tail.tail, ?_⟩
  obtain ⟨a1, s1, hv1, -, -, -⟩ := laid_sentinel h.tail.tail.tail gT tT Tryd.underlying98 rowErr Tryd.underlying206 Tryd.underlying208 rfl rfl Tryd.underlying9 cellsErr cellsStr
  exact ⟨_, hv1⟩
theorem door_met (os : Os) (args : Array Value) : laidMetH Tryd.prog laidOf ((World.doorLaid Tryd.prog 400 os).forCall (fun _ _ => 0) ⟨#[], args, []⟩).memory :=
  laidMetH_of_parts3 (fuel := 8) (laidMet_of_run' 8 (by kernel_rfl) (by kernel_rfl)) (by kernel_rfl) (by kernel_rfl)
end text

namespace number
def laidOf : List (String × DataW Unit) := Rows.fnExactToNumberRow.laid
theorem env_of {W : World} (h : laidMetH Tryd.prog laidOf W) : NuE W := by
  rw [MakeChecks.laidMetH_plain _ _ _ (by kernel_rfl)] at h
  obtain ⟨a0, a1, s0, s1, c0, c1, t0, t1, hv0, hv1, -, -, -, -, -, -, hne, hb0, hb1⟩ := laid_sentinels2 h gT tT gN tN Tryd.underlying98 rowErr Tryd.underlying206 Tryd.underlying208 rfl rfl Tryd.underlying9 cellsErr cellsStr
  exact ⟨a0, a1, c0, c1, t0, t1, hv0, hv1, hne.symm, hb0, hb1⟩
theorem door_met (os : Os) (args : Array Value) : laidMetH Tryd.prog laidOf ((World.doorLaid Tryd.prog 400 os).forCall (fun _ _ => 0) ⟨#[], args, []⟩).memory :=
  laidMetH_of_parts3 (fuel := 8) (laidMet_of_run' 8 (by kernel_rfl) (by kernel_rfl)) (by kernel_rfl) (by kernel_rfl)
end number

end Go.Proofs.YtlbkbcafkjgckaaDoor.ers

