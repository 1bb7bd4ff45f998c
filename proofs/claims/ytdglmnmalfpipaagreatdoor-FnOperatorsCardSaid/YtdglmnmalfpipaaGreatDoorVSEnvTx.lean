/-
  What the package variables that the rows of ToText and ToNumber list hold.
  Conditions: the variables hold what the program's text lays.
-/
import Derived.Test.YtdglmnmalfpipaaGreatDoorVSTextOf
import Derived.Test.YtdglmnmalfpipaaGreatDoorRows
import Derived.Stop.LaidErr
import Derived.Stop.LaidTwo
import Derived.LaidMore
import Derived.LaidHandle
namespace Go.Proofs.YtdglmnmalfpipaaGreatDoor.ers
open Go.ChangeShapes Go.WideShapes Go.ChangeAt Go.RowKit
set_option linter.unusedVariables false

theorem tTab : (Tryz.prog.globals[7]?).map (·.type) = some 266 := by kernel_rfl
theorem tT : (Tryz.prog.globals[1]?).map (·.type) = some 174 := by kernel_rfl
theorem tN : (Tryz.prog.globals[2]?).map (·.type) = some 174 := by kernel_rfl
theorem cellsErr : Tryz.prog.cellsOf 272 = 1 := by kernel_rfl
theorem cellsStr : Tryz.prog.cellsOf 9 = 1 := by kernel_rfl
theorem star : "*" ++ "errors.errorString" = "*errors.errorString" := by decide
theorem rowErr (u : TypeId) (h : Tryz.prog.typeName? 3 u = some "*errors.errorString") : u = 270 :=
  typeName_ptr_named (nm := "errors.errorString") (by rw [star]; kernel_rfl) (by kernel_rfl) (by decide) u (by rw [star]; exact h)

/-- What ToText wants of the world. -/
def TxE (w : World) : Prop := fmt.Tab w ∧ ∃ a, HasT w a
theorem TxE.stays {w w' : World} (h : TxE w) (hb : Below w.heap.size w w') : TxE w' := ⟨h.1.stays hb, h.2.imp fun a h => h.stays hb⟩
/-- What ToNumber wants of the world. -/
def NuE (w : World) : Prop := ∃ a b ca cb ta tb, HasT w a ∧ HasN w b ∧ b ≠ a ∧ w.heap[a.block]? = some (.cells ca ta (0, 0)) ∧ w.heap[b.block]? = some (.cells cb tb (0, 0))
theorem NuE.stays {w w' : World} (h : NuE w) (hb : Below w.heap.size w w') : NuE w' := by
  obtain ⟨a, b, ca, cb, ta, tb, h1, h2, h3, h4, h5⟩ := h
  exact ⟨a, b, ca, cb, ta, tb, h1.stays hb, h2.stays hb, h3, (hb.block _ (Array.getElem?_eq_some_iff.1 h4).1).trans h4, (hb.block _ (Array.getElem?_eq_some_iff.1 h5).1).trans h5⟩

theorem readT {H : Type} (enc : TypeId × Value → H) {X : World} {a : Addr} (h : HasT X a) (sp : Nat → Bool) :
    DataW.TrodVars enc Tryz.prog X sp ["loop.example/g03011/impl.errNoText"] [tok enc (.iface 270 (.pointer (some a)))] [.cell 1 0] :=
  vars_read1 enc gT tT Tryz.underlying174 h trivial sp
theorem readNT {H : Type} (enc : TypeId × Value → H) {X : World} {a b : Addr} (h : HasT X a) (k : HasN X b) (sp : Nat → Bool) :
    DataW.TrodVars enc Tryz.prog X sp ["loop.example/g03011/impl.errNoNumber", "loop.example/g03011/impl.errNoText"] [tok enc (.iface 270 (.pointer (some b))), tok enc (.iface 270 (.pointer (some a)))] [.cell 2 0, .cell 1 0] :=
  vars_read2 enc gN tN Tryz.underlying174 k trivial gT tT Tryz.underlying174 h trivial sp
theorem readTN {H : Type} (enc : TypeId × Value → H) {X : World} {a b : Addr} (h : HasT X a) (k : HasN X b) (sp : Nat → Bool) :
    DataW.TrodVars enc Tryz.prog X sp ["loop.example/g03011/impl.errNoText", "loop.example/g03011/impl.errNoNumber"] [tok enc (.iface 270 (.pointer (some a))), tok enc (.iface 270 (.pointer (some b)))] [.cell 1 0, .cell 2 0] :=
  vars_read2 enc gT tT Tryz.underlying174 h trivial gN tN Tryz.underlying174 k trivial sp

namespace text
end text

namespace number
end number

end Go.Proofs.YtdglmnmalfpipaaGreatDoor.ers

