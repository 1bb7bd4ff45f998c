/-
  The laws' marks, found again.
  Conditions: those that each theorem names.
-/
import Derived.Test.YtbgffmiffmmohaaCrB4
namespace Go.Proofs.Ytbgffmiffmmohaa.tree
open Go.ChangeShapes Go.WideShapes Go.ChangeAt Go.RowKit
set_option linter.unusedVariables false

theorem At8.below {w w' : World} (hb : Below w.heap.size w w') {q : Addr} {y : Ky} {k n : Int} {s : ByteArray} {x : Int} {A : Option Addr} {L c : Nat} (h : At8 w q y k n s x A L c) : At8 w' q y k n s x A L c := by
  have e : ∀ (a : Addr) (u : Value), w.cell? a = some u → w'.cell? a = some u := fun a u hu => cell_stays (fun hlt => hb.block _ hlt) hu
  exact ⟨e _ _ h.c0, e _ _ h.c1, e _ _ h.c2, e _ _ h.c3, e _ _ h.c4, e _ _ h.c5, e _ _ h.c6, e _ _ h.c7⟩



end Go.Proofs.Ytbgffmiffmmohaa.tree

