/-
  The model's copy of a value.
  Conditions: those that each theorem names.
-/
import Derived.Test.YtbgffmiffmmohaaCrB4
import Derived.Test.YtbgffmiffmmohaaCrSHeld
import Derived.Deep.AppendLies
import Derived.Deep.RegionHeld3
namespace Go.Proofs.Ytbgffmiffmmohaa.tree
open Go.ChangeShapes Go.WideShapes Go.ChangeAt Go.RowKit
set_option linter.unusedVariables false


theorem cnts_len : ∀ vs : List Tr, vs.length ≤ cnts vs
  | [] => by simp [cnts_nil]
  | t :: vs => by
    have := cnts_len vs
    obtain ⟨k, n, s, x, ks, us⟩ := t
    rw [cnts_cons', cnt_mk', List.length_cons]
    omega


end Go.Proofs.Ytbgffmiffmmohaa.tree

