/-
  GetKey of the project and of the model.
  Conditions: the value holds at most 2^20 and one items and 10^9 letters.
-/
import Derived.Test.YtbgffmiffmmohaaGreatDoorSpB3
import Derived.Test.YtbgffmiffmmohaaGreatDoorSpSCopyV
namespace Go.Proofs.YtbgffmiffmmohaaGreatDoor.tree
open Go.ChangeShapes Go.WideShapes Go.ChangeAt Go.RowKit
set_option linter.unusedVariables false

def OutI (w : World) (t : Tr) (b : Bool) (e : Ending) (w' : World) : Prop := ∃ u par R, e = .returned (.tuple #[u, .bool b]) ∧ TPar w' par (R, 0) t u ∧ w.heap.size ≤ R ∧ Below w.heap.size w w'
def OutS (w : World) (t : Tr) (b : Bool) (e : Ending) (w' : World) : Prop := ∃ u, e = .returned (.tuple #[u, .bool b]) ∧ TIn w' (fun q => w.heap.size ≤ q) t u ∧ Below w.heap.size w w'
theorem null_par (w : World) (par : Nat → Nat × Nat) (here : Nat × Nat) : TPar w par here nullT (vV 0 0 ⟨#[]⟩ 0 none 0 0) := TPar.of ⟨by unfold I64; omega, by unfold I64; omega, by unfold I64; omega, Nat.zero_le _⟩ rfl ⟨Nat.le_refl _, by unfold maxLen; simp⟩ (fun h => absurd h (by simp))



end Go.Proofs.YtbgffmiffmmohaaGreatDoor.tree

