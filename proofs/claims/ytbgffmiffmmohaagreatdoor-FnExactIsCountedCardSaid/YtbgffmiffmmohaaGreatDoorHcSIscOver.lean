/-
  What FnExactIsCounted returns, as its row says it.
  Conditions: the package variables that the row lists hold what the program's text lays, and the card ties that to the text.
-/
import Derived.Test.YtbgffmiffmmohaaGreatDoorRows
import Derived.Test.YtbgffmiffmmohaaGreatDoorCards
import Derived.Test.YtbgffmiffmmohaaGreatDoorTie
import Derived.LaidMore
import Derived.LaidHandle
import Derived.Stop.Joined
import Derived.SevenTiedAt
import Derived.Stop.LaidErr
import Derived.SizedLaws
import Derived.WalkKit
import Derived.ProofKit
import Derived.OpenShut
import Derived.Test.YtbgffmiffmmohaaGreatDoorHcSIscLift
import Derived.Test.YtbgffmiffmmohaaGreatDoorHcSIscFacts
import Derived.Test.YtbgffmiffmmohaaGreatDoorHcSEnvKey
namespace Go.Proofs.YtbgffmiffmmohaaGreatDoor.fnExactIsCounted
open Go.ChangeShapes Go.WideShapes Go.ChangeAt Go.RowKit tree
open Go.ChangeMaps (open_string)
set_option linter.unusedVariables false


theorem over : Rows.FnExactIsCountedSaid :=
  OpenClaim.holds_of_wide 11 Tryz.f11 rfl rfl rfl rfl rfl rfl rfl ⟨rfl, rfl, rfl, rfl, rfl⟩ rfl rfl rfl rfl rfl (by kernel_rfl) Tryz.func11 closed
    (of_decide_eq_true (by kernel_rfl)) (by unfold Func.isWrapper; first | (rw [if_pos (by decide +kernel)]; kernel_rfl) | (rw [if_neg (by decide +kernel)]; exact ⟨rfl, rfl⟩))
    (fun os started H enc _ => lifted os started H enc)

end Go.Proofs.YtbgffmiffmmohaaGreatDoor.fnExactIsCounted

