/-
  SetPath answers as its model at every value, path, flag and value to be written; it leaves its arguments unmodified, and its answer owns its memory.
  Conditions: the package variables that the row lists hold what the program's text lays, and the card ties that to the text.
-/
import Derived.Test.YtbgffmiffmmohaaGreatDoorRows
import Derived.Test.YtbgffmiffmmohaaGreatDoorCards
import Derived.Test.YtbgffmiffmmohaaGreatDoorTie
import Derived.LaidMore
import Derived.LaidHandle
import Derived.Stop.Joined
import Derived.SevenTiedAt
import Derived.Stop.LaidErr
import Derived.SizedLaws
import Derived.WalkKit
import Derived.ProofKit
import Derived.OpenShut
import Derived.Test.YtbgffmiffmmohaaGreatDoorSpSSpOver
import Derived.Test.YtbgffmiffmmohaaGreatDoorSpSSpKa
import Derived.Test.YtbgffmiffmmohaaGreatDoorSpSSpKb
import Derived.Test.YtbgffmiffmmohaaGreatDoorSpSSpKc
namespace Go.Proofs.YtbgffmiffmmohaaGreatDoor.fnExactSetPath
open Go.ChangeShapes Go.WideShapes Go.ChangeAt Go.RowKit tree
open Go.ChangeMaps (open_string)
set_option linter.unusedVariables false


/-- The statement. -/
theorem proved : Rows.FnExactSetPathCardSaid :=
  Claim7.holds_tied_plain_at .later [] Rows.fnExactSetPathCard.laidKinds true Rows.fnExactSetPathCard.stood.harness Rows.fnExactSetPathCard.stood.looks
    over (fun _ h => by cases h) kf1 (fun _ h => by cases h) fnExactSetPath_row_tie rfl ⟨rfl, rfl⟩ kf2 rfl
    (fun f fn hf hfn => by
      obtain rfl : f = 6 := Option.some.inj (kf4.symm.trans hf) |>.symm
      obtain rfl : fn = Tryz.f6 := (Option.some.inj (Tryz.func6.symm.trans hfn)).symm
      exact ⟨kf3, fun j t ht => by
        rw [Tryz.params6] at ht
        have hm : t ∈ [55, 62, 4, 55] := by simpa using Array.mem_of_getElem? ht
        have hall : ([55, 62, 4, 55].all fun u => !Tryz.prog.wantsStandIn u) = true := kf5
        exact (show Tryz.prog.wantsStandIn t = false by simpa using List.all_eq_true.1 hall t hm)⟩)
    kf6
#print axioms proved
end Go.Proofs.YtbgffmiffmmohaaGreatDoor.fnExactSetPath

