/-
  IsCounted answers as its model at every heap and every list of roots; it leaves its arguments unmodified.
  Conditions: the package variables that the row lists hold what the program's text lays, and the card ties that to the text.
-/
import Derived.Test.YtbgffmiffmmohaaGreatDoorRows
import Derived.Test.YtbgffmiffmmohaaGreatDoorCards
import Derived.Test.YtbgffmiffmmohaaGreatDoorTie
import Derived.LaidMore
import Derived.LaidHandle
import Derived.Stop.Joined
import Derived.SevenTiedAt
import Derived.Stop.LaidErr
import Derived.SizedLaws
import Derived.WalkKit
import Derived.ProofKit
import Derived.OpenShut
import Derived.Test.YtbgffmiffmmohaaGreatDoorHcSIscOver
import Derived.Test.YtbgffmiffmmohaaGreatDoorHcSIscKa
import Derived.Test.YtbgffmiffmmohaaGreatDoorHcSIscKb
import Derived.Test.YtbgffmiffmmohaaGreatDoorHcSIscKc
namespace Go.Proofs.YtbgffmiffmmohaaGreatDoor.fnExactIsCounted
open Go.ChangeShapes Go.WideShapes Go.ChangeAt Go.RowKit tree
open Go.ChangeMaps (open_string)
set_option linter.unusedVariables false


/-- The statement. -/
theorem proved : Rows.FnExactIsCountedCardSaid :=
  Claim7.holds_tied_plain_at .later [] Rows.fnExactIsCountedCard.laidKinds true Rows.fnExactIsCountedCard.stood.harness Rows.fnExactIsCountedCard.stood.looks
    over (fun _ h => by cases h) kf1 (fun _ h => by cases h) fnExactIsCounted_row_tie rfl ⟨rfl, rfl⟩ kf2 rfl
    (fun f fn hf hfn => by
      obtain rfl : f = 11 := Option.some.inj (kf4.symm.trans hf) |>.symm
      obtain rfl : fn = Tryz.f11 := (Option.some.inj (Tryz.func11.symm.trans hfn)).symm
      exact ⟨kf3, fun j t ht => by
        rw [Tryz.params11] at ht
        have hm : t ∈ [73, 89] := by simpa using Array.mem_of_getElem? ht
        have hall : ([73, 89].all fun u => !Tryz.prog.wantsStandIn u) = true := kf5
        exact (show Tryz.prog.wantsStandIn t = false by simpa using List.all_eq_true.1 hall t hm)⟩)
    kf6
#print axioms proved
end Go.Proofs.YtbgffmiffmmohaaGreatDoor.fnExactIsCounted

