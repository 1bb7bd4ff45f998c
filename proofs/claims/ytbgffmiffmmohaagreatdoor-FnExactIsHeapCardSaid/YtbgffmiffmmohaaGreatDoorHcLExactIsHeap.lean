/-
  IsHeap answers as its model at every heap; it leaves its argument unmodified.
  Conditions: the package variables that the row lists hold what the program's text lays, and the card ties that to the text.
-/
import Derived.Test.YtbgffmiffmmohaaGreatDoorRows
import Derived.Test.YtbgffmiffmmohaaGreatDoorCards
import Derived.Test.YtbgffmiffmmohaaGreatDoorTie
import Derived.LaidMore
import Derived.LaidHandle
import Derived.Stop.Joined
import Derived.SevenTiedAt
import Derived.Stop.LaidErr
import Derived.SizedLaws
import Derived.WalkKit
import Derived.ProofKit
import Derived.OpenShut
import Derived.Test.YtbgffmiffmmohaaGreatDoorHcSIshOver
import Derived.Test.YtbgffmiffmmohaaGreatDoorHcSIshKa
import Derived.Test.YtbgffmiffmmohaaGreatDoorHcSIshKb
import Derived.Test.YtbgffmiffmmohaaGreatDoorHcSIshKc
namespace Go.Proofs.YtbgffmiffmmohaaGreatDoor.fnExactIsHeap
open Go.ChangeShapes Go.WideShapes Go.ChangeAt Go.RowKit tree
open Go.ChangeMaps (open_string)
set_option linter.unusedVariables false


/-- The statement. -/
theorem proved : Rows.FnExactIsHeapCardSaid :=
  Claim7.holds_tied_plain_at .later [] Rows.fnExactIsHeapCard.laidKinds true Rows.fnExactIsHeapCard.stood.harness Rows.fnExactIsHeapCard.stood.looks
    over (fun _ h => by cases h) kf1 (fun _ h => by cases h) fnExactIsHeap_row_tie rfl ⟨rfl, rfl⟩ kf2 rfl
    (fun f fn hf hfn => by
      obtain rfl : f = 7 := Option.some.inj (kf4.symm.trans hf) |>.symm
      obtain rfl : fn = Tryz.f7 := (Option.some.inj (Tryz.func7.symm.trans hfn)).symm
      exact ⟨kf3, fun j t ht => by
        rw [Tryz.params7] at ht
        have hm : t ∈ [73] := by simpa using Array.mem_of_getElem? ht
        have hall : ([73].all fun u => !Tryz.prog.wantsStandIn u) = true := kf5
        exact (show Tryz.prog.wantsStandIn t = false by simpa using List.all_eq_true.1 hall t hm)⟩)
    kf6
#print axioms proved
end Go.Proofs.YtbgffmiffmmohaaGreatDoor.fnExactIsHeap

