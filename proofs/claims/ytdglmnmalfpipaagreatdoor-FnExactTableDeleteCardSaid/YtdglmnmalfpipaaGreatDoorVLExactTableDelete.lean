/-
  TableDelete answers as its model at every table and key; it leaves its arguments unmodified, and its answer owns its memory.
  Conditions: the package variables that the row lists hold what the program's text lays, and the card ties that to the text.
-/
import Derived.Test.YtdglmnmalfpipaaGreatDoorRows
import Derived.Test.YtdglmnmalfpipaaGreatDoorCards
import Derived.Test.YtdglmnmalfpipaaGreatDoorTie
import Derived.LaidMore
import Derived.LaidHandle
import Derived.Stop.Joined
import Derived.SevenTiedAt
import Derived.Stop.LaidErr
import Derived.SizedLaws
import Derived.WalkKit
import Derived.ProofKit
import Derived.OpenShut
import Derived.Test.YtdglmnmalfpipaaGreatDoorVSTdelLift
import Derived.Test.YtdglmnmalfpipaaGreatDoorVSTdelFacts
import Derived.Test.YtdglmnmalfpipaaGreatDoorVSEnvKey
namespace Go.Proofs.YtdglmnmalfpipaaGreatDoor.fnExactTableDelete
open Go.ChangeShapes Go.WideShapes Go.ChangeAt Go.RowKit tree
open Go.ChangeMaps (open_string)
set_option linter.unusedVariables false



theorem over : Rows.FnExactTableDeleteSaid :=
  OpenClaim.holds_of_wide 8 Tryz.f8 rfl rfl rfl rfl rfl rfl rfl ⟨rfl, rfl, rfl, rfl, rfl⟩ rfl rfl rfl rfl rfl (by kernel_rfl) Tryz.func8 closed
    (of_decide_eq_true (by kernel_rfl)) (by unfold Func.isWrapper; first | (rw [if_pos (by decide +kernel)]; kernel_rfl) | (rw [if_neg (by decide +kernel)]; exact ⟨rfl, rfl⟩))
    (fun os started H enc _ => lifted os started H enc)

/-- The statement. -/
theorem proved : Rows.FnExactTableDeleteCardSaid :=
  Claim7.holds_tied_plain_at .later [] Rows.fnExactTableDeleteCard.laidKinds true Rows.fnExactTableDeleteCard.stood.harness Rows.fnExactTableDeleteCard.stood.looks
    over (fun _ h => by cases h) (by kernel_rfl) (fun _ h => by cases h) fnExactTableDelete_row_tie rfl ⟨rfl, rfl⟩ (by kernel_rfl) rfl
    (fun f fn hf hfn => by
      obtain rfl : f = 8 := Option.some.inj ((show Tryz.prog.funcNamed "loop.example/g03011/laws.FnExactTableDelete" = some 8 by kernel_rfl).symm.trans hf) |>.symm
      obtain rfl : fn = Tryz.f8 := (Option.some.inj (Tryz.func8.symm.trans hfn)).symm
      exact ⟨by kernel_rfl, fun j t ht => by
        rw [Tryz.params8] at ht
        have hm : t ∈ [68, 69] := by simpa using Array.mem_of_getElem? ht
        have hall : ([68, 69].all fun u => !Tryz.prog.wantsStandIn u) = true := by kernel_rfl
        exact (show Tryz.prog.wantsStandIn t = false by simpa using List.all_eq_true.1 hall t hm)⟩)
    (by kernel_rfl)
#print axioms proved
end Go.Proofs.YtdglmnmalfpipaaGreatDoor.fnExactTableDelete

