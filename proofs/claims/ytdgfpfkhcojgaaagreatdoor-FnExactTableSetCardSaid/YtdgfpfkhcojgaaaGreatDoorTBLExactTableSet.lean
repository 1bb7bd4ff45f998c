/-
  TableSet answers as its model at every table, key and value; it leaves its arguments unmodified, and its answer owns its memory.
  Conditions: the package variables that the row lists hold what the program's text lays, and the card ties that to the text.
-/
import Derived.Test.YtdgfpfkhcojgaaaGreatDoorRows
import Derived.Test.YtdgfpfkhcojgaaaGreatDoorCards
import Derived.Test.YtdgfpfkhcojgaaaGreatDoorTie
import Derived.LaidMore
import Derived.LaidHandle
import Derived.Stop.Joined
import Derived.SevenTiedAt
import Derived.Stop.LaidErr
import Derived.SizedLaws
import Derived.WalkKit
import Derived.ProofKit
import Derived.OpenShut
import Derived.Test.YtdgfpfkhcojgaaaGreatDoorTBB9
import Derived.Test.YtdgfpfkhcojgaaaGreatDoorTBB1
import Derived.Test.YtdgfpfkhcojgaaaGreatDoorTBSEnvKey
namespace Go.Proofs.YtdgfpfkhcojgaaaGreatDoor.fnExactTableSet
open Go.ChangeShapes Go.WideShapes Go.ChangeAt Go.RowKit tree
open Go.ChangeMaps (open_string)
set_option linter.unusedVariables false



theorem over : Rows.FnExactTableSetSaid :=
  OpenClaim.holds_of_wide 5 Tryz.f5 rfl rfl rfl rfl rfl rfl rfl ⟨rfl, rfl, rfl, rfl, rfl⟩ rfl rfl rfl rfl rfl (by kernel_rfl) Tryz.func5 closed
    (of_decide_eq_true (by kernel_rfl)) (by unfold Func.isWrapper; first | (rw [if_pos (by decide +kernel)]; kernel_rfl) | (rw [if_neg (by decide +kernel)]; exact ⟨rfl, rfl⟩))
    (fun os started H enc _ => lifted os started H enc)

/-- The statement. -/
theorem proved : Rows.FnExactTableSetCardSaid :=
  Claim7.holds_tied_plain_at .later [] Rows.fnExactTableSetCard.laidKinds true Rows.fnExactTableSetCard.stood.harness Rows.fnExactTableSetCard.stood.looks
    over (fun _ h => by cases h) (by kernel_rfl) (fun _ h => by cases h) fnExactTableSet_row_tie rfl ⟨rfl, rfl⟩ (by kernel_rfl) rfl
    (fun f fn hf hfn => by
      obtain rfl : f = 5 := Option.some.inj ((show Tryz.prog.funcNamed "loop.example/g03011/laws.FnExactTableSet" = some 5 by kernel_rfl).symm.trans hf) |>.symm
      obtain rfl : fn = Tryz.f5 := (Option.some.inj (Tryz.func5.symm.trans hfn)).symm
      exact ⟨by kernel_rfl, fun j t ht => by
        rw [Tryz.params5] at ht
        have hm : t ∈ [55, 56, 59] := by simpa using Array.mem_of_getElem? ht
        have hall : ([55, 56, 59].all fun u => !Tryz.prog.wantsStandIn u) = true := by kernel_rfl
        exact (show Tryz.prog.wantsStandIn t = false by simpa using List.all_eq_true.1 hall t hm)⟩)
    (by kernel_rfl)
#print axioms proved
end Go.Proofs.YtdgfpfkhcojgaaaGreatDoor.fnExactTableSet

