/-
  DERIVED. GIVEN WITH THE SEED: THE CARDS: each row of YtlbkbcafkjgckaaGreatDoorRows.lean that lists a variable, with what it lists TIED to the program's text (the seventh form; the later family's looks); each row that meets fmt, with fmt's text TOLD by the authors' own Lean function (tested against real Go, not proved from fmt's source: count such statements apart). THE CARD IS WHAT COUNTS. Prove the row's statement (the work); the ties are given (YtlbkbcafkjgckaaGreatDoorTie.lean); close each card by the builder's one call (the guide's Derived/Test/ToyasCard.lean, 'card_holds'). Laid BY PROGRAM, IN A SANDBOX (cutbox-door.mjs). By AI agents, Wed Nov 11 2026. No macro, syntax, notation, axiom, sorry.
-/
import Derived.Test.YtlbkbcafkjgckaaGreatDoorRows
import GoSem.ClaimSeven
namespace Go.Proofs.YtlbkbcafkjgckaaGreatDoor
namespace Rows

/-- THE TIED CARD OF 'laws.FnExactSortValues'. -/
def fnExactSortValuesCard : Claim7 := { stood := { row := fnExactSortValuesRow, standIns := [], harness := (true, "83feb043a522550d072d6bf70c74db0ec55d97826156b610d0e87c824b5dc334"), looks := false }, kinds := [], alts := [], laidByText := true, laidKinds := [.data, .data, .data, .sentinel, .sentinel], laidTests := true, laidLooks := .later }
def FnExactSortValuesCardSaid : Prop := Claim7.holds Tryz.pinned (.plain (OpenSpec.ofChange fnExactSortValuesSpec)) fnExactSortValuesCard

/-- THE SECOND FORM's CARD OF 'laws.FnExactSortValues'. -/
def fnExactSortValuesUptoCard : Claim7 := { stood := { row := fnExactSortValuesUptoRow, standIns := [], harness := (true, "83feb043a522550d072d6bf70c74db0ec55d97826156b610d0e87c824b5dc334"), looks := false }, kinds := [], alts := [], laidByText := true, laidKinds := [.data, .data, .data, .sentinel, .sentinel], laidTests := true, laidLooks := .later }
def FnExactSortValuesUptoCardSaid : Prop := Claim7.holds Tryz.pinned (.plain (OpenSpec.upto fnExactSortValuesSpec)) fnExactSortValuesUptoCard
end Rows
end Go.Proofs.YtlbkbcafkjgckaaGreatDoor
