/-
  DERIVED. GIVEN WITH THE SEED: THE CARDS: each row of YtbgffmiffmmohaaDoorRows.lean that lists a variable, with what it lists TIED to the program's text (the seventh form; the later family's looks); each row that meets fmt, with fmt's text TOLD by the authors' own Lean function (tested against real Go, not proved from fmt's source: count such statements apart). THE CARD IS WHAT COUNTS. Prove the row's statement (the work); the ties are given (YtbgffmiffmmohaaDoorTie.lean); close each card by the builder's one call (the guide's Derived/Test/ToyasCard.lean, 'card_holds'). Laid BY PROGRAM, IN A SANDBOX (cutbox-door.mjs). By AI agents, Wed Nov 11 2026. No macro, syntax, notation, axiom, sorry.
-/
import Derived.Test.YtbgffmiffmmohaaDoorRows
import GoSem.ClaimSeven
namespace Go.Proofs.YtbgffmiffmmohaaDoor
namespace Rows

/-- THE TIED CARD OF 'laws.FnPaths'. -/
def fnPathsCard : Claim7 := { stood := { row := fnPathsRow, standIns := [], harness := (true, "927824dcb037b9cab7600819fa757b4149b6eb373c86aa6387f3e611b9726816"), looks := true }, kinds := [], alts := [], laidByText := true, laidKinds := [.data, .data, .data, .sentinel, .sentinel], laidTests := true, laidLooks := .later }
def FnPathsCardSaid : Prop := Claim7.holds Tryd.pinned (.plain (OpenSpec.ofChange fnPathsSpec)) fnPathsCard

/-- THE TIED CARD OF 'laws.FnExactIsHeld'. -/
def fnExactIsHeldCard : Claim7 := { stood := { row := fnExactIsHeldRow, standIns := [], harness := (true, "927824dcb037b9cab7600819fa757b4149b6eb373c86aa6387f3e611b9726816"), looks := true }, kinds := [], alts := [], laidByText := true, laidKinds := [.data, .data, .data, .sentinel, .sentinel], laidTests := true, laidLooks := .later }
def FnExactIsHeldCardSaid : Prop := Claim7.holds Tryd.pinned (.plain (OpenSpec.ofChange fnExactIsHeldSpec)) fnExactIsHeldCard

/-- THE SECOND FORM's CARD OF 'laws.FnPaths'. -/
def fnPathsUptoCard : Claim7 := { stood := { row := fnPathsUptoRow, standIns := [], harness := (true, "927824dcb037b9cab7600819fa757b4149b6eb373c86aa6387f3e611b9726816"), looks := true }, kinds := [], alts := [], laidByText := true, laidKinds := [.data, .data, .data, .sentinel, .sentinel], laidTests := true, laidLooks := .later }
def FnPathsUptoCardSaid : Prop := Claim7.holds Tryd.pinned (.plain (OpenSpec.upto fnPathsSpec)) fnPathsUptoCard

/-- THE SECOND FORM's CARD OF 'laws.FnExactIsHeld'. -/
def fnExactIsHeldUptoCard : Claim7 := { stood := { row := fnExactIsHeldUptoRow, standIns := [], harness := (true, "927824dcb037b9cab7600819fa757b4149b6eb373c86aa6387f3e611b9726816"), looks := true }, kinds := [], alts := [], laidByText := true, laidKinds := [.data, .data, .data, .sentinel, .sentinel], laidTests := true, laidLooks := .later }
def FnExactIsHeldUptoCardSaid : Prop := Claim7.holds Tryd.pinned (.plain (OpenSpec.upto fnExactIsHeldSpec)) fnExactIsHeldUptoCard
end Rows
end Go.Proofs.YtbgffmiffmmohaaDoor
