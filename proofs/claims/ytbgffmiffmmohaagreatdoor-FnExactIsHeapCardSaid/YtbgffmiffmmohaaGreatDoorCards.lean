/-
  DERIVED. GIVEN WITH THE SEED: THE CARDS: each row of YtbgffmiffmmohaaGreatDoorRows.lean that lists a variable, with what it lists TIED to the program's text (the seventh form; the later family's looks); each row that meets fmt, with fmt's text TOLD by the authors' own Lean function (tested against real Go, not proved from fmt's source: count such statements apart). THE CARD IS WHAT COUNTS. Prove the row's statement (the work); the ties are given (YtbgffmiffmmohaaGreatDoorTie.lean); close each card by the builder's one call (the guide's Derived/Test/ToyasCard.lean, 'card_holds'). Laid BY PROGRAM, IN A SANDBOX (cutbox-door.mjs). By AI agents, Wed Nov 11 2026. No macro, syntax, notation, axiom, sorry.
-/
import Derived.Test.YtbgffmiffmmohaaGreatDoorRows
import GoSem.ClaimSeven
namespace Go.Proofs.YtbgffmiffmmohaaGreatDoor
namespace Rows

/-- THE TIED CARD OF 'laws.FnTables'. -/
def fnTablesCard : Claim7 := { stood := { row := fnTablesRow, standIns := [], harness := (true, "adde47f4a55bf747f2cadb79a3eaec7e0f72f876498d49266aab54de331de4b7"), looks := true }, kinds := [], alts := [], laidByText := true, laidKinds := [.data, .data, .data, .sentinel, .sentinel], laidTests := true, laidLooks := .later }
def FnTablesCardSaid : Prop := Claim7.holds Tryz.pinned (.plain (OpenSpec.ofChange fnTablesSpec)) fnTablesCard

/-- THE TIED CARD OF 'laws.FnPacked'. -/
def fnPackedCard : Claim7 := { stood := { row := fnPackedRow, standIns := [], harness := (true, "adde47f4a55bf747f2cadb79a3eaec7e0f72f876498d49266aab54de331de4b7"), looks := true }, kinds := [], alts := [], laidByText := true, laidKinds := [.data, .data, .data, .sentinel, .sentinel], laidTests := true, laidLooks := .later }
def FnPackedCardSaid : Prop := Claim7.holds Tryz.pinned (.plain (OpenSpec.ofChange fnPackedSpec)) fnPackedCard

/-- THE TIED CARD OF 'laws.FnExactTableOf'. -/
def fnExactTableOfCard : Claim7 := { stood := { row := fnExactTableOfRow, standIns := [], harness := (true, "adde47f4a55bf747f2cadb79a3eaec7e0f72f876498d49266aab54de331de4b7"), looks := true }, kinds := [], alts := [], laidByText := true, laidKinds := [.data, .data, .data, .sentinel, .sentinel], laidTests := true, laidLooks := .later }
def FnExactTableOfCardSaid : Prop := Claim7.holds Tryz.pinned (.plain (OpenSpec.ofChange fnExactTableOfSpec)) fnExactTableOfCard

/-- THE TIED CARD OF 'laws.FnExactSetPath'. -/
def fnExactSetPathCard : Claim7 := { stood := { row := fnExactSetPathRow, standIns := [], harness := (true, "adde47f4a55bf747f2cadb79a3eaec7e0f72f876498d49266aab54de331de4b7"), looks := true }, kinds := [], alts := [], laidByText := true, laidKinds := [.data, .data, .data, .sentinel, .sentinel], laidTests := true, laidLooks := .later }
def FnExactSetPathCardSaid : Prop := Claim7.holds Tryz.pinned (.plain (OpenSpec.ofChange fnExactSetPathSpec)) fnExactSetPathCard

/-- THE TIED CARD OF 'laws.FnExactIsHeap'. -/
def fnExactIsHeapCard : Claim7 := { stood := { row := fnExactIsHeapRow, standIns := [], harness := (true, "adde47f4a55bf747f2cadb79a3eaec7e0f72f876498d49266aab54de331de4b7"), looks := true }, kinds := [], alts := [], laidByText := true, laidKinds := [.data, .data, .data, .sentinel, .sentinel], laidTests := true, laidLooks := .later }
def FnExactIsHeapCardSaid : Prop := Claim7.holds Tryz.pinned (.plain (OpenSpec.ofChange fnExactIsHeapSpec)) fnExactIsHeapCard

/-- THE TIED CARD OF 'laws.FnExactStoreValue'. -/
def fnExactStoreValueCard : Claim7 := { stood := { row := fnExactStoreValueRow, standIns := [], harness := (true, "adde47f4a55bf747f2cadb79a3eaec7e0f72f876498d49266aab54de331de4b7"), looks := true }, kinds := [], alts := [], laidByText := true, laidKinds := [.data, .data, .data, .sentinel, .sentinel], laidTests := true, laidLooks := .later }
def FnExactStoreValueCardSaid : Prop := Claim7.holds Tryz.pinned (.plain (OpenSpec.ofChange fnExactStoreValueSpec)) fnExactStoreValueCard

/-- THE TIED CARD OF 'laws.FnExactLoadValue'. -/
def fnExactLoadValueCard : Claim7 := { stood := { row := fnExactLoadValueRow, standIns := [], harness := (true, "adde47f4a55bf747f2cadb79a3eaec7e0f72f876498d49266aab54de331de4b7"), looks := true }, kinds := [], alts := [], laidByText := true, laidKinds := [.data, .data, .data, .sentinel, .sentinel], laidTests := true, laidLooks := .later }
def FnExactLoadValueCardSaid : Prop := Claim7.holds Tryz.pinned (.plain (OpenSpec.ofChange fnExactLoadValueSpec)) fnExactLoadValueCard

/-- THE TIED CARD OF 'laws.FnExactShareValue'. -/
def fnExactShareValueCard : Claim7 := { stood := { row := fnExactShareValueRow, standIns := [], harness := (true, "adde47f4a55bf747f2cadb79a3eaec7e0f72f876498d49266aab54de331de4b7"), looks := true }, kinds := [], alts := [], laidByText := true, laidKinds := [.data, .data, .data, .sentinel, .sentinel], laidTests := true, laidLooks := .later }
def FnExactShareValueCardSaid : Prop := Claim7.holds Tryz.pinned (.plain (OpenSpec.ofChange fnExactShareValueSpec)) fnExactShareValueCard

/-- THE TIED CARD OF 'laws.FnExactIsCounted'. -/
def fnExactIsCountedCard : Claim7 := { stood := { row := fnExactIsCountedRow, standIns := [], harness := (true, "adde47f4a55bf747f2cadb79a3eaec7e0f72f876498d49266aab54de331de4b7"), looks := true }, kinds := [], alts := [], laidByText := true, laidKinds := [.data, .data, .data, .sentinel, .sentinel], laidTests := true, laidLooks := .later }
def FnExactIsCountedCardSaid : Prop := Claim7.holds Tryz.pinned (.plain (OpenSpec.ofChange fnExactIsCountedSpec)) fnExactIsCountedCard

/-- THE TIED CARD OF 'laws.FnExactDropValue'. -/
def fnExactDropValueCard : Claim7 := { stood := { row := fnExactDropValueRow, standIns := [], harness := (true, "adde47f4a55bf747f2cadb79a3eaec7e0f72f876498d49266aab54de331de4b7"), looks := true }, kinds := [], alts := [], laidByText := true, laidKinds := [.data, .data, .data, .sentinel, .sentinel], laidTests := true, laidLooks := .later }
def FnExactDropValueCardSaid : Prop := Claim7.holds Tryz.pinned (.plain (OpenSpec.ofChange fnExactDropValueSpec)) fnExactDropValueCard

/-- THE SECOND FORM's CARD OF 'laws.FnTables'. -/
def fnTablesUptoCard : Claim7 := { stood := { row := fnTablesUptoRow, standIns := [], harness := (true, "adde47f4a55bf747f2cadb79a3eaec7e0f72f876498d49266aab54de331de4b7"), looks := true }, kinds := [], alts := [], laidByText := true, laidKinds := [.data, .data, .data, .sentinel, .sentinel], laidTests := true, laidLooks := .later }
def FnTablesUptoCardSaid : Prop := Claim7.holds Tryz.pinned (.plain (OpenSpec.upto fnTablesSpec)) fnTablesUptoCard

/-- THE SECOND FORM's CARD OF 'laws.FnPacked'. -/
def fnPackedUptoCard : Claim7 := { stood := { row := fnPackedUptoRow, standIns := [], harness := (true, "adde47f4a55bf747f2cadb79a3eaec7e0f72f876498d49266aab54de331de4b7"), looks := true }, kinds := [], alts := [], laidByText := true, laidKinds := [.data, .data, .data, .sentinel, .sentinel], laidTests := true, laidLooks := .later }
def FnPackedUptoCardSaid : Prop := Claim7.holds Tryz.pinned (.plain (OpenSpec.upto fnPackedSpec)) fnPackedUptoCard

/-- THE SECOND FORM's CARD OF 'laws.FnExactTableOf'. -/
def fnExactTableOfUptoCard : Claim7 := { stood := { row := fnExactTableOfUptoRow, standIns := [], harness := (true, "adde47f4a55bf747f2cadb79a3eaec7e0f72f876498d49266aab54de331de4b7"), looks := true }, kinds := [], alts := [], laidByText := true, laidKinds := [.data, .data, .data, .sentinel, .sentinel], laidTests := true, laidLooks := .later }
def FnExactTableOfUptoCardSaid : Prop := Claim7.holds Tryz.pinned (.plain (OpenSpec.upto fnExactTableOfSpec)) fnExactTableOfUptoCard

/-- THE SECOND FORM's CARD OF 'laws.FnExactSetPath'. -/
def fnExactSetPathUptoCard : Claim7 := { stood := { row := fnExactSetPathUptoRow, standIns := [], harness := (true, "adde47f4a55bf747f2cadb79a3eaec7e0f72f876498d49266aab54de331de4b7"), looks := true }, kinds := [], alts := [], laidByText := true, laidKinds := [.data, .data, .data, .sentinel, .sentinel], laidTests := true, laidLooks := .later }
def FnExactSetPathUptoCardSaid : Prop := Claim7.holds Tryz.pinned (.plain (OpenSpec.upto fnExactSetPathSpec)) fnExactSetPathUptoCard

/-- THE SECOND FORM's CARD OF 'laws.FnExactIsHeap'. -/
def fnExactIsHeapUptoCard : Claim7 := { stood := { row := fnExactIsHeapUptoRow, standIns := [], harness := (true, "adde47f4a55bf747f2cadb79a3eaec7e0f72f876498d49266aab54de331de4b7"), looks := true }, kinds := [], alts := [], laidByText := true, laidKinds := [.data, .data, .data, .sentinel, .sentinel], laidTests := true, laidLooks := .later }
def FnExactIsHeapUptoCardSaid : Prop := Claim7.holds Tryz.pinned (.plain (OpenSpec.upto fnExactIsHeapSpec)) fnExactIsHeapUptoCard

/-- THE SECOND FORM's CARD OF 'laws.FnExactStoreValue'. -/
def fnExactStoreValueUptoCard : Claim7 := { stood := { row := fnExactStoreValueUptoRow, standIns := [], harness := (true, "adde47f4a55bf747f2cadb79a3eaec7e0f72f876498d49266aab54de331de4b7"), looks := true }, kinds := [], alts := [], laidByText := true, laidKinds := [.data, .data, .data, .sentinel, .sentinel], laidTests := true, laidLooks := .later }
def FnExactStoreValueUptoCardSaid : Prop := Claim7.holds Tryz.pinned (.plain (OpenSpec.upto fnExactStoreValueSpec)) fnExactStoreValueUptoCard

/-- THE SECOND FORM's CARD OF 'laws.FnExactLoadValue'. -/
def fnExactLoadValueUptoCard : Claim7 := { stood := { row := fnExactLoadValueUptoRow, standIns := [], harness := (true, "adde47f4a55bf747f2cadb79a3eaec7e0f72f876498d49266aab54de331de4b7"), looks := true }, kinds := [], alts := [], laidByText := true, laidKinds := [.data, .data, .data, .sentinel, .sentinel], laidTests := true, laidLooks := .later }
def FnExactLoadValueUptoCardSaid : Prop := Claim7.holds Tryz.pinned (.plain (OpenSpec.upto fnExactLoadValueSpec)) fnExactLoadValueUptoCard

/-- THE SECOND FORM's CARD OF 'laws.FnExactShareValue'. -/
def fnExactShareValueUptoCard : Claim7 := { stood := { row := fnExactShareValueUptoRow, standIns := [], harness := (true, "adde47f4a55bf747f2cadb79a3eaec7e0f72f876498d49266aab54de331de4b7"), looks := true }, kinds := [], alts := [], laidByText := true, laidKinds := [.data, .data, .data, .sentinel, .sentinel], laidTests := true, laidLooks := .later }
def FnExactShareValueUptoCardSaid : Prop := Claim7.holds Tryz.pinned (.plain (OpenSpec.upto fnExactShareValueSpec)) fnExactShareValueUptoCard

/-- THE SECOND FORM's CARD OF 'laws.FnExactIsCounted'. -/
def fnExactIsCountedUptoCard : Claim7 := { stood := { row := fnExactIsCountedUptoRow, standIns := [], harness := (true, "adde47f4a55bf747f2cadb79a3eaec7e0f72f876498d49266aab54de331de4b7"), looks := true }, kinds := [], alts := [], laidByText := true, laidKinds := [.data, .data, .data, .sentinel, .sentinel], laidTests := true, laidLooks := .later }
def FnExactIsCountedUptoCardSaid : Prop := Claim7.holds Tryz.pinned (.plain (OpenSpec.upto fnExactIsCountedSpec)) fnExactIsCountedUptoCard

/-- THE SECOND FORM's CARD OF 'laws.FnExactDropValue'. -/
def fnExactDropValueUptoCard : Claim7 := { stood := { row := fnExactDropValueUptoRow, standIns := [], harness := (true, "adde47f4a55bf747f2cadb79a3eaec7e0f72f876498d49266aab54de331de4b7"), looks := true }, kinds := [], alts := [], laidByText := true, laidKinds := [.data, .data, .data, .sentinel, .sentinel], laidTests := true, laidLooks := .later }
def FnExactDropValueUptoCardSaid : Prop := Claim7.holds Tryz.pinned (.plain (OpenSpec.upto fnExactDropValueSpec)) fnExactDropValueUptoCard
end Rows
end Go.Proofs.YtbgffmiffmmohaaGreatDoor
