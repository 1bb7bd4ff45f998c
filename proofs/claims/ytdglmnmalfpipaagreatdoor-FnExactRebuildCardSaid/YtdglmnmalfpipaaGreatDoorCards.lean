/-
  DERIVED. GIVEN WITH THE SEED: THE CARDS: each row of YtdglmnmalfpipaaGreatDoorRows.lean that lists a variable, with what it lists TIED to the program's text (the seventh form; the later family's looks); each row that meets fmt, with fmt's text TOLD by the authors' own Lean function (tested against real Go, not proved from fmt's source: count such statements apart). THE CARD IS WHAT COUNTS. Prove the row's statement (the work); the ties are given (YtdglmnmalfpipaaGreatDoorTie.lean); close each card by the builder's one call (the guide's Derived/Test/ToyasCard.lean, 'card_holds'). Laid BY PROGRAM, IN A SANDBOX (cutbox-door.mjs). By AI agents, Wed Nov 11 2026. No macro, syntax, notation, axiom, sorry.
-/
import Derived.Test.YtdglmnmalfpipaaGreatDoorRows
import GoSem.ClaimSeven
namespace Go.Proofs.YtdglmnmalfpipaaGreatDoor
namespace Rows

/-- THE TIED CARD OF 'laws.FnTables'. -/
def fnTablesCard : Claim7 := { stood := { row := fnTablesRow, standIns := [], harness := (true, "90241e785e25b50033f9f7de6e9c4d8f86129f24e452f39541746f8807151981"), looks := true }, kinds := [], alts := [], laidByText := true, laidKinds := [.data, .data, .data, .sentinel, .sentinel], laidTests := true, laidLooks := .later }
def FnTablesCardSaid : Prop := Claim7.holds Tryz.pinned (.plain (OpenSpec.ofChange fnTablesSpec)) fnTablesCard

/-- THE TIED CARD OF 'laws.FnPacked'. -/
def fnPackedCard : Claim7 := { stood := { row := fnPackedRow, standIns := [], harness := (true, "90241e785e25b50033f9f7de6e9c4d8f86129f24e452f39541746f8807151981"), looks := true }, kinds := [], alts := [], laidByText := true, laidKinds := [.data, .data, .data, .sentinel, .sentinel], laidTests := true, laidLooks := .later }
def FnPackedCardSaid : Prop := Claim7.holds Tryz.pinned (.plain (OpenSpec.ofChange fnPackedSpec)) fnPackedCard

/-- THE TIED CARD OF 'laws.FnSerial'. -/
def fnSerialCard : Claim7 := { stood := { row := fnSerialRow, standIns := [], harness := (true, "90241e785e25b50033f9f7de6e9c4d8f86129f24e452f39541746f8807151981"), looks := true }, kinds := [], alts := [], laidByText := true, laidKinds := [.data, .data, .data, .sentinel, .sentinel, .sentinel], laidTests := true, laidLooks := .later }
def FnSerialCardSaid : Prop := Claim7.holds Tryz.pinned (.plain (OpenSpec.ofChange fnSerialSpec)) fnSerialCard

/-- THE TIED CARD OF 'laws.FnOperators'. -/
def fnOperatorsCard : Claim7 := { stood := { row := fnOperatorsRow, standIns := [], harness := (true, "90241e785e25b50033f9f7de6e9c4d8f86129f24e452f39541746f8807151981"), looks := true }, kinds := [], alts := [], laidByText := true, laidKinds := [.data, .data, .data, .sentinel, .sentinel, .data, .sentinel, .sentinel], laidTests := true, laidLooks := .later }
def FnOperatorsCardSaid : Prop := Claim7.holds Tryz.pinned (.plain (OpenSpec.ofChange fnOperatorsSpec)) fnOperatorsCard

/-- THE TIED CARD OF 'laws.FnExactTableSet'. -/
def fnExactTableSetCard : Claim7 := { stood := { row := fnExactTableSetRow, standIns := [], harness := (true, "90241e785e25b50033f9f7de6e9c4d8f86129f24e452f39541746f8807151981"), looks := true }, kinds := [], alts := [], laidByText := true, laidKinds := [.data, .data, .data, .sentinel, .sentinel], laidTests := true, laidLooks := .later }
def FnExactTableSetCardSaid : Prop := Claim7.holds Tryz.pinned (.plain (OpenSpec.ofChange fnExactTableSetSpec)) fnExactTableSetCard

/-- THE TIED CARD OF 'laws.FnExactTableDelete'. -/
def fnExactTableDeleteCard : Claim7 := { stood := { row := fnExactTableDeleteRow, standIns := [], harness := (true, "90241e785e25b50033f9f7de6e9c4d8f86129f24e452f39541746f8807151981"), looks := true }, kinds := [], alts := [], laidByText := true, laidKinds := [.data, .data, .data, .sentinel, .sentinel], laidTests := true, laidLooks := .later }
def FnExactTableDeleteCardSaid : Prop := Claim7.holds Tryz.pinned (.plain (OpenSpec.ofChange fnExactTableDeleteSpec)) fnExactTableDeleteCard

/-- THE TIED CARD OF 'laws.FnExactRebuild'. -/
def fnExactRebuildCard : Claim7 := { stood := { row := fnExactRebuildRow, standIns := [], harness := (true, "90241e785e25b50033f9f7de6e9c4d8f86129f24e452f39541746f8807151981"), looks := true }, kinds := [], alts := [], laidByText := true, laidKinds := [.data, .data, .data, .sentinel, .sentinel], laidTests := true, laidLooks := .later }
def FnExactRebuildCardSaid : Prop := Claim7.holds Tryz.pinned (.plain (OpenSpec.ofChange fnExactRebuildSpec)) fnExactRebuildCard

/-- THE TIED CARD OF 'laws.FnExactTableOf'. -/
def fnExactTableOfCard : Claim7 := { stood := { row := fnExactTableOfRow, standIns := [], harness := (true, "90241e785e25b50033f9f7de6e9c4d8f86129f24e452f39541746f8807151981"), looks := true }, kinds := [], alts := [], laidByText := true, laidKinds := [.data, .data, .data, .sentinel, .sentinel], laidTests := true, laidLooks := .later }
def FnExactTableOfCardSaid : Prop := Claim7.holds Tryz.pinned (.plain (OpenSpec.ofChange fnExactTableOfSpec)) fnExactTableOfCard

/-- THE SECOND FORM's CARD OF 'laws.FnTables'. -/
def fnTablesUptoCard : Claim7 := { stood := { row := fnTablesUptoRow, standIns := [], harness := (true, "90241e785e25b50033f9f7de6e9c4d8f86129f24e452f39541746f8807151981"), looks := true }, kinds := [], alts := [], laidByText := true, laidKinds := [.data, .data, .data, .sentinel, .sentinel], laidTests := true, laidLooks := .later }
def FnTablesUptoCardSaid : Prop := Claim7.holds Tryz.pinned (.plain (OpenSpec.upto fnTablesSpec)) fnTablesUptoCard

/-- THE SECOND FORM's CARD OF 'laws.FnPacked'. -/
def fnPackedUptoCard : Claim7 := { stood := { row := fnPackedUptoRow, standIns := [], harness := (true, "90241e785e25b50033f9f7de6e9c4d8f86129f24e452f39541746f8807151981"), looks := true }, kinds := [], alts := [], laidByText := true, laidKinds := [.data, .data, .data, .sentinel, .sentinel], laidTests := true, laidLooks := .later }
def FnPackedUptoCardSaid : Prop := Claim7.holds Tryz.pinned (.plain (OpenSpec.upto fnPackedSpec)) fnPackedUptoCard

/-- THE SECOND FORM's CARD OF 'laws.FnSerial'. -/
def fnSerialUptoCard : Claim7 := { stood := { row := fnSerialUptoRow, standIns := [], harness := (true, "90241e785e25b50033f9f7de6e9c4d8f86129f24e452f39541746f8807151981"), looks := true }, kinds := [], alts := [], laidByText := true, laidKinds := [.data, .data, .data, .sentinel, .sentinel, .sentinel], laidTests := true, laidLooks := .later }
def FnSerialUptoCardSaid : Prop := Claim7.holds Tryz.pinned (.plain (OpenSpec.upto fnSerialSpec)) fnSerialUptoCard

/-- THE SECOND FORM's CARD OF 'laws.FnOperators'. -/
def fnOperatorsUptoCard : Claim7 := { stood := { row := fnOperatorsUptoRow, standIns := [], harness := (true, "90241e785e25b50033f9f7de6e9c4d8f86129f24e452f39541746f8807151981"), looks := true }, kinds := [], alts := [], laidByText := true, laidKinds := [.data, .data, .data, .sentinel, .sentinel, .data, .sentinel, .sentinel], laidTests := true, laidLooks := .later }
def FnOperatorsUptoCardSaid : Prop := Claim7.holds Tryz.pinned (.plain (OpenSpec.upto fnOperatorsSpec)) fnOperatorsUptoCard

/-- THE SECOND FORM's CARD OF 'laws.FnExactTableSet'. -/
def fnExactTableSetUptoCard : Claim7 := { stood := { row := fnExactTableSetUptoRow, standIns := [], harness := (true, "90241e785e25b50033f9f7de6e9c4d8f86129f24e452f39541746f8807151981"), looks := true }, kinds := [], alts := [], laidByText := true, laidKinds := [.data, .data, .data, .sentinel, .sentinel], laidTests := true, laidLooks := .later }
def FnExactTableSetUptoCardSaid : Prop := Claim7.holds Tryz.pinned (.plain (OpenSpec.upto fnExactTableSetSpec)) fnExactTableSetUptoCard

/-- THE SECOND FORM's CARD OF 'laws.FnExactTableDelete'. -/
def fnExactTableDeleteUptoCard : Claim7 := { stood := { row := fnExactTableDeleteUptoRow, standIns := [], harness := (true, "90241e785e25b50033f9f7de6e9c4d8f86129f24e452f39541746f8807151981"), looks := true }, kinds := [], alts := [], laidByText := true, laidKinds := [.data, .data, .data, .sentinel, .sentinel], laidTests := true, laidLooks := .later }
def FnExactTableDeleteUptoCardSaid : Prop := Claim7.holds Tryz.pinned (.plain (OpenSpec.upto fnExactTableDeleteSpec)) fnExactTableDeleteUptoCard

/-- THE SECOND FORM's CARD OF 'laws.FnExactRebuild'. -/
def fnExactRebuildUptoCard : Claim7 := { stood := { row := fnExactRebuildUptoRow, standIns := [], harness := (true, "90241e785e25b50033f9f7de6e9c4d8f86129f24e452f39541746f8807151981"), looks := true }, kinds := [], alts := [], laidByText := true, laidKinds := [.data, .data, .data, .sentinel, .sentinel], laidTests := true, laidLooks := .later }
def FnExactRebuildUptoCardSaid : Prop := Claim7.holds Tryz.pinned (.plain (OpenSpec.upto fnExactRebuildSpec)) fnExactRebuildUptoCard

/-- THE SECOND FORM's CARD OF 'laws.FnExactTableOf'. -/
def fnExactTableOfUptoCard : Claim7 := { stood := { row := fnExactTableOfUptoRow, standIns := [], harness := (true, "90241e785e25b50033f9f7de6e9c4d8f86129f24e452f39541746f8807151981"), looks := true }, kinds := [], alts := [], laidByText := true, laidKinds := [.data, .data, .data, .sentinel, .sentinel], laidTests := true, laidLooks := .later }
def FnExactTableOfUptoCardSaid : Prop := Claim7.holds Tryz.pinned (.plain (OpenSpec.upto fnExactTableOfSpec)) fnExactTableOfUptoCard
end Rows
end Go.Proofs.YtdglmnmalfpipaaGreatDoor
