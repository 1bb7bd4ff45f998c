/-
  DERIVED. GIVEN WITH THE SEED: THE CARDS: each row of YtdglmnmalfpipaaDoorRows.lean that lists a variable, with what it lists TIED to the program's text (the seventh form; the later family's looks); each row that meets fmt, with fmt's text TOLD by the authors' own Lean function (tested against real Go, not proved from fmt's source: count such statements apart). THE CARD IS WHAT COUNTS. Prove the row's statement (the work); the ties are given (YtdglmnmalfpipaaDoorTie.lean); close each card by the builder's one call (the guide's Derived/Test/ToyasCard.lean, 'card_holds'). Laid BY PROGRAM, IN A SANDBOX (cutbox-door.mjs). By AI agents, Wed Nov 11 2026. No macro, syntax, notation, axiom, sorry.
-/
import Derived.Test.YtdglmnmalfpipaaDoorRows
import GoSem.ClaimSeven
namespace Go.Proofs.YtdglmnmalfpipaaDoor
namespace Rows

/-- THE TIED CARD OF 'laws.FnExactSerialize'. -/
def fnExactSerializeCard : Claim7 := { stood := { row := fnExactSerializeRow, standIns := [], harness := (true, "02b4a0a29be178435ef9586c45fb353673048d82ceb4fa54c27929e44573db38"), looks := true }, kinds := [], alts := [], laidByText := true, laidKinds := [.data, .data, .data, .sentinel, .sentinel, .sentinel], laidTests := true, laidLooks := .later }
def FnExactSerializeCardSaid : Prop := Claim7.holds Tryd.pinned (.plain (OpenSpec.ofChange fnExactSerializeSpec)) fnExactSerializeCard

/-- THE TIED CARD OF 'laws.FnExactUnserialize'. -/
def fnExactUnserializeCard : Claim7 := { stood := { row := fnExactUnserializeRow, standIns := [], harness := (true, "02b4a0a29be178435ef9586c45fb353673048d82ceb4fa54c27929e44573db38"), looks := true }, kinds := [], alts := [], laidByText := true, laidKinds := [.data, .data, .data, .sentinel, .sentinel], laidTests := true, laidLooks := .later }
def FnExactUnserializeCardSaid : Prop := Claim7.holds Tryd.pinned (.plain (OpenSpec.ofChange fnExactUnserializeSpec)) fnExactUnserializeCard

/-- THE SECOND FORM's CARD OF 'laws.FnExactSerialize'. -/
def fnExactSerializeUptoCard : Claim7 := { stood := { row := fnExactSerializeUptoRow, standIns := [], harness := (true, "02b4a0a29be178435ef9586c45fb353673048d82ceb4fa54c27929e44573db38"), looks := true }, kinds := [], alts := [], laidByText := true, laidKinds := [.data, .data, .data, .sentinel, .sentinel, .sentinel], laidTests := true, laidLooks := .later }
def FnExactSerializeUptoCardSaid : Prop := Claim7.holds Tryd.pinned (.plain (OpenSpec.upto fnExactSerializeSpec)) fnExactSerializeUptoCard

/-- THE SECOND FORM's CARD OF 'laws.FnExactUnserialize'. -/
def fnExactUnserializeUptoCard : Claim7 := { stood := { row := fnExactUnserializeUptoRow, standIns := [], harness := (true, "02b4a0a29be178435ef9586c45fb353673048d82ceb4fa54c27929e44573db38"), looks := true }, kinds := [], alts := [], laidByText := true, laidKinds := [.data, .data, .data, .sentinel, .sentinel], laidTests := true, laidLooks := .later }
def FnExactUnserializeUptoCardSaid : Prop := Claim7.holds Tryd.pinned (.plain (OpenSpec.upto fnExactUnserializeSpec)) fnExactUnserializeUptoCard
end Rows
end Go.Proofs.YtdglmnmalfpipaaDoor
