/-
  DERIVED. GIVEN WITH THE SEED: THE CARDS: each row of YteoilhbidnnneaaGreatDoorRows.lean that lists a variable, with what it lists TIED to the program's text (the seventh form; the later family's looks); each row that meets fmt, with fmt's text TOLD by the authors' own Lean function (tested against real Go, not proved from fmt's source: count such statements apart). THE CARD IS WHAT COUNTS. Prove the row's statement (the work); the ties are given (YteoilhbidnnneaaGreatDoorTie.lean); close each card by the builder's one call (the guide's Derived/Test/ToyasCard.lean, 'card_holds'). Laid BY PROGRAM, IN A SANDBOX (cutbox-door.mjs). By AI agents, Wed Nov 11 2026. No macro, syntax, notation, axiom, sorry.
-/
import Derived.Test.YteoilhbidnnneaaGreatDoorRows
import GoSem.ClaimSeven
namespace Go.Proofs.YteoilhbidnnneaaGreatDoor
namespace Rows

/-- THE TIED CARD OF 'laws.FnOperators'. -/
def fnOperatorsCard : Claim7 := { stood := { row := fnOperatorsRow, standIns := [], harness := (true, "4ae32979ca94d4f69c14432c95f1be19a08502ce79e312f25a9c8573b9d785cf"), looks := true }, kinds := [], alts := [], laidByText := true, laidKinds := [.data, .data, .data, .sentinel, .sentinel, .data, .sentinel, .sentinel], laidTests := true, laidLooks := .later }
def FnOperatorsCardSaid : Prop := Claim7.holds Tryz.pinned (.plain (OpenSpec.ofChange fnOperatorsSpec)) fnOperatorsCard

/-- THE TIED CARD OF 'laws.FnExactBinaryOp'. -/
def fnExactBinaryOpCard : Claim7 := { stood := { row := fnExactBinaryOpRow, standIns := [], harness := (true, "4ae32979ca94d4f69c14432c95f1be19a08502ce79e312f25a9c8573b9d785cf"), looks := true }, kinds := [], alts := [], laidByText := true, laidKinds := [.data, .data, .data, .sentinel, .sentinel, .sentinel, .sentinel], laidTests := true, laidLooks := .later }
def FnExactBinaryOpCardSaid : Prop := Claim7.holds Tryz.pinned (.plain (OpenSpec.ofChange fnExactBinaryOpSpec)) fnExactBinaryOpCard

/-- THE TIED CARD OF 'laws.FnExactUnaryOp'. -/
def fnExactUnaryOpCard : Claim7 := { stood := { row := fnExactUnaryOpRow, standIns := [], harness := (true, "4ae32979ca94d4f69c14432c95f1be19a08502ce79e312f25a9c8573b9d785cf"), looks := true }, kinds := [], alts := [], laidByText := true, laidKinds := [.data, .data, .data, .sentinel, .sentinel, .sentinel, .sentinel], laidTests := true, laidLooks := .later }
def FnExactUnaryOpCardSaid : Prop := Claim7.holds Tryz.pinned (.plain (OpenSpec.ofChange fnExactUnaryOpSpec)) fnExactUnaryOpCard

/-- THE SECOND FORM's CARD OF 'laws.FnOperators'. -/
def fnOperatorsUptoCard : Claim7 := { stood := { row := fnOperatorsUptoRow, standIns := [], harness := (true, "4ae32979ca94d4f69c14432c95f1be19a08502ce79e312f25a9c8573b9d785cf"), looks := true }, kinds := [], alts := [], laidByText := true, laidKinds := [.data, .data, .data, .sentinel, .sentinel, .data, .sentinel, .sentinel], laidTests := true, laidLooks := .later }
def FnOperatorsUptoCardSaid : Prop := Claim7.holds Tryz.pinned (.plain (OpenSpec.upto fnOperatorsSpec)) fnOperatorsUptoCard

/-- THE SECOND FORM's CARD OF 'laws.FnExactBinaryOp'. -/
def fnExactBinaryOpUptoCard : Claim7 := { stood := { row := fnExactBinaryOpUptoRow, standIns := [], harness := (true, "4ae32979ca94d4f69c14432c95f1be19a08502ce79e312f25a9c8573b9d785cf"), looks := true }, kinds := [], alts := [], laidByText := true, laidKinds := [.data, .data, .data, .sentinel, .sentinel, .sentinel, .sentinel], laidTests := true, laidLooks := .later }
def FnExactBinaryOpUptoCardSaid : Prop := Claim7.holds Tryz.pinned (.plain (OpenSpec.upto fnExactBinaryOpSpec)) fnExactBinaryOpUptoCard

/-- THE SECOND FORM's CARD OF 'laws.FnExactUnaryOp'. -/
def fnExactUnaryOpUptoCard : Claim7 := { stood := { row := fnExactUnaryOpUptoRow, standIns := [], harness := (true, "4ae32979ca94d4f69c14432c95f1be19a08502ce79e312f25a9c8573b9d785cf"), looks := true }, kinds := [], alts := [], laidByText := true, laidKinds := [.data, .data, .data, .sentinel, .sentinel, .sentinel, .sentinel], laidTests := true, laidLooks := .later }
def FnExactUnaryOpUptoCardSaid : Prop := Claim7.holds Tryz.pinned (.plain (OpenSpec.upto fnExactUnaryOpSpec)) fnExactUnaryOpUptoCard
end Rows
end Go.Proofs.YteoilhbidnnneaaGreatDoor
