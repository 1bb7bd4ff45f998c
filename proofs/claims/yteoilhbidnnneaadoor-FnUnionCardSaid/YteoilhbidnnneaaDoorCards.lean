/-
  DERIVED. GIVEN WITH THE SEED: THE CARDS: each row of YteoilhbidnnneaaDoorRows.lean that lists a variable, with what it lists TIED to the program's text (the seventh form; the later family's looks); each row that meets fmt, with fmt's text TOLD by the authors' own Lean function (tested against real Go, not proved from fmt's source: count such statements apart). THE CARD IS WHAT COUNTS. Prove the row's statement (the work); the ties are given (YteoilhbidnnneaaDoorTie.lean); close each card by the builder's one call (the guide's Derived/Test/ToyasCard.lean, 'card_holds'). Laid BY PROGRAM, IN A SANDBOX (cutbox-door.mjs). By AI agents, Wed Nov 11 2026. No macro, syntax, notation, axiom, sorry.
-/
import Derived.Test.YteoilhbidnnneaaDoorRows
import GoSem.ClaimSeven
namespace Go.Proofs.YteoilhbidnnneaaDoor
namespace Rows

/-- THE TIED CARD OF 'laws.FnUnion'. -/
def fnUnionCard : Claim7 := { stood := { row := fnUnionRow, standIns := [], harness := (true, "c04f949d07801e757e05dc0139ac698034514d14b333f70b598cf56a81b84bbe"), looks := true }, kinds := [], alts := [], laidByText := true, laidKinds := [.data, .data, .data, .sentinel, .sentinel], laidTests := true, laidLooks := .later }
def FnUnionCardSaid : Prop := Claim7.holds Tryd.pinned (.plain (OpenSpec.ofChange fnUnionSpec)) fnUnionCard

/-- THE TIED CARD OF 'laws.FnExactOpSymbol'. -/
def fnExactOpSymbolCard : Claim7 := { stood := { row := fnExactOpSymbolRow, standIns := [], harness := (true, "c04f949d07801e757e05dc0139ac698034514d14b333f70b598cf56a81b84bbe"), looks := true }, kinds := [], alts := [], laidByText := true, laidKinds := [.data], laidTests := true, laidLooks := .later }
def FnExactOpSymbolCardSaid : Prop := Claim7.holds Tryd.pinned (.plain (OpenSpec.ofChange fnExactOpSymbolSpec)) fnExactOpSymbolCard

/-- THE TIED CARD OF 'laws.FnExactOpOf'. -/
def fnExactOpOfCard : Claim7 := { stood := { row := fnExactOpOfRow, standIns := [], harness := (true, "c04f949d07801e757e05dc0139ac698034514d14b333f70b598cf56a81b84bbe"), looks := true }, kinds := [], alts := [], laidByText := true, laidKinds := [.data], laidTests := true, laidLooks := .later }
def FnExactOpOfCardSaid : Prop := Claim7.holds Tryd.pinned (.plain (OpenSpec.ofChange fnExactOpOfSpec)) fnExactOpOfCard

/-- THE TIED CARD OF 'laws.FnExactUnion'. -/
def fnExactUnionCard : Claim7 := { stood := { row := fnExactUnionRow, standIns := [], harness := (true, "c04f949d07801e757e05dc0139ac698034514d14b333f70b598cf56a81b84bbe"), looks := true }, kinds := [], alts := [], laidByText := true, laidKinds := [.data, .data, .data, .sentinel, .sentinel], laidTests := true, laidLooks := .later }
def FnExactUnionCardSaid : Prop := Claim7.holds Tryd.pinned (.plain (OpenSpec.ofChange fnExactUnionSpec)) fnExactUnionCard

/-- THE SECOND FORM's CARD OF 'laws.FnUnion'. -/
def fnUnionUptoCard : Claim7 := { stood := { row := fnUnionUptoRow, standIns := [], harness := (true, "c04f949d07801e757e05dc0139ac698034514d14b333f70b598cf56a81b84bbe"), looks := true }, kinds := [], alts := [], laidByText := true, laidKinds := [.data, .data, .data, .sentinel, .sentinel], laidTests := true, laidLooks := .later }
def FnUnionUptoCardSaid : Prop := Claim7.holds Tryd.pinned (.plain (OpenSpec.upto fnUnionSpec)) fnUnionUptoCard

/-- THE SECOND FORM's CARD OF 'laws.FnExactOpSymbol'. -/
def fnExactOpSymbolUptoCard : Claim7 := { stood := { row := fnExactOpSymbolUptoRow, standIns := [], harness := (true, "c04f949d07801e757e05dc0139ac698034514d14b333f70b598cf56a81b84bbe"), looks := true }, kinds := [], alts := [], laidByText := true, laidKinds := [.data], laidTests := true, laidLooks := .later }
def FnExactOpSymbolUptoCardSaid : Prop := Claim7.holds Tryd.pinned (.plain (OpenSpec.upto fnExactOpSymbolSpec)) fnExactOpSymbolUptoCard

/-- THE SECOND FORM's CARD OF 'laws.FnExactOpOf'. -/
def fnExactOpOfUptoCard : Claim7 := { stood := { row := fnExactOpOfUptoRow, standIns := [], harness := (true, "c04f949d07801e757e05dc0139ac698034514d14b333f70b598cf56a81b84bbe"), looks := true }, kinds := [], alts := [], laidByText := true, laidKinds := [.data], laidTests := true, laidLooks := .later }
def FnExactOpOfUptoCardSaid : Prop := Claim7.holds Tryd.pinned (.plain (OpenSpec.upto fnExactOpOfSpec)) fnExactOpOfUptoCard

/-- THE SECOND FORM's CARD OF 'laws.FnExactUnion'. -/
def fnExactUnionUptoCard : Claim7 := { stood := { row := fnExactUnionUptoRow, standIns := [], harness := (true, "c04f949d07801e757e05dc0139ac698034514d14b333f70b598cf56a81b84bbe"), looks := true }, kinds := [], alts := [], laidByText := true, laidKinds := [.data, .data, .data, .sentinel, .sentinel], laidTests := true, laidLooks := .later }
def FnExactUnionUptoCardSaid : Prop := Claim7.holds Tryd.pinned (.plain (OpenSpec.upto fnExactUnionSpec)) fnExactUnionUptoCard
end Rows
end Go.Proofs.YteoilhbidnnneaaDoor
