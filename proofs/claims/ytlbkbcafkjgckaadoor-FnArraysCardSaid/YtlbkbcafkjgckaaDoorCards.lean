/-
  DERIVED. GIVEN WITH THE SEED: THE CARDS: each row of YtlbkbcafkjgckaaDoorRows.lean that lists a variable, with what it lists TIED to the program's text (the seventh form; the later family's looks); each row that meets fmt, with fmt's text TOLD by the authors' own Lean function (tested against real Go, not proved from fmt's source: count such statements apart). THE CARD IS WHAT COUNTS. Prove the row's statement (the work); the ties are given (YtlbkbcafkjgckaaDoorTie.lean); close each card by the builder's one call (the guide's Derived/Test/ToyasCard.lean, 'card_holds'). Laid BY PROGRAM, IN A SANDBOX (cutbox-door.mjs). By AI agents, Wed Nov 11 2026. No macro, syntax, notation, axiom, sorry.
-/
import Derived.Test.YtlbkbcafkjgckaaDoorRows
import GoSem.ClaimSeven
namespace Go.Proofs.YtlbkbcafkjgckaaDoor
namespace Rows

/-- THE TIED CARD OF 'laws.FnArrays'. -/
def fnArraysCard : Claim7 := { stood := { row := fnArraysRow, standIns := [], harness := (true, "4e9df62bebfa461cae7025730071f93c426c1c01f61e8c73b1a69af203deb52d"), looks := true }, kinds := [], alts := [], laidByText := true, laidKinds := [.data, .data, .data, .sentinel, .sentinel], laidTests := true, laidLooks := .later }
def FnArraysCardSaid : Prop := Claim7.holds Tryd.pinned (.plain (OpenSpec.ofChange fnArraysSpec)) fnArraysCard

/-- THE TIED CARD OF 'laws.FnCompare'. -/
def fnCompareCard : Claim7 := { stood := { row := fnCompareRow, standIns := [], harness := (true, "4e9df62bebfa461cae7025730071f93c426c1c01f61e8c73b1a69af203deb52d"), looks := true }, kinds := [], alts := [], laidByText := true, laidKinds := [.data, .data, .data, .sentinel, .sentinel], laidTests := true, laidLooks := .later }
def FnCompareCardSaid : Prop := Claim7.holds Tryd.pinned (.plain (OpenSpec.ofChange fnCompareSpec)) fnCompareCard

/-- THE TIED CARD OF 'laws.FnSort'. -/
def fnSortCard : Claim7 := { stood := { row := fnSortRow, standIns := [], harness := (true, "4e9df62bebfa461cae7025730071f93c426c1c01f61e8c73b1a69af203deb52d"), looks := true }, kinds := [], alts := [], laidByText := true, laidKinds := [.data, .data, .data, .sentinel, .sentinel], laidTests := true, laidLooks := .later }
def FnSortCardSaid : Prop := Claim7.holds Tryd.pinned (.plain (OpenSpec.ofChange fnSortSpec)) fnSortCard

/-- THE TIED CARD OF 'laws.FnConversions'. -/
def fnConversionsCard : Claim7 := { stood := { row := fnConversionsRow, standIns := [], harness := (true, "4e9df62bebfa461cae7025730071f93c426c1c01f61e8c73b1a69af203deb52d"), looks := true }, kinds := [], alts := [], laidByText := true, laidKinds := [.data, .data, .data, .sentinel, .sentinel, .sentinel, .sentinel], laidTests := true, laidLooks := .later }
def FnConversionsCardSaid : Prop := Claim7.holds Tryd.pinned (.plain (OpenSpec.ofChange fnConversionsSpec)) fnConversionsCard

/-- THE TIED CARD OF 'laws.FnExactToText'. -/
def fnExactToTextCard : Claim7 := { stood := { row := fnExactToTextRow, standIns := [], harness := (true, "4e9df62bebfa461cae7025730071f93c426c1c01f61e8c73b1a69af203deb52d"), looks := true }, kinds := [], alts := [], laidByText := true, laidKinds := [.data, .data, .data, .sentinel], laidTests := true, laidLooks := .later }
def FnExactToTextCardSaid : Prop := Claim7.holds Tryd.pinned (.plain (OpenSpec.ofChange fnExactToTextSpec)) fnExactToTextCard

/-- THE TIED CARD OF 'laws.FnExactToNumber'. -/
def fnExactToNumberCard : Claim7 := { stood := { row := fnExactToNumberRow, standIns := [], harness := (true, "4e9df62bebfa461cae7025730071f93c426c1c01f61e8c73b1a69af203deb52d"), looks := true }, kinds := [], alts := [], laidByText := true, laidKinds := [.sentinel, .sentinel], laidTests := true, laidLooks := .later }
def FnExactToNumberCardSaid : Prop := Claim7.holds Tryd.pinned (.plain (OpenSpec.ofChange fnExactToNumberSpec)) fnExactToNumberCard

/-- THE TIED CARD OF 'laws.FnExactCompareValues'. -/
def fnExactCompareValuesCard : Claim7 := { stood := { row := fnExactCompareValuesRow, standIns := [], harness := (true, "4e9df62bebfa461cae7025730071f93c426c1c01f61e8c73b1a69af203deb52d"), looks := true }, kinds := [], alts := [], laidByText := true, laidKinds := [.data, .data, .data, .sentinel, .sentinel], laidTests := true, laidLooks := .later }
def FnExactCompareValuesCardSaid : Prop := Claim7.holds Tryd.pinned (.plain (OpenSpec.ofChange fnExactCompareValuesSpec)) fnExactCompareValuesCard

/-- THE TIED CARD OF 'laws.FnExactLooseEqual'. -/
def fnExactLooseEqualCard : Claim7 := { stood := { row := fnExactLooseEqualRow, standIns := [], harness := (true, "4e9df62bebfa461cae7025730071f93c426c1c01f61e8c73b1a69af203deb52d"), looks := true }, kinds := [], alts := [], laidByText := true, laidKinds := [.data, .data, .data, .sentinel, .sentinel], laidTests := true, laidLooks := .later }
def FnExactLooseEqualCardSaid : Prop := Claim7.holds Tryd.pinned (.plain (OpenSpec.ofChange fnExactLooseEqualSpec)) fnExactLooseEqualCard

/-- THE TIED CARD OF 'laws.FnExactIsOrdered'. -/
def fnExactIsOrderedCard : Claim7 := { stood := { row := fnExactIsOrderedRow, standIns := [], harness := (true, "4e9df62bebfa461cae7025730071f93c426c1c01f61e8c73b1a69af203deb52d"), looks := true }, kinds := [], alts := [], laidByText := true, laidKinds := [.data, .data, .data, .sentinel, .sentinel], laidTests := true, laidLooks := .later }
def FnExactIsOrderedCardSaid : Prop := Claim7.holds Tryd.pinned (.plain (OpenSpec.ofChange fnExactIsOrderedSpec)) fnExactIsOrderedCard

/-- THE SECOND FORM's CARD OF 'laws.FnArrays'. -/
def fnArraysUptoCard : Claim7 := { stood := { row := fnArraysUptoRow, standIns := [], harness := (true, "4e9df62bebfa461cae7025730071f93c426c1c01f61e8c73b1a69af203deb52d"), looks := true }, kinds := [], alts := [], laidByText := true, laidKinds := [.data, .data, .data, .sentinel, .sentinel], laidTests := true, laidLooks := .later }
def FnArraysUptoCardSaid : Prop := Claim7.holds Tryd.pinned (.plain (OpenSpec.upto fnArraysSpec)) fnArraysUptoCard

/-- THE SECOND FORM's CARD OF 'laws.FnCompare'. -/
def fnCompareUptoCard : Claim7 := { stood := { row := fnCompareUptoRow, standIns := [], harness := (true, "4e9df62bebfa461cae7025730071f93c426c1c01f61e8c73b1a69af203deb52d"), looks := true }, kinds := [], alts := [], laidByText := true, laidKinds := [.data, .data, .data, .sentinel, .sentinel], laidTests := true, laidLooks := .later }
def FnCompareUptoCardSaid : Prop := Claim7.holds Tryd.pinned (.plain (OpenSpec.upto fnCompareSpec)) fnCompareUptoCard

/-- THE SECOND FORM's CARD OF 'laws.FnSort'. -/
def fnSortUptoCard : Claim7 := { stood := { row := fnSortUptoRow, standIns := [], harness := (true, "4e9df62bebfa461cae7025730071f93c426c1c01f61e8c73b1a69af203deb52d"), looks := true }, kinds := [], alts := [], laidByText := true, laidKinds := [.data, .data, .data, .sentinel, .sentinel], laidTests := true, laidLooks := .later }
def FnSortUptoCardSaid : Prop := Claim7.holds Tryd.pinned (.plain (OpenSpec.upto fnSortSpec)) fnSortUptoCard

/-- THE SECOND FORM's CARD OF 'laws.FnConversions'. -/
def fnConversionsUptoCard : Claim7 := { stood := { row := fnConversionsUptoRow, standIns := [], harness := (true, "4e9df62bebfa461cae7025730071f93c426c1c01f61e8c73b1a69af203deb52d"), looks := true }, kinds := [], alts := [], laidByText := true, laidKinds := [.data, .data, .data, .sentinel, .sentinel, .sentinel, .sentinel], laidTests := true, laidLooks := .later }
def FnConversionsUptoCardSaid : Prop := Claim7.holds Tryd.pinned (.plain (OpenSpec.upto fnConversionsSpec)) fnConversionsUptoCard

/-- THE SECOND FORM's CARD OF 'laws.FnExactToText'. -/
def fnExactToTextUptoCard : Claim7 := { stood := { row := fnExactToTextUptoRow, standIns := [], harness := (true, "4e9df62bebfa461cae7025730071f93c426c1c01f61e8c73b1a69af203deb52d"), looks := true }, kinds := [], alts := [], laidByText := true, laidKinds := [.data, .data, .data, .sentinel], laidTests := true, laidLooks := .later }
def FnExactToTextUptoCardSaid : Prop := Claim7.holds Tryd.pinned (.plain (OpenSpec.upto fnExactToTextSpec)) fnExactToTextUptoCard

/-- THE SECOND FORM's CARD OF 'laws.FnExactToNumber'. -/
def fnExactToNumberUptoCard : Claim7 := { stood := { row := fnExactToNumberUptoRow, standIns := [], harness := (true, "4e9df62bebfa461cae7025730071f93c426c1c01f61e8c73b1a69af203deb52d"), looks := true }, kinds := [], alts := [], laidByText := true, laidKinds := [.sentinel, .sentinel], laidTests := true, laidLooks := .later }
def FnExactToNumberUptoCardSaid : Prop := Claim7.holds Tryd.pinned (.plain (OpenSpec.upto fnExactToNumberSpec)) fnExactToNumberUptoCard

/-- THE SECOND FORM's CARD OF 'laws.FnExactCompareValues'. -/
def fnExactCompareValuesUptoCard : Claim7 := { stood := { row := fnExactCompareValuesUptoRow, standIns := [], harness := (true, "4e9df62bebfa461cae7025730071f93c426c1c01f61e8c73b1a69af203deb52d"), looks := true }, kinds := [], alts := [], laidByText := true, laidKinds := [.data, .data, .data, .sentinel, .sentinel], laidTests := true, laidLooks := .later }
def FnExactCompareValuesUptoCardSaid : Prop := Claim7.holds Tryd.pinned (.plain (OpenSpec.upto fnExactCompareValuesSpec)) fnExactCompareValuesUptoCard

/-- THE SECOND FORM's CARD OF 'laws.FnExactLooseEqual'. -/
def fnExactLooseEqualUptoCard : Claim7 := { stood := { row := fnExactLooseEqualUptoRow, standIns := [], harness := (true, "4e9df62bebfa461cae7025730071f93c426c1c01f61e8c73b1a69af203deb52d"), looks := true }, kinds := [], alts := [], laidByText := true, laidKinds := [.data, .data, .data, .sentinel, .sentinel], laidTests := true, laidLooks := .later }
def FnExactLooseEqualUptoCardSaid : Prop := Claim7.holds Tryd.pinned (.plain (OpenSpec.upto fnExactLooseEqualSpec)) fnExactLooseEqualUptoCard

/-- THE SECOND FORM's CARD OF 'laws.FnExactIsOrdered'. -/
def fnExactIsOrderedUptoCard : Claim7 := { stood := { row := fnExactIsOrderedUptoRow, standIns := [], harness := (true, "4e9df62bebfa461cae7025730071f93c426c1c01f61e8c73b1a69af203deb52d"), looks := true }, kinds := [], alts := [], laidByText := true, laidKinds := [.data, .data, .data, .sentinel, .sentinel], laidTests := true, laidLooks := .later }
def FnExactIsOrderedUptoCardSaid : Prop := Claim7.holds Tryd.pinned (.plain (OpenSpec.upto fnExactIsOrderedSpec)) fnExactIsOrderedUptoCard
end Rows
end Go.Proofs.YtlbkbcafkjgckaaDoor
