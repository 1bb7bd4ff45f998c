/-
  DERIVED. GIVEN WITH THE SEED: THE CARDS: each row of YtofdnpbmanonpaaDoorRows.lean that lists a variable, with what it lists TIED to the program's text (the seventh form; the later family's looks); each row that meets fmt, with fmt's text TOLD by the authors' own Lean function (tested against real Go, not proved from fmt's source: count such statements apart). THE CARD IS WHAT COUNTS. Prove the row's statement (the work); the ties are given (YtofdnpbmanonpaaDoorTie.lean); close each card by the builder's one call (the guide's Derived/Test/ToyasCard.lean, 'card_holds'). Laid BY PROGRAM, IN A SANDBOX (cutbox-door.mjs). By AI agents, Wed Nov 11 2026. No macro, syntax, notation, axiom, sorry.
-/
import Derived.Test.YtofdnpbmanonpaaDoorRows
import GoSem.ClaimSeven
namespace Go.Proofs.YtofdnpbmanonpaaDoor
namespace Rows

/-- THE TIED CARD OF 'laws.FnEscapes'. -/
def fnEscapesCard : Claim7 := { stood := { row := fnEscapesRow, standIns := [], harness := (true, "d6f2eb5fda25f83bf541a57fac0ac9e864b9d389cfff700c87e605d64d4f0add"), looks := true }, kinds := [], alts := [], laidByText := true, laidKinds := [.data, .data, .data, .sentinel, .sentinel, .data], laidTests := true, laidLooks := .later }
def FnEscapesCardSaid : Prop := Claim7.holds Tryd.pinned (.plain (OpenSpec.ofChange fnEscapesSpec)) fnEscapesCard

/-- THE TIED CARD OF 'laws.FnExactEscapeHTML'. -/
def fnExactEscapeHTMLCard : Claim7 := { stood := { row := fnExactEscapeHTMLRow, standIns := [], harness := (true, "d6f2eb5fda25f83bf541a57fac0ac9e864b9d389cfff700c87e605d64d4f0add"), looks := true }, kinds := [], alts := [], laidByText := true, laidKinds := [.data], laidTests := true, laidLooks := .later }
def FnExactEscapeHTMLCardSaid : Prop := Claim7.holds Tryd.pinned (.plain (OpenSpec.ofChange fnExactEscapeHTMLSpec)) fnExactEscapeHTMLCard

/-- THE TIED CARD OF 'laws.FnExactUnescapeHTML'. -/
def fnExactUnescapeHTMLCard : Claim7 := { stood := { row := fnExactUnescapeHTMLRow, standIns := [], harness := (true, "d6f2eb5fda25f83bf541a57fac0ac9e864b9d389cfff700c87e605d64d4f0add"), looks := true }, kinds := [], alts := [], laidByText := true, laidKinds := [.data], laidTests := true, laidLooks := .later }
def FnExactUnescapeHTMLCardSaid : Prop := Claim7.holds Tryd.pinned (.plain (OpenSpec.ofChange fnExactUnescapeHTMLSpec)) fnExactUnescapeHTMLCard

/-- THE TIED CARD OF 'laws.FnExactUnescapeURL'. -/
def fnExactUnescapeURLCard : Claim7 := { stood := { row := fnExactUnescapeURLRow, standIns := [], harness := (true, "d6f2eb5fda25f83bf541a57fac0ac9e864b9d389cfff700c87e605d64d4f0add"), looks := true }, kinds := [], alts := [], laidByText := true, laidKinds := [.data, .data, .data, .sentinel, .sentinel], laidTests := true, laidLooks := .later }
def FnExactUnescapeURLCardSaid : Prop := Claim7.holds Tryd.pinned (.plain (OpenSpec.ofChange fnExactUnescapeURLSpec)) fnExactUnescapeURLCard

/-- THE TIED CARD OF 'laws.FnExactUnescapeScript'. -/
def fnExactUnescapeScriptCard : Claim7 := { stood := { row := fnExactUnescapeScriptRow, standIns := [], harness := (true, "d6f2eb5fda25f83bf541a57fac0ac9e864b9d389cfff700c87e605d64d4f0add"), looks := true }, kinds := [], alts := [], laidByText := true, laidKinds := [.data, .data, .data, .sentinel, .sentinel], laidTests := true, laidLooks := .later }
def FnExactUnescapeScriptCardSaid : Prop := Claim7.holds Tryd.pinned (.plain (OpenSpec.ofChange fnExactUnescapeScriptSpec)) fnExactUnescapeScriptCard

/-- THE TIED CARD OF 'laws.FnExactEscapeIn'. -/
def fnExactEscapeInCard : Claim7 := { stood := { row := fnExactEscapeInRow, standIns := [], harness := (true, "d6f2eb5fda25f83bf541a57fac0ac9e864b9d389cfff700c87e605d64d4f0add"), looks := true }, kinds := [], alts := [], laidByText := true, laidKinds := [.data, .data, .data, .sentinel, .sentinel, .data], laidTests := true, laidLooks := .later }
def FnExactEscapeInCardSaid : Prop := Claim7.holds Tryd.pinned (.plain (OpenSpec.ofChange fnExactEscapeInSpec)) fnExactEscapeInCard

/-- THE TIED CARD OF 'laws.FnExactIsSafeIn'. -/
def fnExactIsSafeInCard : Claim7 := { stood := { row := fnExactIsSafeInRow, standIns := [], harness := (true, "d6f2eb5fda25f83bf541a57fac0ac9e864b9d389cfff700c87e605d64d4f0add"), looks := true }, kinds := [], alts := [], laidByText := true, laidKinds := [.data, .data, .data, .sentinel, .sentinel, .data], laidTests := true, laidLooks := .later }
def FnExactIsSafeInCardSaid : Prop := Claim7.holds Tryd.pinned (.plain (OpenSpec.ofChange fnExactIsSafeInSpec)) fnExactIsSafeInCard

/-- THE SECOND FORM's CARD OF 'laws.FnEscapes'. -/
def fnEscapesUptoCard : Claim7 := { stood := { row := fnEscapesUptoRow, standIns := [], harness := (true, "d6f2eb5fda25f83bf541a57fac0ac9e864b9d389cfff700c87e605d64d4f0add"), looks := true }, kinds := [], alts := [], laidByText := true, laidKinds := [.data, .data, .data, .sentinel, .sentinel, .data], laidTests := true, laidLooks := .later }
def FnEscapesUptoCardSaid : Prop := Claim7.holds Tryd.pinned (.plain (OpenSpec.upto fnEscapesSpec)) fnEscapesUptoCard

/-- THE SECOND FORM's CARD OF 'laws.FnExactEscapeHTML'. -/
def fnExactEscapeHTMLUptoCard : Claim7 := { stood := { row := fnExactEscapeHTMLUptoRow, standIns := [], harness := (true, "d6f2eb5fda25f83bf541a57fac0ac9e864b9d389cfff700c87e605d64d4f0add"), looks := true }, kinds := [], alts := [], laidByText := true, laidKinds := [.data], laidTests := true, laidLooks := .later }
def FnExactEscapeHTMLUptoCardSaid : Prop := Claim7.holds Tryd.pinned (.plain (OpenSpec.upto fnExactEscapeHTMLSpec)) fnExactEscapeHTMLUptoCard

/-- THE SECOND FORM's CARD OF 'laws.FnExactUnescapeHTML'. -/
def fnExactUnescapeHTMLUptoCard : Claim7 := { stood := { row := fnExactUnescapeHTMLUptoRow, standIns := [], harness := (true, "d6f2eb5fda25f83bf541a57fac0ac9e864b9d389cfff700c87e605d64d4f0add"), looks := true }, kinds := [], alts := [], laidByText := true, laidKinds := [.data], laidTests := true, laidLooks := .later }
def FnExactUnescapeHTMLUptoCardSaid : Prop := Claim7.holds Tryd.pinned (.plain (OpenSpec.upto fnExactUnescapeHTMLSpec)) fnExactUnescapeHTMLUptoCard

/-- THE SECOND FORM's CARD OF 'laws.FnExactUnescapeURL'. -/
def fnExactUnescapeURLUptoCard : Claim7 := { stood := { row := fnExactUnescapeURLUptoRow, standIns := [], harness := (true, "d6f2eb5fda25f83bf541a57fac0ac9e864b9d389cfff700c87e605d64d4f0add"), looks := true }, kinds := [], alts := [], laidByText := true, laidKinds := [.data, .data, .data, .sentinel, .sentinel], laidTests := true, laidLooks := .later }
def FnExactUnescapeURLUptoCardSaid : Prop := Claim7.holds Tryd.pinned (.plain (OpenSpec.upto fnExactUnescapeURLSpec)) fnExactUnescapeURLUptoCard

/-- THE SECOND FORM's CARD OF 'laws.FnExactUnescapeScript'. -/
def fnExactUnescapeScriptUptoCard : Claim7 := { stood := { row := fnExactUnescapeScriptUptoRow, standIns := [], harness := (true, "d6f2eb5fda25f83bf541a57fac0ac9e864b9d389cfff700c87e605d64d4f0add"), looks := true }, kinds := [], alts := [], laidByText := true, laidKinds := [.data, .data, .data, .sentinel, .sentinel], laidTests := true, laidLooks := .later }
def FnExactUnescapeScriptUptoCardSaid : Prop := Claim7.holds Tryd.pinned (.plain (OpenSpec.upto fnExactUnescapeScriptSpec)) fnExactUnescapeScriptUptoCard

/-- THE SECOND FORM's CARD OF 'laws.FnExactEscapeIn'. -/
def fnExactEscapeInUptoCard : Claim7 := { stood := { row := fnExactEscapeInUptoRow, standIns := [], harness := (true, "d6f2eb5fda25f83bf541a57fac0ac9e864b9d389cfff700c87e605d64d4f0add"), looks := true }, kinds := [], alts := [], laidByText := true, laidKinds := [.data, .data, .data, .sentinel, .sentinel, .data], laidTests := true, laidLooks := .later }
def FnExactEscapeInUptoCardSaid : Prop := Claim7.holds Tryd.pinned (.plain (OpenSpec.upto fnExactEscapeInSpec)) fnExactEscapeInUptoCard

/-- THE SECOND FORM's CARD OF 'laws.FnExactIsSafeIn'. -/
def fnExactIsSafeInUptoCard : Claim7 := { stood := { row := fnExactIsSafeInUptoRow, standIns := [], harness := (true, "d6f2eb5fda25f83bf541a57fac0ac9e864b9d389cfff700c87e605d64d4f0add"), looks := true }, kinds := [], alts := [], laidByText := true, laidKinds := [.data, .data, .data, .sentinel, .sentinel, .data], laidTests := true, laidLooks := .later }
def FnExactIsSafeInUptoCardSaid : Prop := Claim7.holds Tryd.pinned (.plain (OpenSpec.upto fnExactIsSafeInSpec)) fnExactIsSafeInUptoCard
end Rows
end Go.Proofs.YtofdnpbmanonpaaDoor
