/-
  NARROWER THAN 'FOR EVERY INPUT', by the rows' own cells (each row's printed sentence says how): FnExactListOf: loops · FnExactTableValue: loops · FnExactToBool: loops · FnExactToInt: loops.
  DERIVED. THE GIVEN ROWS OF THIS SEAT. 6 by the template 'for every input the law returns true; each argument reads behind the call as it read before'; 0 by the template 'total and deterministic' (their statements: YteiijemjofaihaaTotals.lean).
  GIVEN WITH THE SEED: the statements are not yours to turn. If you find one false, say at which input.
  Laid BY PROGRAM, IN A SANDBOX (cutbox-rows.mjs): the forced cells as the released guide's own fill.sh prints them over the translation 048f25a7c47def40… (all of the seat's roots in one cut). By AI agents, Wed Nov 11 2026. No macro, syntax, notation, axiom, sorry.
-/
import Derived.Test.YteiijemjofaihaaChecked
import GoSem.Claim
import GoSem.ClaimJoined
import GoSem.ClaimMapViews
import Derived.JoinedTies
import Derived.KernelRfl
namespace Go.Proofs.Yteiijemjofaihaa
/- THE CELL 'sum', in the pinned program and in every row, IS THE sha256 OF THE DUMP (.gsa) THAT YteiijemjofaihaaProg.lean LOADS. Nothing in Lean hashes anything: it is a label: what it is worth is what the hold of that sum in a sandbox is worth. -/
noncomputable def Try.pinned : Pinned := { name := "yteiijemjofaihaa", sum := "048f25a7c47def4096ac1718c85c2d9ff9357428a494add9934e6d4440b11a65", checked := Try.checked }
namespace Rows
def none {H : Type} : Left H := { results := [], args := [] }

/-- 'laws.FnExactListOf': WHATEVER THE INPUT: true; the input reads as it did. -/
def fnExactListOfSpec : ChangeSpec := { name := "fnExactListOf", fn := fun _ => fun
  | [d] => { results := [.lit (.bool true)], args := [d] }
  | _ => none }
def fnExactListOfRow : OpenClaim := { program := "yteiijemjofaihaa", sum := "048f25a7c47def4096ac1718c85c2d9ff9357428a494add9934e6d4440b11a65", func := "loop.example/g03011/laws.FnExactListOf", spec := "fnExactListOf", recurses := true, loops := true, plainKeys := false, apart := false }
def FnExactListOfSaid : Prop := fnExactListOfRow.holds Try.pinned (OpenSpec.ofChange fnExactListOfSpec)

/-- ITS FALSE NEIGHBOUR: 'it returns false'. Refute it at one input. -/
def fnExactListOfWrong : ChangeSpec := { name := "fnExactListOf", fn := fun _ => fun
  | [d] => { results := [.lit (.bool false)], args := [d] }
  | _ => none }
def FnExactListOfWrongFalsely : Prop := fnExactListOfRow.holds Try.pinned (OpenSpec.ofChange fnExactListOfWrong)

/-- 'laws.FnExactTableValue': WHATEVER THE INPUT: true; the input reads as it did. -/
def fnExactTableValueSpec : ChangeSpec := { name := "fnExactTableValue", fn := fun _ => fun
  | [d] => { results := [.lit (.bool true)], args := [d] }
  | _ => none }
def fnExactTableValueRow : OpenClaim := { program := "yteiijemjofaihaa", sum := "048f25a7c47def4096ac1718c85c2d9ff9357428a494add9934e6d4440b11a65", func := "loop.example/g03011/laws.FnExactTableValue", spec := "fnExactTableValue", recurses := true, loops := true, plainKeys := false, apart := false }
def FnExactTableValueSaid : Prop := fnExactTableValueRow.holds Try.pinned (OpenSpec.ofChange fnExactTableValueSpec)

/-- ITS FALSE NEIGHBOUR: 'it returns false'. Refute it at one input. -/
def fnExactTableValueWrong : ChangeSpec := { name := "fnExactTableValue", fn := fun _ => fun
  | [d] => { results := [.lit (.bool false)], args := [d] }
  | _ => none }
def FnExactTableValueWrongFalsely : Prop := fnExactTableValueRow.holds Try.pinned (OpenSpec.ofChange fnExactTableValueWrong)

/-- 'laws.FnExactLeadingInt': WHATEVER THE INPUT: true; the input reads as it did. -/
def fnExactLeadingIntSpec : ChangeSpec := { name := "fnExactLeadingInt", fn := fun _ => fun
  | [d] => { results := [.lit (.bool true)], args := [d] }
  | _ => none }
def fnExactLeadingIntRow : OpenClaim := { program := "yteiijemjofaihaa", sum := "048f25a7c47def4096ac1718c85c2d9ff9357428a494add9934e6d4440b11a65", func := "loop.example/g03011/laws.FnExactLeadingInt", spec := "fnExactLeadingInt", plainKeys := false, apart := false }
def FnExactLeadingIntSaid : Prop := fnExactLeadingIntRow.holds Try.pinned (OpenSpec.ofChange fnExactLeadingIntSpec)

/-- ITS FALSE NEIGHBOUR: 'it returns false'. Refute it at one input. -/
def fnExactLeadingIntWrong : ChangeSpec := { name := "fnExactLeadingInt", fn := fun _ => fun
  | [d] => { results := [.lit (.bool false)], args := [d] }
  | _ => none }
def FnExactLeadingIntWrongFalsely : Prop := fnExactLeadingIntRow.holds Try.pinned (OpenSpec.ofChange fnExactLeadingIntWrong)

/-- 'laws.FnExactIsNumeric': WHATEVER THE INPUT: true; the input reads as it did. -/
def fnExactIsNumericSpec : ChangeSpec := { name := "fnExactIsNumeric", fn := fun _ => fun
  | [d] => { results := [.lit (.bool true)], args := [d] }
  | _ => none }
def fnExactIsNumericRow : OpenClaim := { program := "yteiijemjofaihaa", sum := "048f25a7c47def4096ac1718c85c2d9ff9357428a494add9934e6d4440b11a65", func := "loop.example/g03011/laws.FnExactIsNumeric", spec := "fnExactIsNumeric", plainKeys := false, apart := false }
def FnExactIsNumericSaid : Prop := fnExactIsNumericRow.holds Try.pinned (OpenSpec.ofChange fnExactIsNumericSpec)

/-- ITS FALSE NEIGHBOUR: 'it returns false'. Refute it at one input. -/
def fnExactIsNumericWrong : ChangeSpec := { name := "fnExactIsNumeric", fn := fun _ => fun
  | [d] => { results := [.lit (.bool false)], args := [d] }
  | _ => none }
def FnExactIsNumericWrongFalsely : Prop := fnExactIsNumericRow.holds Try.pinned (OpenSpec.ofChange fnExactIsNumericWrong)

/-- 'laws.FnExactToBool': WHATEVER THE INPUT: true; the input reads as it did. -/
def fnExactToBoolSpec : ChangeSpec := { name := "fnExactToBool", fn := fun _ => fun
  | [d] => { results := [.lit (.bool true)], args := [d] }
  | _ => none }
def fnExactToBoolRow : OpenClaim := { program := "yteiijemjofaihaa", sum := "048f25a7c47def4096ac1718c85c2d9ff9357428a494add9934e6d4440b11a65", func := "loop.example/g03011/laws.FnExactToBool", spec := "fnExactToBool", recurses := true, loops := true, plainKeys := false, apart := false }
def FnExactToBoolSaid : Prop := fnExactToBoolRow.holds Try.pinned (OpenSpec.ofChange fnExactToBoolSpec)

/-- ITS FALSE NEIGHBOUR: 'it returns false'. Refute it at one input. -/
def fnExactToBoolWrong : ChangeSpec := { name := "fnExactToBool", fn := fun _ => fun
  | [d] => { results := [.lit (.bool false)], args := [d] }
  | _ => none }
def FnExactToBoolWrongFalsely : Prop := fnExactToBoolRow.holds Try.pinned (OpenSpec.ofChange fnExactToBoolWrong)

/-- 'laws.FnExactToInt': WHATEVER THE INPUT: true; the input reads as it did. -/
def fnExactToIntSpec : ChangeSpec := { name := "fnExactToInt", fn := fun _ => fun
  | [d] => { results := [.lit (.bool true)], args := [d] }
  | _ => none }
def fnExactToIntRow : OpenClaim := { program := "yteiijemjofaihaa", sum := "048f25a7c47def4096ac1718c85c2d9ff9357428a494add9934e6d4440b11a65", func := "loop.example/g03011/laws.FnExactToInt", spec := "fnExactToInt", recurses := true, loops := true, plainKeys := false, apart := false }
def FnExactToIntSaid : Prop := fnExactToIntRow.holds Try.pinned (OpenSpec.ofChange fnExactToIntSpec)

/-- ITS FALSE NEIGHBOUR: 'it returns false'. Refute it at one input. -/
def fnExactToIntWrong : ChangeSpec := { name := "fnExactToInt", fn := fun _ => fun
  | [d] => { results := [.lit (.bool false)], args := [d] }
  | _ => none }
def FnExactToIntWrongFalsely : Prop := fnExactToIntRow.holds Try.pinned (OpenSpec.ofChange fnExactToIntWrong)

/- THE SECOND FORM. 'bulk': how many values and letters a reading holds, each counted each time it is reached (what is shared counts as often as it is met; a slice's spare places count too). A statement '..UptoSaid' is the law's where the arguments, and the package variables that the reading takes, are together of bulk at most 1048576: NARROWER than '..Said'. Prove '..Said' where nothing that the law and all that it calls make is longer than what came in: it says more and counts as full. Else prove '..UptoSaid'. A law counts once. -/
mutual
def uptoBulk {H : Type} : DataW H → Nat
  | .lit (.string bytes) => bytes.length + 1
  | .lit _ => 1
  | .nil => 1
  | .ptr d => uptoBulk d + 1
  | .slice elems spare => uptoBulkAll elems + uptoBulkAll spare + 1
  | .agg parts => uptoBulkAll parts + 1
  | .iface _ d => uptoBulk d + 1
  | .map entries => uptoBulkEntries entries + 1
  | .held _ => 1
def uptoBulkAll {H : Type} : List (DataW H) → Nat
  | [] => 0
  | d :: r => uptoBulk d + uptoBulkAll r
def uptoBulkEntries {H : Type} : List (Lit × DataW H) → Nat
  | [] => 0
  | x :: r => uptoBulkEntry x + uptoBulkEntries r
def uptoBulkEntry {H : Type} : Lit × DataW H → Nat
  | (.string bytes, d) => bytes.length + uptoBulk d + 1
  | (_, d) => uptoBulk d + 1
 end
def uptoSmall : (H : Type) → List (DataW H) → Bool := fun _ ds => decide (uptoBulkAll ds ≤ 1048576)
def OpenSpec.upto (s : _root_.Go.ChangeSpec) : _root_.Go.OpenSpec := { _root_.Go.OpenSpec.ofChange s with cond := some uptoSmall }

/-- 'laws.FnExactListOf', WHERE WHAT IT READS IS OF BULK AT MOST 1048576: true; the input reads as it did. -/
def fnExactListOfUptoRow : OpenClaim := { program := "yteiijemjofaihaa", sum := "048f25a7c47def4096ac1718c85c2d9ff9357428a494add9934e6d4440b11a65", func := "loop.example/g03011/laws.FnExactListOf", spec := "fnExactListOf", recurses := true, loops := true, plainKeys := false, apart := false, narrowed := true }
def FnExactListOfUptoSaid : Prop := fnExactListOfUptoRow.holds Try.pinned (OpenSpec.upto fnExactListOfSpec)

/-- 'laws.FnExactTableValue', WHERE WHAT IT READS IS OF BULK AT MOST 1048576: true; the input reads as it did. -/
def fnExactTableValueUptoRow : OpenClaim := { program := "yteiijemjofaihaa", sum := "048f25a7c47def4096ac1718c85c2d9ff9357428a494add9934e6d4440b11a65", func := "loop.example/g03011/laws.FnExactTableValue", spec := "fnExactTableValue", recurses := true, loops := true, plainKeys := false, apart := false, narrowed := true }
def FnExactTableValueUptoSaid : Prop := fnExactTableValueUptoRow.holds Try.pinned (OpenSpec.upto fnExactTableValueSpec)

/-- 'laws.FnExactLeadingInt', WHERE WHAT IT READS IS OF BULK AT MOST 1048576: true; the input reads as it did. -/
def fnExactLeadingIntUptoRow : OpenClaim := { program := "yteiijemjofaihaa", sum := "048f25a7c47def4096ac1718c85c2d9ff9357428a494add9934e6d4440b11a65", func := "loop.example/g03011/laws.FnExactLeadingInt", spec := "fnExactLeadingInt", plainKeys := false, apart := false, narrowed := true }
def FnExactLeadingIntUptoSaid : Prop := fnExactLeadingIntUptoRow.holds Try.pinned (OpenSpec.upto fnExactLeadingIntSpec)

/-- 'laws.FnExactIsNumeric', WHERE WHAT IT READS IS OF BULK AT MOST 1048576: true; the input reads as it did. -/
def fnExactIsNumericUptoRow : OpenClaim := { program := "yteiijemjofaihaa", sum := "048f25a7c47def4096ac1718c85c2d9ff9357428a494add9934e6d4440b11a65", func := "loop.example/g03011/laws.FnExactIsNumeric", spec := "fnExactIsNumeric", plainKeys := false, apart := false, narrowed := true }
def FnExactIsNumericUptoSaid : Prop := fnExactIsNumericUptoRow.holds Try.pinned (OpenSpec.upto fnExactIsNumericSpec)

/-- 'laws.FnExactToBool', WHERE WHAT IT READS IS OF BULK AT MOST 1048576: true; the input reads as it did. -/
def fnExactToBoolUptoRow : OpenClaim := { program := "yteiijemjofaihaa", sum := "048f25a7c47def4096ac1718c85c2d9ff9357428a494add9934e6d4440b11a65", func := "loop.example/g03011/laws.FnExactToBool", spec := "fnExactToBool", recurses := true, loops := true, plainKeys := false, apart := false, narrowed := true }
def FnExactToBoolUptoSaid : Prop := fnExactToBoolUptoRow.holds Try.pinned (OpenSpec.upto fnExactToBoolSpec)

/-- 'laws.FnExactToInt', WHERE WHAT IT READS IS OF BULK AT MOST 1048576: true; the input reads as it did. -/
def fnExactToIntUptoRow : OpenClaim := { program := "yteiijemjofaihaa", sum := "048f25a7c47def4096ac1718c85c2d9ff9357428a494add9934e6d4440b11a65", func := "loop.example/g03011/laws.FnExactToInt", spec := "fnExactToInt", recurses := true, loops := true, plainKeys := false, apart := false, narrowed := true }
def FnExactToIntUptoSaid : Prop := fnExactToIntUptoRow.holds Try.pinned (OpenSpec.upto fnExactToIntSpec)

end Rows
end Go.Proofs.Yteiijemjofaihaa
