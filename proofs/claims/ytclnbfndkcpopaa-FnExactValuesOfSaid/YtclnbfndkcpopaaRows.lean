/-
  NARROWER THAN 'FOR EVERY INPUT', by the rows' own cells (each row's printed sentence says how): FnExactTableValue: loops · FnExactKeysOf: loops · FnExactValuesOf: loops · FnExactListOf: loops · FnExactGetKey: loops · FnExactDeleteKey: loops.
  DERIVED. THE GIVEN ROWS OF THIS SEAT. 7 by the template 'for every input the law returns true; each argument reads behind the call as it read before'; 0 by the template 'total and deterministic' (their statements: YtclnbfndkcpopaaTotals.lean).
  GIVEN WITH THE SEED: the statements are not yours to turn. If you find one false, say at which input.
  Laid BY PROGRAM, IN A SANDBOX (cutbox-rows.mjs): the forced cells as the released guide's own fill.sh prints them over the translation efb9871b7397663c… (all of the seat's roots in one cut). By AI agents, Wed Nov 11 2026. No macro, syntax, notation, axiom, sorry.
-/
import Derived.Test.YtclnbfndkcpopaaChecked
import GoSem.Claim
import GoSem.ClaimJoined
import GoSem.ClaimMapViews
import Derived.JoinedTies
import Derived.KernelRfl
namespace Go.Proofs.Ytclnbfndkcpopaa
/- THE CELL 'sum', in the pinned program and in every row, IS THE sha256 OF THE DUMP (.gsa) THAT YtclnbfndkcpopaaProg.lean LOADS. Nothing in Lean hashes anything: it is a label: what it is worth is what the hold of that sum in a sandbox is worth. -/
noncomputable def Try.pinned : Pinned := { name := "ytclnbfndkcpopaa", sum := "efb9871b7397663c7dbe61275e688414506c8c880f4243e3b2496b3094480dab", checked := Try.checked }
namespace Rows
def none {H : Type} : Left H := { results := [], args := [] }

/-- 'laws.FnExactKeyHash': WHATEVER THE INPUT: true; the input reads as it did. -/
def fnExactKeyHashSpec : ChangeSpec := { name := "fnExactKeyHash", fn := fun _ => fun
  | [d] => { results := [.lit (.bool true)], args := [d] }
  | _ => none }
def fnExactKeyHashRow : OpenClaim := { program := "ytclnbfndkcpopaa", sum := "efb9871b7397663c7dbe61275e688414506c8c880f4243e3b2496b3094480dab", func := "loop.example/g03011/laws.FnExactKeyHash", spec := "fnExactKeyHash", plainKeys := false, apart := false }
def FnExactKeyHashSaid : Prop := fnExactKeyHashRow.holds Try.pinned (OpenSpec.ofChange fnExactKeyHashSpec)

/-- ITS FALSE NEIGHBOUR: 'it returns false'. Refute it at one input. -/
def fnExactKeyHashWrong : ChangeSpec := { name := "fnExactKeyHash", fn := fun _ => fun
  | [d] => { results := [.lit (.bool false)], args := [d] }
  | _ => none }
def FnExactKeyHashWrongFalsely : Prop := fnExactKeyHashRow.holds Try.pinned (OpenSpec.ofChange fnExactKeyHashWrong)

/-- 'laws.FnExactTableValue': WHATEVER THE INPUT: true; the input reads as it did. -/
def fnExactTableValueSpec : ChangeSpec := { name := "fnExactTableValue", fn := fun _ => fun
  | [d] => { results := [.lit (.bool true)], args := [d] }
  | _ => none }
def fnExactTableValueRow : OpenClaim := { program := "ytclnbfndkcpopaa", sum := "efb9871b7397663c7dbe61275e688414506c8c880f4243e3b2496b3094480dab", func := "loop.example/g03011/laws.FnExactTableValue", spec := "fnExactTableValue", recurses := true, loops := true, plainKeys := false, apart := false }
def FnExactTableValueSaid : Prop := fnExactTableValueRow.holds Try.pinned (OpenSpec.ofChange fnExactTableValueSpec)

/-- ITS FALSE NEIGHBOUR: 'it returns false'. Refute it at one input. -/
def fnExactTableValueWrong : ChangeSpec := { name := "fnExactTableValue", fn := fun _ => fun
  | [d] => { results := [.lit (.bool false)], args := [d] }
  | _ => none }
def FnExactTableValueWrongFalsely : Prop := fnExactTableValueRow.holds Try.pinned (OpenSpec.ofChange fnExactTableValueWrong)

/-- 'laws.FnExactKeysOf': WHATEVER THE INPUT: true; the input reads as it did. -/
def fnExactKeysOfSpec : ChangeSpec := { name := "fnExactKeysOf", fn := fun _ => fun
  | [d] => { results := [.lit (.bool true)], args := [d] }
  | _ => none }
def fnExactKeysOfRow : OpenClaim := { program := "ytclnbfndkcpopaa", sum := "efb9871b7397663c7dbe61275e688414506c8c880f4243e3b2496b3094480dab", func := "loop.example/g03011/laws.FnExactKeysOf", spec := "fnExactKeysOf", recurses := true, loops := true, plainKeys := false, apart := false }
def FnExactKeysOfSaid : Prop := fnExactKeysOfRow.holds Try.pinned (OpenSpec.ofChange fnExactKeysOfSpec)

/-- ITS FALSE NEIGHBOUR: 'it returns false'. Refute it at one input. -/
def fnExactKeysOfWrong : ChangeSpec := { name := "fnExactKeysOf", fn := fun _ => fun
  | [d] => { results := [.lit (.bool false)], args := [d] }
  | _ => none }
def FnExactKeysOfWrongFalsely : Prop := fnExactKeysOfRow.holds Try.pinned (OpenSpec.ofChange fnExactKeysOfWrong)

/-- 'laws.FnExactValuesOf': WHATEVER THE INPUT: true; the input reads as it did. -/
def fnExactValuesOfSpec : ChangeSpec := { name := "fnExactValuesOf", fn := fun _ => fun
  | [d] => { results := [.lit (.bool true)], args := [d] }
  | _ => none }
def fnExactValuesOfRow : OpenClaim := { program := "ytclnbfndkcpopaa", sum := "efb9871b7397663c7dbe61275e688414506c8c880f4243e3b2496b3094480dab", func := "loop.example/g03011/laws.FnExactValuesOf", spec := "fnExactValuesOf", recurses := true, loops := true, plainKeys := false, apart := false }
def FnExactValuesOfSaid : Prop := fnExactValuesOfRow.holds Try.pinned (OpenSpec.ofChange fnExactValuesOfSpec)

/-- ITS FALSE NEIGHBOUR: 'it returns false'. Refute it at one input. -/
def fnExactValuesOfWrong : ChangeSpec := { name := "fnExactValuesOf", fn := fun _ => fun
  | [d] => { results := [.lit (.bool false)], args := [d] }
  | _ => none }
def FnExactValuesOfWrongFalsely : Prop := fnExactValuesOfRow.holds Try.pinned (OpenSpec.ofChange fnExactValuesOfWrong)

/-- 'laws.FnExactListOf': WHATEVER THE INPUT: true; the input reads as it did. -/
def fnExactListOfSpec : ChangeSpec := { name := "fnExactListOf", fn := fun _ => fun
  | [d] => { results := [.lit (.bool true)], args := [d] }
  | _ => none }
def fnExactListOfRow : OpenClaim := { program := "ytclnbfndkcpopaa", sum := "efb9871b7397663c7dbe61275e688414506c8c880f4243e3b2496b3094480dab", func := "loop.example/g03011/laws.FnExactListOf", spec := "fnExactListOf", recurses := true, loops := true, plainKeys := false, apart := false }
def FnExactListOfSaid : Prop := fnExactListOfRow.holds Try.pinned (OpenSpec.ofChange fnExactListOfSpec)

/-- ITS FALSE NEIGHBOUR: 'it returns false'. Refute it at one input. -/
def fnExactListOfWrong : ChangeSpec := { name := "fnExactListOf", fn := fun _ => fun
  | [d] => { results := [.lit (.bool false)], args := [d] }
  | _ => none }
def FnExactListOfWrongFalsely : Prop := fnExactListOfRow.holds Try.pinned (OpenSpec.ofChange fnExactListOfWrong)

/-- 'laws.FnExactGetKey': WHATEVER THE INPUT: true; the input reads as it did. -/
def fnExactGetKeySpec : ChangeSpec := { name := "fnExactGetKey", fn := fun _ => fun
  | [d1, d2] => { results := [.lit (.bool true)], args := [d1, d2] }
  | _ => none }
def fnExactGetKeyRow : OpenClaim := { program := "ytclnbfndkcpopaa", sum := "efb9871b7397663c7dbe61275e688414506c8c880f4243e3b2496b3094480dab", func := "loop.example/g03011/laws.FnExactGetKey", spec := "fnExactGetKey", recurses := true, loops := true, plainKeys := false, apart := false }
def FnExactGetKeySaid : Prop := fnExactGetKeyRow.holds Try.pinned (OpenSpec.ofChange fnExactGetKeySpec)

/-- ITS FALSE NEIGHBOUR: 'it returns false'. Refute it at one input. -/
def fnExactGetKeyWrong : ChangeSpec := { name := "fnExactGetKey", fn := fun _ => fun
  | [d1, d2] => { results := [.lit (.bool false)], args := [d1, d2] }
  | _ => none }
def FnExactGetKeyWrongFalsely : Prop := fnExactGetKeyRow.holds Try.pinned (OpenSpec.ofChange fnExactGetKeyWrong)

/-- 'laws.FnExactDeleteKey': WHATEVER THE INPUT: true; the input reads as it did. -/
def fnExactDeleteKeySpec : ChangeSpec := { name := "fnExactDeleteKey", fn := fun _ => fun
  | [d1, d2] => { results := [.lit (.bool true)], args := [d1, d2] }
  | _ => none }
def fnExactDeleteKeyRow : OpenClaim := { program := "ytclnbfndkcpopaa", sum := "efb9871b7397663c7dbe61275e688414506c8c880f4243e3b2496b3094480dab", func := "loop.example/g03011/laws.FnExactDeleteKey", spec := "fnExactDeleteKey", recurses := true, loops := true, plainKeys := false, apart := false }
def FnExactDeleteKeySaid : Prop := fnExactDeleteKeyRow.holds Try.pinned (OpenSpec.ofChange fnExactDeleteKeySpec)

/-- ITS FALSE NEIGHBOUR: 'it returns false'. Refute it at one input. -/
def fnExactDeleteKeyWrong : ChangeSpec := { name := "fnExactDeleteKey", fn := fun _ => fun
  | [d1, d2] => { results := [.lit (.bool false)], args := [d1, d2] }
  | _ => none }
def FnExactDeleteKeyWrongFalsely : Prop := fnExactDeleteKeyRow.holds Try.pinned (OpenSpec.ofChange fnExactDeleteKeyWrong)

/- THE SECOND FORM. 'bulk': how many values and letters a reading holds, each counted each time it is reached (what is shared counts as often as it is met; a slice's spare places count too). A statement '..UptoSaid' is the law's where the arguments, and the package variables that the reading takes, are together of bulk at most 1048576: NARROWER than '..Said'. Prove '..Said' where nothing that the law and all that it calls make is longer than what came in: it says more and counts as full. Else prove '..UptoSaid'. A law counts once. -/
mutual
def uptoBulk {H : Type} : DataW H → Nat
  | .lit (.string bytes) => bytes.length + 1
  | .lit _ => 1
  | .nil => 1
  | .ptr d => uptoBulk d + 1
  | .slice elems spare => uptoBulkAll elems + uptoBulkAll spare + 1
  | .agg parts => uptoBulkAll parts + 1
  | .iface _ d => uptoBulk d + 1
  | .map entries => uptoBulkEntries entries + 1
  | .held _ => 1
def uptoBulkAll {H : Type} : List (DataW H) → Nat
  | [] => 0
  | d :: r => uptoBulk d + uptoBulkAll r
def uptoBulkEntries {H : Type} : List (Lit × DataW H) → Nat
  | [] => 0
  | x :: r => uptoBulkEntry x + uptoBulkEntries r
def uptoBulkEntry {H : Type} : Lit × DataW H → Nat
  | (.string bytes, d) => bytes.length + uptoBulk d + 1
  | (_, d) => uptoBulk d + 1
 end
def uptoSmall : (H : Type) → List (DataW H) → Bool := fun _ ds => decide (uptoBulkAll ds ≤ 1048576)
def OpenSpec.upto (s : _root_.Go.ChangeSpec) : _root_.Go.OpenSpec := { _root_.Go.OpenSpec.ofChange s with cond := some uptoSmall }

/-- 'laws.FnExactKeyHash', WHERE WHAT IT READS IS OF BULK AT MOST 1048576: true; the input reads as it did. -/
def fnExactKeyHashUptoRow : OpenClaim := { program := "ytclnbfndkcpopaa", sum := "efb9871b7397663c7dbe61275e688414506c8c880f4243e3b2496b3094480dab", func := "loop.example/g03011/laws.FnExactKeyHash", spec := "fnExactKeyHash", plainKeys := false, apart := false, narrowed := true }
def FnExactKeyHashUptoSaid : Prop := fnExactKeyHashUptoRow.holds Try.pinned (OpenSpec.upto fnExactKeyHashSpec)

/-- 'laws.FnExactTableValue', WHERE WHAT IT READS IS OF BULK AT MOST 1048576: true; the input reads as it did. -/
def fnExactTableValueUptoRow : OpenClaim := { program := "ytclnbfndkcpopaa", sum := "efb9871b7397663c7dbe61275e688414506c8c880f4243e3b2496b3094480dab", func := "loop.example/g03011/laws.FnExactTableValue", spec := "fnExactTableValue", recurses := true, loops := true, plainKeys := false, apart := false, narrowed := true }
def FnExactTableValueUptoSaid : Prop := fnExactTableValueUptoRow.holds Try.pinned (OpenSpec.upto fnExactTableValueSpec)

/-- 'laws.FnExactKeysOf', WHERE WHAT IT READS IS OF BULK AT MOST 1048576: true; the input reads as it did. -/
def fnExactKeysOfUptoRow : OpenClaim := { program := "ytclnbfndkcpopaa", sum := "efb9871b7397663c7dbe61275e688414506c8c880f4243e3b2496b3094480dab", func := "loop.example/g03011/laws.FnExactKeysOf", spec := "fnExactKeysOf", recurses := true, loops := true, plainKeys := false, apart := false, narrowed := true }
def FnExactKeysOfUptoSaid : Prop := fnExactKeysOfUptoRow.holds Try.pinned (OpenSpec.upto fnExactKeysOfSpec)

/-- 'laws.FnExactValuesOf', WHERE WHAT IT READS IS OF BULK AT MOST 1048576: true; the input reads as it did. -/
def fnExactValuesOfUptoRow : OpenClaim := { program := "ytclnbfndkcpopaa", sum := "efb9871b7397663c7dbe61275e688414506c8c880f4243e3b2496b3094480dab", func := "loop.example/g03011/laws.FnExactValuesOf", spec := "fnExactValuesOf", recurses := true, loops := true, plainKeys := false, apart := false, narrowed := true }
def FnExactValuesOfUptoSaid : Prop := fnExactValuesOfUptoRow.holds Try.pinned (OpenSpec.upto fnExactValuesOfSpec)

/-- 'laws.FnExactListOf', WHERE WHAT IT READS IS OF BULK AT MOST 1048576: true; the input reads as it did. -/
def fnExactListOfUptoRow : OpenClaim := { program := "ytclnbfndkcpopaa", sum := "efb9871b7397663c7dbe61275e688414506c8c880f4243e3b2496b3094480dab", func := "loop.example/g03011/laws.FnExactListOf", spec := "fnExactListOf", recurses := true, loops := true, plainKeys := false, apart := false, narrowed := true }
def FnExactListOfUptoSaid : Prop := fnExactListOfUptoRow.holds Try.pinned (OpenSpec.upto fnExactListOfSpec)

/-- 'laws.FnExactGetKey', WHERE WHAT IT READS IS OF BULK AT MOST 1048576: true; the input reads as it did. -/
def fnExactGetKeyUptoRow : OpenClaim := { program := "ytclnbfndkcpopaa", sum := "efb9871b7397663c7dbe61275e688414506c8c880f4243e3b2496b3094480dab", func := "loop.example/g03011/laws.FnExactGetKey", spec := "fnExactGetKey", recurses := true, loops := true, plainKeys := false, apart := false, narrowed := true }
def FnExactGetKeyUptoSaid : Prop := fnExactGetKeyUptoRow.holds Try.pinned (OpenSpec.upto fnExactGetKeySpec)

/-- 'laws.FnExactDeleteKey', WHERE WHAT IT READS IS OF BULK AT MOST 1048576: true; the input reads as it did. -/
def fnExactDeleteKeyUptoRow : OpenClaim := { program := "ytclnbfndkcpopaa", sum := "efb9871b7397663c7dbe61275e688414506c8c880f4243e3b2496b3094480dab", func := "loop.example/g03011/laws.FnExactDeleteKey", spec := "fnExactDeleteKey", recurses := true, loops := true, plainKeys := false, apart := false, narrowed := true }
def FnExactDeleteKeyUptoSaid : Prop := fnExactDeleteKeyUptoRow.holds Try.pinned (OpenSpec.upto fnExactDeleteKeySpec)

end Rows
end Go.Proofs.Ytclnbfndkcpopaa
