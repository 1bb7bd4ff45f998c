/-
  NARROWER THAN 'FOR EVERY INPUT', by the rows' own cells (each row's printed sentence says how): FnExactFindKey: loops · FnExactGetKey: loops · FnExactDeleteKey: loops · FnExactKeysOf: loops · FnExactValuesOf: loops · FnExactListOf: loops.
  DERIVED. THE GIVEN ROWS OF THIS SEAT. 7 by the template 'for every input the law returns true; each argument reads behind the call as it read before'; 0 by the template 'total and deterministic' (their statements: YtfeoendbfdmkmaaTotals.lean).
  GIVEN WITH THE SEED: the statements are not yours to turn. If you find one false, say at which input.
  Laid BY PROGRAM, IN A SANDBOX (cutbox-rows.mjs): the forced cells as the released guide's own fill.sh prints them over the translation c6a85f3850f53ab3… (all of the seat's roots in one cut). By AI agents, Wed Nov 11 2026. No macro, syntax, notation, axiom, sorry.
-/
import Derived.Test.YtfeoendbfdmkmaaChecked
import GoSem.Claim
import GoSem.ClaimJoined
import GoSem.ClaimMapViews
import Derived.JoinedTies
import Derived.KernelRfl
namespace Go.Proofs.Ytfeoendbfdmkmaa
/- THE CELL 'sum', in the pinned program and in every row, IS THE sha256 OF THE DUMP (.gsa) THAT YtfeoendbfdmkmaaProg.lean LOADS. Nothing in Lean hashes anything: it is a label: what it is worth is what the hold of that sum in a sandbox is worth. -/
noncomputable def Try.pinned : Pinned := { name := "ytfeoendbfdmkmaa", sum := "c6a85f3850f53ab3a53987a4aaaf6be60c6a97a652de4d02994d2622ff90518b", checked := Try.checked }
namespace Rows
def none {H : Type} : Left H := { results := [], args := [] }

/-- 'laws.FnExactKeyValue': WHATEVER THE INPUT: true; the input reads as it did. -/
def fnExactKeyValueSpec : ChangeSpec := { name := "fnExactKeyValue", fn := fun _ => fun
  | [d] => { results := [.lit (.bool true)], args := [d] }
  | _ => none }
def fnExactKeyValueRow : OpenClaim := { program := "ytfeoendbfdmkmaa", sum := "c6a85f3850f53ab3a53987a4aaaf6be60c6a97a652de4d02994d2622ff90518b", func := "loop.example/g03011/laws.FnExactKeyValue", spec := "fnExactKeyValue", recurses := true, plainKeys := false, apart := false }
def FnExactKeyValueSaid : Prop := fnExactKeyValueRow.holds Try.pinned (OpenSpec.ofChange fnExactKeyValueSpec)

/-- ITS FALSE NEIGHBOUR: 'it returns false'. Refute it at one input. -/
def fnExactKeyValueWrong : ChangeSpec := { name := "fnExactKeyValue", fn := fun _ => fun
  | [d] => { results := [.lit (.bool false)], args := [d] }
  | _ => none }
def FnExactKeyValueWrongFalsely : Prop := fnExactKeyValueRow.holds Try.pinned (OpenSpec.ofChange fnExactKeyValueWrong)

/-- 'laws.FnExactFindKey': WHATEVER THE INPUT: true; the input reads as it did. -/
def fnExactFindKeySpec : ChangeSpec := { name := "fnExactFindKey", fn := fun _ => fun
  | [d1, d2] => { results := [.lit (.bool true)], args := [d1, d2] }
  | _ => none }
def fnExactFindKeyRow : OpenClaim := { program := "ytfeoendbfdmkmaa", sum := "c6a85f3850f53ab3a53987a4aaaf6be60c6a97a652de4d02994d2622ff90518b", func := "loop.example/g03011/laws.FnExactFindKey", spec := "fnExactFindKey", recurses := true, loops := true, plainKeys := false, apart := false }
def FnExactFindKeySaid : Prop := fnExactFindKeyRow.holds Try.pinned (OpenSpec.ofChange fnExactFindKeySpec)

/-- ITS FALSE NEIGHBOUR: 'it returns false'. Refute it at one input. -/
def fnExactFindKeyWrong : ChangeSpec := { name := "fnExactFindKey", fn := fun _ => fun
  | [d1, d2] => { results := [.lit (.bool false)], args := [d1, d2] }
  | _ => none }
def FnExactFindKeyWrongFalsely : Prop := fnExactFindKeyRow.holds Try.pinned (OpenSpec.ofChange fnExactFindKeyWrong)

/-- 'laws.FnExactGetKey': WHATEVER THE INPUT: true; the input reads as it did. -/
def fnExactGetKeySpec : ChangeSpec := { name := "fnExactGetKey", fn := fun _ => fun
  | [d1, d2] => { results := [.lit (.bool true)], args := [d1, d2] }
  | _ => none }
def fnExactGetKeyRow : OpenClaim := { program := "ytfeoendbfdmkmaa", sum := "c6a85f3850f53ab3a53987a4aaaf6be60c6a97a652de4d02994d2622ff90518b", func := "loop.example/g03011/laws.FnExactGetKey", spec := "fnExactGetKey", recurses := true, loops := true, plainKeys := false, apart := false }
def FnExactGetKeySaid : Prop := fnExactGetKeyRow.holds Try.pinned (OpenSpec.ofChange fnExactGetKeySpec)

/-- ITS FALSE NEIGHBOUR: 'it returns false'. Refute it at one input. -/
def fnExactGetKeyWrong : ChangeSpec := { name := "fnExactGetKey", fn := fun _ => fun
  | [d1, d2] => { results := [.lit (.bool false)], args := [d1, d2] }
  | _ => none }
def FnExactGetKeyWrongFalsely : Prop := fnExactGetKeyRow.holds Try.pinned (OpenSpec.ofChange fnExactGetKeyWrong)

/-- 'laws.FnExactDeleteKey': WHATEVER THE INPUT: true; the input reads as it did. -/
def fnExactDeleteKeySpec : ChangeSpec := { name := "fnExactDeleteKey", fn := fun _ => fun
  | [d1, d2] => { results := [.lit (.bool true)], args := [d1, d2] }
  | _ => none }
def fnExactDeleteKeyRow : OpenClaim := { program := "ytfeoendbfdmkmaa", sum := "c6a85f3850f53ab3a53987a4aaaf6be60c6a97a652de4d02994d2622ff90518b", func := "loop.example/g03011/laws.FnExactDeleteKey", spec := "fnExactDeleteKey", recurses := true, loops := true, plainKeys := false, apart := false }
def FnExactDeleteKeySaid : Prop := fnExactDeleteKeyRow.holds Try.pinned (OpenSpec.ofChange fnExactDeleteKeySpec)

/-- ITS FALSE NEIGHBOUR: 'it returns false'. Refute it at one input. -/
def fnExactDeleteKeyWrong : ChangeSpec := { name := "fnExactDeleteKey", fn := fun _ => fun
  | [d1, d2] => { results := [.lit (.bool false)], args := [d1, d2] }
  | _ => none }
def FnExactDeleteKeyWrongFalsely : Prop := fnExactDeleteKeyRow.holds Try.pinned (OpenSpec.ofChange fnExactDeleteKeyWrong)

/-- 'laws.FnExactKeysOf': WHATEVER THE INPUT: true; the input reads as it did. -/
def fnExactKeysOfSpec : ChangeSpec := { name := "fnExactKeysOf", fn := fun _ => fun
  | [d] => { results := [.lit (.bool true)], args := [d] }
  | _ => none }
def fnExactKeysOfRow : OpenClaim := { program := "ytfeoendbfdmkmaa", sum := "c6a85f3850f53ab3a53987a4aaaf6be60c6a97a652de4d02994d2622ff90518b", func := "loop.example/g03011/laws.FnExactKeysOf", spec := "fnExactKeysOf", recurses := true, loops := true, plainKeys := false, apart := false }
def FnExactKeysOfSaid : Prop := fnExactKeysOfRow.holds Try.pinned (OpenSpec.ofChange fnExactKeysOfSpec)

/-- ITS FALSE NEIGHBOUR: 'it returns false'. Refute it at one input. -/
def fnExactKeysOfWrong : ChangeSpec := { name := "fnExactKeysOf", fn := fun _ => fun
  | [d] => { results := [.lit (.bool false)], args := [d] }
  | _ => none }
def FnExactKeysOfWrongFalsely : Prop := fnExactKeysOfRow.holds Try.pinned (OpenSpec.ofChange fnExactKeysOfWrong)

/-- 'laws.FnExactValuesOf': WHATEVER THE INPUT: true; the input reads as it did. -/
def fnExactValuesOfSpec : ChangeSpec := { name := "fnExactValuesOf", fn := fun _ => fun
  | [d] => { results := [.lit (.bool true)], args := [d] }
  | _ => none }
def fnExactValuesOfRow : OpenClaim := { program := "ytfeoendbfdmkmaa", sum := "c6a85f3850f53ab3a53987a4aaaf6be60c6a97a652de4d02994d2622ff90518b", func := "loop.example/g03011/laws.FnExactValuesOf", spec := "fnExactValuesOf", recurses := true, loops := true, plainKeys := false, apart := false }
def FnExactValuesOfSaid : Prop := fnExactValuesOfRow.holds Try.pinned (OpenSpec.ofChange fnExactValuesOfSpec)

/-- ITS FALSE NEIGHBOUR: 'it returns false'. Refute it at one input. -/
def fnExactValuesOfWrong : ChangeSpec := { name := "fnExactValuesOf", fn := fun _ => fun
  | [d] => { results := [.lit (.bool false)], args := [d] }
  | _ => none }
def FnExactValuesOfWrongFalsely : Prop := fnExactValuesOfRow.holds Try.pinned (OpenSpec.ofChange fnExactValuesOfWrong)

/-- 'laws.FnExactListOf': WHATEVER THE INPUT: true; the input reads as it did. -/
def fnExactListOfSpec : ChangeSpec := { name := "fnExactListOf", fn := fun _ => fun
  | [d] => { results := [.lit (.bool true)], args := [d] }
  | _ => none }
def fnExactListOfRow : OpenClaim := { program := "ytfeoendbfdmkmaa", sum := "c6a85f3850f53ab3a53987a4aaaf6be60c6a97a652de4d02994d2622ff90518b", func := "loop.example/g03011/laws.FnExactListOf", spec := "fnExactListOf", recurses := true, loops := true, plainKeys := false, apart := false }
def FnExactListOfSaid : Prop := fnExactListOfRow.holds Try.pinned (OpenSpec.ofChange fnExactListOfSpec)

/-- ITS FALSE NEIGHBOUR: 'it returns false'. Refute it at one input. -/
def fnExactListOfWrong : ChangeSpec := { name := "fnExactListOf", fn := fun _ => fun
  | [d] => { results := [.lit (.bool false)], args := [d] }
  | _ => none }
def FnExactListOfWrongFalsely : Prop := fnExactListOfRow.holds Try.pinned (OpenSpec.ofChange fnExactListOfWrong)

/- THE SECOND FORM. 'bulk': how many values and letters a reading holds, each counted each time it is reached (what is shared counts as often as it is met; a slice's spare places count too). A statement '..UptoSaid' is the law's where the arguments, and the package variables that the reading takes, are together of bulk at most 1048576: NARROWER than '..Said'. Prove '..Said' where nothing that the law and all that it calls make is longer than what came in: it says more and counts as full. Else prove '..UptoSaid'. A law counts once. -/
mutual
def uptoBulk {H : Type} : DataW H → Nat
  | .lit (.string bytes) => bytes.length + 1
  | .lit _ => 1
  | .nil => 1
  | .ptr d => uptoBulk d + 1
  | .slice elems spare => uptoBulkAll elems + uptoBulkAll spare + 1
  | .agg parts => uptoBulkAll parts + 1
  | .iface _ d => uptoBulk d + 1
  | .map entries => uptoBulkEntries entries + 1
  | .held _ => 1
def uptoBulkAll {H : Type} : List (DataW H) → Nat
  | [] => 0
  | d :: r => uptoBulk d + uptoBulkAll r
def uptoBulkEntries {H : Type} : List (Lit × DataW H) → Nat
  | [] => 0
  | x :: r => uptoBulkEntry x + uptoBulkEntries r
def uptoBulkEntry {H : Type} : Lit × DataW H → Nat
  | (.string bytes, d) => bytes.length + uptoBulk d + 1
  | (_, d) => uptoBulk d + 1
 end
def uptoSmall : (H : Type) → List (DataW H) → Bool := fun _ ds => decide (uptoBulkAll ds ≤ 1048576)
def OpenSpec.upto (s : _root_.Go.ChangeSpec) : _root_.Go.OpenSpec := { _root_.Go.OpenSpec.ofChange s with cond := some uptoSmall }

/-- 'laws.FnExactKeyValue', WHERE WHAT IT READS IS OF BULK AT MOST 1048576: true; the input reads as it did. -/
def fnExactKeyValueUptoRow : OpenClaim := { program := "ytfeoendbfdmkmaa", sum := "c6a85f3850f53ab3a53987a4aaaf6be60c6a97a652de4d02994d2622ff90518b", func := "loop.example/g03011/laws.FnExactKeyValue", spec := "fnExactKeyValue", recurses := true, plainKeys := false, apart := false, narrowed := true }
def FnExactKeyValueUptoSaid : Prop := fnExactKeyValueUptoRow.holds Try.pinned (OpenSpec.upto fnExactKeyValueSpec)

/-- 'laws.FnExactFindKey', WHERE WHAT IT READS IS OF BULK AT MOST 1048576: true; the input reads as it did. -/
def fnExactFindKeyUptoRow : OpenClaim := { program := "ytfeoendbfdmkmaa", sum := "c6a85f3850f53ab3a53987a4aaaf6be60c6a97a652de4d02994d2622ff90518b", func := "loop.example/g03011/laws.FnExactFindKey", spec := "fnExactFindKey", recurses := true, loops := true, plainKeys := false, apart := false, narrowed := true }
def FnExactFindKeyUptoSaid : Prop := fnExactFindKeyUptoRow.holds Try.pinned (OpenSpec.upto fnExactFindKeySpec)

/-- 'laws.FnExactGetKey', WHERE WHAT IT READS IS OF BULK AT MOST 1048576: true; the input reads as it did. -/
def fnExactGetKeyUptoRow : OpenClaim := { program := "ytfeoendbfdmkmaa", sum := "c6a85f3850f53ab3a53987a4aaaf6be60c6a97a652de4d02994d2622ff90518b", func := "loop.example/g03011/laws.FnExactGetKey", spec := "fnExactGetKey", recurses := true, loops := true, plainKeys := false, apart := false, narrowed := true }
def FnExactGetKeyUptoSaid : Prop := fnExactGetKeyUptoRow.holds Try.pinned (OpenSpec.upto fnExactGetKeySpec)

/-- 'laws.FnExactDeleteKey', WHERE WHAT IT READS IS OF BULK AT MOST 1048576: true; the input reads as it did. -/
def fnExactDeleteKeyUptoRow : OpenClaim := { program := "ytfeoendbfdmkmaa", sum := "c6a85f3850f53ab3a53987a4aaaf6be60c6a97a652de4d02994d2622ff90518b", func := "loop.example/g03011/laws.FnExactDeleteKey", spec := "fnExactDeleteKey", recurses := true, loops := true, plainKeys := false, apart := false, narrowed := true }
def FnExactDeleteKeyUptoSaid : Prop := fnExactDeleteKeyUptoRow.holds Try.pinned (OpenSpec.upto fnExactDeleteKeySpec)

/-- 'laws.FnExactKeysOf', WHERE WHAT IT READS IS OF BULK AT MOST 1048576: true; the input reads as it did. -/
def fnExactKeysOfUptoRow : OpenClaim := { program := "ytfeoendbfdmkmaa", sum := "c6a85f3850f53ab3a53987a4aaaf6be60c6a97a652de4d02994d2622ff90518b", func := "loop.example/g03011/laws.FnExactKeysOf", spec := "fnExactKeysOf", recurses := true, loops := true, plainKeys := false, apart := false, narrowed := true }
def FnExactKeysOfUptoSaid : Prop := fnExactKeysOfUptoRow.holds Try.pinned (OpenSpec.upto fnExactKeysOfSpec)

/-- 'laws.FnExactValuesOf', WHERE WHAT IT READS IS OF BULK AT MOST 1048576: true; the input reads as it did. -/
def fnExactValuesOfUptoRow : OpenClaim := { program := "ytfeoendbfdmkmaa", sum := "c6a85f3850f53ab3a53987a4aaaf6be60c6a97a652de4d02994d2622ff90518b", func := "loop.example/g03011/laws.FnExactValuesOf", spec := "fnExactValuesOf", recurses := true, loops := true, plainKeys := false, apart := false, narrowed := true }
def FnExactValuesOfUptoSaid : Prop := fnExactValuesOfUptoRow.holds Try.pinned (OpenSpec.upto fnExactValuesOfSpec)

/-- 'laws.FnExactListOf', WHERE WHAT IT READS IS OF BULK AT MOST 1048576: true; the input reads as it did. -/
def fnExactListOfUptoRow : OpenClaim := { program := "ytfeoendbfdmkmaa", sum := "c6a85f3850f53ab3a53987a4aaaf6be60c6a97a652de4d02994d2622ff90518b", func := "loop.example/g03011/laws.FnExactListOf", spec := "fnExactListOf", recurses := true, loops := true, plainKeys := false, apart := false, narrowed := true }
def FnExactListOfUptoSaid : Prop := fnExactListOfUptoRow.holds Try.pinned (OpenSpec.upto fnExactListOfSpec)

end Rows
end Go.Proofs.Ytfeoendbfdmkmaa
