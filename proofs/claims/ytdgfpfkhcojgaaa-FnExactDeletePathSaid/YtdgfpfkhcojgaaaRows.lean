/-
  NARROWER THAN 'FOR EVERY INPUT', by the rows' own cells (each row's printed sentence says how): FnExactGetPath: loops · FnExactDeletePath: loops.
  DERIVED. THE GIVEN ROWS OF THIS SEAT. 2 by the template 'for every input the law returns true; each argument reads behind the call as it read before'; 0 by the template 'total and deterministic' (their statements: YtdgfpfkhcojgaaaTotals.lean).
  GIVEN WITH THE SEED: the statements are not yours to turn. If you find one false, say at which input.
  Laid BY PROGRAM, IN A SANDBOX (cutbox-rows.mjs): the forced cells as the released guide's own fill.sh prints them over the translation 8ac4140a294b7885… (all of the seat's roots in one cut). By AI agents, Wed Nov 11 2026. No macro, syntax, notation, axiom, sorry.
-/
import Derived.Test.YtdgfpfkhcojgaaaChecked
import GoSem.Claim
import GoSem.ClaimJoined
import GoSem.ClaimMapViews
import Derived.JoinedTies
import Derived.KernelRfl
namespace Go.Proofs.Ytdgfpfkhcojgaaa
/- THE CELL 'sum', in the pinned program and in every row, IS THE sha256 OF THE DUMP (.gsa) THAT YtdgfpfkhcojgaaaProg.lean LOADS. Nothing in Lean hashes anything: it is a label: what it is worth is what the hold of that sum in a sandbox is worth. -/
noncomputable def Try.pinned : Pinned := { name := "ytdgfpfkhcojgaaa", sum := "8ac4140a294b788552acb896e65b95c1e53b56b8dac8b61d54b1f2b5ddbc2a9f", checked := Try.checked }
namespace Rows
def none {H : Type} : Left H := { results := [], args := [] }

/-- 'laws.FnExactGetPath': WHATEVER THE INPUT: true; the input reads as it did. -/
def fnExactGetPathSpec : ChangeSpec := { name := "fnExactGetPath", fn := fun _ => fun
  | [d1, d2] => { results := [.lit (.bool true)], args := [d1, d2] }
  | _ => none }
def fnExactGetPathRow : OpenClaim := { program := "ytdgfpfkhcojgaaa", sum := "8ac4140a294b788552acb896e65b95c1e53b56b8dac8b61d54b1f2b5ddbc2a9f", func := "loop.example/g03011/laws.FnExactGetPath", spec := "fnExactGetPath", recurses := true, loops := true, plainKeys := false, apart := false }
def FnExactGetPathSaid : Prop := fnExactGetPathRow.holds Try.pinned (OpenSpec.ofChange fnExactGetPathSpec)

/-- ITS FALSE NEIGHBOUR: 'it returns false'. Refute it at one input. -/
def fnExactGetPathWrong : ChangeSpec := { name := "fnExactGetPath", fn := fun _ => fun
  | [d1, d2] => { results := [.lit (.bool false)], args := [d1, d2] }
  | _ => none }
def FnExactGetPathWrongFalsely : Prop := fnExactGetPathRow.holds Try.pinned (OpenSpec.ofChange fnExactGetPathWrong)

/-- 'laws.FnExactDeletePath': WHATEVER THE INPUT: true; the input reads as it did. -/
def fnExactDeletePathSpec : ChangeSpec := { name := "fnExactDeletePath", fn := fun _ => fun
  | [d1, d2] => { results := [.lit (.bool true)], args := [d1, d2] }
  | _ => none }
def fnExactDeletePathRow : OpenClaim := { program := "ytdgfpfkhcojgaaa", sum := "8ac4140a294b788552acb896e65b95c1e53b56b8dac8b61d54b1f2b5ddbc2a9f", func := "loop.example/g03011/laws.FnExactDeletePath", spec := "fnExactDeletePath", unfollowed := true, recurses := true, loops := true, plainKeys := false, apart := false }
def FnExactDeletePathSaid : Prop := fnExactDeletePathRow.holds Try.pinned (OpenSpec.ofChange fnExactDeletePathSpec)

/-- ITS FALSE NEIGHBOUR: 'it returns false'. Refute it at one input. -/
def fnExactDeletePathWrong : ChangeSpec := { name := "fnExactDeletePath", fn := fun _ => fun
  | [d1, d2] => { results := [.lit (.bool false)], args := [d1, d2] }
  | _ => none }
def FnExactDeletePathWrongFalsely : Prop := fnExactDeletePathRow.holds Try.pinned (OpenSpec.ofChange fnExactDeletePathWrong)

/- THE SECOND FORM. 'bulk': how many values and letters a reading holds, each counted each time it is reached (what is shared counts as often as it is met; a slice's spare places count too). A statement '..UptoSaid' is the law's where the arguments, and the package variables that the reading takes, are together of bulk at most 1048576: NARROWER than '..Said'. Prove '..Said' where nothing that the law and all that it calls make is longer than what came in: it says more and counts as full. Else prove '..UptoSaid'. A law counts once. -/
mutual
def uptoBulk {H : Type} : DataW H → Nat
  | .lit (.string bytes) => bytes.length + 1
  | .lit _ => 1
  | .nil => 1
  | .ptr d => uptoBulk d + 1
  | .slice elems spare => uptoBulkAll elems + uptoBulkAll spare + 1
  | .agg parts => uptoBulkAll parts + 1
  | .iface _ d => uptoBulk d + 1
  | .map entries => uptoBulkEntries entries + 1
  | .held _ => 1
def uptoBulkAll {H : Type} : List (DataW H) → Nat
  | [] => 0
  | d :: r => uptoBulk d + uptoBulkAll r
def uptoBulkEntries {H : Type} : List (Lit × DataW H) → Nat
  | [] => 0
  | x :: r => uptoBulkEntry x + uptoBulkEntries r
def uptoBulkEntry {H : Type} : Lit × DataW H → Nat
  | (.string bytes, d) => bytes.length + uptoBulk d + 1
  | (_, d) => uptoBulk d + 1
 end
def uptoSmall : (H : Type) → List (DataW H) → Bool := fun _ ds => decide (uptoBulkAll ds ≤ 1048576)
def OpenSpec.upto (s : _root_.Go.ChangeSpec) : _root_.Go.OpenSpec := { _root_.Go.OpenSpec.ofChange s with cond := some uptoSmall }

/-- 'laws.FnExactGetPath', WHERE WHAT IT READS IS OF BULK AT MOST 1048576: true; the input reads as it did. -/
def fnExactGetPathUptoRow : OpenClaim := { program := "ytdgfpfkhcojgaaa", sum := "8ac4140a294b788552acb896e65b95c1e53b56b8dac8b61d54b1f2b5ddbc2a9f", func := "loop.example/g03011/laws.FnExactGetPath", spec := "fnExactGetPath", recurses := true, loops := true, plainKeys := false, apart := false, narrowed := true }
def FnExactGetPathUptoSaid : Prop := fnExactGetPathUptoRow.holds Try.pinned (OpenSpec.upto fnExactGetPathSpec)

/-- 'laws.FnExactDeletePath', WHERE WHAT IT READS IS OF BULK AT MOST 1048576: true; the input reads as it did. -/
def fnExactDeletePathUptoRow : OpenClaim := { program := "ytdgfpfkhcojgaaa", sum := "8ac4140a294b788552acb896e65b95c1e53b56b8dac8b61d54b1f2b5ddbc2a9f", func := "loop.example/g03011/laws.FnExactDeletePath", spec := "fnExactDeletePath", unfollowed := true, recurses := true, loops := true, plainKeys := false, apart := false, narrowed := true }
def FnExactDeletePathUptoSaid : Prop := fnExactDeletePathUptoRow.holds Try.pinned (OpenSpec.upto fnExactDeletePathSpec)

end Rows
end Go.Proofs.Ytdgfpfkhcojgaaa
