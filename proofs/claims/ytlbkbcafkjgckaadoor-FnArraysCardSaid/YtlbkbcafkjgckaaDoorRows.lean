/-
  NARROWER THAN 'FOR EVERY INPUT', by the rows' own cells (each row's printed sentence says how): FnArrays: laid · FnCompare: ifaces, laid · FnSort: ifaces, laid · FnConversions: ifaces, laid · FnExactToText: loops, ifaces, laid · FnExactToNumber: loops, ifaces, laid · FnExactCompareValues: loops, ifaces, laid · FnExactLooseEqual: loops, ifaces, laid · FnExactIsOrdered: loops, ifaces, laid.
  DERIVED. THE GIVEN ROWS OF THIS SEAT. 9 by the template 'for every input the law returns true; each argument reads behind the call as it read before'; 0 by the template 'total and deterministic' (their statements: YtlbkbcafkjgckaaDoorTotals.lean).
  GIVEN WITH THE SEED: the statements are not yours to turn. If you find one false, say at which input.
  Laid BY PROGRAM, IN A SANDBOX (cutbox-rows.mjs): the forced cells as the released guide's own fill.sh prints them over the translation d5de040a408dd548… (all of the seat's roots in one cut). By AI agents, Wed Nov 11 2026. No macro, syntax, notation, axiom, sorry.
-/
import Derived.Test.YtlbkbcafkjgckaaDoorChecked
import GoSem.Claim
import GoSem.ClaimJoined
import GoSem.ClaimMapViews
import Derived.JoinedTies
import Derived.KernelRfl
namespace Go.Proofs.YtlbkbcafkjgckaaDoor
/- THE CELL 'sum', in the pinned program and in every row, IS THE sha256 OF THE DUMP (.gsa) THAT YtlbkbcafkjgckaaDoorProg.lean LOADS. Nothing in Lean hashes anything: it is a label: what it is worth is what the hold of that sum in a sandbox is worth. -/
noncomputable def Tryd.pinned : Pinned := { name := "ytlbkbcafkjgckaadoor", sum := "d5de040a408dd548938ec850236f22002d5138f734f247c5fdd361bc095cf1ad", checked := Tryd.checked }
namespace Rows
def none {H : Type} : Left H := { results := [], args := [] }

/- WHAT THE LISTED PACKAGE-LEVEL VARIABLES READ AS WHEN THE CALL BEGINS. Each datum BY PROGRAM (the guide's laid-datum.mjs) off the statement by which the dump's own 'gosem.cut.vars' lays the variable. In a bare row this is a premise. The card (YtlbkbcafkjgckaaDoorCards.lean) ties it to the program's text. -/
def laid_math_bits_deBruijn32tab {H : Type} : DataW H := .agg [.lit (.int .u8 0), .lit (.int .u8 1), .lit (.int .u8 28), .lit (.int .u8 2), .lit (.int .u8 29), .lit (.int .u8 14), .lit (.int .u8 24), .lit (.int .u8 3), .lit (.int .u8 30), .lit (.int .u8 22), .lit (.int .u8 20), .lit (.int .u8 15), .lit (.int .u8 25), .lit (.int .u8 17), .lit (.int .u8 4), .lit (.int .u8 8), .lit (.int .u8 31), .lit (.int .u8 27), .lit (.int .u8 13), .lit (.int .u8 23), .lit (.int .u8 21), .lit (.int .u8 19), .lit (.int .u8 16), .lit (.int .u8 7), .lit (.int .u8 26), .lit (.int .u8 12), .lit (.int .u8 18), .lit (.int .u8 6), .lit (.int .u8 11), .lit (.int .u8 5), .lit (.int .u8 10), .lit (.int .u8 9)]
def laid_math_bits_deBruijn64tab {H : Type} : DataW H := .agg [.lit (.int .u8 0), .lit (.int .u8 1), .lit (.int .u8 56), .lit (.int .u8 2), .lit (.int .u8 57), .lit (.int .u8 49), .lit (.int .u8 28), .lit (.int .u8 3), .lit (.int .u8 61), .lit (.int .u8 58), .lit (.int .u8 42), .lit (.int .u8 50), .lit (.int .u8 38), .lit (.int .u8 29), .lit (.int .u8 17), .lit (.int .u8 4), .lit (.int .u8 62), .lit (.int .u8 47), .lit (.int .u8 59), .lit (.int .u8 36), .lit (.int .u8 45), .lit (.int .u8 43), .lit (.int .u8 51), .lit (.int .u8 22), .lit (.int .u8 53), .lit (.int .u8 39), .lit (.int .u8 33), .lit (.int .u8 30), .lit (.int .u8 24), .lit (.int .u8 18), .lit (.int .u8 12), .lit (.int .u8 5), .lit (.int .u8 63), .lit (.int .u8 55), .lit (.int .u8 48), .lit (.int .u8 27), .lit (.int .u8 60), .lit (.int .u8 41), .lit (.int .u8 37), .lit (.int .u8 16), .lit (.int .u8 46), .lit (.int .u8 35), .lit (.int .u8 44), .lit (.int .u8 21), .lit (.int .u8 52), .lit (.int .u8 32), .lit (.int .u8 23), .lit (.int .u8 11), .lit (.int .u8 54), .lit (.int .u8 26), .lit (.int .u8 40), .lit (.int .u8 15), .lit (.int .u8 34), .lit (.int .u8 20), .lit (.int .u8 31), .lit (.int .u8 10), .lit (.int .u8 25), .lit (.int .u8 14), .lit (.int .u8 19), .lit (.int .u8 9), .lit (.int .u8 13), .lit (.int .u8 8), .lit (.int .u8 7), .lit (.int .u8 6)]
def laid_internal_strconv_uint64pow10 {H : Type} : DataW H := .agg [.lit (.int .u64 1), .lit (.int .u64 10), .lit (.int .u64 100), .lit (.int .u64 1000), .lit (.int .u64 10000), .lit (.int .u64 100000), .lit (.int .u64 1000000), .lit (.int .u64 10000000), .lit (.int .u64 100000000), .lit (.int .u64 1000000000), .lit (.int .u64 10000000000), .lit (.int .u64 100000000000), .lit (.int .u64 1000000000000), .lit (.int .u64 10000000000000), .lit (.int .u64 100000000000000), .lit (.int .u64 1000000000000000), .lit (.int .u64 10000000000000000), .lit (.int .u64 100000000000000000), .lit (.int .u64 1000000000000000000), .lit (.int .u64 10000000000000000000)]
def laid_strconv_ErrRange {H : Type} : DataW H := .iface "*errors.errorString" (.ptr (.agg [.lit (.string [118, 97, 108, 117, 101, 32, 111, 117, 116, 32, 111, 102, 32, 114, 97, 110, 103, 101])]))
def laid_strconv_ErrSyntax {H : Type} : DataW H := .iface "*errors.errorString" (.ptr (.agg [.lit (.string [105, 110, 118, 97, 108, 105, 100, 32, 115, 121, 110, 116, 97, 120])]))
def laid_loop_example_g03011_impl_errNoText {H : Type} : DataW H := .iface "*errors.errorString" (.ptr (.agg [.lit (.string [116, 104, 101, 32, 118, 97, 108, 117, 101, 32, 104, 97, 115, 32, 110, 111, 32, 116, 101, 120, 116])]))
def laid_loop_example_g03011_impl_errNoNumber {H : Type} : DataW H := .iface "*errors.errorString" (.ptr (.agg [.lit (.string [116, 104, 101, 32, 118, 97, 108, 117, 101, 32, 105, 115, 32, 110, 111, 32, 110, 117, 109, 98, 101, 114])]))

/-- 'laws.FnArrays': WHATEVER THE INPUT: true; the input reads as it did. -/
def fnArraysSpec : ChangeSpec := { name := "fnArrays", fn := fun _ => fun
  | [d] => { results := [.lit (.bool true)], args := [d] }
  | _ => none }
def fnArraysRow : OpenClaim := { program := "ytlbkbcafkjgckaadoor", sum := "d5de040a408dd548938ec850236f22002d5138f734f247c5fdd361bc095cf1ad", func := "loop.example/g03011/laws.FnArrays", spec := "fnArrays", recurses := true, named := ["strconv.ErrSyntax", "strconv.ErrRange", "internal/strconv.uint64pow10", "math/bits.deBruijn32tab", "math/bits.deBruijn64tab"], plainKeys := false, apart := false, laid := [("math/bits.deBruijn32tab", laid_math_bits_deBruijn32tab), ("math/bits.deBruijn64tab", laid_math_bits_deBruijn64tab), ("internal/strconv.uint64pow10", laid_internal_strconv_uint64pow10), ("strconv.ErrRange", laid_strconv_ErrRange), ("strconv.ErrSyntax", laid_strconv_ErrSyntax)] }
def FnArraysSaid : Prop := fnArraysRow.holds Tryd.pinned (OpenSpec.ofChange fnArraysSpec)

/-- ITS FALSE NEIGHBOUR: 'it returns false'. Refute it at one input. -/
def fnArraysWrong : ChangeSpec := { name := "fnArrays", fn := fun _ => fun
  | [d] => { results := [.lit (.bool false)], args := [d] }
  | _ => none }
def FnArraysWrongFalsely : Prop := fnArraysRow.holds Tryd.pinned (OpenSpec.ofChange fnArraysWrong)

/-- 'laws.FnCompare': WHATEVER THE INPUT: true; the input reads as it did. -/
def fnCompareSpec : ChangeSpec := { name := "fnCompare", vars := ["loop.example/g03011/impl.errNoNumber", "loop.example/g03011/impl.errNoText"], fn := fun _ => fun
  | [d, g1, g2] => { results := [.lit (.bool true)], args := [d], vars := [g1, g2] }
  | _ => none }
def fnCompareRow : OpenClaim := { program := "ytlbkbcafkjgckaadoor", sum := "d5de040a408dd548938ec850236f22002d5138f734f247c5fdd361bc095cf1ad", func := "loop.example/g03011/laws.FnCompare", spec := "fnCompare", inPlace := ["internal/bytealg.abigen_runtime_cmpstring"], recurses := true, named := ["loop.example/g03011/impl.errNoNumber", "loop.example/g03011/impl.errNoText", "internal/strconv.uint64pow10", "math/bits.deBruijn32tab", "math/bits.deBruijn64tab"], ifaces := true, plainKeys := false, apart := false, laid := [("math/bits.deBruijn32tab", laid_math_bits_deBruijn32tab), ("math/bits.deBruijn64tab", laid_math_bits_deBruijn64tab), ("internal/strconv.uint64pow10", laid_internal_strconv_uint64pow10), ("loop.example/g03011/impl.errNoText", laid_loop_example_g03011_impl_errNoText), ("loop.example/g03011/impl.errNoNumber", laid_loop_example_g03011_impl_errNoNumber)] }
def FnCompareSaid : Prop := fnCompareRow.holds Tryd.pinned (OpenSpec.ofChange fnCompareSpec)

/-- ITS FALSE NEIGHBOUR: 'it returns false'. Refute it at one input. -/
def fnCompareWrong : ChangeSpec := { name := "fnCompare", vars := ["loop.example/g03011/impl.errNoNumber", "loop.example/g03011/impl.errNoText"], fn := fun _ => fun
  | [d, g1, g2] => { results := [.lit (.bool false)], args := [d], vars := [g1, g2] }
  | _ => none }
def FnCompareWrongFalsely : Prop := fnCompareRow.holds Tryd.pinned (OpenSpec.ofChange fnCompareWrong)

/-- 'laws.FnSort': WHATEVER THE INPUT: true; the input reads as it did. -/
def fnSortSpec : ChangeSpec := { name := "fnSort", vars := ["loop.example/g03011/impl.errNoNumber", "loop.example/g03011/impl.errNoText"], fn := fun _ => fun
  | [d, g1, g2] => { results := [.lit (.bool true)], args := [d], vars := [g1, g2] }
  | _ => none }
def fnSortRow : OpenClaim := { program := "ytlbkbcafkjgckaadoor", sum := "d5de040a408dd548938ec850236f22002d5138f734f247c5fdd361bc095cf1ad", func := "loop.example/g03011/laws.FnSort", spec := "fnSort", inPlace := ["slices.overlaps[loop.example/g03011/impl.Value]", "internal/bytealg.abigen_runtime_cmpstring"], unfollowed := true, recurses := true, named := ["loop.example/g03011/impl.errNoNumber", "loop.example/g03011/impl.errNoText", "internal/strconv.uint64pow10", "math/bits.deBruijn32tab", "math/bits.deBruijn64tab"], ifaces := true, plainKeys := false, apart := false, laid := [("math/bits.deBruijn32tab", laid_math_bits_deBruijn32tab), ("math/bits.deBruijn64tab", laid_math_bits_deBruijn64tab), ("internal/strconv.uint64pow10", laid_internal_strconv_uint64pow10), ("loop.example/g03011/impl.errNoText", laid_loop_example_g03011_impl_errNoText), ("loop.example/g03011/impl.errNoNumber", laid_loop_example_g03011_impl_errNoNumber)] }
def FnSortSaid : Prop := fnSortRow.holds Tryd.pinned (OpenSpec.ofChange fnSortSpec)

/-- ITS FALSE NEIGHBOUR: 'it returns false'. Refute it at one input. -/
def fnSortWrong : ChangeSpec := { name := "fnSort", vars := ["loop.example/g03011/impl.errNoNumber", "loop.example/g03011/impl.errNoText"], fn := fun _ => fun
  | [d, g1, g2] => { results := [.lit (.bool false)], args := [d], vars := [g1, g2] }
  | _ => none }
def FnSortWrongFalsely : Prop := fnSortRow.holds Tryd.pinned (OpenSpec.ofChange fnSortWrong)

/-- 'laws.FnConversions': WHATEVER THE INPUT: true; the input reads as it did. -/
def fnConversionsSpec : ChangeSpec := { name := "fnConversions", vars := ["loop.example/g03011/impl.errNoText", "loop.example/g03011/impl.errNoNumber"], fn := fun _ => fun
  | [d, g1, g2] => { results := [.lit (.bool true)], args := [d], vars := [g1, g2] }
  | _ => none }
def fnConversionsRow : OpenClaim := { program := "ytlbkbcafkjgckaadoor", sum := "d5de040a408dd548938ec850236f22002d5138f734f247c5fdd361bc095cf1ad", func := "loop.example/g03011/laws.FnConversions", spec := "fnConversions", inPlace := ["internal/reflectlite.TypeOf"], unfollowed := true, recurses := true, named := ["loop.example/g03011/impl.errNoText", "internal/strconv.uint64pow10", "math/bits.deBruijn32tab", "math/bits.deBruijn64tab", "strconv.ErrSyntax", "strconv.ErrRange", "loop.example/g03011/impl.errNoNumber"], ifaces := true, plainKeys := false, apart := false, laid := [("math/bits.deBruijn32tab", laid_math_bits_deBruijn32tab), ("math/bits.deBruijn64tab", laid_math_bits_deBruijn64tab), ("internal/strconv.uint64pow10", laid_internal_strconv_uint64pow10), ("strconv.ErrRange", laid_strconv_ErrRange), ("strconv.ErrSyntax", laid_strconv_ErrSyntax), ("loop.example/g03011/impl.errNoText", laid_loop_example_g03011_impl_errNoText), ("loop.example/g03011/impl.errNoNumber", laid_loop_example_g03011_impl_errNoNumber)] }
def FnConversionsSaid : Prop := fnConversionsRow.holds Tryd.pinned (OpenSpec.ofChange fnConversionsSpec)

/-- ITS FALSE NEIGHBOUR: 'it returns false'. Refute it at one input. -/
def fnConversionsWrong : ChangeSpec := { name := "fnConversions", vars := ["loop.example/g03011/impl.errNoText", "loop.example/g03011/impl.errNoNumber"], fn := fun _ => fun
  | [d, g1, g2] => { results := [.lit (.bool false)], args := [d], vars := [g1, g2] }
  | _ => none }
def FnConversionsWrongFalsely : Prop := fnConversionsRow.holds Tryd.pinned (OpenSpec.ofChange fnConversionsWrong)

/-- 'laws.FnExactToText': WHATEVER THE INPUT: true; the input reads as it did. -/
def fnExactToTextSpec : ChangeSpec := { name := "fnExactToText", vars := ["loop.example/g03011/impl.errNoText"], fn := fun _ => fun
  | [d, g1] => { results := [.lit (.bool true)], args := [d], vars := [g1] }
  | _ => none }
def fnExactToTextRow : OpenClaim := { program := "ytlbkbcafkjgckaadoor", sum := "d5de040a408dd548938ec850236f22002d5138f734f247c5fdd361bc095cf1ad", func := "loop.example/g03011/laws.FnExactToText", spec := "fnExactToText", inPlace := ["internal/reflectlite.TypeOf"], unfollowed := true, recurses := true, named := ["loop.example/g03011/impl.errNoText", "internal/strconv.uint64pow10", "math/bits.deBruijn32tab", "math/bits.deBruijn64tab"], ifaces := true, loops := true, plainKeys := false, apart := false, laid := [("math/bits.deBruijn32tab", laid_math_bits_deBruijn32tab), ("math/bits.deBruijn64tab", laid_math_bits_deBruijn64tab), ("internal/strconv.uint64pow10", laid_internal_strconv_uint64pow10), ("loop.example/g03011/impl.errNoText", laid_loop_example_g03011_impl_errNoText)] }
def FnExactToTextSaid : Prop := fnExactToTextRow.holds Tryd.pinned (OpenSpec.ofChange fnExactToTextSpec)

/-- ITS FALSE NEIGHBOUR: 'it returns false'. Refute it at one input. -/
def fnExactToTextWrong : ChangeSpec := { name := "fnExactToText", vars := ["loop.example/g03011/impl.errNoText"], fn := fun _ => fun
  | [d, g1] => { results := [.lit (.bool false)], args := [d], vars := [g1] }
  | _ => none }
def FnExactToTextWrongFalsely : Prop := fnExactToTextRow.holds Tryd.pinned (OpenSpec.ofChange fnExactToTextWrong)

/-- 'laws.FnExactToNumber': WHATEVER THE INPUT: true; the input reads as it did. -/
def fnExactToNumberSpec : ChangeSpec := { name := "fnExactToNumber", vars := ["loop.example/g03011/impl.errNoNumber", "loop.example/g03011/impl.errNoText"], fn := fun _ => fun
  | [d, g1, g2] => { results := [.lit (.bool true)], args := [d], vars := [g1, g2] }
  | _ => none }
def fnExactToNumberRow : OpenClaim := { program := "ytlbkbcafkjgckaadoor", sum := "d5de040a408dd548938ec850236f22002d5138f734f247c5fdd361bc095cf1ad", func := "loop.example/g03011/laws.FnExactToNumber", spec := "fnExactToNumber", inPlace := ["internal/reflectlite.TypeOf"], unfollowed := true, recurses := true, named := ["loop.example/g03011/impl.errNoNumber", "loop.example/g03011/impl.errNoText"], ifaces := true, loops := true, plainKeys := false, apart := false, laid := [("loop.example/g03011/impl.errNoText", laid_loop_example_g03011_impl_errNoText), ("loop.example/g03011/impl.errNoNumber", laid_loop_example_g03011_impl_errNoNumber)] }
def FnExactToNumberSaid : Prop := fnExactToNumberRow.holds Tryd.pinned (OpenSpec.ofChange fnExactToNumberSpec)

/-- ITS FALSE NEIGHBOUR: 'it returns false'. Refute it at one input. -/
def fnExactToNumberWrong : ChangeSpec := { name := "fnExactToNumber", vars := ["loop.example/g03011/impl.errNoNumber", "loop.example/g03011/impl.errNoText"], fn := fun _ => fun
  | [d, g1, g2] => { results := [.lit (.bool false)], args := [d], vars := [g1, g2] }
  | _ => none }
def FnExactToNumberWrongFalsely : Prop := fnExactToNumberRow.holds Tryd.pinned (OpenSpec.ofChange fnExactToNumberWrong)

/-- 'laws.FnExactCompareValues': WHATEVER THE INPUT: true; the input reads as it did. -/
def fnExactCompareValuesSpec : ChangeSpec := { name := "fnExactCompareValues", vars := ["loop.example/g03011/impl.errNoNumber", "loop.example/g03011/impl.errNoText"], fn := fun _ => fun
  | [d1, d2, g1, g2] => { results := [.lit (.bool true)], args := [d1, d2], vars := [g1, g2] }
  | _ => none }
def fnExactCompareValuesRow : OpenClaim := { program := "ytlbkbcafkjgckaadoor", sum := "d5de040a408dd548938ec850236f22002d5138f734f247c5fdd361bc095cf1ad", func := "loop.example/g03011/laws.FnExactCompareValues", spec := "fnExactCompareValues", inPlace := ["internal/bytealg.abigen_runtime_cmpstring"], recurses := true, named := ["loop.example/g03011/impl.errNoNumber", "loop.example/g03011/impl.errNoText", "internal/strconv.uint64pow10", "math/bits.deBruijn32tab", "math/bits.deBruijn64tab"], ifaces := true, loops := true, plainKeys := false, apart := false, laid := [("math/bits.deBruijn32tab", laid_math_bits_deBruijn32tab), ("math/bits.deBruijn64tab", laid_math_bits_deBruijn64tab), ("internal/strconv.uint64pow10", laid_internal_strconv_uint64pow10), ("loop.example/g03011/impl.errNoText", laid_loop_example_g03011_impl_errNoText), ("loop.example/g03011/impl.errNoNumber", laid_loop_example_g03011_impl_errNoNumber)] }
def FnExactCompareValuesSaid : Prop := fnExactCompareValuesRow.holds Tryd.pinned (OpenSpec.ofChange fnExactCompareValuesSpec)

/-- ITS FALSE NEIGHBOUR: 'it returns false'. Refute it at one input. -/
def fnExactCompareValuesWrong : ChangeSpec := { name := "fnExactCompareValues", vars := ["loop.example/g03011/impl.errNoNumber", "loop.example/g03011/impl.errNoText"], fn := fun _ => fun
  | [d1, d2, g1, g2] => { results := [.lit (.bool false)], args := [d1, d2], vars := [g1, g2] }
  | _ => none }
def FnExactCompareValuesWrongFalsely : Prop := fnExactCompareValuesRow.holds Tryd.pinned (OpenSpec.ofChange fnExactCompareValuesWrong)

/-- 'laws.FnExactLooseEqual': WHATEVER THE INPUT: true; the input reads as it did. -/
def fnExactLooseEqualSpec : ChangeSpec := { name := "fnExactLooseEqual", vars := ["loop.example/g03011/impl.errNoNumber", "loop.example/g03011/impl.errNoText"], fn := fun _ => fun
  | [d1, d2, g1, g2] => { results := [.lit (.bool true)], args := [d1, d2], vars := [g1, g2] }
  | _ => none }
def fnExactLooseEqualRow : OpenClaim := { program := "ytlbkbcafkjgckaadoor", sum := "d5de040a408dd548938ec850236f22002d5138f734f247c5fdd361bc095cf1ad", func := "loop.example/g03011/laws.FnExactLooseEqual", spec := "fnExactLooseEqual", inPlace := ["internal/bytealg.abigen_runtime_cmpstring"], recurses := true, named := ["loop.example/g03011/impl.errNoNumber", "loop.example/g03011/impl.errNoText", "internal/strconv.uint64pow10", "math/bits.deBruijn32tab", "math/bits.deBruijn64tab"], ifaces := true, loops := true, plainKeys := false, apart := false, laid := [("math/bits.deBruijn32tab", laid_math_bits_deBruijn32tab), ("math/bits.deBruijn64tab", laid_math_bits_deBruijn64tab), ("internal/strconv.uint64pow10", laid_internal_strconv_uint64pow10), ("loop.example/g03011/impl.errNoText", laid_loop_example_g03011_impl_errNoText), ("loop.example/g03011/impl.errNoNumber", laid_loop_example_g03011_impl_errNoNumber)] }
def FnExactLooseEqualSaid : Prop := fnExactLooseEqualRow.holds Tryd.pinned (OpenSpec.ofChange fnExactLooseEqualSpec)

/-- ITS FALSE NEIGHBOUR: 'it returns false'. Refute it at one input. -/
def fnExactLooseEqualWrong : ChangeSpec := { name := "fnExactLooseEqual", vars := ["loop.example/g03011/impl.errNoNumber", "loop.example/g03011/impl.errNoText"], fn := fun _ => fun
  | [d1, d2, g1, g2] => { results := [.lit (.bool false)], args := [d1, d2], vars := [g1, g2] }
  | _ => none }
def FnExactLooseEqualWrongFalsely : Prop := fnExactLooseEqualRow.holds Tryd.pinned (OpenSpec.ofChange fnExactLooseEqualWrong)

/-- 'laws.FnExactIsOrdered': WHATEVER THE INPUT: true; the input reads as it did. -/
def fnExactIsOrderedSpec : ChangeSpec := { name := "fnExactIsOrdered", vars := ["loop.example/g03011/impl.errNoNumber", "loop.example/g03011/impl.errNoText"], fn := fun _ => fun
  | [d, g1, g2] => { results := [.lit (.bool true)], args := [d], vars := [g1, g2] }
  | _ => none }
def fnExactIsOrderedRow : OpenClaim := { program := "ytlbkbcafkjgckaadoor", sum := "d5de040a408dd548938ec850236f22002d5138f734f247c5fdd361bc095cf1ad", func := "loop.example/g03011/laws.FnExactIsOrdered", spec := "fnExactIsOrdered", inPlace := ["internal/bytealg.abigen_runtime_cmpstring"], recurses := true, named := ["loop.example/g03011/impl.errNoNumber", "loop.example/g03011/impl.errNoText", "internal/strconv.uint64pow10", "math/bits.deBruijn32tab", "math/bits.deBruijn64tab"], ifaces := true, loops := true, plainKeys := false, apart := false, laid := [("math/bits.deBruijn32tab", laid_math_bits_deBruijn32tab), ("math/bits.deBruijn64tab", laid_math_bits_deBruijn64tab), ("internal/strconv.uint64pow10", laid_internal_strconv_uint64pow10), ("loop.example/g03011/impl.errNoText", laid_loop_example_g03011_impl_errNoText), ("loop.example/g03011/impl.errNoNumber", laid_loop_example_g03011_impl_errNoNumber)] }
def FnExactIsOrderedSaid : Prop := fnExactIsOrderedRow.holds Tryd.pinned (OpenSpec.ofChange fnExactIsOrderedSpec)

/-- ITS FALSE NEIGHBOUR: 'it returns false'. Refute it at one input. -/
def fnExactIsOrderedWrong : ChangeSpec := { name := "fnExactIsOrdered", vars := ["loop.example/g03011/impl.errNoNumber", "loop.example/g03011/impl.errNoText"], fn := fun _ => fun
  | [d, g1, g2] => { results := [.lit (.bool false)], args := [d], vars := [g1, g2] }
  | _ => none }
def FnExactIsOrderedWrongFalsely : Prop := fnExactIsOrderedRow.holds Tryd.pinned (OpenSpec.ofChange fnExactIsOrderedWrong)

/- THE SECOND FORM. 'bulk': how many values and letters a reading holds, each counted each time it is reached (what is shared counts as often as it is met; a slice's spare places count too). A statement '..UptoSaid' is the law's where the arguments, and the package variables that the reading takes, are together of bulk at most 1048576: NARROWER than '..Said'. Prove '..Said' where nothing that the law and all that it calls make is longer than what came in: it says more and counts as full. Else prove '..UptoSaid'. A law counts once. -/
mutual
def uptoBulk {H : Type} : DataW H → Nat
  | .lit (.string bytes) => bytes.length + 1
  | .lit _ => 1
  | .nil => 1
  | .ptr d => uptoBulk d + 1
  | .slice elems spare => uptoBulkAll elems + uptoBulkAll spare + 1
  | .agg parts => uptoBulkAll parts + 1
  | .iface _ d => uptoBulk d + 1
  | .map entries => uptoBulkEntries entries + 1
  | .held _ => 1
def uptoBulkAll {H : Type} : List (DataW H) → Nat
  | [] => 0
  | d :: r => uptoBulk d + uptoBulkAll r
def uptoBulkEntries {H : Type} : List (Lit × DataW H) → Nat
  | [] => 0
  | x :: r => uptoBulkEntry x + uptoBulkEntries r
def uptoBulkEntry {H : Type} : Lit × DataW H → Nat
  | (.string bytes, d) => bytes.length + uptoBulk d + 1
  | (_, d) => uptoBulk d + 1
 end
def uptoSmall : (H : Type) → List (DataW H) → Bool := fun _ ds => decide (uptoBulkAll ds ≤ 1048576)
def OpenSpec.upto (s : _root_.Go.ChangeSpec) : _root_.Go.OpenSpec := { _root_.Go.OpenSpec.ofChange s with cond := some uptoSmall }

/-- 'laws.FnArrays', WHERE WHAT IT READS IS OF BULK AT MOST 1048576: true; the input reads as it did. -/
def fnArraysUptoRow : OpenClaim := { program := "ytlbkbcafkjgckaadoor", sum := "d5de040a408dd548938ec850236f22002d5138f734f247c5fdd361bc095cf1ad", func := "loop.example/g03011/laws.FnArrays", spec := "fnArrays", recurses := true, named := ["strconv.ErrSyntax", "strconv.ErrRange", "internal/strconv.uint64pow10", "math/bits.deBruijn32tab", "math/bits.deBruijn64tab"], plainKeys := false, apart := false, laid := [("math/bits.deBruijn32tab", laid_math_bits_deBruijn32tab), ("math/bits.deBruijn64tab", laid_math_bits_deBruijn64tab), ("internal/strconv.uint64pow10", laid_internal_strconv_uint64pow10), ("strconv.ErrRange", laid_strconv_ErrRange), ("strconv.ErrSyntax", laid_strconv_ErrSyntax)], narrowed := true }
def FnArraysUptoSaid : Prop := fnArraysUptoRow.holds Tryd.pinned (OpenSpec.upto fnArraysSpec)

/-- 'laws.FnCompare', WHERE WHAT IT READS IS OF BULK AT MOST 1048576: true; the input reads as it did. -/
def fnCompareUptoRow : OpenClaim := { program := "ytlbkbcafkjgckaadoor", sum := "d5de040a408dd548938ec850236f22002d5138f734f247c5fdd361bc095cf1ad", func := "loop.example/g03011/laws.FnCompare", spec := "fnCompare", inPlace := ["internal/bytealg.abigen_runtime_cmpstring"], recurses := true, named := ["loop.example/g03011/impl.errNoNumber", "loop.example/g03011/impl.errNoText", "internal/strconv.uint64pow10", "math/bits.deBruijn32tab", "math/bits.deBruijn64tab"], ifaces := true, plainKeys := false, apart := false, laid := [("math/bits.deBruijn32tab", laid_math_bits_deBruijn32tab), ("math/bits.deBruijn64tab", laid_math_bits_deBruijn64tab), ("internal/strconv.uint64pow10", laid_internal_strconv_uint64pow10), ("loop.example/g03011/impl.errNoText", laid_loop_example_g03011_impl_errNoText), ("loop.example/g03011/impl.errNoNumber", laid_loop_example_g03011_impl_errNoNumber)], narrowed := true }
def FnCompareUptoSaid : Prop := fnCompareUptoRow.holds Tryd.pinned (OpenSpec.upto fnCompareSpec)

/-- 'laws.FnSort', WHERE WHAT IT READS IS OF BULK AT MOST 1048576: true; the input reads as it did. -/
def fnSortUptoRow : OpenClaim := { program := "ytlbkbcafkjgckaadoor", sum := "d5de040a408dd548938ec850236f22002d5138f734f247c5fdd361bc095cf1ad", func := "loop.example/g03011/laws.FnSort", spec := "fnSort", inPlace := ["slices.overlaps[loop.example/g03011/impl.Value]", "internal/bytealg.abigen_runtime_cmpstring"], unfollowed := true, recurses := true, named := ["loop.example/g03011/impl.errNoNumber", "loop.example/g03011/impl.errNoText", "internal/strconv.uint64pow10", "math/bits.deBruijn32tab", "math/bits.deBruijn64tab"], ifaces := true, plainKeys := false, apart := false, laid := [("math/bits.deBruijn32tab", laid_math_bits_deBruijn32tab), ("math/bits.deBruijn64tab", laid_math_bits_deBruijn64tab), ("internal/strconv.uint64pow10", laid_internal_strconv_uint64pow10), ("loop.example/g03011/impl.errNoText", laid_loop_example_g03011_impl_errNoText), ("loop.example/g03011/impl.errNoNumber", laid_loop_example_g03011_impl_errNoNumber)], narrowed := true }
def FnSortUptoSaid : Prop := fnSortUptoRow.holds Tryd.pinned (OpenSpec.upto fnSortSpec)

/-- 'laws.FnConversions', WHERE WHAT IT READS IS OF BULK AT MOST 1048576: true; the input reads as it did. -/
def fnConversionsUptoRow : OpenClaim := { program := "ytlbkbcafkjgckaadoor", sum := "d5de040a408dd548938ec850236f22002d5138f734f247c5fdd361bc095cf1ad", func := "loop.example/g03011/laws.FnConversions", spec := "fnConversions", inPlace := ["internal/reflectlite.TypeOf"], unfollowed := true, recurses := true, named := ["loop.example/g03011/impl.errNoText", "internal/strconv.uint64pow10", "math/bits.deBruijn32tab", "math/bits.deBruijn64tab", "strconv.ErrSyntax", "strconv.ErrRange", "loop.example/g03011/impl.errNoNumber"], ifaces := true, plainKeys := false, apart := false, laid := [("math/bits.deBruijn32tab", laid_math_bits_deBruijn32tab), ("math/bits.deBruijn64tab", laid_math_bits_deBruijn64tab), ("internal/strconv.uint64pow10", laid_internal_strconv_uint64pow10), ("strconv.ErrRange", laid_strconv_ErrRange), ("strconv.ErrSyntax", laid_strconv_ErrSyntax), ("loop.example/g03011/impl.errNoText", laid_loop_example_g03011_impl_errNoText), ("loop.example/g03011/impl.errNoNumber", laid_loop_example_g03011_impl_errNoNumber)], narrowed := true }
def FnConversionsUptoSaid : Prop := fnConversionsUptoRow.holds Tryd.pinned (OpenSpec.upto fnConversionsSpec)

/-- 'laws.FnExactToText', WHERE WHAT IT READS IS OF BULK AT MOST 1048576: true; the input reads as it did. -/
def fnExactToTextUptoRow : OpenClaim := { program := "ytlbkbcafkjgckaadoor", sum := "d5de040a408dd548938ec850236f22002d5138f734f247c5fdd361bc095cf1ad", func := "loop.example/g03011/laws.FnExactToText", spec := "fnExactToText", inPlace := ["internal/reflectlite.TypeOf"], unfollowed := true, recurses := true, named := ["loop.example/g03011/impl.errNoText", "internal/strconv.uint64pow10", "math/bits.deBruijn32tab", "math/bits.deBruijn64tab"], ifaces := true, loops := true, plainKeys := false, apart := false, laid := [("math/bits.deBruijn32tab", laid_math_bits_deBruijn32tab), ("math/bits.deBruijn64tab", laid_math_bits_deBruijn64tab), ("internal/strconv.uint64pow10", laid_internal_strconv_uint64pow10), ("loop.example/g03011/impl.errNoText", laid_loop_example_g03011_impl_errNoText)], narrowed := true }
def FnExactToTextUptoSaid : Prop := fnExactToTextUptoRow.holds Tryd.pinned (OpenSpec.upto fnExactToTextSpec)

/-- 'laws.FnExactToNumber', WHERE WHAT IT READS IS OF BULK AT MOST 1048576: true; the input reads as it did. -/
def fnExactToNumberUptoRow : OpenClaim := { program := "ytlbkbcafkjgckaadoor", sum := "d5de040a408dd548938ec850236f22002d5138f734f247c5fdd361bc095cf1ad", func := "loop.example/g03011/laws.FnExactToNumber", spec := "fnExactToNumber", inPlace := ["internal/reflectlite.TypeOf"], unfollowed := true, recurses := true, named := ["loop.example/g03011/impl.errNoNumber", "loop.example/g03011/impl.errNoText"], ifaces := true, loops := true, plainKeys := false, apart := false, laid := [("loop.example/g03011/impl.errNoText", laid_loop_example_g03011_impl_errNoText), ("loop.example/g03011/impl.errNoNumber", laid_loop_example_g03011_impl_errNoNumber)], narrowed := true }
def FnExactToNumberUptoSaid : Prop := fnExactToNumberUptoRow.holds Tryd.pinned (OpenSpec.upto fnExactToNumberSpec)

/-- 'laws.FnExactCompareValues', WHERE WHAT IT READS IS OF BULK AT MOST 1048576: true; the input reads as it did. -/
def fnExactCompareValuesUptoRow : OpenClaim := { program := "ytlbkbcafkjgckaadoor", sum := "d5de040a408dd548938ec850236f22002d5138f734f247c5fdd361bc095cf1ad", func := "loop.example/g03011/laws.FnExactCompareValues", spec := "fnExactCompareValues", inPlace := ["internal/bytealg.abigen_runtime_cmpstring"], recurses := true, named := ["loop.example/g03011/impl.errNoNumber", "loop.example/g03011/impl.errNoText", "internal/strconv.uint64pow10", "math/bits.deBruijn32tab", "math/bits.deBruijn64tab"], ifaces := true, loops := true, plainKeys := false, apart := false, laid := [("math/bits.deBruijn32tab", laid_math_bits_deBruijn32tab), ("math/bits.deBruijn64tab", laid_math_bits_deBruijn64tab), ("internal/strconv.uint64pow10", laid_internal_strconv_uint64pow10), ("loop.example/g03011/impl.errNoText", laid_loop_example_g03011_impl_errNoText), ("loop.example/g03011/impl.errNoNumber", laid_loop_example_g03011_impl_errNoNumber)], narrowed := true }
def FnExactCompareValuesUptoSaid : Prop := fnExactCompareValuesUptoRow.holds Tryd.pinned (OpenSpec.upto fnExactCompareValuesSpec)

/-- 'laws.FnExactLooseEqual', WHERE WHAT IT READS IS OF BULK AT MOST 1048576: true; the input reads as it did. -/
def fnExactLooseEqualUptoRow : OpenClaim := { program := "ytlbkbcafkjgckaadoor", sum := "d5de040a408dd548938ec850236f22002d5138f734f247c5fdd361bc095cf1ad", func := "loop.example/g03011/laws.FnExactLooseEqual", spec := "fnExactLooseEqual", inPlace := ["internal/bytealg.abigen_runtime_cmpstring"], recurses := true, named := ["loop.example/g03011/impl.errNoNumber", "loop.example/g03011/impl.errNoText", "internal/strconv.uint64pow10", "math/bits.deBruijn32tab", "math/bits.deBruijn64tab"], ifaces := true, loops := true, plainKeys := false, apart := false, laid := [("math/bits.deBruijn32tab", laid_math_bits_deBruijn32tab), ("math/bits.deBruijn64tab", laid_math_bits_deBruijn64tab), ("internal/strconv.uint64pow10", laid_internal_strconv_uint64pow10), ("loop.example/g03011/impl.errNoText", laid_loop_example_g03011_impl_errNoText), ("loop.example/g03011/impl.errNoNumber", laid_loop_example_g03011_impl_errNoNumber)], narrowed := true }
def FnExactLooseEqualUptoSaid : Prop := fnExactLooseEqualUptoRow.holds Tryd.pinned (OpenSpec.upto fnExactLooseEqualSpec)

/-- 'laws.FnExactIsOrdered', WHERE WHAT IT READS IS OF BULK AT MOST 1048576: true; the input reads as it did. -/
def fnExactIsOrderedUptoRow : OpenClaim := { program := "ytlbkbcafkjgckaadoor", sum := "d5de040a408dd548938ec850236f22002d5138f734f247c5fdd361bc095cf1ad", func := "loop.example/g03011/laws.FnExactIsOrdered", spec := "fnExactIsOrdered", inPlace := ["internal/bytealg.abigen_runtime_cmpstring"], recurses := true, named := ["loop.example/g03011/impl.errNoNumber", "loop.example/g03011/impl.errNoText", "internal/strconv.uint64pow10", "math/bits.deBruijn32tab", "math/bits.deBruijn64tab"], ifaces := true, loops := true, plainKeys := false, apart := false, laid := [("math/bits.deBruijn32tab", laid_math_bits_deBruijn32tab), ("math/bits.deBruijn64tab", laid_math_bits_deBruijn64tab), ("internal/strconv.uint64pow10", laid_internal_strconv_uint64pow10), ("loop.example/g03011/impl.errNoText", laid_loop_example_g03011_impl_errNoText), ("loop.example/g03011/impl.errNoNumber", laid_loop_example_g03011_impl_errNoNumber)], narrowed := true }
def FnExactIsOrderedUptoSaid : Prop := fnExactIsOrderedUptoRow.holds Tryd.pinned (OpenSpec.upto fnExactIsOrderedSpec)

end Rows
end Go.Proofs.YtlbkbcafkjgckaaDoor
