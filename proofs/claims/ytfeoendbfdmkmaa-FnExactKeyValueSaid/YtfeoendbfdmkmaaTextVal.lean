/-
  A text as a value.
  Conditions: those that each theorem names.
-/
import Derived.Test.YtfeoendbfdmkmaaMkInt
import Derived.Test.YtfeoendbfdmkmaaShelf
namespace Go.Proofs.Ytfeoendbfdmkmaa.tree
open Go.ChangeShapes Go.WideShapes Go.ChangeAt Go.RowKit
set_option linter.unusedVariables false

theorem implClone (s : ByteArray) (hs : s.size ≤ 1099511627776) (w : World) : Calls Try.prog 54 #[.string s] w fun e w' => e = .returned (.string s) ∧ Below w.heap.size w w' := by
  go_enter Try.func54, Try.ntmps54
  go_wp2_with (fail)
  refine (Try.stringslite_Clone s _ (by omega)).mono ?_
  rintro e w1 ⟨rfl, hb⟩
  go_wp2
  go_ret
  exact ⟨rfl, hb⟩

theorem textValue_i (s : ByteArray) (hs : s.size ≤ 1099511627776) (w : World) : Calls Try.prog 41 #[.string s] w (GivesQ w (vV 3 0 s 0 none 0 0)) := by
  go_enter Try.func41, Try.ntmps41
  go_wp2_with (fail)
  refine (implClone s hs _).mono ?_
  rintro e w1 ⟨rfl, hb1⟩
  have a2 := carry hb1 (heap_alloc_new w _)
  have HB := Lib.hid (bs (b1 _ _) hb1)
  obtain ⟨r2, f2⟩ := rowc a2
  clear hb1 a2
  go_wp2_with (fail)
  refine bodyPost_ret (v := vV 3 0 s 0 none 0 0) (by simp [results, Try.results41, go_sem, r2]) rfl ⟨rfl, ?_⟩
  have hB := HB.out
  iterate 5 refine Below.setCell ?_ (by simp) _
  exact hB

end Go.Proofs.Ytfeoendbfdmkmaa.tree
