/-
  A text as a value.
  Conditions: those that each theorem names.
-/
import Derived.Test.YtaljpkmndbcefaaMkVal
import Derived.Test.YtaljpkmndbcefaaShelf
namespace Go.Proofs.Ytaljpkmndbcefaa.tree
open Go.ChangeShapes Go.WideShapes Go.ChangeAt Go.RowKit
set_option linter.unusedVariables false

theorem implClone (s : ByteArray) (hs : s.size ≤ 1099511627776) (w : World) : Calls Try.prog 35 #[.string s] w fun e w' => e = .returned (.string s) ∧ Below w.heap.size w w' := by
  go_enter Try.func35, Try.ntmps35
  go_wp2_with (fail)
  refine (Try.stringslite_Clone s _ (by omega)).mono ?_
  rintro e w1 ⟨rfl, hb⟩
  go_wp2
  go_ret
  exact ⟨rfl, hb⟩

theorem textValue_i (s : ByteArray) (hs : s.size ≤ 1099511627776) (w : World) : Calls Try.prog 19 #[.string s] w (GivesQ w (vV 3 0 s 0 none 0 0)) := by
  go_enter Try.func19, Try.ntmps19
  go_wp2_with (fail)
  refine (implClone s hs _).mono ?_
  rintro e w1 ⟨rfl, hb1⟩
  have a2 := carry hb1 (heap_alloc_new w _)
  have HB := Lib.hid (bs (b1 _ _) hb1)
  obtain ⟨r2, f2⟩ := rowc a2
  clear hb1 a2
  go_wp2_with (fail)
  refine bodyPost_ret (v := vV 3 0 s 0 none 0 0) (by simp [results, Try.results19, go_sem, r2]) rfl ⟨rfl, ?_⟩
  have hB := HB.out
  iterate 5 refine Below.setCell ?_ (by simp) _
  exact hB

end Go.Proofs.Ytaljpkmndbcefaa.tree
