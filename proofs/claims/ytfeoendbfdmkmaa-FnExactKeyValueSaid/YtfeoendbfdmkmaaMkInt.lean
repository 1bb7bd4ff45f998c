/-
  Integers and texts as values, of the project and of the model.
  Conditions: those that each theorem names.
-/
import Derived.Test.YtfeoendbfdmkmaaMarks0
namespace Go.Proofs.Ytfeoendbfdmkmaa.tree
open Go.ChangeShapes Go.WideShapes Go.ChangeAt Go.RowKit
set_option linter.unusedVariables false

theorem intValue_i (n : Int) (w : World) : Calls Try.prog 42 #[.int .i64 n] w (GivesQ w (vV 2 n ⟨#[]⟩ 0 none 0 0)) := by
  go_enter Try.func42, Try.ntmps42
  go_wp2
  exact bodyPost_ret (v := vV 2 n ⟨#[]⟩ 0 none 0 0) (by simp [results, Try.results42, go_sem]) rfl ⟨rfl, b1 _ _⟩
theorem intValue_s (n : Int) (w : World) : Calls Try.prog 40 #[.int .i64 n] w (GivesQ w (vV 2 n ⟨#[]⟩ 0 none 0 0)) := by
  go_enter Try.func40, Try.ntmps40
  go_wp2
  exact bodyPost_ret (v := vV 2 n ⟨#[]⟩ 0 none 0 0) (by simp [results, Try.results40, go_sem]) rfl ⟨rfl, b1 _ _⟩

theorem textValue_s (s : ByteArray) (w : World) : Calls Try.prog 39 #[.string s] w (GivesQ w (vV 3 0 s 0 none 0 0)) := by
  go_enter Try.func39, Try.ntmps39
  go_wp2
  exact bodyPost_ret (v := vV 3 0 s 0 none 0 0) (by simp [results, Try.results39, go_sem]) rfl ⟨rfl, b1 _ _⟩

end Go.Proofs.Ytfeoendbfdmkmaa.tree
