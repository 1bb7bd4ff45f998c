/-
  A text's copy; a part of what a list of items holds.
  Conditions: those that each theorem names.
-/
import Derived.Test.YtlbkbcafkjgckaaDoorTreeSz
import Derived.Test.YtlbkbcafkjgckaaDoorShelf
namespace Go.Proofs.YtlbkbcafkjgckaaDoor.tree
open Go.ChangeShapes Go.WideShapes Go.ChangeAt Go.RowKit
set_option linter.unusedVariables false

theorem implClone' (s : ByteArray) (hs : s.size ≤ 1099511627776) (w : World) : Calls Tryd.prog 67 #[.string s] w fun e w' => e = .returned (.string s) ∧ Below w.heap.size w w' := by
  go_enter Tryd.func67, Tryd.ntmps67
  go_wp2_with (fail)
  refine (Tryd.stringslite_Clone s _ (by omega)).mono ?_
  rintro e w1 ⟨rfl, hb⟩
  go_wp2
  go_ret
  exact ⟨rfl, hb⟩

theorem tots_key : ∀ {ks : List Ky} {vs : List Tr} {j : Nat} {y : Ky} {t : Tr}, ks[j]? = some y → vs[j]? = some t → y.str.size + tot t ≤ tots ks vs
  | [], _, j, _, _, h, _ => by simp at h
  | _, [], j, _, _, _, h => by simp at h
  | y :: ks, t :: vs, 0, _, _, h, h' => by
    simp at h h'
    subst h h'
    rw [tots]
    omega
  | y :: ks, t :: vs, j + 1, _, _, h, h' => by
    have := tots_key (ks := ks) (vs := vs) (j := j) (by simpa using h) (by simpa using h')
    rw [tots]
    omega

end Go.Proofs.YtlbkbcafkjgckaaDoor.tree
