/-
  Plain facts on digests, without the program: how one number is folded into a digest, and a list of them.
  Conditions: those that each theorem names.
-/
import Derived.Below
namespace Go.Proofs.Ytclnbfndkcpopaa.dig
set_option linter.unusedVariables false

/-- A digest after one number more. -/
def step (d v : Int) : Int := (d * 1000003 + v % 2147483647 + 13) % 2147483647
def fold (d : Int) (l : List Int) : Int := l.foldl step d
def In (d : Int) : Prop := 0 ≤ d ∧ d ≤ 2147483646

theorem step_in (d v : Int) : In (step d v) := by unfold step In; omega
theorem fold_nil (d : Int) : fold d [] = d := rfl
theorem fold_cons (d v : Int) (l : List Int) : fold d (v :: l) = fold (step d v) l := rfl
theorem fold_app (d : Int) (a b : List Int) : fold d (a ++ b) = fold (fold d a) b := List.foldl_append
theorem fold_one (d v : Int) : fold d [v] = step d v := rfl
theorem fold_in {d : Int} (h : In d) : ∀ l : List Int, In (fold d l) := fun l => by
  induction l generalizing d with
  | nil => exact h
  | cons v l ih => exact ih (step_in d v)
theorem in11 : In 11 := by unfold In; omega
theorem fold_take {l : List Int} {k : Nat} {v : Int} (d : Int) (h : l[k]? = some v) : fold d (l.take (k + 1)) = step (fold d (l.take k)) v := by
  obtain ⟨hk, e⟩ := List.getElem?_eq_some_iff.1 h
  rw [List.take_succ_eq_append_getElem hk, fold_app, e]
  rfl
theorem fold_all {l : List Int} {k : Nat} (d : Int) (h : l.length ≤ k) : fold d (l.take k) = fold d l := by rw [List.take_of_length_le h]
theorem step_byte (d v : Int) (h0 : 0 ≤ v) (h1 : v ≤ 255) : (d * 1000003 + v + 13) % 2147483647 = step d v := by
  unfold step
  rw [show v % 2147483647 = v by omega]
theorem step5 (d : Int) : step d 5 = (d * 1000003 + 18) % 2147483647 := by
  unfold step
  rw [show d * 1000003 + 5 % 2147483647 + 13 = d * 1000003 + 18 by omega]

end Go.Proofs.Ytclnbfndkcpopaa.dig
