/-
  Relation of the project and of the model.
  Conditions: none.
-/
import Derived.Test.YteoilhbidnnneaaSmall
import Derived.WalkKit
import Derived.ProofKit
import Derived.ChangeArms
import Derived.OpenShut
namespace Go.Proofs.Yteoilhbidnnneaa.rels
open Go.ChangeShapes Go.WideShapes Go.ChangeAt Go.RowKit
set_option linter.unusedVariables false

/-- Whether an order satisfies an operator. -/
def relB (op o : Int) : Bool := if op = 7 then decide (o = 0) else if op = 8 then !decide (o = 0) else if op = 11 then decide (o = -1) else if op = 12 then decide (o = -1) || decide (o = 0) else if op = 13 then decide (o = 1) else if op = 14 then decide (o = 1) || decide (o = 0) else false
theorem relB_out {op o : Int} (h : ¬ (op = 7 ∨ op = 8 ∨ op = 11 ∨ op = 12 ∨ op = 13 ∨ op = 14)) : relB op o = false := by
  unfold relB
  rw [if_neg (by omega), if_neg (by omega), if_neg (by omega), if_neg (by omega), if_neg (by omega), if_neg (by omega)]

set_option maxHeartbeats 4000000 in
theorem relation_i (op o : Int) (w : World) : Calls Try.prog 8 #[.int .i64 op, .int .i64 o] w fun e w' => e = .returned (.bool (relB op o)) ∧ w = w' := by
  by_cases h : op = 7 ∨ op = 8 ∨ op = 11 ∨ op = 12 ∨ op = 13 ∨ op = 14
  · rcases h with rfl | rfl | rfl | rfl | rfl | rfl
    all_goals
      obtain rfl | rfl | rfl | ⟨h0, h1, h2⟩ : o = -1 ∨ o = 0 ∨ o = 1 ∨ (¬ o = -1 ∧ ¬ o = 0 ∧ ¬ o = 1) := by omega
      all_goals
        go_enter Try.func8, Try.ntmps8
        go_wp2
        go_ret
        first
        | exact ⟨rfl, rfl⟩
        | exact ⟨by simp [relB, *], rfl⟩
  · rw [relB_out h]
    obtain ⟨h0, h1, h2, h3, h4, h5⟩ : ¬ op = 7 ∧ ¬ op = 8 ∧ ¬ op = 11 ∧ ¬ op = 12 ∧ ¬ op = 13 ∧ ¬ op = 14 := by omega
    clear h
    go_enter Try.func8, Try.ntmps8
    go_wp2
    go_ret
    exact ⟨rfl, rfl⟩

set_option maxHeartbeats 4000000 in
theorem relation_s (op o : Int) (w : World) : Calls Try.prog 7 #[.int .i64 op, .int .i64 o] w fun e w' => e = .returned (.bool (relB op o)) ∧ w = w' := by
  by_cases h : op = 7 ∨ op = 8 ∨ op = 11 ∨ op = 12 ∨ op = 13 ∨ op = 14
  · rcases h with rfl | rfl | rfl | rfl | rfl | rfl
    all_goals
      obtain rfl | rfl | rfl | ⟨h0, h1, h2⟩ : o = -1 ∨ o = 0 ∨ o = 1 ∨ (¬ o = -1 ∧ ¬ o = 0 ∧ ¬ o = 1) := by omega
      all_goals
        go_enter Try.func7, Try.ntmps7
        go_wp2
        go_ret
        first
        | exact ⟨rfl, rfl⟩
        | exact ⟨by simp [relB, *], rfl⟩
  · rw [relB_out h]
    obtain ⟨h0, h1, h2, h3, h4, h5⟩ : ¬ op = 7 ∧ ¬ op = 8 ∧ ¬ op = 11 ∧ ¬ op = 12 ∧ ¬ op = 13 ∧ ¬ op = 14 := by omega
    clear h
    go_enter Try.func7, Try.ntmps7
    go_wp2
    go_ret
    exact ⟨rfl, rfl⟩

end Go.Proofs.Yteoilhbidnnneaa.rels
