/-
  How a value and a key that came in are opened.
  Conditions: those that each theorem names.
-/
import Derived.Test.YtlbkbcafkjgckaaOpen
import Derived.Test.YtlbkbcafkjgckaaTreeTo
namespace Go.Proofs.Ytlbkbcafkjgckaa.opt
open Go.ChangeShapes Go.WideShapes Go.ChangeAt Go.RowKit mem tree
set_option linter.unusedVariables false

section
variable {H : Type} {enc : TypeId × Value → H}

theorem types : Types Try.prog LV LE LK 22 where
  value := ⟨_, _, _, _, _, Try.underlying24, by kernel_rfl, by kernel_rfl, by kernel_rfl, by kernel_rfl, by kernel_rfl, by kernel_rfl⟩
  items := Try.underlying22
  item := ⟨_, _, Try.underlying54, by kernel_rfl, by kernel_rfl, by kernel_rfl, by kernel_rfl⟩
  key := ⟨_, _, _, Try.underlying52, by kernel_rfl, by kernel_rfl, by kernel_rfl, by kernel_rfl⟩
  cV := by kernel_rfl
  cE := by kernel_rfl
  cK := by kernel_rfl

set_option maxRecDepth 100000 in
theorem open_value {W : World} {base : Nat} {v : Value} {d : DataW H} {ps : List MemPlace} (hval : Value.okWide Try.prog W .any base LV v) (h : DataW.Trod enc Try.prog W 0 (fun _ => true) true LV v d ps) : ∃ t, TIn W (fun _ => True) t v := by
  obtain ⟨cs, rfl, hsz⟩ := okWide_struct Try.underlying24 hval
  obtain ⟨fuel, hf⟩ := h
  exact open_tree types fuel _ _ hf

set_option maxRecDepth 100000 in
theorem open_key {W : World} {base : Nat} {v : Value} {d : DataW H} {ps : List MemPlace} (hval : Value.okWide Try.prog W .any base LK v) (h : DataW.Trod enc Try.prog W 0 (fun _ => true) true LK v d ps) : ∃ y : Ky, v = kyV y ∧ I64 y.num ∧ y.str.size ≤ maxLen := by
  obtain ⟨cs, rfl, hsz⟩ := okWide_struct Try.underlying52 hval
  obtain ⟨fuel, hf⟩ := h
  obtain ⟨y, he, hn, hs⟩ := tree.open_key types hf
  refine ⟨y, ?_, hn, hs⟩
  unfold kyV
  congr 1
  apply Array.ext'
  simpa [Value.cells] using he
end

end Go.Proofs.Ytlbkbcafkjgckaa.opt
