/-
  How a slice of integers that came in is opened.
  Conditions: those that the theorem names.
-/
import Derived.Test.YtealjeigpngkiaaDoorOpen
import Derived.Test.YtealjeigpngkiaaDoorMemI
namespace Go.Proofs.YtealjeigpngkiaaDoor.opn
open Go.ChangeShapes Go.WideShapes Go.ChangeAt Go.RowKit mem imem
set_option linter.unusedVariables false

section
variable {H : Type} {enc : TypeId × Value → H} {P : Program}

/-- A slice of integers that came in. -/
theorem open_numbers {W : World} {base : Nat} {t e : TypeId} {v : Value} {d : DataW H} {ps : List MemPlace} (ht : P.underlying t = some (.slice e)) (he : P.underlying e = some (.int .i64)) (hc : P.cellsOf e = 1)
    (hval : Value.okWide P W .any base t v) (h : DataW.Trod enc P W 0 (fun _ => true) true t v d ps) :
    ∃ (A : Option Addr) (n c : Nat) (l : List Int), v = .slice A n c ∧ n ≤ maxLen ∧ RdI W A n l := by
  obtain ⟨A, n, c, rfl⟩ := okWide_slice ht hval
  obtain ⟨fuel, hf⟩ := h
  rcases open_ints ht he hc hf with ⟨hcs, _⟩ | ⟨a, len, cap, zs, hcs, _, hl, hm, hz, _, hcell, hwz⟩
  · simp [Value.cells] at hcs
    obtain ⟨rfl, rfl, rfl⟩ := hcs
    exact ⟨none, 0, 0, [], rfl, Nat.zero_le _, rfl, fun hn => absurd hn (by omega)⟩
  · simp [Value.cells] at hcs
    obtain ⟨rfl, rfl, rfl⟩ := hcs
    simp only [if_true] at hz
    have hle : n ≤ zs.length := by omega
    refine ⟨some a, n, c, zs.take n, rfl, by omega, by rw [List.length_take]; omega, fun hn => ⟨a, rfl, fun j x hx => ?_⟩⟩
    have hj : j < n := by
      have := (List.getElem?_eq_some_iff.1 hx).1
      rw [List.length_take] at this
      omega
    rw [List.getElem?_take, if_pos hj] at hx
    have hcj := hcell j (by omega)
    rw [hcj]
    simp [List.getD, hx]
end
end Go.Proofs.YtealjeigpngkiaaDoor.opn
