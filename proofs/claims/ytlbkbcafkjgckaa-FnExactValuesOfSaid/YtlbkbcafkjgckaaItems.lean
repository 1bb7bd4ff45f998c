/-
  Items that lie in one block, as a list; items without one of them.
  Conditions: those that each theorem names.
-/
import Derived.Test.YtlbkbcafkjgckaaCopyI
namespace Go.Proofs.Ytlbkbcafkjgckaa.tree
open Go.ChangeShapes Go.WideShapes Go.ChangeAt Go.RowKit
set_option linter.unusedVariables false

theorem isin_row {w : World} {S : Nat → Prop} {g : Nat} {arr : Array Value} {ks : List Ky} {vs : List Tr} (hg : w.heap[g]? = some (.cells arr IE (0, 0))) (hS : S g) (hl : ks.length = vs.length) (hm : vs.length ≤ maxLen)
    (hit : ∀ i, i < vs.length → ∃ y k n s x ks' vs' A c, ks[i]? = some y ∧ vs[i]? = some (.mk k n s x ks' vs') ∧ (I64 y.num ∧ y.str.size ≤ maxLen) ∧ At8r arr i y k n s x A vs'.length c ∧ TIn w S (.mk k n s x ks' vs') (vV k n s x A vs'.length c)) :
    IsIn w S ks vs (some ⟨g, 0, none⟩) := by
  have each : ∀ i, ∃ C : Array Value, ∀ (hi : i < vs.length), KyAt w ⟨g, 0, none⟩ i (ks[i]'(hl ▸ hi)) ∧ C.size = 5 ∧ (∀ j, j < 5 → w.cell? ((⟨g, 0, none⟩ : Addr).add (8 * i + (3 + j))) = C[j]?) ∧ TIn w S (vs[i]) (.agg C) := by
    intro i
    by_cases hi : i < vs.length
    · obtain ⟨y, k, n, s, x, ks', vs', A, c, hy, ht, hyb, hat, hT⟩ := hit i hi
      have ey : ks[i]'(hl ▸ hi) = y := by rw [List.getElem?_eq_getElem (hl ▸ hi)] at hy; exact Option.some.inj hy
      have et : vs[i] = .mk k n s x ks' vs' := by rw [List.getElem?_eq_getElem hi] at ht; exact Option.some.inj ht
      have at_ : ∀ q, q < 8 → w.cell? ((⟨g, 0, none⟩ : Addr).add (8 * i + q)) = (eV y k n s x A vs'.length c).cells[q]? := fun q hq => by
        rw [Addr.add_lit, Nat.zero_add, cell_of_row w g _ arr IE _ hg, ← hat q hq, Nat.mul_comm]
      refine ⟨#[.int .i64 k, .int .i64 n, .string s, .int .i64 x, .slice A vs'.length c], fun _ => ?_⟩
      rw [ey, et]
      refine ⟨⟨at_ 0 (by omega), at_ 1 (by omega), at_ 2 (by omega), hyb⟩, rfl, fun j hj => ?_, hT⟩
      rw [at_ (3 + j) (by omega)]
      match j, hj with
      | 0, _ => rfl
      | 1, _ => rfl
      | 2, _ => rfl
      | 3, _ => rfl
      | 4, _ => rfl
    · exact ⟨#[], fun h => absurd h hi⟩
  exact ⟨hl, hm, fun i => (each i).choose, fun i hi => ⟨_, rfl, hS, ((each i).choose_spec hi).1, ((each i).choose_spec hi).2.1, ((each i).choose_spec hi).2.2.1⟩, fun i hi => ((each i).choose_spec hi).2.2.2⟩

/-- The cells of items, without those of item i. -/
theorem xAt8_drop {xs : List Value} {i j M : Nat} (hx : xs.length = M * 8) (hi : i < M) {y : Ky} {k n x : Int} {s : ByteArray} {A : Option Addr} {L c : Nat} (h : xAt8 xs (if j < i then j else j + 1) y k n s x A L c) : xAt8 (xs.take (i * 8) ++ xs.drop ((i + 1) * 8)) j y k n s x A L c := by
  intro q hq
  have := h q hq
  by_cases hj : j < i
  · rw [if_pos hj] at this
    rw [List.getElem?_append_left (by rw [List.length_take]; omega), List.getElem?_take_of_lt (by omega)]
    exact this
  · rw [if_neg hj] at this
    rw [List.getElem?_append_right (by rw [List.length_take]; omega), List.length_take, List.getElem?_drop, ← this]
    congr 1
    omega
theorem erase_get {α : Type} (l : List α) (i j : Nat) (hi : i < l.length) : (l.eraseIdx i)[j]? = l[if j < i then j else j + 1]? := by
  rw [List.getElem?_eraseIdx]
  split <;> rfl

theorem grown_below {w w1 w2 : World} {B k : Nat} (h : Below B w w1) (g : w1.grownBy w2 (some k)) (hk : B ≤ k) (hB : B ≤ w1.heap.size) : Below B w w2 :=
  ⟨g.os.trans h.os, g.tape.trans h.tape, g.output.trans h.output, Nat.le_trans h.size g.size, fun b hb => (g.block b (by omega) (by simp; omega)).trans (h.block b hb)⟩

theorem grown_below' {w w1 w2 : World} {B : Nat} {row : Option Nat} (h : Below B w w1) (g : w1.grownBy w2 row) (hB : B ≤ w1.heap.size) (hk : ∀ b, row = some b → B ≤ b) : Below B w w2 :=
  ⟨g.os.trans h.os, g.tape.trans h.tape, g.output.trans h.output, Nat.le_trans h.size g.size, fun b hb => (g.block b (by omega) (fun e => by have := hk b e.symm; omega)).trans (h.block b hb)⟩
def OutV (w : World) (t : Tr) (S : Nat → Prop) (e : Ending) (w' : World) : Prop := ∃ u, e = .returned u ∧ TIn w' S t u ∧ Below w.heap.size w w'

end Go.Proofs.Ytlbkbcafkjgckaa.tree
