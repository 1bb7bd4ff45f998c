/-
  Rows of values: five cells written at once; the first j values of a row.
  Conditions: those that each theorem names.
-/
import Derived.Test.YtlbkbcafkjgckaaVals
import Derived.Test.YtlbkbcafkjgckaaTreeCp
namespace Go.Proofs.Ytlbkbcafkjgckaa.tree
open Go.ChangeShapes Go.WideShapes Go.ChangeAt Go.RowKit
set_option linter.unusedVariables false

def set5 (arr : Array Value) (o : Nat) (c0 c1 c2 c3 c4 : Value) : Array Value := ((((arr.setIfInBounds o c0).setIfInBounds (o + 1) c1).setIfInBounds (o + 2) c2).setIfInBounds (o + 3) c3).setIfInBounds (o + 4) c4
theorem set5_size (arr : Array Value) (o : Nat) (c0 c1 c2 c3 c4 : Value) : (set5 arr o c0 c1 c2 c3 c4).size = arr.size := by simp [set5]
theorem set5_out (arr : Array Value) (o : Nat) (c0 c1 c2 c3 c4 : Value) (p : Nat) (h : p < o ∨ o + 5 ≤ p) : (set5 arr o c0 c1 c2 c3 c4)[p]? = arr[p]? := by
  unfold set5
  rw [Array.getElem?_setIfInBounds_ne (by omega), Array.getElem?_setIfInBounds_ne (by omega), Array.getElem?_setIfInBounds_ne (by omega), Array.getElem?_setIfInBounds_ne (by omega), Array.getElem?_setIfInBounds_ne (by omega)]
theorem set5_in (arr : Array Value) (o : Nat) (c0 c1 c2 c3 c4 : Value) (h : o + 5 ≤ arr.size) (q : Nat) (hq : q < 5) : (set5 arr o c0 c1 c2 c3 c4)[o + q]? = (#[c0, c1, c2, c3, c4] : Array Value)[q]? := by
  unfold set5
  have hq' : q = 0 ∨ q = 1 ∨ q = 2 ∨ q = 3 ∨ q = 4 := by omega
  rcases hq' with rfl | rfl | rfl | rfl | rfl <;> simp [Array.getElem?_setIfInBounds] <;> omega
theorem set5_heap {W : World} {g : Nat} {arr : Array Value} {t : TypeId} (h : W.heap[g]? = some (.cells arr t (0, 0))) (o : Nat) (c0 c1 c2 c3 c4 : Value) :
    (((((W.setCell ⟨g, o, none⟩ c0).setCell ⟨g, o + 1, none⟩ c1).setCell ⟨g, o + 2, none⟩ c2).setCell ⟨g, o + 3, none⟩ c3).setCell ⟨g, o + 4, none⟩ c4).heap[g]? = some (.cells (set5 arr o c0 c1 c2 c3 c4) t (0, 0)) :=
  set_heap (set_heap (set_heap (set_heap (set_heap h _ _) _ _) _ _) _ _) _ _
theorem set5_other {W : World} {g k : Nat} (h : k ≠ g) (o : Nat) (c0 c1 c2 c3 c4 : Value) :
    (((((W.setCell ⟨g, o, none⟩ c0).setCell ⟨g, o + 1, none⟩ c1).setCell ⟨g, o + 2, none⟩ c2).setCell ⟨g, o + 3, none⟩ c3).setCell ⟨g, o + 4, none⟩ c4).heap[k]? = W.heap[k]? := by
  iterate 5 refine (set_other h).trans ?_
  rfl
theorem iv_info' : ∃ i, Try.prog.info? IV = some i ∧ (i.zero = some (.agg #[.int .i64 0, .int .i64 0, .string ⟨#[]⟩, .int .i64 0, .slice none 0 0]) ∧ i.size = 5 ∧ i.bytes = 64) := by
  have : (Try.prog.info? IV).map (fun i => (i.zero, i.size, i.bytes)) = some (some (.agg #[.int .i64 0, .int .i64 0, .string ⟨#[]⟩, .int .i64 0, .slice none 0 0]), 5, 64) := by kernel_rfl
  cases hq : Try.prog.info? IV with
  | none => rw [hq] at this; cases this
  | some i => rw [hq] at this; simp at this; exact ⟨i, rfl, this⟩
/-- The first j values of a row. -/
def V5 (w : World) (lo : Nat) (vs : List Tr) (arr : Array Value) (j : Nat) : Prop :=
  ∀ i, i < j → ∃ k n s x ks' vs' A' c', vs[i]? = some (.mk k n s x ks' vs') ∧ TIn w (Nw lo w) (.mk k n s x ks' vs') (vV k n s x A' vs'.length c') ∧ ∀ q, q < 5 → arr[i * 5 + q]? = (#[.int .i64 k, .int .i64 n, .string s, .int .i64 x, .slice A' vs'.length c'] : Array Value)[q]?
theorem V5.keep {w w' : World} {lo : Nat} {vs : List Tr} {arr : Array Value} {j : Nat} (h : V5 w lo vs arr j) (hb : ∀ b, lo ≤ b → b < w.heap.size → w'.heap[b]? = w.heap[b]?) : V5 w' lo vs arr j := fun i hi => by
  obtain ⟨k, n, s, x, ks', vs', A', c', e1, e2, e3⟩ := h i hi
  exact ⟨k, n, s, x, ks', vs', A', c', e1, e2.nw (Nat.le_refl _) fun b hb' hlt => hb b hb' hlt, e3⟩
theorem V5.more {w : World} {lo : Nat} {vs : List Tr} {arr : Array Value} {j : Nat} (h : V5 w lo vs arr j) (hs : j * 5 + 5 ≤ arr.size) {k n x : Int} {s : ByteArray} {ks' : List Ky} {vs' : List Tr} {A' : Option Addr} {c' : Nat} (hv : vs[j]? = some (.mk k n s x ks' vs')) (hT : TIn w (Nw lo w) (.mk k n s x ks' vs') (vV k n s x A' vs'.length c')) :
    V5 w lo vs (set5 arr (j * 5) (.int .i64 k) (.int .i64 n) (.string s) (.int .i64 x) (.slice A' vs'.length c')) (j + 1) := by
  intro i hi
  by_cases e : i = j
  · subst e
    exact ⟨k, n, s, x, ks', vs', A', c', hv, hT, fun q hq => set5_in _ _ _ _ _ _ _ hs q hq⟩
  · obtain ⟨k2, n2, s2, x2, ks2, vs2, A2, c2, e1, e2, e3⟩ := h i (by omega)
    exact ⟨k2, n2, s2, x2, ks2, vs2, A2, c2, e1, e2, fun q hq => by rw [set5_out _ _ _ _ _ _ _ _ (by omega)]; exact e3 q hq⟩
theorem V5.vin {w : World} {lo g : Nat} {vs : List Tr} {arr : Array Value} (h : V5 w lo vs arr vs.length) (hg : w.heap[g]? = some (.cells arr IV (0, 0))) (hlo : g ≤ lo) : VIn w (Nw g w) vs (some ⟨g, 0, none⟩) := fun i t ht => by
  obtain ⟨k, n, s, x, ks', vs', A', c', e1, e2, e3⟩ := h i (List.getElem?_eq_some_iff.1 ht).1
  rw [ht] at e1
  obtain rfl := Option.some.inj e1
  have at_ : ∀ q, q < 5 → w.cell? ⟨g, i * 5 + q, none⟩ = (#[.int .i64 k, .int .i64 n, .string s, .int .i64 x, .slice A' vs'.length c'] : Array Value)[q]? := fun q hq => by rw [cell_of_row w g _ arr IV _ hg]; exact e3 q hq
  refine ⟨_, k, n, s, x, ks', vs', A', c', rfl, ⟨Nat.le_refl _, _, _, hg⟩, rfl, e2.stays (fun b hb => ⟨Nat.le_trans hlo hb.1, hb.2⟩) (fun _ _ _ => rfl), ?_⟩
  rw [Addr.add_lit, Nat.zero_add]
  exact ⟨at_ 0 (by omega), at_ 1 (by omega), at_ 2 (by omega), at_ 3 (by omega), at_ 4 (by omega)⟩
end Go.Proofs.Ytlbkbcafkjgckaa.tree
