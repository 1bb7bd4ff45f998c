/-
  Values in a row of the call's own, whose lists hang each apart; the laws' marks put into them.
  Conditions: those that each theorem names.
-/
import Derived.Test.YtlbkbcafkjgckaaVals
import Derived.Test.YtlbkbcafkjgckaaMarks
import Derived.Test.YtlbkbcafkjgckaaItems
namespace Go.Proofs.Ytlbkbcafkjgckaa.tree
open Go.ChangeShapes Go.WideShapes Go.ChangeAt Go.RowKit
set_option linter.unusedVariables false

def At5r (arr : Array Value) (i : Nat) (k n : Int) (s : ByteArray) (x : Int) (A : Option Addr) (L c : Nat) : Prop := ∀ q, q < 5 → arr[i * 5 + q]? = (#[.int .i64 k, .int .i64 n, .string s, .int .i64 x, .slice A L c] : Array Value)[q]?

/-- A value in a row of block g, its lists apart. -/
def VPt (w : World) (par : Nat → Nat × Nat) (h lo hi g : Nat) (cur : Array Value) (i : Nat) (t : Tr) : Prop :=
  ∃ k n s x ks' vs' A c, t = .mk k n s x ks' vs' ∧ At5r cur i k n s x A vs'.length c ∧ TPar w par (h, i) t (vV k n s x A vs'.length c)
/-- Values in a row of block g, their lists apart. -/
structure VBlk (w : World) (par : Nat → Nat × Nat) (h lo hi g c : Nat) (vs : List Tr) : Prop where
  lo_le : lo ≤ g
  len : vs.length ≤ c ∧ c ≤ maxLen
  blk : ∃ cur, w.heap[g]? = some (.cells cur IV (0, 0)) ∧ cur.size = c * 5 ∧ ∀ i t, vs[i]? = some t → VPt w par h lo hi g cur i t
  hang : ∀ i, i < vs.length → ∀ b, Hang par (h, i) b → Rg lo hi b ∧ b ≠ g
def VRow (w : World) (par : Nat → Nat × Nat) (h lo hi : Nat) (v : Value) (vs : List Tr) : Prop :=
  (∃ A c, v = .slice A 0 c ∧ vs = [] ∧ ∀ b, v.ownBlock = some b → lo ≤ b ∧ b < w.heap.size) ∨ ∃ g c, v = .slice (some ⟨g, 0, none⟩) vs.length c ∧ VBlk w par h lo hi g c vs

theorem VBlk.keep {w w' : World} {par : Nat → Nat × Nat} {h lo hi g c : Nat} {vs : List Tr} (hv : VBlk w par h lo hi g c vs) (hs : ∀ b, (b = g ∨ Rg lo hi b) → b < w.heap.size → w'.heap[b]? = w.heap[b]?) : VBlk w' par h lo hi g c vs := by
  obtain ⟨cur, hg, hsz, hi'⟩ := hv.blk
  refine ⟨hv.lo_le, hv.len, ⟨cur, (hs g (.inl rfl) (Array.getElem?_eq_some_iff.1 hg).1).trans hg, hsz, fun i t ht => ?_⟩, hv.hang⟩
  obtain ⟨k, n, s, x, ks', vs', A, c', e, hat, hT⟩ := hi' i t ht
  exact ⟨k, n, s, x, ks', vs', A, c', e, hat, hT.keep fun b hb hl => hs b (.inr (hv.hang i (List.getElem?_eq_some_iff.1 ht).1 b hb).1) hl⟩
theorem VRow.keep {w w' : World} {par : Nat → Nat × Nat} {h lo hi : Nat} {v : Value} {vs : List Tr} (hv : VRow w par h lo hi v vs) (hz : w.heap.size ≤ w'.heap.size) (hs : ∀ b, (v.ownBlock = some b ∨ Rg lo hi b) → b < w.heap.size → w'.heap[b]? = w.heap[b]?) : VRow w' par h lo hi v vs := by
  rcases hv with ⟨A, c, rfl, rfl, hb⟩ | ⟨g, c, rfl, hb⟩
  · exact .inl ⟨A, c, rfl, rfl, fun b h => ⟨(hb b h).1, Nat.lt_of_lt_of_le (hb b h).2 hz⟩⟩
  · exact .inr ⟨g, c, rfl, hb.keep fun b hb' hl => hs b (hb'.imp (fun e => by rw [e]; rfl) id) hl⟩
theorem VRow.below {w w' : World} {par : Nat → Nat × Nat} {h lo hi : Nat} {v : Value} {vs : List Tr} (hv : VRow w par h lo hi v vs) (hb : Below w.heap.size w w') : VRow w' par h lo hi v vs := hv.keep hb.size fun b _ hl => hb.block b hl
theorem VRow.own {w : World} {par : Nat → Nat × Nat} {h lo hi : Nat} {v : Value} {vs : List Tr} (hv : VRow w par h lo hi v vs) : ∀ b, v.ownBlock = some b → lo ≤ b ∧ b < w.heap.size := by
  rcases hv with ⟨A, c, rfl, rfl, hb⟩ | ⟨g, c, rfl, hb⟩
  · exact hb
  · intro b e
    obtain ⟨cur, hg, -⟩ := hb.blk
    simp [Value.ownBlock] at e
    subst e
    exact ⟨hb.lo_le, (Array.getElem?_eq_some_iff.1 hg).1⟩
theorem VBlk.vin {w : World} {par : Nat → Nat × Nat} {h lo hi g c : Nat} {vs : List Tr} (hv : VBlk w par h lo hi g c vs) : VIn w (fun _ => True) vs (some ⟨g, 0, none⟩) := fun i t ht => by
  obtain ⟨cur, hg, -, hi'⟩ := hv.blk
  obtain ⟨k, n, s, x, ks', vs', A, c', e, hat, hT⟩ := hi' i t ht
  have at_ : ∀ q, q < 5 → w.cell? ⟨g, i * 5 + q, none⟩ = (#[.int .i64 k, .int .i64 n, .string s, .int .i64 x, .slice A vs'.length c'] : Array Value)[q]? := fun q hq => by rw [cell_of_row w g _ cur IV _ hg]; exact hat q hq
  refine ⟨⟨g, 0, none⟩, k, n, s, x, ks', vs', A, c', rfl, trivial, e, hT.tin.stays (fun _ _ => trivial) (fun _ _ _ => rfl), ?_⟩
  rw [Addr.add_lit, Nat.zero_add]
  exact ⟨at_ 0 (by omega), at_ 1 (by omega), at_ 2 (by omega), at_ 3 (by omega), at_ 4 (by omega)⟩
theorem VRow.out {w : World} {par : Nat → Nat × Nat} {h lo hi : Nat} {v : Value} {vs : List Tr} (hv : VRow w par h lo hi v vs) : ∃ A c, v = .slice A vs.length c ∧ VIn w (fun _ => True) vs A := by
  rcases hv with ⟨A, c, rfl, rfl, hb⟩ | ⟨g, c, rfl, hb⟩
  · exact ⟨A, c, rfl, fun i t ht => by simp at ht⟩
  · exact ⟨_, c, rfl, hb.vin⟩

theorem VRow.vin {w : World} {par : Nat → Nat × Nat} {h lo hi n c : Nat} {A : Option Addr} {vs : List Tr} (hv : VRow w par h lo hi (.slice A n c) vs) : VIn w (fun _ => True) vs A := by
  obtain ⟨A', c', e, h'⟩ := hv.out
  injection e with e1 e2 e3
  subst e1
  exact h'

def set4 (arr : Array Value) (o : Nat) (c0 c1 c2 c3 : Value) : Array Value := (((arr.setIfInBounds o c0).setIfInBounds (o + 1) c1).setIfInBounds (o + 2) c2).setIfInBounds (o + 3) c3
theorem set4_size (arr : Array Value) (o : Nat) (c0 c1 c2 c3 : Value) : (set4 arr o c0 c1 c2 c3).size = arr.size := by simp [set4]
theorem set4_out (arr : Array Value) (o : Nat) (c0 c1 c2 c3 : Value) (p : Nat) (h : p < o ∨ o + 4 ≤ p) : (set4 arr o c0 c1 c2 c3)[p]? = arr[p]? := by
  unfold set4
  iterate 4 rw [Array.getElem?_setIfInBounds_ne (by omega)]
theorem set4_in (arr : Array Value) (o : Nat) (c0 c1 c2 c3 : Value) (h : o + 4 ≤ arr.size) (q : Nat) (hq : q < 4) : (set4 arr o c0 c1 c2 c3)[o + q]? = (#[c0, c1, c2, c3] : Array Value)[q]? := by
  unfold set4
  match q, hq with
  | 0, _ => iterate 3 rw [Array.getElem?_setIfInBounds_ne (by omega)]
            rw [Nat.add_zero, Array.getElem?_setIfInBounds_self_of_lt (by omega)]; rfl
  | 1, _ => iterate 2 rw [Array.getElem?_setIfInBounds_ne (by omega)]
            rw [Array.getElem?_setIfInBounds_self_of_lt (by simp; omega)]; rfl
  | 2, _ => rw [Array.getElem?_setIfInBounds_ne (by omega), Array.getElem?_setIfInBounds_self_of_lt (by simp; omega)]; rfl
  | 3, _ => rw [Array.getElem?_setIfInBounds_self_of_lt (by simp; omega)]; rfl

/-- The first j values have marks. -/
structure VMk (w : World) (par : Nat → Nat × Nat) (h lo hi g c : Nat) (vs : List Tr) (m : Int) (j : Nat) : Prop where
  blk : ∃ cur, w.heap[g]? = some (.cells cur IV (0, 0)) ∧ cur.size = c * 5 ∧ ∀ i t, vs[i]? = some t → if i < j then VPt w par h lo hi g cur i (mkT4 (m + 7 * cnts (vs.take i) - 3 * i) t) else VPt w par h lo hi g cur i t
theorem VPt.keep {w w' : World} {par : Nat → Nat × Nat} {h lo hi g i : Nat} {cur cur' : Array Value} {t : Tr} (hv : VPt w par h lo hi g cur i t) (hc : ∀ q, q < 5 → cur'[i * 5 + q]? = cur[i * 5 + q]?) (hs : ∀ b, Hang par (h, i) b → b < w.heap.size → w'.heap[b]? = w.heap[b]?) : VPt w' par h lo hi g cur' i t := by
  obtain ⟨k, n, s, x, ks', vs', A, c', e, hat, hT⟩ := hv
  exact ⟨k, n, s, x, ks', vs', A, c', e, fun q hq => (hc q hq).trans (hat q hq), hT.keep hs⟩

end Go.Proofs.Ytlbkbcafkjgckaa.tree
