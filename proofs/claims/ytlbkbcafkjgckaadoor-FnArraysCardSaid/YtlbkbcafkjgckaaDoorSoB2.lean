/-
  What the texts behind this one use: 3 parts of one proof.
  Conditions: those that each theorem names.
-/
import Derived.Test.YtlbkbcafkjgckaaDoorSoSCopyI
import Derived.Test.YtlbkbcafkjgckaaDoorCmSVals
import Derived.Test.YtlbkbcafkjgckaaDoorCmSMarks
import Derived.Test.YtlbkbcafkjgckaaDoorSoB1
import Derived.Test.YtlbkbcafkjgckaaDoorCmB4
/-
  Items that lie in one block, as a list; items without one of them.
  Conditions: those that each theorem names.
-/
namespace Go.Proofs.YtlbkbcafkjgckaaDoor.tree
open Go.ChangeShapes Go.WideShapes Go.ChangeAt Go.RowKit
set_option linter.unusedVariables false

theorem isin_row {w : World} {S : Nat → Prop} {g : Nat} {arr : Array Value} {ks : List Ky} {vs : List Tr} (hg : w.heap[g]? = some (.cells arr IE (0, 0))) (hS : S g) (hl : ks.length = vs.length) (hm : vs.length ≤ maxLen)
    (hit : ∀ i, i < vs.length → ∃ y k n s x ks' vs' A c, ks[i]? = some y ∧ vs[i]? = some (.mk k n s x ks' vs') ∧ (I64 y.num ∧ y.str.size ≤ maxLen) ∧ At8r arr i y k n s x A vs'.length c ∧ TIn w S (.mk k n s x ks' vs') (vV k n s x A vs'.length c)) :
    IsIn w S ks vs (some ⟨g, 0, none⟩) := by
  have each : ∀ i, ∃ C : Array Value, ∀ (hi : i < vs.length), KyAt w ⟨g, 0, none⟩ i (ks[i]'(hl ▸ hi)) ∧ C.size = 5 ∧ (∀ j, j < 5 → w.cell? ((⟨g, 0, none⟩ : Addr).add (8 * i + (3 + j))) = C[j]?) ∧ TIn w S (vs[i]) (.agg C) := by
    intro i
    by_cases hi : i < vs.length
    · obtain ⟨y, k, n, s, x, ks', vs', A, c, hy, ht, hyb, hat, hT⟩ := hit i hi
      have ey : ks[i]'(hl ▸ hi) = y := by rw [List.getElem?_eq_getElem (hl ▸ hi)] at hy; exact Option.some.inj hy
      have et : vs[i] = .mk k n s x ks' vs' := by rw [List.getElem?_eq_getElem hi] at ht; exact Option.some.inj ht
      have at_ : ∀ q, q < 8 → w.cell? ((⟨g, 0, none⟩ : Addr).add (8 * i + q)) = (eV y k n s x A vs'.length c).cells[q]? := fun q hq => by
        rw [Addr.add_lit, Nat.zero_add, cell_of_row w g _ arr IE _ hg, ← hat q hq, Nat.mul_comm]
      refine ⟨#[.int .i64 k, .int .i64 n, .string s, .int .i64 x, .slice A vs'.length c], fun _ => ?_⟩
      rw [ey, et]
      refine ⟨⟨at_ 0 (by omega), at_ 1 (by omega), at_ 2 (by omega), hyb⟩, rfl, fun j hj => ?_, hT⟩
      rw [at_ (3 + j) (by omega)]
      match j, hj with
      | 0, _ => rfl
      | 1, _ => rfl
      | 2, _ => rfl
      | 3, _ => rfl
      | 4, _ => rfl
    · exact ⟨#[], fun h => absurd h hi⟩
  exact ⟨hl, hm, fun i => (each i).choose, fun i hi => ⟨_, rfl, hS, ((each i).choose_spec hi).1, ((each i).choose_spec hi).2.1, ((each i).choose_spec hi).2.2.1⟩, fun i hi => ((each i).choose_spec hi).2.2.2⟩

/-- The cells of items, without those of item i. -/
theorem xAt8_drop {xs : List Value} {i j M : Nat} (hx : xs.length = M * 8) (hi : i < M) {y : Ky} {k n x : Int} {s : ByteArray} {A : Option Addr} {L c : Nat} (h : xAt8 xs (if j < i then j else j + 1) y k n s x A L c) : xAt8 (xs.take (i * 8) ++ xs.drop ((i + 1) * 8)) j y k n s x A L c := by
  intro q hq
  have := h q hq
  by_cases hj : j < i
  · rw [if_pos hj] at this
    rw [List.getElem?_append_left (by rw [List.length_take]; omega), List.getElem?_take_of_lt (by omega)]
    exact this
  · rw [if_neg hj] at this
    rw [List.getElem?_append_right (by rw [List.length_take]; omega), List.length_take, List.getElem?_drop, ← this]
    congr 1
    omega
theorem erase_get {α : Type} (l : List α) (i j : Nat) (hi : i < l.length) : (l.eraseIdx i)[j]? = l[if j < i then j else j + 1]? := by
  rw [List.getElem?_eraseIdx]
  split <;> rfl

theorem grown_below {w w1 w2 : World} {B k : Nat} (h : Below B w w1) (g : w1.grownBy w2 (some k)) (hk : B ≤ k) (hB : B ≤ w1.heap.size) : Below B w w2 :=
  ⟨g.os.trans h.os, g.tape.trans h.tape, g.output.trans h.output, Nat.le_trans h.size g.size, fun b hb => (g.block b (by omega) (by simp; omega)).trans (h.block b hb)⟩

theorem grown_below' {w w1 w2 : World} {B : Nat} {row : Option Nat} (h : Below B w w1) (g : w1.grownBy w2 row) (hB : B ≤ w1.heap.size) (hk : ∀ b, row = some b → B ≤ b) : Below B w w2 :=
  ⟨g.os.trans h.os, g.tape.trans h.tape, g.output.trans h.output, Nat.le_trans h.size g.size, fun b hb => (g.block b (by omega) (fun e => by have := hk b e.symm; omega)).trans (h.block b hb)⟩
def OutV (w : World) (t : Tr) (S : Nat → Prop) (e : Ending) (w' : World) : Prop := ∃ u, e = .returned u ∧ TIn w' S t u ∧ Below w.heap.size w w'

end Go.Proofs.YtlbkbcafkjgckaaDoor.tree

/-
  Values in a row of the call's own, whose lists hang each apart; the laws' marks put into them.
  Conditions: those that each theorem names.
-/
namespace Go.Proofs.YtlbkbcafkjgckaaDoor.tree
open Go.ChangeShapes Go.WideShapes Go.ChangeAt Go.RowKit
set_option linter.unusedVariables false

def At5r (arr : Array Value) (i : Nat) (k n : Int) (s : ByteArray) (x : Int) (A : Option Addr) (L c : Nat) : Prop := ∀ q, q < 5 → arr[i * 5 + q]? = (#[.int .i64 k, .int .i64 n, .string s, .int .i64 x, .slice A L c] : Array Value)[q]?

/-- A value in a row of block g, its lists apart. -/
def VPt (w : World) (par : Nat → Nat × Nat) (h lo hi g : Nat) (cur : Array Value) (i : Nat) (t : Tr) : Prop :=
  ∃ k n s x ks' vs' A c, t = .mk k n s x ks' vs' ∧ At5r cur i k n s x A vs'.length c ∧ TPar w par (h, i) t (vV k n s x A vs'.length c)
/-- Values in a row of block g, their lists apart. -/
structure VBlk (w : World) (par : Nat → Nat × Nat) (h lo hi g c : Nat) (vs : List Tr) : Prop where
  lo_le : lo ≤ g
  len : vs.length ≤ c ∧ c ≤ maxLen
  blk : ∃ cur, w.heap[g]? = some (.cells cur IV (0, 0)) ∧ cur.size = c * 5 ∧ ∀ i t, vs[i]? = some t → VPt w par h lo hi g cur i t
  hang : ∀ i, i < vs.length → ∀ b, Hang par (h, i) b → Rg lo hi b ∧ b ≠ g
def VRow (w : World) (par : Nat → Nat × Nat) (h lo hi : Nat) (v : Value) (vs : List Tr) : Prop :=
  (∃ A c, v = .slice A 0 c ∧ vs = [] ∧ ∀ b, v.ownBlock = some b → lo ≤ b ∧ b < w.heap.size) ∨ ∃ g c, v = .slice (some ⟨g, 0, none⟩) vs.length c ∧ VBlk w par h lo hi g c vs

theorem VBlk.keep {w w' : World} {par : Nat → Nat × Nat} {h lo hi g c : Nat} {vs : List Tr} (hv : VBlk w par h lo hi g c vs) (hs : ∀ b, (b = g ∨ Rg lo hi b) → b < w.heap.size → w'.heap[b]? = w.heap[b]?) : VBlk w' par h lo hi g c vs := by
  obtain ⟨cur, hg, hsz, hi'⟩ := hv.blk
  refine ⟨hv.lo_le, hv.len, ⟨cur, (hs g (.inl rfl) (Array.getElem?_eq_some_iff.1 hg).1).trans hg, hsz, fun i t ht => ?_⟩, hv.hang⟩
  obtain ⟨k, n, s, x, ks', vs', A, c', e, hat, hT⟩ := hi' i t ht
  exact ⟨k, n, s, x, ks', vs', A, c', e, hat, hT.keep fun b hb hl => hs b (.inr (hv.hang i (List.getElem?_eq_some_iff.1 ht).1 b hb).1) hl⟩
theorem VRow.keep {w w' : World} {par : Nat → Nat × Nat} {h lo hi : Nat} {v : Value} {vs : List Tr} (hv : VRow w par h lo hi v vs) (hz : w.heap.size ≤ w'.heap.size) (hs : ∀ b, (v.ownBlock = some b ∨ Rg lo hi b) → b < w.heap.size → w'.heap[b]? = w.heap[b]?) : VRow w' par h lo hi v vs := by
  rcases hv with ⟨A, c, rfl, rfl, hb⟩ | ⟨g, c, rfl, hb⟩
  · exact .inl ⟨A, c, rfl, rfl, fun b h => ⟨(hb b h).1, Nat.lt_of_lt_of_le (hb b h).2 hz⟩⟩
  · exact .inr ⟨g, c, rfl, hb.keep fun b hb' hl => hs b (hb'.imp (fun e => by rw [e]; rfl) id) hl⟩
theorem VRow.below {w w' : World} {par : Nat → Nat × Nat} {h lo hi : Nat} {v : Value} {vs : List Tr} (hv : VRow w par h lo hi v vs) (hb : Below w.heap.size w w') : VRow w' par h lo hi v vs := hv.keep hb.size fun b _ hl => hb.block b hl
theorem VRow.own {w : World} {par : Nat → Nat × Nat} {h lo hi : Nat} {v : Value} {vs : List Tr} (hv : VRow w par h lo hi v vs) : ∀ b, v.ownBlock = some b → lo ≤ b ∧ b < w.heap.size := by
  rcases hv with ⟨A, c, rfl, rfl, hb⟩ | ⟨g, c, rfl, hb⟩
  · exact hb
  · intro b e
    obtain ⟨cur, hg, -⟩ := hb.blk
    simp [Value.ownBlock] at e
    subst e
    exact ⟨hb.lo_le, (Array.getElem?_eq_some_iff.1 hg).1⟩
theorem VBlk.vin {w : World} {par : Nat → Nat × Nat} {h lo hi g c : Nat} {vs : List Tr} (hv : VBlk w par h lo hi g c vs) : VIn w (fun _ => True) vs (some ⟨g, 0, none⟩) := fun i t ht => by
  obtain ⟨cur, hg, -, hi'⟩ := hv.blk
  obtain ⟨k, n, s, x, ks', vs', A, c', e, hat, hT⟩ := hi' i t ht
  have at_ : ∀ q, q < 5 → w.cell? ⟨g, i * 5 + q, none⟩ = (#[.int .i64 k, .int .i64 n, .string s, .int .i64 x, .slice A vs'.length c'] : Array Value)[q]? := fun q hq => by rw [cell_of_row w g _ cur IV _ hg]; exact hat q hq
  refine ⟨⟨g, 0, none⟩, k, n, s, x, ks', vs', A, c', rfl, trivial, e, hT.tin.stays (fun _ _ => trivial) (fun _ _ _ => rfl), ?_⟩
  rw [Addr.add_lit, Nat.zero_add]
  exact ⟨at_ 0 (by omega), at_ 1 (by omega), at_ 2 (by omega), at_ 3 (by omega), at_ 4 (by omega)⟩
theorem VRow.out {w : World} {par : Nat → Nat × Nat} {h lo hi : Nat} {v : Value} {vs : List Tr} (hv : VRow w par h lo hi v vs) : ∃ A c, v = .slice A vs.length c ∧ VIn w (fun _ => True) vs A := by
  rcases hv with ⟨A, c, rfl, rfl, hb⟩ | ⟨g, c, rfl, hb⟩
  · exact ⟨A, c, rfl, fun i t ht => by simp at ht⟩
  · exact ⟨_, c, rfl, hb.vin⟩

theorem VRow.vin {w : World} {par : Nat → Nat × Nat} {h lo hi n c : Nat} {A : Option Addr} {vs : List Tr} (hv : VRow w par h lo hi (.slice A n c) vs) : VIn w (fun _ => True) vs A := by
  obtain ⟨A', c', e, h'⟩ := hv.out
  injection e with e1 e2 e3
  subst e1
  exact h'

def set4 (arr : Array Value) (o : Nat) (c0 c1 c2 c3 : Value) : Array Value := (((arr.setIfInBounds o c0).setIfInBounds (o + 1) c1).setIfInBounds (o + 2) c2).setIfInBounds (o + 3) c3
theorem set4_size (arr : Array Value) (o : Nat) (c0 c1 c2 c3 : Value) : (set4 arr o c0 c1 c2 c3).size = arr.size := by simp [set4]
theorem set4_out (arr : Array Value) (o : Nat) (c0 c1 c2 c3 : Value) (p : Nat) (h : p < o ∨ o + 4 ≤ p) : (set4 arr o c0 c1 c2 c3)[p]? = arr[p]? := by
  unfold set4
  iterate 4 rw [Array.getElem?_setIfInBounds_ne (by omega)]
theorem set4_in (arr : Array Value) (o : Nat) (c0 c1 c2 c3 : Value) (h : o + 4 ≤ arr.size) (q : Nat) (hq : q < 4) : (set4 arr o c0 c1 c2 c3)[o + q]? = (#[c0, c1, c2, c3] : Array Value)[q]? := by
  unfold set4
  match q, hq with
  | 0, _ => iterate 3 rw [Array.getElem?_setIfInBounds_ne (by omega)]
            rw [Nat.add_zero, Array.getElem?_setIfInBounds_self_of_lt (by omega)]; rfl
  | 1, _ => iterate 2 rw [Array.getElem?_setIfInBounds_ne (by omega)]
            rw [Array.getElem?_setIfInBounds_self_of_lt (by simp; omega)]; rfl
  | 2, _ => rw [Array.getElem?_setIfInBounds_ne (by omega), Array.getElem?_setIfInBounds_self_of_lt (by simp; omega)]; rfl
  | 3, _ => rw [Array.getElem?_setIfInBounds_self_of_lt (by simp; omega)]; rfl

/-- The first j values have marks. -/
structure VMk (w : World) (par : Nat → Nat × Nat) (h lo hi g c : Nat) (vs : List Tr) (m : Int) (j : Nat) : Prop where
  blk : ∃ cur, w.heap[g]? = some (.cells cur IV (0, 0)) ∧ cur.size = c * 5 ∧ ∀ i t, vs[i]? = some t → if i < j then VPt w par h lo hi g cur i (mkT4 (m + 7 * cnts (vs.take i) - 3 * i) t) else VPt w par h lo hi g cur i t
theorem VPt.keep {w w' : World} {par : Nat → Nat × Nat} {h lo hi g i : Nat} {cur cur' : Array Value} {t : Tr} (hv : VPt w par h lo hi g cur i t) (hc : ∀ q, q < 5 → cur'[i * 5 + q]? = cur[i * 5 + q]?) (hs : ∀ b, Hang par (h, i) b → b < w.heap.size → w'.heap[b]? = w.heap[b]?) : VPt w' par h lo hi g cur' i t := by
  obtain ⟨k, n, s, x, ks', vs', A, c', e, hat, hT⟩ := hv
  exact ⟨k, n, s, x, ks', vs', A, c', e, fun q hq => (hc q hq).trans (hat q hq), hT.keep hs⟩

end Go.Proofs.YtlbkbcafkjgckaaDoor.tree

/-
  Values in a row of the call's own, whose blocks are plain and lie at lo or above; the values of a row apart as plain ones.
  Conditions: those that each theorem names.
-/
namespace Go.Proofs.YtlbkbcafkjgckaaDoor.tree
open Go.ChangeShapes Go.WideShapes Go.ChangeAt Go.RowKit
set_option linter.unusedVariables false

def OwV (w : World) (lo : Nat) (v : Value) (xs : List Value) (vs : List Tr) : Prop :=
  w.ownsRow lo IV 5 v vs.length xs ∧ XV w (fun b => lo ≤ b ∧ Plain w b ∧ v.ownBlock ≠ some b) vs xs
theorem OwV.keep {w w' : World} {lo : Nat} {v : Value} {xs : List Value} {vs : List Tr} (h : OwV w lo v xs vs) (hs : ∀ b, lo ≤ b → b < w.heap.size → w'.heap[b]? = w.heap[b]?) : OwV w' lo v xs vs := by
  obtain ⟨h1, h2⟩ := h
  refine ⟨⟨h1.1, ?_⟩, h2.stays (fun b hb => ⟨hb.1, hb.2.1.same (hs b hb.1 hb.2.1.lt), hb.2.2⟩) fun b hb hl => hs b hb.1 hl⟩
  rcases h1.2 with h | ⟨g, cap, cur, e, hlo, hg, hr⟩
  · exact .inl h
  · exact .inr ⟨g, cap, cur, e, hlo, (hs g hlo (Array.getElem?_eq_some_iff.1 hg).1).trans hg, hr⟩
theorem OwV.more {w w7 : World} {lo : Nat} {v v' : Value} {xs : List Value} {vs : List Tr} (h : OwV w lo v xs vs) {k n x : Int} {s : ByteArray} {ks' : List Ky} {vs' : List Tr} {A : Option Addr} {c : Nat}
    (hT : TIn w (fun b => lo ≤ b ∧ Plain w b ∧ v.ownBlock ≠ some b) (.mk k n s x ks' vs') (vV k n s x A vs'.length c))
    (ho : w7.ownsRow lo IV 5 v' (vs.length + 1) (xs ++ [.int .i64 k, .int .i64 n, .string s, .int .i64 x, .slice A vs'.length c])) (hg : w.grownBy w7 v.ownBlock) (hat : v'.ownBlock = v.ownBlock ∨ v'.ownBlock = some w.heap.size) :
    OwV w7 lo v' (xs ++ [.int .i64 k, .int .i64 n, .string s, .int .i64 x, .slice A vs'.length c]) (vs ++ [.mk k n s x ks' vs']) := by
  refine ⟨by rw [List.length_append]; exact ho, ?_⟩
  have hx := h.2.ins (p := vs.length) (Nat.le_refl _) hT
  rw [List.take_length, List.drop_length, ← h.2.1, List.take_length, List.drop_length, List.append_nil] at hx
  refine hx.stays (fun b hb => ⟨hb.1, hb.2.1.same (hg.block b hb.2.1.lt (fun e => hb.2.2 e.symm)), fun e => ?_⟩) fun b hb hl => hg.block b hl (fun e => hb.2.2 e.symm)
  rcases hat with h' | h'
  · exact hb.2.2 (h' ▸ e)
  · have := hb.2.1.lt; rw [h'] at e; injection e with e; omega
theorem OwV.vin {w : World} {lo : Nat} {v : Value} {xs : List Value} {vs : List Tr} (h : OwV w lo v xs vs) : ∃ A c, v = .slice A vs.length c ∧ vs.length ≤ maxLen ∧ VIn w (Nw lo w) vs A := by
  obtain ⟨h1, h2⟩ := h
  rcases h1.2 with ⟨rfl, h0⟩ | ⟨g, cap, cur, rfl, hlo, hg, hnc, hcm, hsz, htk⟩
  · obtain rfl : vs = [] := List.length_eq_zero_iff.1 h0
    exact ⟨none, 0, rfl, by simp, fun i t ht => by simp at ht⟩
  · refine ⟨some ⟨g, 0, none⟩, cap, rfl, by omega, (h2.stays (S' := Nw lo w) (fun b hb => ⟨hb.1, hb.2.1⟩) fun _ _ _ => rfl).vin ⟨hlo, cur, IV, hg⟩ fun j u hu => ?_⟩
    rw [Addr.add_lit, Nat.zero_add, cell_of_row w g _ cur IV _ hg]
    rw [← htk, List.getElem?_take] at hu
    split at hu
    · rw [Array.getElem?_toList] at hu; exact hu
    · cases hu

/-- The values of a row, their lists apart, lie in plain blocks. -/
theorem VRow.vin0 {w : World} {par : Nat → Nat × Nat} {h lo hi n c : Nat} {A : Option Addr} {vs : List Tr} (hv : VRow w par h lo hi (.slice A n c) vs) : VIn w (Nw 0 w) vs A := by
  rcases hv with ⟨A', c', e, rfl, -⟩ | ⟨g, c', e, hb⟩
  · exact fun i t ht => by simp at ht
  · injection e with e1 e2 e3
    subst e1
    intro i t ht
    obtain ⟨cur, hg, -, hi'⟩ := hb.blk
    obtain ⟨k, n, s, x, ks', vs', A, c', e, hat, hT⟩ := hi' i t ht
    have at_ : ∀ q, q < 5 → w.cell? ⟨g, i * 5 + q, none⟩ = (#[.int .i64 k, .int .i64 n, .string s, .int .i64 x, .slice A vs'.length c'] : Array Value)[q]? := fun q hq => by rw [cell_of_row w g _ cur IV _ hg]; exact hat q hq
    refine ⟨⟨g, 0, none⟩, k, n, s, x, ks', vs', A, c', rfl, ⟨Nat.zero_le _, cur, IV, hg⟩, e, hT.tin.stays (fun b hb => ⟨Nat.zero_le _, hb.2⟩) (fun _ _ _ => rfl), ?_⟩
    rw [Addr.add_lit, Nat.zero_add]
    exact ⟨at_ 0 (by omega), at_ 1 (by omega), at_ 2 (by omega), at_ 3 (by omega), at_ 4 (by omega)⟩

end Go.Proofs.YtlbkbcafkjgckaaDoor.tree

