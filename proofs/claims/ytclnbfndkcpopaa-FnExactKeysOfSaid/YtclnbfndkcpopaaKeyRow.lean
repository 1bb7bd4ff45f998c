/-
  Keys in a row that a call has made.
  Conditions: those that each theorem names.
-/
import Derived.Test.YtclnbfndkcpopaaItems
import Derived.Test.YtclnbfndkcpopaaTreeSz
import Derived.Test.YtclnbfndkcpopaaMarks
namespace Go.Proofs.Ytclnbfndkcpopaa.tree
open Go.ChangeShapes Go.WideShapes Go.ChangeAt Go.RowKit
set_option linter.unusedVariables false

/-- The cells of keys. -/
def kcs : List Ky → List Value
  | [] => []
  | y :: ks => .bool y.text :: .int .i64 y.num :: .string y.str :: kcs ks
theorem kcs_len : ∀ ks, (kcs ks).length = ks.length * 3
  | [] => rfl
  | y :: ks => by rw [kcs]; simp only [List.length_cons, kcs_len ks]; omega
theorem kcs_get : ∀ (ks : List Ky) (i : Nat) (y : Ky), ks[i]? = some y → ∀ q, q < 3 → (kcs ks)[i * 3 + q]? = (#[.bool y.text, .int .i64 y.num, .string y.str] : Array Value)[q]?
  | [], i, y, h, _, _ => by simp at h
  | y0 :: ks, 0, y, h, q, hq => by
    obtain rfl : y0 = y := by simpa using h
    rw [kcs]
    match q, hq with
    | 0, _ => rfl
    | 1, _ => rfl
    | 2, _ => rfl
  | y0 :: ks, i + 1, y, h, q, hq => by
    have := kcs_get ks i y (by simpa using h) q hq
    rw [kcs, show (i + 1) * 3 + q = (i * 3 + q) + 1 + 1 + 1 by omega, List.getElem?_cons_succ, List.getElem?_cons_succ, List.getElem?_cons_succ]
    exact this
theorem kcs_append : ∀ a b, kcs (a ++ b) = kcs a ++ kcs b
  | [], b => rfl
  | y :: a, b => by rw [List.cons_append, kcs, kcs, kcs_append a b]; rfl
/-- Keys of Go's type. -/
def okK (ks : List Ky) : Prop := ∀ y ∈ ks, I64 y.num ∧ y.str.size ≤ maxLen

/-- A row of the call's own holds the keys. -/
def KRow (w : World) (lo : Nat) (v : Value) (ks : List Ky) : Prop := w.ownsRow lo IK 3 v ks.length (kcs ks)
theorem KRow.below {w w' : World} {lo : Nat} {v : Value} {ks : List Ky} (h : KRow w lo v ks) (hb : Below w.heap.size w w') : KRow w' lo v ks := World.ownsRow.kept h (mem.none_of_below hb) ownBlock_keep
theorem KRow.lo {w : World} {lo lo' : Nat} {v : Value} {ks : List Ky} (h : KRow w lo v ks) (hl : lo' ≤ lo) : KRow w lo' v ks := by
  obtain ⟨h1, h2⟩ := h
  refine ⟨h1, ?_⟩
  rcases h2 with h | ⟨g, cap, cur, e, hg, hr⟩
  · exact .inl h
  · exact .inr ⟨g, cap, cur, e, by omega, hr⟩
theorem KRow.blk {w w' : World} {lo : Nat} {v : Value} {ks : List Ky} (h : KRow w lo v ks) (hs : ∀ b, v.ownBlock = some b → lo ≤ b → b < w.heap.size → w'.heap[b]? = w.heap[b]?) : KRow w' lo v ks := by
  obtain ⟨h1, h2⟩ := h
  refine ⟨h1, ?_⟩
  rcases h2 with h | ⟨g, cap, cur, rfl, hlo, hg, hr⟩
  · exact .inl h
  · exact .inr ⟨g, cap, cur, rfl, hlo, (hs g rfl hlo (Array.getElem?_eq_some_iff.1 hg).1).trans hg, hr⟩
theorem KRow.own {w : World} {lo : Nat} {v : Value} {ks : List Ky} (h : KRow w lo v ks) : ∀ b, v.ownBlock = some b → lo ≤ b ∧ b < w.heap.size := World.ownsRow.lt h
/-- A row of keys as a slice: its cells. -/
theorem KRow.out {w : World} {lo : Nat} {v : Value} {ks : List Ky} (h : KRow w lo v ks) : ∃ A c, v = .slice A ks.length c ∧ (ks.length ≤ c ∧ c ≤ maxLen) ∧ ∀ i y, ks[i]? = some y → ∃ g cur, A = some ⟨g, 0, none⟩ ∧ lo ≤ g ∧ w.heap[g]? = some (.cells cur IK (0, 0)) ∧ cur.size = c * 3 ∧
    ∀ q, q < 3 → cur[i * 3 + q]? = (#[.bool y.text, .int .i64 y.num, .string y.str] : Array Value)[q]? := by
  obtain ⟨h1, h2⟩ := h
  rcases h2 with ⟨rfl, h0⟩ | ⟨g, cap, cur, rfl, hlo, hg, hnc, hcm, hsz, htk⟩
  · rw [h0]
    exact ⟨none, 0, rfl, ⟨Nat.le_refl _, Nat.zero_le _⟩, fun i y hy => by
      have := (List.getElem?_eq_some_iff.1 hy).1
      omega⟩
  · refine ⟨some ⟨g, 0, none⟩, cap, rfl, ⟨hnc, hcm⟩, fun i y hy => ⟨g, cur, rfl, hlo, hg, hsz, fun q hq => ?_⟩⟩
    have hi := (List.getElem?_eq_some_iff.1 hy).1
    rw [← kcs_get ks i y hy q hq, ← htk, List.getElem?_take_of_lt (by omega), Array.getElem?_toList]

theorem ik_info : ∃ i, Try.prog.info? IK = some i ∧ (i.zero = some (.agg #[.bool false, .int .i64 0, .string ⟨#[]⟩]) ∧ i.size = 3 ∧ i.bytes = 32) := by
  have : (Try.prog.info? IK).map (fun i => (i.zero, i.size, i.bytes)) = some (some (.agg #[.bool false, .int .i64 0, .string ⟨#[]⟩]), 3, 32) := by kernel_rfl
  cases hq : Try.prog.info? IK with
  | none => rw [hq] at this; cases this
  | some i => rw [hq] at this; simp at this; exact ⟨i, rfl, this⟩
theorem three_one (b : Bool) (n : Int) (s : ByteArray) : ∀ u ∈ [Value.bool b, .int .i64 n, .string s], u.oneCell' = true := by simp [Value.oneCell']
theorem three_new (w : World) (c0 c1 c2 : Value) (t : TypeId) : ∀ j u, [c0, c1, c2][j]? = some u → (w.alloc (.cells #[c0, c1, c2] t)).cell? ((⟨w.heap.size, 0, none⟩ : Addr).add j) = some u := by
  intro j u hj
  rw [Addr.add_lit, Nat.zero_add, cell_of_row _ _ j _ t _ (heap_alloc_new w _)]
  simpa using hj

/-- The keys of a value. -/
def keysT : Tr → List Ky
  | .mk k _ _ _ ks _ => if k = 4 then ks else []
def KsQ (w : World) (ks : List Ky) (e : Ending) (w' : World) : Prop := ∃ v, e = .returned v ∧ KRow w' w.heap.size v ks ∧ Below w.heap.size w w'

end Go.Proofs.Ytclnbfndkcpopaa.tree
