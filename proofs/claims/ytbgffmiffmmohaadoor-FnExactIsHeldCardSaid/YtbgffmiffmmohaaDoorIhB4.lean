/-
  What the texts behind this one use: 4 parts of one proof.
  Conditions: those that each theorem names.
-/
import Derived.Test.YtbgffmiffmmohaaDoorIhSPar
import Derived.Maps.AppendAt
import Derived.Test.YtbgffmiffmmohaaDoorIhSTreeCp
import Derived.Test.YtbgffmiffmmohaaDoorIhB3
import Derived.Test.YtbgffmiffmmohaaDoorIhB2
/-
  Items that a call appends one by one: a row of its own.
  Conditions: those that each theorem names.
-/
namespace Go.Proofs.YtbgffmiffmmohaaDoor.tree
open Go.ChangeShapes Go.WideShapes Go.ChangeAt Go.RowKit
set_option linter.unusedVariables false

/-- lo or above, and not the row's own block. -/
def SX (lo : Nat) (v : Value) (b : Nat) : Prop := lo ≤ b ∧ v.ownBlock ≠ some b
def xAt8 (xs : List Value) (i : Nat) (y : Ky) (k n : Int) (s : ByteArray) (x : Int) (A : Option Addr) (L c : Nat) : Prop := ∀ q, q < 8 → xs[i * 8 + q]? = (eV y k n s x A L c).cells[q]?
def ORowX (w : World) (lo : Nat) (v : Value) (xs : List Value) (ks : List Ky) (vs : List Tr) : Prop :=
  w.ownsRow lo IE 8 v vs.length xs ∧ ks.length = vs.length ∧ ∀ i, i < vs.length → ∃ y k n s x ks' vs' A c, ks[i]? = some y ∧ vs[i]? = some (.mk k n s x ks' vs') ∧ (I64 y.num ∧ y.str.size ≤ maxLen) ∧
    xAt8 xs i y k n s x A vs'.length c ∧ TIn w (SX lo v) (.mk k n s x ks' vs') (vV k n s x A vs'.length c)
def ORow (w : World) (lo : Nat) (v : Value) (ks : List Ky) (vs : List Tr) : Prop := ∃ xs, ORowX w lo v xs ks vs

section
variable {w w' : World} {lo : Nat} {v : Value} {ks : List Ky} {vs : List Tr}
theorem ORow.nil (w : World) (lo : Nat) : ORow w lo (.slice none 0 0) [] [] := ⟨[], World.ownsRow_nil w lo _ 8, rfl, fun i hi => absurd hi (by simp)⟩
theorem ownBlock_keep {v : Value} : v.ownBlock = none ∨ v.ownBlock ≠ (none : Option Nat) := by
  cases e : v.ownBlock with
  | none => exact .inl rfl
  | some k => exact .inr (by simp)
theorem ORowX.below {xs : List Value} (h : ORowX w lo v xs ks vs) (hb : Below w.heap.size w w') : ORowX w' lo v xs ks vs := by
  obtain ⟨h1, h2, h3⟩ := h
  refine ⟨World.ownsRow.kept h1 (mem.none_of_below hb) ownBlock_keep, h2, fun i hi => ?_⟩
  obtain ⟨y, k, n, s, x, ks', vs', A, c, a1, a2, a3, a4, a5⟩ := h3 i hi
  exact ⟨y, k, n, s, x, ks', vs', A, c, a1, a2, a3, a4, a5.below' hb⟩
theorem ORow.below (h : ORow w lo v ks vs) (hb : Below w.heap.size w w') : ORow w' lo v ks vs := by
  obtain ⟨xs, h⟩ := h
  exact ⟨xs, h.below hb⟩
theorem ORowX.above {xs : List Value} (h : ORowX w lo v xs ks vs) (hs : ∀ b, lo ≤ b → b < w.heap.size → w'.heap[b]? = w.heap[b]?) : ORowX w' lo v xs ks vs := by
  obtain ⟨h1, h2, h3⟩ := h
  refine ⟨⟨h1.1, ?_⟩, h2, fun i hi => ?_⟩
  · rcases h1.2 with h | ⟨g, cap, cur, e, hlo, hg, hr⟩
    · exact .inl h
    · exact .inr ⟨g, cap, cur, e, hlo, (hs g hlo (Array.getElem?_eq_some_iff.1 hg).1).trans hg, hr⟩
  · obtain ⟨y, k, n, s, x, ks', vs', A, c, a1, a2, a3, a4, a5⟩ := h3 i hi
    exact ⟨y, k, n, s, x, ks', vs', A, c, a1, a2, a3, a4, a5.stays (fun _ h => h) fun b hb hlt => hs b hb.1 hlt⟩
theorem ORow.above (h : ORow w lo v ks vs) (hs : ∀ b, lo ≤ b → b < w.heap.size → w'.heap[b]? = w.heap[b]?) : ORow w' lo v ks vs := by
  obtain ⟨xs, h⟩ := h
  exact ⟨xs, h.above hs⟩
theorem ORow.block (h : ORow w lo v ks vs) : ∀ k, v.ownBlock = some k → lo ≤ k ∧ k < w.heap.size := by
  obtain ⟨xs, h1, -⟩ := h
  exact h1.lt

/-- One more. -/
theorem ORowX.more {xs : List Value} (h : ORowX w lo v xs ks vs)
    {y : Ky} {k n x : Int} {s : ByteArray} {ks' : List Ky} {vs' : List Tr} {A : Option Addr} {c : Nat} (hy : I64 y.num ∧ y.str.size ≤ maxLen) (ht : TIn w (SX lo v) (.mk k n s x ks' vs') (vV k n s x A vs'.length c))
    {v' : Value} (ho : w'.ownsRow lo IE 8 v' (vs.length + 1) (xs ++ [.bool y.text, .int .i64 y.num, .string y.str, .int .i64 k, .int .i64 n, .string s, .int .i64 x, .slice A vs'.length c])) (hg : w.grownBy w' v.ownBlock) (hat : v'.ownBlock = v.ownBlock ∨ v'.ownBlock = some w.heap.size) :
    ORow w' lo v' (ks ++ [y]) (vs ++ [.mk k n s x ks' vs']) := by
  obtain ⟨h1, h2, h3⟩ := h
  have hxl : xs.length = vs.length * 8 := h1.1
  have st : ∀ {t : Tr} {u : Value}, TIn w (SX lo v) t u → TIn w' (SX lo v') t u := fun {t u} h => by
    have h' : TIn w (fun b => SX lo v b ∧ b < w.heap.size) t u := by
      induction h with
      | mk k n s x ks vs A cap C hk hl hm hcap hc ht ih =>
        refine .mk k n s x ks vs A cap C hk hl hm hcap (fun i hi => ?_) ih
        obtain ⟨a, ha, hS, hky, hs, hj⟩ := hc i hi
        refine ⟨a, ha, ⟨hS, ?_⟩, hky, hs, hj⟩
        have := World.block_lt_of_cell? _ _ hky.1
        rwa [mem.add_block] at this
    exact h'.stays (fun b ⟨⟨hb1, hb2⟩, hb3⟩ => ⟨hb1, fun e => by
      rcases hat with h | h
      · exact hb2 (h ▸ e)
      · rw [h] at e; injection e with e; omega⟩) (fun b ⟨⟨hb1, hb2⟩, hb3⟩ hlt => hg.block b hlt (fun e => hb2 e.symm))
  refine ⟨_, by rw [List.length_append]; exact ho, by rw [List.length_append, List.length_append, h2]; rfl, fun i hi => ?_⟩
  rw [List.length_append] at hi
  simp only [List.length_cons, List.length_nil] at hi
  by_cases e : i = vs.length
  · subst e
    refine ⟨y, k, n, s, x, ks', vs', A, c, by rw [List.getElem?_append_right (by omega), h2]; simp, by rw [List.getElem?_append_right (by omega)]; simp, hy, fun q hq => ?_, st ht⟩
    rw [List.getElem?_append_right (by omega), hxl, Nat.add_sub_cancel_left]
    match q, hq with
    | 0, _ => rfl
    | 1, _ => rfl
    | 2, _ => rfl
    | 3, _ => rfl
    | 4, _ => rfl
    | 5, _ => rfl
    | 6, _ => rfl
    | 7, _ => rfl
  · obtain ⟨y1, k1, n1, s1, x1, ks1, vs1, A1, c1, a1, a2, a3, a4, a5⟩ := h3 i (by omega)
    refine ⟨y1, k1, n1, s1, x1, ks1, vs1, A1, c1, by rw [List.getElem?_append_left (by omega)]; exact a1, by rw [List.getElem?_append_left (by omega)]; exact a2, a3, fun q hq => ?_, st a5⟩
    rw [List.getElem?_append_left (by omega)]
    exact a4 q hq

theorem ORow.isin (h : ORow w lo v ks vs) (hm : vs.length ≤ maxLen) : ∃ A c, v = .slice A vs.length c ∧ (vs.length ≤ c ∧ c ≤ maxLen) ∧ IsIn w (fun b => lo ≤ b) ks vs A := by
  obtain ⟨xs, h1, h2, h3⟩ := h
  rcases h1.2 with ⟨rfl, h0⟩ | ⟨g, cap, cur, rfl, hlo, hg, hnc, hcm, hsz, htk⟩
  · obtain rfl : vs = [] := List.length_eq_zero_iff.1 h0
    obtain rfl : ks = [] := List.length_eq_zero_iff.1 h2
    exact ⟨none, 0, rfl, ⟨by simp, by simp⟩, IsIn.nil _ _ _⟩
  · refine ⟨some ⟨g, 0, none⟩, cap, rfl, ⟨hnc, hcm⟩, h2, hm, ?_⟩
    have each : ∀ i, ∃ C : Array Value, ∀ (hi : i < vs.length), KyAt w ⟨g, 0, none⟩ i (ks[i]'(h2 ▸ hi)) ∧ C.size = 5 ∧ (∀ j, j < 5 → w.cell? ((⟨g, 0, none⟩ : Addr).add (8 * i + (3 + j))) = C[j]?) ∧ TIn w (fun b => lo ≤ b) (vs[i]) (.agg C) := by
      intro i
      by_cases hi : i < vs.length
      · obtain ⟨y, k, n, s, x, ks', vs', A, c, hy, ht, hyb, hat, hT⟩ := h3 i hi
        have ey : ks[i]'(h2 ▸ hi) = y := by rw [List.getElem?_eq_getElem (h2 ▸ hi)] at hy; exact Option.some.inj hy
        have et : vs[i] = .mk k n s x ks' vs' := by rw [List.getElem?_eq_getElem hi] at ht; exact Option.some.inj ht
        have at_ : ∀ q, q < 8 → w.cell? ((⟨g, 0, none⟩ : Addr).add (8 * i + q)) = (eV y k n s x A vs'.length c).cells[q]? := fun q hq => by
          rw [Addr.add_lit, Nat.zero_add, cell_of_row w g _ cur IE _ hg, ← hat q hq, ← htk, List.getElem?_take_of_lt (by omega), Nat.mul_comm]
          simp
        refine ⟨#[.int .i64 k, .int .i64 n, .string s, .int .i64 x, .slice A vs'.length c], fun _ => ?_⟩
        rw [ey, et]
        refine ⟨⟨at_ 0 (by omega), at_ 1 (by omega), at_ 2 (by omega), hyb⟩, rfl, fun j hj => ?_, hT.stays (fun b hb => hb.1) (fun b _ _ => rfl)⟩
        rw [at_ (3 + j) (by omega)]
        match j, hj with
        | 0, _ => rfl
        | 1, _ => rfl
        | 2, _ => rfl
        | 3, _ => rfl
        | 4, _ => rfl
      · exact ⟨#[], fun h => absurd h hi⟩
    exact ⟨fun i => (each i).choose, fun i hi => ⟨_, rfl, hlo, ((each i).choose_spec hi).1, ((each i).choose_spec hi).2.1, ((each i).choose_spec hi).2.2.1⟩, fun i hi => ((each i).choose_spec hi).2.2.2⟩
end

theorem addr_far {N j : Nat} (h : N < j) (o : Nat) : ∀ p : Addr, p.block < N + 1 → (⟨j, o, none⟩ : Addr) ≠ p := fun p hp e => by
  rw [← e] at hp
  simp only at hp
  omega
theorem ie_info : ∃ i, Tryd.prog.info? IE = some i ∧ (i.zero = some (.agg #[.bool false, .int .i64 0, .string ⟨#[]⟩, .int .i64 0, .int .i64 0, .string ⟨#[]⟩, .int .i64 0, .slice none 0 0]) ∧ i.size = 8 ∧ i.bytes = 96) := by
  have := ieRow
  cases hq : Tryd.prog.info? IE with
  | none => rw [hq] at this; cases this
  | some i => rw [hq] at this; simp at this; exact ⟨i, rfl, this⟩
theorem eight_one (b : Bool) (n : Int) (s : ByteArray) (k m : Int) (z : ByteArray) (x : Int) (A : Option Addr) (L c : Nat) : ∀ u ∈ [Value.bool b, .int .i64 n, .string s, .int .i64 k, .int .i64 m, .string z, .int .i64 x, .slice A L c], u.oneCell' = true := by simp [Value.oneCell']
theorem eight_new (w : World) (c0 c1 c2 c3 c4 c5 c6 c7 : Value) (t : TypeId) : ∀ j u, [c0, c1, c2, c3, c4, c5, c6, c7][j]? = some u → (w.alloc (.cells #[c0, c1, c2, c3, c4, c5, c6, c7] t)).cell? ((⟨w.heap.size, 0, none⟩ : Addr).add j) = some u := by
  intro j u hj
  rw [Addr.add_lit, Nat.zero_add, cell_of_row _ _ j _ t _ (heap_alloc_new w _)]
  simpa using hj

end Go.Proofs.YtbgffmiffmmohaaDoor.tree

/-
  Items in a row of the call's own, all of whose blocks satisfy P.
  Conditions: those that each theorem names.
-/
namespace Go.Proofs.YtbgffmiffmmohaaDoor.tree
open Go.ChangeShapes Go.WideShapes Go.ChangeAt Go.RowKit
set_option linter.unusedVariables false

def OwR (w : World) (P : Nat → Prop) (v : Value) (xs : List Value) (ks : List Ky) (vs : List Tr) : Prop :=
  w.ownsRow 0 IE 8 v vs.length xs ∧ (∀ b, v.ownBlock = some b → P b) ∧ ks.length = vs.length ∧ ∀ i, i < vs.length → ∃ y k n s x ks' vs' A c, ks[i]? = some y ∧ vs[i]? = some (.mk k n s x ks' vs') ∧ (I64 y.num ∧ y.str.size ≤ maxLen) ∧
    xAt8 xs i y k n s x A vs'.length c ∧ TIn w (fun b => P b ∧ v.ownBlock ≠ some b) (.mk k n s x ks' vs') (vV k n s x A vs'.length c)

section
variable {w w' : World} {P P' : Nat → Prop} {v : Value} {xs : List Value} {ks : List Ky} {vs : List Tr}
theorem OwR.of {lo : Nat} (h : ORowX w lo v xs ks vs) : OwR w (fun b => lo ≤ b ∧ b < w.heap.size) v xs ks vs := by
  have hb := ORow.block (lo := lo) (ks := ks) (vs := vs) ⟨xs, h⟩
  obtain ⟨h1, h2, h3⟩ := h
  refine ⟨⟨h1.1, h1.2.imp id fun ⟨g, cap, cur, e, hlo, r⟩ => ⟨g, cap, cur, e, Nat.zero_le _, r⟩⟩, hb, h2, fun i hi => ?_⟩
  obtain ⟨y, k, n, s, x, ks', vs', A, c, a1, a2, a3, a4, a5⟩ := h3 i hi
  refine ⟨y, k, n, s, x, ks', vs', A, c, a1, a2, a3, a4, ?_⟩
  have h' : TIn w (fun b => SX lo v b ∧ b < w.heap.size) (.mk k n s x ks' vs') (vV k n s x A vs'.length c) := by
    generalize (Tr.mk k n s x ks' vs') = t at a5
    generalize (vV k n s x A vs'.length c) = u at a5
    clear a1 a2 a4
    induction a5 with
    | mk k n s x ks vs A cap C hk hl hm hcap hc ht ih =>
      refine .mk k n s x ks vs A cap C hk hl hm hcap (fun i hi => ?_) ih
      obtain ⟨a, ha, hS, hky, hs, hj⟩ := hc i hi
      refine ⟨a, ha, ⟨hS, ?_⟩, hky, hs, hj⟩
      have := World.block_lt_of_cell? _ _ hky.1
      rwa [mem.add_block] at this
  exact h'.stays (fun b hb => ⟨⟨hb.1.1, hb.2⟩, hb.1.2⟩) (fun _ _ _ => rfl)
theorem OwR.mono (h : OwR w P v xs ks vs) (hP : ∀ b, P b → P' b) : OwR w P' v xs ks vs := by
  obtain ⟨h1, h0, h2, h3⟩ := h
  refine ⟨h1, fun b e => hP b (h0 b e), h2, fun i hi => ?_⟩
  obtain ⟨y, k, n, s, x, ks', vs', A, c, a1, a2, a3, a4, a5⟩ := h3 i hi
  exact ⟨y, k, n, s, x, ks', vs', A, c, a1, a2, a3, a4, a5.stays (fun b hb => ⟨hP b hb.1, hb.2⟩) (fun _ _ _ => rfl)⟩
theorem OwR.keep (h : OwR w P v xs ks vs) (hs : ∀ b, P b → b < w.heap.size → w'.heap[b]? = w.heap[b]?) : OwR w' P v xs ks vs := by
  obtain ⟨h1, h0, h2, h3⟩ := h
  refine ⟨⟨h1.1, ?_⟩, h0, h2, fun i hi => ?_⟩
  · rcases h1.2 with h | ⟨g, cap, cur, e, hlo, hg, hr⟩
    · exact .inl h
    · exact .inr ⟨g, cap, cur, e, hlo, (hs g (h0 g (by rw [e]; rfl)) (Array.getElem?_eq_some_iff.1 hg).1).trans hg, hr⟩
  · obtain ⟨y, k, n, s, x, ks', vs', A, c, a1, a2, a3, a4, a5⟩ := h3 i hi
    exact ⟨y, k, n, s, x, ks', vs', A, c, a1, a2, a3, a4, a5.stays (fun _ h => h) fun b hb hlt => hs b hb.1 hlt⟩
theorem OwR.below (h : OwR w P v xs ks vs) (hb : Below w.heap.size w w') : OwR w' P v xs ks vs := h.keep fun b _ hl => hb.block b hl
theorem OwR.row (h : OwR w P v xs ks vs) : ORow w 0 v ks vs := by
  obtain ⟨h1, h0, h2, h3⟩ := h
  refine ⟨xs, h1, h2, fun i hi => ?_⟩
  obtain ⟨y, k, n, s, x, ks', vs', A, c, a1, a2, a3, a4, a5⟩ := h3 i hi
  exact ⟨y, k, n, s, x, ks', vs', A, c, a1, a2, a3, a4, a5.stays (fun b hb => ⟨Nat.zero_le _, hb.2⟩) (fun _ _ _ => rfl)⟩
theorem OwR.isin (h : OwR w P v xs ks vs) (hm : vs.length ≤ maxLen) : ∃ A c, v = .slice A vs.length c ∧ (vs.length ≤ c ∧ c ≤ maxLen) ∧ IsIn w (fun b => 0 ≤ b) ks vs A := h.row.isin hm

/-- One more. -/
theorem OwR.more {Q : Nat → Prop} (h : OwR w P v xs ks vs)
    {y : Ky} {k n x : Int} {s : ByteArray} {ks' : List Ky} {vs' : List Tr} {A : Option Addr} {c : Nat} (hy : I64 y.num ∧ y.str.size ≤ maxLen) (ht : TIn w Q (.mk k n s x ks' vs') (vV k n s x A vs'.length c)) (hQ : ∀ b, Q b → v.ownBlock ≠ some b)
    {v' : Value} (ho : w'.ownsRow 0 IE 8 v' (vs.length + 1) (xs ++ [.bool y.text, .int .i64 y.num, .string y.str, .int .i64 k, .int .i64 n, .string s, .int .i64 x, .slice A vs'.length c])) (hg : w.grownBy w' v.ownBlock) (hat : v'.ownBlock = v.ownBlock ∨ v'.ownBlock = some w.heap.size) :
    OwR w' (fun b => ((P b ∧ v.ownBlock ≠ some b) ∨ Q b) ∨ v'.ownBlock = some b) v' (xs ++ [.bool y.text, .int .i64 y.num, .string y.str, .int .i64 k, .int .i64 n, .string s, .int .i64 x, .slice A vs'.length c]) (ks ++ [y]) (vs ++ [.mk k n s x ks' vs']) := by
  obtain ⟨h1, h0, h2, h3⟩ := h
  have hxl : xs.length = vs.length * 8 := h1.1
  have st : ∀ {t : Tr} {u : Value} {R : Nat → Prop}, (∀ b, R b → v.ownBlock ≠ some b) → (∀ b, R b → (P b ∧ v.ownBlock ≠ some b) ∨ Q b) → TIn w R t u → TIn w' (fun b => (((P b ∧ v.ownBlock ≠ some b) ∨ Q b) ∨ v'.ownBlock = some b) ∧ v'.ownBlock ≠ some b) t u := fun {t u R} hR1 hR2 h => by
    have h' : TIn w (fun b => R b ∧ b < w.heap.size) t u := by
      induction h with
      | mk k n s x ks vs A cap C hk hl hm hcap hc ht ih =>
        refine .mk k n s x ks vs A cap C hk hl hm hcap (fun i hi => ?_) ih
        obtain ⟨a, ha, hS, hky, hs, hj⟩ := hc i hi
        refine ⟨a, ha, ⟨hS, ?_⟩, hky, hs, hj⟩
        have := World.block_lt_of_cell? _ _ hky.1
        rwa [mem.add_block] at this
    exact h'.stays (fun b ⟨hb1, hb3⟩ => ⟨.inl (hR2 b hb1), fun e => by
      rcases hat with h | h
      · exact hR1 b hb1 (h ▸ e)
      · rw [h] at e; injection e with e; omega⟩) (fun b ⟨hb1, hb3⟩ hlt => hg.block b hlt (fun e => hR1 b hb1 e.symm))
  refine ⟨by rw [List.length_append]; exact ho, fun b e => .inr e, by rw [List.length_append, List.length_append, h2]; rfl, fun i hi => ?_⟩
  rw [List.length_append] at hi
  simp only [List.length_cons, List.length_nil] at hi
  by_cases e : i = vs.length
  · subst e
    refine ⟨y, k, n, s, x, ks', vs', A, c, by rw [List.getElem?_append_right (by omega), h2]; simp, by rw [List.getElem?_append_right (by omega)]; simp, hy, fun q hq => ?_, st hQ (fun b hb => .inr hb) ht⟩
    rw [List.getElem?_append_right (by omega), hxl, Nat.add_sub_cancel_left]
    match q, hq with
    | 0, _ => rfl
    | 1, _ => rfl
    | 2, _ => rfl
    | 3, _ => rfl
    | 4, _ => rfl
    | 5, _ => rfl
    | 6, _ => rfl
    | 7, _ => rfl
  · obtain ⟨y1, k1, n1, s1, x1, ks1, vs1, A1, c1, a1, a2, a3, a4, a5⟩ := h3 i (by omega)
    refine ⟨y1, k1, n1, s1, x1, ks1, vs1, A1, c1, by rw [List.getElem?_append_left (by omega)]; exact a1, by rw [List.getElem?_append_left (by omega)]; exact a2, a3, fun q hq => ?_, st (fun b hb => hb.2) (fun b hb => .inl hb) a5⟩
    rw [List.getElem?_append_left (by omega)]
    exact a4 q hq

theorem OwR.isinP (h : OwR w P v xs ks vs) (hm : vs.length ≤ maxLen) : ∃ A c, v = .slice A vs.length c ∧ (vs.length ≤ c ∧ c ≤ maxLen) ∧ IsIn w P ks vs A := by
  obtain ⟨h1, h0, h2, h3⟩ := h
  rcases h1.2 with ⟨rfl, h0'⟩ | ⟨g, cap, cur, rfl, hlo, hg, hnc, hcm, hsz, htk⟩
  · obtain rfl : vs = [] := List.length_eq_zero_iff.1 h0'
    obtain rfl : ks = [] := List.length_eq_zero_iff.1 h2
    exact ⟨none, 0, rfl, ⟨by simp, by simp⟩, IsIn.nil _ _ _⟩
  · refine ⟨some ⟨g, 0, none⟩, cap, rfl, ⟨hnc, hcm⟩, h2, hm, ?_⟩
    have each : ∀ i, ∃ C : Array Value, ∀ (hi : i < vs.length), KyAt w ⟨g, 0, none⟩ i (ks[i]'(h2 ▸ hi)) ∧ C.size = 5 ∧ (∀ j, j < 5 → w.cell? ((⟨g, 0, none⟩ : Addr).add (8 * i + (3 + j))) = C[j]?) ∧ TIn w P (vs[i]) (.agg C) := by
      intro i
      by_cases hi : i < vs.length
      · obtain ⟨y, k, n, s, x, ks', vs', A, c, hy, ht, hyb, hat, hT⟩ := h3 i hi
        have ey : ks[i]'(h2 ▸ hi) = y := by rw [List.getElem?_eq_getElem (h2 ▸ hi)] at hy; exact Option.some.inj hy
        have et : vs[i] = .mk k n s x ks' vs' := by rw [List.getElem?_eq_getElem hi] at ht; exact Option.some.inj ht
        have at_ : ∀ q, q < 8 → w.cell? ((⟨g, 0, none⟩ : Addr).add (8 * i + q)) = (eV y k n s x A vs'.length c).cells[q]? := fun q hq => by
          rw [Addr.add_lit, Nat.zero_add, cell_of_row w g _ cur IE _ hg, ← hat q hq, ← htk, List.getElem?_take_of_lt (by omega), Nat.mul_comm]
          simp
        refine ⟨#[.int .i64 k, .int .i64 n, .string s, .int .i64 x, .slice A vs'.length c], fun _ => ?_⟩
        rw [ey, et]
        refine ⟨⟨at_ 0 (by omega), at_ 1 (by omega), at_ 2 (by omega), hyb⟩, rfl, fun j hj => ?_, hT.stays (fun b hb => hb.1) (fun b _ _ => rfl)⟩
        rw [at_ (3 + j) (by omega)]
        match j, hj with
        | 0, _ => rfl
        | 1, _ => rfl
        | 2, _ => rfl
        | 3, _ => rfl
        | 4, _ => rfl
      · exact ⟨#[], fun h => absurd h hi⟩
    exact ⟨fun i => (each i).choose, fun i hi => ⟨_, rfl, h0 g rfl, ((each i).choose_spec hi).1, ((each i).choose_spec hi).2.1, ((each i).choose_spec hi).2.2.1⟩, fun i hi => ((each i).choose_spec hi).2.2.2⟩

/-- Items in a row of the call's own, all of whose blocks are plain and lie at lo or above. -/
def OwP (w : World) (lo : Nat) (v : Value) (xs : List Value) (ks : List Ky) (vs : List Tr) : Prop := OwR w (Nw lo w) v xs ks vs
theorem OwP.nil (w : World) (lo : Nat) : OwP w lo (.slice none 0 0) [] [] [] := ⟨World.ownsRow_nil w 0 _ 8, fun b e => by simp [Value.ownBlock] at e, rfl, fun i hi => absurd hi (by simp)⟩
theorem Plain.same {b : Nat} (h : Plain w b) (hs : w'.heap[b]? = w.heap[b]?) : Plain w' b := by
  obtain ⟨cs, t, hc⟩ := h
  exact ⟨cs, t, hs.trans hc⟩
theorem OwP.above {lo : Nat} (h : OwP w lo v xs ks vs) (hs : ∀ b, lo ≤ b → b < w.heap.size → w'.heap[b]? = w.heap[b]?) : OwP w' lo v xs ks vs :=
  (OwR.keep h fun b hb hl => hs b hb.1 hl).mono fun b hb => ⟨hb.1, hb.2.same (hs b hb.1 hb.2.lt)⟩
theorem OwP.below {lo : Nat} (h : OwP w lo v xs ks vs) (hb : Below w.heap.size w w') : OwP w' lo v xs ks vs := h.above fun b _ hl => hb.block b hl
theorem OwP.mono {lo lo' : Nat} (h : OwP w lo v xs ks vs) (hl : lo' ≤ lo) : OwP w lo' v xs ks vs := OwR.mono h fun b hb => ⟨Nat.le_trans hl hb.1, hb.2⟩
theorem OwP.block {lo : Nat} (h : OwP w lo v xs ks vs) : ∀ k, v.ownBlock = some k → lo ≤ k ∧ k < w.heap.size := fun k e => ⟨(h.2.1 k e).1, (h.2.1 k e).2.lt⟩
theorem OwP.len {lo : Nat} (h : OwP w lo v xs ks vs) : ks.length = vs.length := h.2.2.1
theorem OwP.isin {lo : Nat} (h : OwP w lo v xs ks vs) (hm : vs.length ≤ maxLen) : ∃ A c, v = .slice A vs.length c ∧ (vs.length ≤ c ∧ c ≤ maxLen) ∧ IsIn w (Nw lo w) ks vs A := OwR.isinP h hm
/-- One more, whose blocks are new. -/
theorem OwP.more {lo lq : Nat} (h : OwP w lo v xs ks vs) (hlq : lo ≤ lq) (hvq : ∀ b, v.ownBlock = some b → b < lq)
    {y : Ky} {k n x : Int} {s : ByteArray} {ks' : List Ky} {vs' : List Tr} {A : Option Addr} {c : Nat} (hy : I64 y.num ∧ y.str.size ≤ maxLen) (ht : TIn w (Nw lq w) (.mk k n s x ks' vs') (vV k n s x A vs'.length c))
    {v' : Value} (ho : w'.ownsRow 0 IE 8 v' (vs.length + 1) (xs ++ [.bool y.text, .int .i64 y.num, .string y.str, .int .i64 k, .int .i64 n, .string s, .int .i64 x, .slice A vs'.length c])) (hg : w.grownBy w' v.ownBlock) (hat : v'.ownBlock = v.ownBlock ∨ v'.ownBlock = some w.heap.size) (hlw : lo ≤ w.heap.size) :
    OwP w' lo v' (xs ++ [.bool y.text, .int .i64 y.num, .string y.str, .int .i64 k, .int .i64 n, .string s, .int .i64 x, .slice A vs'.length c]) (ks ++ [y]) (vs ++ [.mk k n s x ks' vs']) := by
  have hm := OwR.more (Q := Nw lq w) h hy ht (fun b hb e => by have := hvq b e; have := hb.1; omega) ho hg hat
  have hown : ∀ b, v'.ownBlock = some b → lo ≤ b ∧ Plain w' b := fun b e => by
    refine ⟨?_, ?_⟩
    · rcases hat with h' | h'
      · exact (OwP.block h b (h' ▸ e)).1
      · rw [h'] at e; injection e with e; omega
    · rcases ho.2 with ⟨rfl, h'⟩ | ⟨g, cap, cur, rfl, hlo, hgc, hr⟩
      · simp [Value.ownBlock] at e
      · simp [Value.ownBlock] at e
        subst e
        exact ⟨cur, IE, hgc⟩
  refine OwR.mono hm fun b hb => ?_
  rcases hb with (⟨hb, hne⟩ | hb) | hb
  · exact ⟨hb.1, hb.2.same (hg.block b hb.2.lt (fun e => hne e.symm))⟩
  · exact ⟨Nat.le_trans hlq hb.1, hb.2.same (hg.block b hb.2.lt (fun e => by have := hvq b e.symm; have := hb.1; omega))⟩
  · exact hown b hb
end

end Go.Proofs.YtbgffmiffmmohaaDoor.tree

/-
  The laws' copy of a table.
  Conditions: at most 2^20 heads, slots and letters.
-/
namespace Go.Proofs.YtbgffmiffmmohaaDoor.tree
open Go.ChangeShapes Go.WideShapes Go.ChangeAt Go.RowKit
set_option linter.unusedVariables false

/-- A copied table: its heads are the call's own, its slots lie in a new plain block. -/
def TtQ (w : World) (l : List Int) (sl : List Sl) (b : Bool) (n m : Nat) (x k : Int) (e : Ending) (w' : World) : Prop := ∃ (A : Option Addr) (c g mid : Nat), e = .returned (tbV b A n c (some ⟨g, 0, none⟩) m m x k) ∧ imem.OwnI w' w.heap.size A n c l ∧ (∀ q, (Value.slice A n c).ownBlock = some q → q < mid) ∧ w.heap.size ≤ mid ∧ mid ≤ g ∧ SIn w' (Nw mid w') sl (some ⟨g, 0, none⟩) ∧ Below w.heap.size w w'

theorem owni_up {w w' : World} {lo n c : Nat} {A : Option Addr} {l : List Int} (h : imem.OwnI w lo A n c l) (hs : ∀ b, lo ≤ b → b < w.heap.size → w'.heap[b]? = w.heap[b]?) : imem.OwnI w' lo A n c l := by
  refine ⟨h.1, h.2.1, ?_⟩
  rcases h.2.2 with h | ⟨g, cap, cur, e, hlo, hg, hr⟩
  · exact .inl h
  · exact .inr ⟨g, cap, cur, e, hlo, (hs g hlo (Array.getElem?_eq_some_iff.1 hg).1).trans hg, hr⟩
theorem al3t (w : World) (c0 c1 c2 : Array Value) (t0 t1 t2 : TypeId) (W : World) (hW : ((w.alloc (.cells c0 t0)).alloc (.cells c1 t1)).alloc (.cells c2 t2) = W) :
    W.heap[w.heap.size]? = some (.cells c0 t0 (0, 0)) ∧ W.heap[w.heap.size + 1]? = some (.cells c1 t1 (0, 0)) ∧ W.heap[w.heap.size + 2]? = some (.cells c2 t2 (0, 0)) ∧ W.heap.size = w.heap.size + 3 ∧ Below w.heap.size w W := by
  subst hW
  refine ⟨keepAlloc (keepAlloc (heap_alloc_new w _)), keepAlloc ?_, ?_, by simp, b3 w _ _ _⟩
  · have := heap_alloc_new (w.alloc (.cells c0 t0)) (.cells c1 t1)
    rwa [show (w.alloc (.cells c0 t0)).heap.size = w.heap.size + 1 by simp] at this
  · have := heap_alloc_new ((w.alloc (.cells c0 t0)).alloc (.cells c1 t1)) (.cells c2 t2)
    rwa [show ((w.alloc (.cells c0 t0)).alloc (.cells c1 t1)).heap.size = w.heap.size + 2 by simp] at this

set_option maxHeartbeats 1600000 in
set_option maxRecDepth 100000 in
theorem toTable {l : List Int} {sl : List Sl} {b : Bool} {A : Option Addr} {n c : Nat} {B : Option Addr} {m d : Nat} {x k : Int} {w : World} {S : Nat → Prop} (h : TbIn w S l sl A n c B m d x k) (hn : n ≤ 1048576) (hT : m + totS sl ≤ 1048576) :
    Calls Tryd.prog 88 #[tbV b A n c B m d x k] w (TtQ w l sl b n m x k) := by
  obtain ⟨hh, -, rfl, hcap, hS, -, -⟩ := h
  have Z1 := fun w' (hb : Below w.heap.size w w') => ints.toInts A n c l (by omega) w' (hh.below hb)
  have Z2 := fun w' (hb : Below w.heap.size w w') => cpSlots sl hT B d w' S (hS.below hb)
  have hlen : l.length = n := hh.len
  obtain ⟨m, HM⟩ : ∃ m, Hid (sl.length = m) := ⟨_, Lib.hid rfl⟩
  have HZ1 := Lib.hid Z1
  have HZ2 := Lib.hid Z2
  unfold SlsQ at HZ2
  rw [HM.out] at HZ2 ⊢
  clear Z1 Z2 hh hcap hS
  go_enter Tryd.func88, Tryd.ntmps88
  go_wp2_with (fail)
  obtain ⟨P, HP⟩ : ∃ P, Hid (w.heap.size = P) := ⟨_, Lib.hid rfl⟩
  rw [HP.out]
  generalize hw0 : ((w.alloc (.cells #[.bool b, .slice A n c, .slice B m d, .int .i64 x, .int .i64 k] 116)).alloc (.cells #[.bool false, .slice none 0 0, .slice none 0 0, .int .i64 0, .int .i64 0] IT)).alloc (.cells #[.bool b, .slice none 0 0, .slice none 0 0, .int .i64 0, .int .i64 0] IT) = w0
  obtain ⟨a0, a1, a2, az, ab⟩ := al3t w _ _ _ _ _ _ w0 hw0
  rw [HP.out] at a0 a1 a2 az
  have HB0 := Lib.hid ab
  refine (HZ1.out _ ab).mono ?_
  rintro e w1 ⟨A1, n1, c1, rfl, hown, hg1⟩
  obtain rfl : n1 = n := by rw [← hown.len, hlen]
  have hb1 := mem.below_of_none hg1
  have H0 := Lib.hid (carry hb1 a0)
  have H1 := Lib.hid (carry hb1 a1)
  have H2 := Lib.hid (carry hb1 a2)
  have HB1 := Lib.hid (bs HB0.out hb1)
  have HO1 := Lib.hid (hown.less (show P + 3 ≤ w0.heap.size by rw [az]; exact Nat.le_refl _))
  have HOB : Hid (∀ q, (Value.slice A1 n1 c1).ownBlock = some q → q < w1.heap.size) := Lib.hid (fun q e => (hown.block q e).2)
  have HS1 : Hid (P + 3 ≤ w1.heap.size) := Lib.hid (by rw [← az]; exact hb1.size)
  have r0 := rowc H0.out
  have x0 := r0.1 2; have x1 := r0.1 3; have x2 := r0.1 4
  simp at x0 x1 x2
  obtain ⟨r2, f2⟩ := rowc H2.out
  clear hw0 a0 a1 a2 az ab hown hg1 hb1 HZ1 r0 hlen
  go_wp2_with (fail)
  generalize hw2 : w1.setCell ⟨P + 2, 1, none⟩ (.slice A1 n1 c1) = w2
  have hoth : ∀ q, q ≠ P + 2 → w2.heap[q]? = w1.heap[q]? := fun q h => by rw [← hw2, set_other h]
  have HB2 : Hid (Below w.heap.size w w2) := Lib.hid (by rw [← hw2]; exact HB1.out.setCell (show w.heap.size ≤ P + 2 by rw [HP.out]; omega) _)
  have H02 := Lib.hid ((hoth P (by omega)).trans H0.out)
  have H12 := Lib.hid ((hoth (P + 1) (by omega)).trans H1.out)
  have H22 : Hid (w2.heap[P + 2]? = some (.cells #[.bool b, .slice A1 n1 c1, .slice none 0 0, .int .i64 0, .int .i64 0] IT (0, 0))) := Lib.hid (by rw [← hw2]; have := set_heap H2.out 1 (.slice A1 n1 c1); simpa using this)
  have HO2 := Lib.hid (owni_up HO1.out (w' := w2) fun q hq _ => hoth q (by omega))
  have hz2 : w2.heap.size = w1.heap.size := by rw [← hw2, set_size]
  have HS2 : Hid (P + 3 ≤ w2.heap.size) := Lib.hid (by rw [hz2]; exact HS1.out)
  rw [← hz2] at HOB
  clear hw2 hoth hz2 r2 f2 x0 x1 x2 H0 H1 H2 HB1 HO1 HS1
  refine (HZ2.out _ HB2.out).mono ?_
  rintro e w3 ⟨g, hg, rfl, hs, hb⟩
  have H0 := Lib.hid (carry hb H02.out)
  have H1 := Lib.hid (carry hb H12.out)
  have H2 := Lib.hid (carry hb H22.out)
  have HO3 := Lib.hid (HO2.out.below hb)
  have HB3 := Lib.hid (bs HB2.out hb)
  have hgP : P + 3 ≤ g := by rw [← hg]; exact HS2.out
  rw [hg] at HOB hs
  have HSl : Hid (SIn w3 (Nw g w3) sl (some ⟨g, 0, none⟩)) := Lib.hid hs
  have r0 := rowc H0.out
  have x1 := r0.1 3; have x2 := r0.1 4
  simp at x1 x2
  obtain ⟨r2, f2⟩ := rowc H2.out
  obtain ⟨r1, f1⟩ := rowc H1.out
  clear hs hb r0 hg H02 H12 H22 HO2 HB2 HZ2 HS2
  go_wp2_with (fail)
  generalize hwF : World.setCell (World.setCell (World.setCell (World.setCell (World.setCell (World.setCell (World.setCell (World.setCell w3 _ _) _ _) _ _) _ _) _ _) _ _) _ _) _ _ = wF
  have hoth : ∀ q, q ≠ P + 1 → q ≠ P + 1 + 1 → wF.heap[q]? = w3.heap[q]? := fun q h1 h2 => by rw [← hwF, set_other h1, set_other h1, set_other h1, set_other h1, set_other h1, set_other h2, set_other h2, set_other h2]
  have e1 : wF.heap[P + 1]? = some (.cells #[.bool b, .slice A1 n1 c1, .slice (some ⟨g, 0, none⟩) m m, .int .i64 x, .int .i64 k] IT (0, 0)) := by
    have hne : P + 1 ≠ P + 1 + 1 := by omega
    have h0 : (((w3.setCell ⟨P + 1 + 1, 2, none⟩ (.slice (some ⟨g, 0, none⟩) m m)).setCell ⟨P + 1 + 1, 3, none⟩ (.int .i64 x)).setCell ⟨P + 1 + 1, 4, none⟩ (.int .i64 k)).heap[P + 1]? = some (.cells #[.bool false, .slice none 0 0, .slice none 0 0, .int .i64 0, .int .i64 0] IT (0, 0)) := by rw [set_other hne, set_other hne, set_other hne]; exact H1.out
    have := set_heap (set_heap (set_heap (set_heap (set_heap h0 0 (.bool b)) 1 (.slice A1 n1 c1)) 2 (.slice (some ⟨g, 0, none⟩) m m)) 3 (.int .i64 x)) 4 (.int .i64 k)
    rw [← hwF]
    simpa using this
  have hBF : Below w.heap.size w wF := by
    rw [← hwF]
    iterate 5 refine Below.setCell ?_ (show w.heap.size ≤ P + 1 by rw [HP.out]; omega) _
    iterate 3 refine Below.setCell ?_ (show w.heap.size ≤ P + 1 + 1 by rw [HP.out]; omega) _
    exact HB3.out
  have rF := (rowc e1).1
  clear hwF r1 f1 r2 f2 x1 x2
  refine bodyPost_ret (v := tbV b A1 n1 c1 (some ⟨g, 0, none⟩) m m x k) (by simp [results, Tryd.results88, go_sem, rF]) rfl ⟨A1, c1, g, g, rfl, ?_, HOB.out, by rw [HP.out]; omega, Nat.le_refl _, ?_, hBF⟩
  · exact (owni_up HO3.out (w' := wF) fun q hq _ => hoth q (by omega) (by omega)).less (by rw [HP.out]; omega)
  · exact HSl.out.stays (fun q hq => ⟨hq.1, hq.2.same (hoth q (by have := hq.1; omega) (by have := hq.1; omega))⟩) (fun q hq _ => hoth q (by have := hq.1; omega) (by have := hq.1; omega))

end Go.Proofs.YtbgffmiffmmohaaDoor.tree

/-
  The laws' copy of a heap: in new memory, what hangs from one block apart from what hangs from another one.
  Conditions: at most 2^20 blocks, heads, slots and letters.
-/
namespace Go.Proofs.YtbgffmiffmmohaaDoor.tree
open Go.ChangeShapes Go.WideShapes Go.ChangeAt Go.RowKit
set_option linter.unusedVariables false

abbrev IB : TypeId := 82
abbrev IH : TypeId := 50
abbrev LB : TypeId := 118
/-- A copied block: its heads are the call's own, its slots lie in a new plain block. -/
def TbkQ (w : World) (l : List Int) (sl : List Sl) (rf : Int) (b : Bool) (n m : Nat) (x k : Int) (e : Ending) (w' : World) : Prop := ∃ (A : Option Addr) (c g mid : Nat), e = .returned (bkV rf b A n c (some ⟨g, 0, none⟩) m m x k) ∧ imem.OwnI w' w.heap.size A n c l ∧ (∀ q, (Value.slice A n c).ownBlock = some q → q < mid) ∧ w.heap.size ≤ mid ∧ mid ≤ g ∧ SIn w' (Nw mid w') sl (some ⟨g, 0, none⟩) ∧ Below w.heap.size w w'

set_option maxHeartbeats 1600000 in
set_option maxRecDepth 100000 in
theorem toBlock {l : List Int} {sl : List Sl} (rf : Int) {b : Bool} {A : Option Addr} {n c : Nat} {B : Option Addr} {m d : Nat} {x k : Int} {w : World} {S : Nat → Prop} (h : TbIn w S l sl A n c B m d x k) (hn : n ≤ 1048576) (hT : m + totS sl ≤ 1048576) :
    Calls Tryd.prog 68 #[bkV rf b A n c B m d x k] w (TbkQ w l sl rf b n m x k) := by
  have Z : Hid (∀ w', Below w.heap.size w w' → Calls Tryd.prog 88 #[tbV b A n c B m d x k] w' (TtQ w' l sl b n m x k)) := Lib.hid (fun w' hb => toTable (h.below hb) hn hT)
  unfold TtQ at Z
  clear h hn hT
  go_enter Tryd.func68, Tryd.ntmps68
  go_wp2_with (fail)
  obtain ⟨P, HP⟩ : ∃ P, Hid (w.heap.size = P) := ⟨_, Lib.hid rfl⟩
  rw [HP.out]
  generalize hw0 : ((w.alloc (.cells #[.int .i64 rf, .bool b, .slice A n c, .slice B m d, .int .i64 x, .int .i64 k] LB)).alloc (.cells #[.int .i64 0, .bool false, .slice none 0 0, .slice none 0 0, .int .i64 0, .int .i64 0] IB)).alloc (.cells #[.int .i64 rf, .bool false, .slice none 0 0, .slice none 0 0, .int .i64 0, .int .i64 0] IB) = w0
  obtain ⟨a0, a1, a2, az, ab⟩ := al3t w _ _ _ _ _ _ w0 hw0
  rw [HP.out] at a0 a1 a2 az
  have HB0 := Lib.hid ab
  refine (Z.out _ ab).mono ?_
  rintro e w1 ⟨A1, c1, g, mid, rfl, hown, hbm, hlm, hmg, hs, hb1⟩
  have H0 := Lib.hid (carry hb1 a0)
  have H1 := Lib.hid (carry hb1 a1)
  have H2 := Lib.hid (carry hb1 a2)
  have HB1 := Lib.hid (bs HB0.out hb1)
  have HO1 := Lib.hid (hown.less (show P + 3 ≤ w0.heap.size by rw [az]; exact Nat.le_refl _))
  have HOB := Lib.hid hbm
  have HMG := Lib.hid hmg
  have HLM : Hid (P + 3 ≤ mid) := Lib.hid (by rw [← az]; exact hlm)
  have HSl := Lib.hid hs
  obtain ⟨r1, f1⟩ := rowc H1.out
  obtain ⟨r2, f2⟩ := rowc H2.out
  clear hw0 a0 a1 a2 az ab hown hb1 Z hs hbm hlm hmg
  go_wp2_with (fail)
  generalize hwF : World.setCell (World.setCell (World.setCell (World.setCell (World.setCell (World.setCell (World.setCell (World.setCell (World.setCell (World.setCell (World.setCell w1 _ _) _ _) _ _) _ _) _ _) _ _) _ _) _ _) _ _) _ _) _ _ = wF
  have hoth : ∀ q, q ≠ P + 1 → q ≠ P + 1 + 1 → wF.heap[q]? = w1.heap[q]? := fun q h1 h2 => by rw [← hwF, set_other h1, set_other h1, set_other h1, set_other h1, set_other h1, set_other h1, set_other h2, set_other h2, set_other h2, set_other h2, set_other h2]
  have e1 : wF.heap[P + 1]? = some (.cells #[.int .i64 rf, .bool b, .slice A1 n c1, .slice (some ⟨g, 0, none⟩) m m, .int .i64 x, .int .i64 k] IB (0, 0)) := by
    have hne : P + 1 ≠ P + 1 + 1 := by omega
    have h0 : (((((w1.setCell ⟨P + 1 + 1, 1, none⟩ (.bool b)).setCell ⟨P + 1 + 1, 2, none⟩ (.slice A1 n c1)).setCell ⟨P + 1 + 1, 3, none⟩ (.slice (some ⟨g, 0, none⟩) m m)).setCell ⟨P + 1 + 1, 4, none⟩ (.int .i64 x)).setCell ⟨P + 1 + 1, 5, none⟩ (.int .i64 k)).heap[P + 1]? = some (.cells #[.int .i64 0, .bool false, .slice none 0 0, .slice none 0 0, .int .i64 0, .int .i64 0] IB (0, 0)) := by rw [set_other hne, set_other hne, set_other hne, set_other hne, set_other hne]; exact H1.out
    have := set_heap (set_heap (set_heap (set_heap (set_heap (set_heap h0 0 (.int .i64 rf)) 1 (.bool b)) 2 (.slice A1 n c1)) 3 (.slice (some ⟨g, 0, none⟩) m m)) 4 (.int .i64 x)) 5 (.int .i64 k)
    rw [← hwF]
    simpa using this
  have hBF : Below w.heap.size w wF := by
    rw [← hwF]
    iterate 6 refine Below.setCell ?_ (show w.heap.size ≤ P + 1 by rw [HP.out]; omega) _
    iterate 5 refine Below.setCell ?_ (show w.heap.size ≤ P + 1 + 1 by rw [HP.out]; omega) _
    exact HB1.out
  have rF := (rowc e1).1
  clear hwF r1 f1 r2 f2
  refine bodyPost_ret (v := bkV rf b A1 n c1 (some ⟨g, 0, none⟩) m m x k) (by simp [results, Tryd.results68, go_sem, rF]) rfl ⟨A1, c1, g, mid, rfl, ?_, HOB.out, by rw [HP.out]; have := HLM.out; omega, HMG.out, ?_, hBF⟩
  · exact (owni_up HO1.out (w' := wF) fun q hq _ => hoth q (by omega) (by omega)).less (by rw [HP.out]; omega)
  · exact HSl.out.stays (fun q hq => ⟨hq.1, hq.2.same (hoth q (by have := hq.1; have := HLM.out; omega) (by have := hq.1; have := HLM.out; omega))⟩) (fun q hq _ => hoth q (by have := hq.1; have := HLM.out; omega) (by have := hq.1; have := HLM.out; omega))

theorem owni_own {w w' : World} {lo n c : Nat} {A : Option Addr} {l : List Int} (h : imem.OwnI w lo A n c l) (hs : ∀ b, (Value.slice A n c).ownBlock = some b → b < w.heap.size → w'.heap[b]? = w.heap[b]?) : imem.OwnI w' lo A n c l := by
  refine ⟨h.1, h.2.1, ?_⟩
  rcases h.2.2 with h | ⟨g, cap, cur, e, hlo, hg, hr⟩
  · exact .inl h
  · exact .inr ⟨g, cap, cur, e, hlo, (hs g (by rw [e]; rfl) (Array.getElem?_eq_some_iff.1 hg).1).trans hg, hr⟩
/-- Six cells in a row. -/
def set6 (arr : Array Value) (o : Nat) (c0 c1 c2 c3 c4 c5 : Value) : Array Value := (((((arr.setIfInBounds o c0).setIfInBounds (o + 1) c1).setIfInBounds (o + 2) c2).setIfInBounds (o + 3) c3).setIfInBounds (o + 4) c4).setIfInBounds (o + 5) c5
theorem set6_size (arr : Array Value) (o : Nat) (c0 c1 c2 c3 c4 c5 : Value) : (set6 arr o c0 c1 c2 c3 c4 c5).size = arr.size := by simp [set6]
theorem set6_out (arr : Array Value) (o : Nat) (c0 c1 c2 c3 c4 c5 : Value) (p : Nat) (h : p < o ∨ o + 6 ≤ p) : (set6 arr o c0 c1 c2 c3 c4 c5)[p]? = arr[p]? := by
  unfold set6
  rw [Array.getElem?_setIfInBounds_ne (by omega), Array.getElem?_setIfInBounds_ne (by omega), Array.getElem?_setIfInBounds_ne (by omega), Array.getElem?_setIfInBounds_ne (by omega), Array.getElem?_setIfInBounds_ne (by omega), Array.getElem?_setIfInBounds_ne (by omega)]
theorem set6_in (arr : Array Value) (o : Nat) (c0 c1 c2 c3 c4 c5 : Value) (h : o + 6 ≤ arr.size) (q : Nat) (hq : q < 6) : (set6 arr o c0 c1 c2 c3 c4 c5)[o + q]? = (#[c0, c1, c2, c3, c4, c5] : Array Value)[q]? := by
  unfold set6
  match q, hq with
  | 0, _ => show ((((((arr.setIfInBounds o c0).setIfInBounds (o + 1) c1).setIfInBounds (o + 2) c2).setIfInBounds (o + 3) c3).setIfInBounds (o + 4) c4).setIfInBounds (o + 5) c5)[o]? = some c0
            rw [Array.getElem?_setIfInBounds_ne (by omega), Array.getElem?_setIfInBounds_ne (by omega), Array.getElem?_setIfInBounds_ne (by omega), Array.getElem?_setIfInBounds_ne (by omega), Array.getElem?_setIfInBounds_ne (by omega)]
            rw [Array.getElem?_setIfInBounds_self_of_lt (by omega)]
  | 1, _ => iterate 4 rw [Array.getElem?_setIfInBounds_ne (by omega)]
            rw [Array.getElem?_setIfInBounds_self_of_lt (by simp; omega)]; rfl
  | 2, _ => iterate 3 rw [Array.getElem?_setIfInBounds_ne (by omega)]
            rw [Array.getElem?_setIfInBounds_self_of_lt (by simp; omega)]; rfl
  | 3, _ => iterate 2 rw [Array.getElem?_setIfInBounds_ne (by omega)]
            rw [Array.getElem?_setIfInBounds_self_of_lt (by simp; omega)]; rfl
  | 4, _ => rw [Array.getElem?_setIfInBounds_ne (by omega)]
            rw [Array.getElem?_setIfInBounds_self_of_lt (by simp; omega)]; rfl
  | 5, _ => rw [Array.getElem?_setIfInBounds_self_of_lt (by simp; omega)]; rfl

/-- The blocks of a row of L of which P holds are laid, all in memory below hi; ow tells of each memory block what it belongs to: 2i: the heads of block i, 2i+1: what hangs from its slots. -/
def LaidB (w : World) (g hi L : Nat) (P : Nat → Prop) (ow : Nat → Nat) (bl : List Bk) : Prop :=
  ∃ arr, w.heap[g]? = some (.cells arr IB (0, 0)) ∧ arr.size = L * 6 ∧ g < hi ∧ ∀ i k, bl[i]? = some k → P i → ∃ A n c s m, I64 k.refs ∧ I64 k.next ∧ I64 k.count ∧ k.slots.length = m ∧ m ≤ 1048576 ∧ n ≤ 1048576 ∧
    imem.OwnI w (g + 1) A n c k.heads ∧ (∀ q, (Value.slice A n c).ownBlock = some q → q < hi ∧ ow q = 2 * i) ∧ SIn w (fun b => g < b ∧ b < hi ∧ ow b = 2 * i + 1 ∧ Plain w b) k.slots (some ⟨s, 0, none⟩) ∧
    ∀ q, q < 6 → arr[i * 6 + q]? = (#[.int .i64 k.refs, .bool k.hashed, .slice A n c, .slice (some ⟨s, 0, none⟩) m m, .int .i64 k.next, .int .i64 k.count] : Array Value)[q]?
theorem LaidB.hin {w : World} {g hi L : Nat} {P : Nat → Prop} {ow : Nat → Nat} {bl : List Bk} (h : LaidB w g hi L P ow bl) (hP : ∀ i, i < bl.length → P i) : HIn w (Nw g w) bl (some ⟨g, 0, none⟩) := fun i k hk => by
  obtain ⟨arr, hg, hs, -, hi'⟩ := h
  have hil := (List.getElem?_eq_some_iff.1 hk).1
  obtain ⟨A, n, c, s, m, hr, hx, hc, hm, hmm, hnn, hO, -, hS, hcl⟩ := hi' i k hk (hP i hil)
  have at_ : ∀ q, q < 6 → w.cell? ⟨g, i * 6 + q, none⟩ = _ := fun q hq => (cell_of_row w g _ arr IB _ hg).trans (hcl q hq)
  refine ⟨⟨g, 0, none⟩, A, n, c, some ⟨s, 0, none⟩, m, m, rfl, ⟨Nat.le_refl _, arr, IB, hg⟩, hr, ⟨hO.rd, by unfold maxLen; omega, hm, ⟨Nat.le_refl _, by unfold maxLen; omega⟩, hS.stays (fun b hb => ⟨Nat.le_of_lt hb.1, hb.2.2.2⟩) (fun _ _ _ => rfl), hx, hc⟩, ?_⟩
  rw [Addr.add_lit, Nat.zero_add]
  exact ⟨at_ 0 (by omega), at_ 1 (by omega), at_ 2 (by omega), at_ 3 (by omega), at_ 4 (by omega), at_ 5 (by omega)⟩
theorem LaidB.same {w w' : World} {g hi L : Nat} {P : Nat → Prop} {ow : Nat → Nat} {bl : List Bk} (h : LaidB w g hi L P ow bl) (hb : ∀ b, g ≤ b → b < hi → b < w.heap.size → w'.heap[b]? = w.heap[b]?) : LaidB w' g hi L P ow bl := by
  obtain ⟨arr, hg, hs, hgh, hi'⟩ := h
  refine ⟨arr, (hb g (Nat.le_refl _) hgh (Array.getElem?_eq_some_iff.1 hg).1).trans hg, hs, hgh, fun i k hk hij => ?_⟩
  obtain ⟨A, n, c, s, m, hr, hx, hc, hm, hmm, hnn, hO, hq, hS, hcl⟩ := hi' i k hk hij
  refine ⟨A, n, c, s, m, hr, hx, hc, hm, hmm, hnn, owni_own hO fun b e h2 => ?_, hq, hS.stays (fun b hb' => ⟨hb'.1, hb'.2.1, hb'.2.2.1, hb'.2.2.2.same (hb b (Nat.le_of_lt hb'.1) hb'.2.1 hb'.2.2.2.lt)⟩) (fun b hb' hlt => hb b (Nat.le_of_lt hb'.1) hb'.2.1 hlt), hcl⟩
  exact hb b (by have := (hO.block b e).1; omega) (hq b e).1 h2
theorem LaidB.below {w w' : World} {g hi L : Nat} {P : Nat → Prop} {ow : Nat → Nat} {bl : List Bk} (h : LaidB w g hi L P ow bl) (hb : Below w.heap.size w w') : LaidB w' g hi L P ow bl := h.same fun b _ _ hl => hb.block b hl

theorem LaidB.step {w w1 w2 : World} {g L j : Nat} {ow : Nat → Nat} {bl : List Bk} (h : LaidB w g w.heap.size L (fun i => i < j) ow bl) (hb : Below w.heap.size w w1) {rf : Int} {hs : Bool} {l : List Int} {sl : List Sl} {x ct : Int} {A : Option Addr} {n c s m mid : Nat}
    (hk : bl[j]? = some ⟨rf, hs, l, sl, x, ct⟩) (hr : I64 rf) (hx : I64 x) (hc : I64 ct) (hm : sl.length = m) (hmm : m ≤ 1048576) (hnn : n ≤ 1048576) (hO : imem.OwnI w1 w.heap.size A n c l) (hq : ∀ q, (Value.slice A n c).ownBlock = some q → q < mid) (hwm : w.heap.size ≤ mid) (hS : SIn w1 (Nw mid w1) sl (some ⟨s, 0, none⟩)) (hj : j < L)
    (hg : ∀ arr, w1.heap[g]? = some (.cells arr IB (0, 0)) → w2.heap[g]? = some (.cells (set6 arr (j * 6) (.int .i64 rf) (.bool hs) (.slice A n c) (.slice (some ⟨s, 0, none⟩) m m) (.int .i64 x) (.int .i64 ct)) IB (0, 0)))
    (ho : ∀ b, b ≠ g → w2.heap[b]? = w1.heap[b]?) (hz : w2.heap.size = w1.heap.size) : ∃ ow', LaidB w2 g w2.heap.size L (fun i => i < j + 1) ow' bl := by
  obtain ⟨arr, hg0, hsz, -, h⟩ := h
  have glt : g < w.heap.size := (Array.getElem?_eq_some_iff.1 hg0).1
  have hsz1 := hb.size
  have hg1 := (hb.block g glt).trans hg0
  refine ⟨fun b => if b < w.heap.size then ow b else if b < mid then 2 * j else 2 * j + 1, _, hg arr hg1, by rw [set6_size, hsz], by omega, fun i k hit hij => ?_⟩
  by_cases e : i = j
  · subst e
    rw [hk] at hit
    obtain rfl := Option.some.inj hit
    refine ⟨A, n, c, s, m, hr, hx, hc, hm, hmm, hnn, (owni_up hO fun b h1 _ => ho b (by omega)).less (by omega), fun q e => ?_, hS.stays (fun b hb' => ?_) (fun b hb' _ => ho b (by have := hb'.1; omega)), fun q hq' => ?_⟩
    · have h1 := hO.block q e
      have h2 := hq q e
      refine ⟨by omega, ?_⟩
      show (if q < w.heap.size then ow q else if q < mid then 2 * i else 2 * i + 1) = 2 * i
      rw [if_neg (by omega), if_pos h2]
    · have h1 := hb'.1
      have h2 := hb'.2.lt
      refine ⟨by omega, by omega, ?_, hb'.2.same (ho b (by omega))⟩
      show (if b < w.heap.size then ow b else if b < mid then 2 * i else 2 * i + 1) = 2 * i + 1
      rw [if_neg (by omega), if_neg (by omega)]
    · rw [set6_in _ _ _ _ _ _ _ _ (by omega) q hq']
  · obtain ⟨A', n', c', s', m', hr', hx', hc', hm', hmm', hnn', hO', hq', hS', hcl'⟩ := h i k hit (show i < j by have h3 : i < j + 1 := hij; omega)
    have hk1 : ∀ b, g < b → b < w.heap.size → w2.heap[b]? = w.heap[b]? := fun b h1 h2 => (ho b (by omega)).trans (hb.block b h2)
    refine ⟨A', n', c', s', m', hr', hx', hc', hm', hmm', hnn', owni_up hO' fun b h1 h2 => hk1 b (by omega) h2, fun q e => ?_, hS'.stays (fun b hb' => ?_) (fun b hb' hlt => hk1 b hb'.1 hlt), fun q hq3 => ?_⟩
    · have h1 := (hO'.block q e).2
      refine ⟨by omega, ?_⟩
      show (if q < w.heap.size then ow q else if q < mid then 2 * j else 2 * j + 1) = 2 * i
      rw [if_pos h1]
      exact (hq' q e).2
    · have h1 := hb'.2.1
      refine ⟨hb'.1, by omega, ?_, hb'.2.2.2.same (hk1 b hb'.1 h1)⟩
      show (if b < w.heap.size then ow b else if b < mid then 2 * j else 2 * j + 1) = 2 * i + 1
      rw [if_pos h1]
      exact hb'.2.2.1
    · rw [set6_out _ _ _ _ _ _ _ _ _ (by have h3 : i < j + 1 := hij; omega)]
      exact hcl' q hq3

theorem ib_info : ∃ i, Tryd.prog.info? IB = some i ∧ (i.zero = some (.agg #[.int .i64 0, .bool false, .slice none 0 0, .slice none 0 0, .int .i64 0, .int .i64 0]) ∧ i.size = 6 ∧ i.bytes = 80) := by
  have : (Tryd.prog.info? IB).map (fun i => (i.zero, i.size, i.bytes)) = some (some (.agg #[.int .i64 0, .bool false, .slice none 0 0, .slice none 0 0, .int .i64 0, .int .i64 0]), 6, 80) := by kernel_rfl
  cases hq : Tryd.prog.info? IB with
  | none => rw [hq] at this; cases this
  | some i => rw [hq] at this; simp at this; exact ⟨i, rfl, this⟩

/-- Copies of blocks: in a new row. -/
def BlsQ (w : World) (bl : List Bk) (e : Ending) (w' : World) : Prop := ∃ g ow, w.heap.size ≤ g ∧ e = .returned (.slice (some ⟨g, 0, none⟩) bl.length bl.length) ∧ LaidB w' g w'.heap.size bl.length (fun i => i < bl.length) ow bl ∧ Below w.heap.size w w'

set_option maxRecDepth 100000 in
set_option maxHeartbeats 1600000 in
theorem cpBlocks (bl : List Bk) (hT : bl.length + totB bl ≤ 1048576) (A : Option Addr) (c : Nat) (w : World) (S : Nat → Prop) (h : HIn w S bl A) :
    Calls Tryd.prog 40 #[.slice A bl.length c] w (BlsQ w bl) := by
  obtain ⟨L, HL⟩ : ∃ L, Hid (L = bl.length) := ⟨_, Lib.hid rfl⟩
  have hm : L ≤ 1048576 := by rw [HL.out]; omega
  obtain ⟨i0, hi, hz⟩ := ib_info
  have hmk := run_make (P := Tryd.prog) w 48 IB i0 _ Tryd.underlying48 hi hz.1 .i64 .i64 L L (by omega) (Int.le_refl _) (by rw [hz.2.2]; omega) (by omega)
  rw [hz.2.1] at hmk
  simp only [Int.toNat_natCast] at hmk
  have HA0 := Lib.hid h
  have HTT := Lib.hid hT
  clear hi hz h hT
  unfold BlsQ
  rw [← HL.out]
  obtain ⟨arr0, HA⟩ : ∃ a, Hid (a = madeCells (Value.agg #[.int .i64 0, .bool false, .slice none 0 0, .slice none 0 0, .int .i64 0, .int .i64 0]).cells (L * 6)) := ⟨_, Lib.hid rfl⟩
  rw [← HA.out] at hmk
  go_enter Tryd.func40, Tryd.ntmps40
  go_wp2_with (fail)
  clear hmk
  go_loopg [4] (L + 1) (fun gk i wr => ∃ j : Nat, i = .int .i64 j ∧ gk + j = L + 1 ∧ j ≤ L ∧ (∃ ow, LaidB wr w.heap.size wr.heap.size L (fun i => i < j) ow bl) ∧ Below w.heap.size w wr)
  case atStart => exact ⟨0, rfl, by omega, by omega, ⟨fun _ => 0, arr0, heap_alloc_new _ _, by rw [HA.out, madeSize], by simp, fun i t _ hi => absurd (show i < 0 from hi) (by omega)⟩, b1 _ _⟩
  case round =>
    obtain ⟨j, rfl, hgj, hjL, ⟨ow, hla⟩, hb⟩ := hrel
    have HB := Lib.hid hb
    have HLa := Lib.hid hla
    clear hb hla
    by_cases hlt : j < L
    · obtain ⟨k, hk⟩ : ∃ k, bl[j]? = some k := ⟨_, List.getElem?_eq_getElem (by rw [← HL.out]; exact hlt)⟩
      obtain ⟨a, A1, n, c1, B1, m, d1, rfl, -, hrf, hT, hcell⟩ := HA0.out.below HB.out j k hk
      have hsz := totB_mem hk
      rw [szB, hT.heads.len, hT.len] at hsz
      have hn : n ≤ 1048576 := by have := HTT.out; omega
      have hmt : m + totS k.slots ≤ 1048576 := by have := HTT.out; omega
      have hln := hT.len
      obtain ⟨rf, hs, l, sl, x, ct⟩ := k
      simp only at hT hcell hsz hmt hrf hln
      have Z : Hid (Calls Tryd.prog 68 #[bkV rf hs A1 n c1 B1 m d1 x ct] wr (TbkQ wr l sl rf hs n m x ct)) := Lib.hid (toBlock rf hT hn hmt)
      have HKJ := Lib.hid hk
      have HRF := Lib.hid hrf
      have HX := Lib.hid hT.next
      have HC := Lib.hid hT.count
      have HM := Lib.hid hln
      have HN := Lib.hid hn
      have HMM : Hid (m ≤ 1048576) := Lib.hid (by omega)
      obtain ⟨p0, p1, p2, p3, p4, p5⟩ := hcell
      clear hk hT hsz hn hmt hrf hln
      go_wp2_with (fail)
      refine Z.out.mono ?_
      rintro e w1 ⟨A2, c2, s2, mid, rfl, hown, hbm, hlm, hmg, hsl, hb1⟩
      have HB1 := Lib.hid hb1
      have HO := Lib.hid hown
      have HBM := Lib.hid hbm
      have HLM := Lib.hid hlm
      have HSL := Lib.hid hsl
      obtain ⟨arr, hg0, hs0, -, -⟩ := HLa.out
      have glt : w.heap.size < wr.heap.size := (Array.getElem?_eq_some_iff.1 hg0).1
      have hg1 := (hb1.block _ glt).trans hg0
      obtain ⟨r1, f1⟩ := rowc hg1
      have z : ∀ q, q < 6 → ∃ u, w1.cell? ⟨w.heap.size, j * 6 + q, none⟩ = some u := fun q hq => ⟨_, (r1 _).trans (Array.getElem?_eq_getElem (by omega))⟩
      obtain ⟨u0, z0⟩ := z 0 (by omega)
      obtain ⟨u1, z1⟩ := z 1 (by omega)
      obtain ⟨u2, z2⟩ := z 2 (by omega)
      obtain ⟨u3, z3⟩ := z 3 (by omega)
      obtain ⟨u4, z4⟩ := z 4 (by omega)
      obtain ⟨u5, z5⟩ := z 5 (by omega)
      rw [Nat.add_zero] at z0
      clear hb1 hg0 hg1 hs0 r1 z hown hbm hlm hmg hsl p0 p1 p2 p3 p4 p5
      go_wp2_with (fail)
      go_roundg (L - j)
      case rel =>
        refine ⟨j + 1, by go_num, by omega, by omega, HLa.out.step HB1.out HKJ.out HRF.out HX.out HC.out HM.out HMM.out HN.out HO.out HBM.out HLM.out HSL.out hlt (fun arr hg => ?_) (fun b hb => ?_) (by simp only [set_size]), ?_⟩
        · exact set_heap (set_heap (set_heap (set_heap (set_heap (set_heap hg _ _) _ _) _ _) _ _) _ _) _ _
        · simp only [set_other hb]
        · have hB := bs HB.out HB1.out
          iterate 6 refine Below.setCell ?_ (by first | (simp; done) | (simp; omega)) _
          exact hB
      case measure => omega
    · obtain rfl : j = L := by omega
      go_wp2_with (fail)
      go_ret
      exact ⟨_, ow, Nat.le_refl _, rfl, HLa.out, HB.out⟩

/-- The laws' copy of a heap. -/
def HpQ (w : World) (bl : List Bk) (e : Ending) (w' : World) : Prop := ∃ g ow, w.heap.size ≤ g ∧ e = .returned (hpV (some ⟨g, 0, none⟩) bl.length bl.length) ∧ LaidB w' g w'.heap.size bl.length (fun i => i < bl.length) ow bl ∧ Below w.heap.size w w'

set_option maxRecDepth 100000 in
set_option maxHeartbeats 1600000 in
theorem toHeap (bl : List Bk) (hT : bl.length + totB bl ≤ 1048576) (A : Option Addr) (c : Nat) (w : World) (S : Nat → Prop) (h : HIn w S bl A) :
    Calls Tryd.prog 15 #[hpV A bl.length c] w (HpQ w bl) := by
  have Z : Hid (∀ w', Below w.heap.size w w' → Calls Tryd.prog 40 #[.slice A bl.length c] w' (BlsQ w' bl)) := Lib.hid (fun w' hb => cpBlocks bl hT A c w' S (h.below hb))
  unfold BlsQ at Z
  unfold HpQ
  obtain ⟨L, HL⟩ : ∃ L, Hid (bl.length = L) := ⟨_, Lib.hid rfl⟩
  rw [HL.out] at Z ⊢
  clear h hT
  go_enter Tryd.func15, Tryd.ntmps15
  go_wp2_with (fail)
  obtain ⟨P, HP⟩ : ∃ P, Hid (w.heap.size = P) := ⟨_, Lib.hid rfl⟩
  rw [HP.out]
  generalize hw0 : ((w.alloc (.cells #[.slice A L c] LH)).alloc (.cells #[.slice none 0 0] IH)).alloc (.cells #[.slice none 0 0] IH) = w0
  obtain ⟨a0, a1, a2, az, ab⟩ := al3t w _ _ _ _ _ _ w0 hw0
  rw [HP.out] at a0 a1 a2 az
  have HB0 := Lib.hid ab
  refine (Z.out _ ab).mono ?_
  rintro e w1 ⟨g, ow, hg, rfl, hla, hb1⟩
  have H1 := Lib.hid (carry hb1 a1)
  have H2 := Lib.hid (carry hb1 a2)
  have HB1 := Lib.hid (bs HB0.out hb1)
  have HLa := Lib.hid hla
  have HG : Hid (P + 3 ≤ g) := Lib.hid (by rw [← az]; exact hg)
  obtain ⟨r1, f1⟩ := rowc H1.out
  obtain ⟨r2, f2⟩ := rowc H2.out
  clear hw0 a0 a1 a2 az ab hb1 Z hla hg
  go_wp2_with (fail)
  generalize hwF : World.setCell (World.setCell w1 _ _) _ _ = wF
  have hoth : ∀ q, q ≠ P + 1 → q ≠ P + 1 + 1 → wF.heap[q]? = w1.heap[q]? := fun q h1 h2 => by rw [← hwF, set_other h1, set_other h2]
  have e1 : wF.heap[P + 1]? = some (.cells #[.slice (some ⟨g, 0, none⟩) L L] IH (0, 0)) := by
    have hne : P + 1 ≠ P + 1 + 1 := by omega
    have h0 : (w1.setCell ⟨P + 1 + 1, 0, none⟩ (.slice (some ⟨g, 0, none⟩) L L)).heap[P + 1]? = some (.cells #[.slice none 0 0] IH (0, 0)) := by rw [set_other hne]; exact H1.out
    have := set_heap h0 0 (.slice (some ⟨g, 0, none⟩) L L)
    rw [← hwF]
    simpa using this
  have hBF : Below w.heap.size w wF := by
    rw [← hwF]
    refine Below.setCell ?_ (show w.heap.size ≤ P + 1 by rw [HP.out]; omega) _
    refine Below.setCell ?_ (show w.heap.size ≤ P + 1 + 1 by rw [HP.out]; omega) _
    exact HB1.out
  have hzF : wF.heap.size = w1.heap.size := by rw [← hwF, set_size, set_size]
  have rF := (rowc e1).1
  clear hwF r1 f1 r2 f2
  refine bodyPost_ret (v := hpV (some ⟨g, 0, none⟩) L L) (by simp [results, Tryd.results15, go_sem, rF]) rfl ⟨g, ow, by rw [HP.out]; have := HG.out; omega, rfl, ?_, hBF⟩
  rw [hzF]
  exact HLa.out.same fun b hb _ _ => hoth b (by have := HG.out; omega) (by have := HG.out; omega)

end Go.Proofs.YtbgffmiffmmohaaDoor.tree

