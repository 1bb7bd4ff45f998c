/-
  What the texts behind this one use: 8 parts of one proof.
  Conditions: those that each theorem names.
-/
import Derived.Test.YtdglmnmalfpipaaDoorSBSPar
import Derived.Maps.AppendAt
import Derived.Test.YtdglmnmalfpipaaDoorSASTreeCp
import Derived.Test.YtdglmnmalfpipaaDoorSBB1
import Derived.Deep.LoopGhost
import Derived.Test.YtdglmnmalfpipaaDoorSASValidS
/-
  Items that a call appends one by one: a row of its own.
  Conditions: those that each theorem names.
-/
namespace Go.Proofs.YtdglmnmalfpipaaDoor.tree
open Go.ChangeShapes Go.WideShapes Go.ChangeAt Go.RowKit
set_option linter.unusedVariables false

/-- lo or above, and not the row's own block. -/
def SX (lo : Nat) (v : Value) (b : Nat) : Prop := lo ≤ b ∧ v.ownBlock ≠ some b
def xAt8 (xs : List Value) (i : Nat) (y : Ky) (k n : Int) (s : ByteArray) (x : Int) (A : Option Addr) (L c : Nat) : Prop := ∀ q, q < 8 → xs[i * 8 + q]? = (eV y k n s x A L c).cells[q]?
def ORowX (w : World) (lo : Nat) (v : Value) (xs : List Value) (ks : List Ky) (vs : List Tr) : Prop :=
  w.ownsRow lo IE 8 v vs.length xs ∧ ks.length = vs.length ∧ ∀ i, i < vs.length → ∃ y k n s x ks' vs' A c, ks[i]? = some y ∧ vs[i]? = some (.mk k n s x ks' vs') ∧ (I64 y.num ∧ y.str.size ≤ maxLen) ∧
    xAt8 xs i y k n s x A vs'.length c ∧ TIn w (SX lo v) (.mk k n s x ks' vs') (vV k n s x A vs'.length c)
def ORow (w : World) (lo : Nat) (v : Value) (ks : List Ky) (vs : List Tr) : Prop := ∃ xs, ORowX w lo v xs ks vs

section
variable {w w' : World} {lo : Nat} {v : Value} {ks : List Ky} {vs : List Tr}
theorem ORow.nil (w : World) (lo : Nat) : ORow w lo (.slice none 0 0) [] [] := ⟨[], World.ownsRow_nil w lo _ 8, rfl, fun i hi => absurd hi (by simp)⟩
theorem ownBlock_keep {v : Value} : v.ownBlock = none ∨ v.ownBlock ≠ (none : Option Nat) := by
  cases e : v.ownBlock with
  | none => exact .inl rfl
  | some k => exact .inr (by simp)
theorem ORowX.below {xs : List Value} (h : ORowX w lo v xs ks vs) (hb : Below w.heap.size w w') : ORowX w' lo v xs ks vs := by
  obtain ⟨h1, h2, h3⟩ := h
  refine ⟨World.ownsRow.kept h1 (mem.none_of_below hb) ownBlock_keep, h2, fun i hi => ?_⟩
  obtain ⟨y, k, n, s, x, ks', vs', A, c, a1, a2, a3, a4, a5⟩ := h3 i hi
  exact ⟨y, k, n, s, x, ks', vs', A, c, a1, a2, a3, a4, a5.below' hb⟩
theorem ORow.below (h : ORow w lo v ks vs) (hb : Below w.heap.size w w') : ORow w' lo v ks vs := by
  obtain ⟨xs, h⟩ := h
  exact ⟨xs, h.below hb⟩
theorem ORowX.above {xs : List Value} (h : ORowX w lo v xs ks vs) (hs : ∀ b, lo ≤ b → b < w.heap.size → w'.heap[b]? = w.heap[b]?) : ORowX w' lo v xs ks vs := by
  obtain ⟨h1, h2, h3⟩ := h
  refine ⟨⟨h1.1, ?_⟩, h2, fun i hi => ?_⟩
  · rcases h1.2 with h | ⟨g, cap, cur, e, hlo, hg, hr⟩
    · exact .inl h
    · exact .inr ⟨g, cap, cur, e, hlo, (hs g hlo (Array.getElem?_eq_some_iff.1 hg).1).trans hg, hr⟩
  · obtain ⟨y, k, n, s, x, ks', vs', A, c, a1, a2, a3, a4, a5⟩ := h3 i hi
    exact ⟨y, k, n, s, x, ks', vs', A, c, a1, a2, a3, a4, a5.stays (fun _ h => h) fun b hb hlt => hs b hb.1 hlt⟩
theorem ORow.above (h : ORow w lo v ks vs) (hs : ∀ b, lo ≤ b → b < w.heap.size → w'.heap[b]? = w.heap[b]?) : ORow w' lo v ks vs := by
  obtain ⟨xs, h⟩ := h
  exact ⟨xs, h.above hs⟩
theorem ORow.block (h : ORow w lo v ks vs) : ∀ k, v.ownBlock = some k → lo ≤ k ∧ k < w.heap.size := by
  obtain ⟨xs, h1, -⟩ := h
  exact h1.lt

/-- One more. -/
theorem ORowX.more {xs : List Value} (h : ORowX w lo v xs ks vs)
    {y : Ky} {k n x : Int} {s : ByteArray} {ks' : List Ky} {vs' : List Tr} {A : Option Addr} {c : Nat} (hy : I64 y.num ∧ y.str.size ≤ maxLen) (ht : TIn w (SX lo v) (.mk k n s x ks' vs') (vV k n s x A vs'.length c))
    {v' : Value} (ho : w'.ownsRow lo IE 8 v' (vs.length + 1) (xs ++ [.bool y.text, .int .i64 y.num, .string y.str, .int .i64 k, .int .i64 n, .string s, .int .i64 x, .slice A vs'.length c])) (hg : w.grownBy w' v.ownBlock) (hat : v'.ownBlock = v.ownBlock ∨ v'.ownBlock = some w.heap.size) :
    ORow w' lo v' (ks ++ [y]) (vs ++ [.mk k n s x ks' vs']) := by
  obtain ⟨h1, h2, h3⟩ := h
  have hxl : xs.length = vs.length * 8 := h1.1
  have st : ∀ {t : Tr} {u : Value}, TIn w (SX lo v) t u → TIn w' (SX lo v') t u := fun {t u} h => by
    have h' : TIn w (fun b => SX lo v b ∧ b < w.heap.size) t u := by
      induction h with
      | mk k n s x ks vs A cap C hk hl hm hcap hc ht ih =>
        refine .mk k n s x ks vs A cap C hk hl hm hcap (fun i hi => ?_) ih
        obtain ⟨a, ha, hS, hky, hs, hj⟩ := hc i hi
        refine ⟨a, ha, ⟨hS, ?_⟩, hky, hs, hj⟩
        have := World.block_lt_of_cell? _ _ hky.1
        rwa [mem.add_block] at this
    exact h'.stays (fun b ⟨⟨hb1, hb2⟩, hb3⟩ => ⟨hb1, fun e => by
      rcases hat with h | h
      · exact hb2 (h ▸ e)
      · rw [h] at e; injection e with e; omega⟩) (fun b ⟨⟨hb1, hb2⟩, hb3⟩ hlt => hg.block b hlt (fun e => hb2 e.symm))
  refine ⟨_, by rw [List.length_append]; exact ho, by rw [List.length_append, List.length_append, h2]; rfl, fun i hi => ?_⟩
  rw [List.length_append] at hi
  simp only [List.length_cons, List.length_nil] at hi
  by_cases e : i = vs.length
  · subst e
    refine ⟨y, k, n, s, x, ks', vs', A, c, by rw [List.getElem?_append_right (by omega), h2]; simp, by rw [List.getElem?_append_right (by omega)]; simp, hy, fun q hq => ?_, st ht⟩
    rw [List.getElem?_append_right (by omega), hxl, Nat.add_sub_cancel_left]
    match q, hq with
    | 0, _ => rfl
    | 1, _ => rfl
    | 2, _ => rfl
    | 3, _ => rfl
    | 4, _ => rfl
    | 5, _ => rfl
    | 6, _ => rfl
    | 7, _ => rfl
  · obtain ⟨y1, k1, n1, s1, x1, ks1, vs1, A1, c1, a1, a2, a3, a4, a5⟩ := h3 i (by omega)
    refine ⟨y1, k1, n1, s1, x1, ks1, vs1, A1, c1, by rw [List.getElem?_append_left (by omega)]; exact a1, by rw [List.getElem?_append_left (by omega)]; exact a2, a3, fun q hq => ?_, st a5⟩
    rw [List.getElem?_append_left (by omega)]
    exact a4 q hq

theorem ORow.isin (h : ORow w lo v ks vs) (hm : vs.length ≤ maxLen) : ∃ A c, v = .slice A vs.length c ∧ (vs.length ≤ c ∧ c ≤ maxLen) ∧ IsIn w (fun b => lo ≤ b) ks vs A := by
  obtain ⟨xs, h1, h2, h3⟩ := h
  rcases h1.2 with ⟨rfl, h0⟩ | ⟨g, cap, cur, rfl, hlo, hg, hnc, hcm, hsz, htk⟩
  · obtain rfl : vs = [] := List.length_eq_zero_iff.1 h0
    obtain rfl : ks = [] := List.length_eq_zero_iff.1 h2
    exact ⟨none, 0, rfl, ⟨by simp, by simp⟩, IsIn.nil _ _ _⟩
  · refine ⟨some ⟨g, 0, none⟩, cap, rfl, ⟨hnc, hcm⟩, h2, hm, ?_⟩
    have each : ∀ i, ∃ C : Array Value, ∀ (hi : i < vs.length), KyAt w ⟨g, 0, none⟩ i (ks[i]'(h2 ▸ hi)) ∧ C.size = 5 ∧ (∀ j, j < 5 → w.cell? ((⟨g, 0, none⟩ : Addr).add (8 * i + (3 + j))) = C[j]?) ∧ TIn w (fun b => lo ≤ b) (vs[i]) (.agg C) := by
      intro i
      by_cases hi : i < vs.length
      · obtain ⟨y, k, n, s, x, ks', vs', A, c, hy, ht, hyb, hat, hT⟩ := h3 i hi
        have ey : ks[i]'(h2 ▸ hi) = y := by rw [List.getElem?_eq_getElem (h2 ▸ hi)] at hy; exact Option.some.inj hy
        have et : vs[i] = .mk k n s x ks' vs' := by rw [List.getElem?_eq_getElem hi] at ht; exact Option.some.inj ht
        have at_ : ∀ q, q < 8 → w.cell? ((⟨g, 0, none⟩ : Addr).add (8 * i + q)) = (eV y k n s x A vs'.length c).cells[q]? := fun q hq => by
          rw [Addr.add_lit, Nat.zero_add, cell_of_row w g _ cur IE _ hg, ← hat q hq, ← htk, List.getElem?_take_of_lt (by omega), Nat.mul_comm]
          simp
        refine ⟨#[.int .i64 k, .int .i64 n, .string s, .int .i64 x, .slice A vs'.length c], fun _ => ?_⟩
        rw [ey, et]
        refine ⟨⟨at_ 0 (by omega), at_ 1 (by omega), at_ 2 (by omega), hyb⟩, rfl, fun j hj => ?_, hT.stays (fun b hb => hb.1) (fun b _ _ => rfl)⟩
        rw [at_ (3 + j) (by omega)]
        match j, hj with
        | 0, _ => rfl
        | 1, _ => rfl
        | 2, _ => rfl
        | 3, _ => rfl
        | 4, _ => rfl
      · exact ⟨#[], fun h => absurd h hi⟩
    exact ⟨fun i => (each i).choose, fun i hi => ⟨_, rfl, hlo, ((each i).choose_spec hi).1, ((each i).choose_spec hi).2.1, ((each i).choose_spec hi).2.2.1⟩, fun i hi => ((each i).choose_spec hi).2.2.2⟩
end

theorem addr_far {N j : Nat} (h : N < j) (o : Nat) : ∀ p : Addr, p.block < N + 1 → (⟨j, o, none⟩ : Addr) ≠ p := fun p hp e => by
  rw [← e] at hp
  simp only at hp
  omega
theorem ie_info : ∃ i, Tryd.prog.info? IE = some i ∧ (i.zero = some (.agg #[.bool false, .int .i64 0, .string ⟨#[]⟩, .int .i64 0, .int .i64 0, .string ⟨#[]⟩, .int .i64 0, .slice none 0 0]) ∧ i.size = 8 ∧ i.bytes = 96) := by
  have := ieRow
  cases hq : Tryd.prog.info? IE with
  | none => rw [hq] at this; cases this
  | some i => rw [hq] at this; simp at this; exact ⟨i, rfl, this⟩
theorem eight_one (b : Bool) (n : Int) (s : ByteArray) (k m : Int) (z : ByteArray) (x : Int) (A : Option Addr) (L c : Nat) : ∀ u ∈ [Value.bool b, .int .i64 n, .string s, .int .i64 k, .int .i64 m, .string z, .int .i64 x, .slice A L c], u.oneCell' = true := by simp [Value.oneCell']
theorem eight_new (w : World) (c0 c1 c2 c3 c4 c5 c6 c7 : Value) (t : TypeId) : ∀ j u, [c0, c1, c2, c3, c4, c5, c6, c7][j]? = some u → (w.alloc (.cells #[c0, c1, c2, c3, c4, c5, c6, c7] t)).cell? ((⟨w.heap.size, 0, none⟩ : Addr).add j) = some u := by
  intro j u hj
  rw [Addr.add_lit, Nat.zero_add, cell_of_row _ _ j _ t _ (heap_alloc_new w _)]
  simpa using hj

end Go.Proofs.YtdglmnmalfpipaaDoor.tree

/-
  Items in a row of the call's own, all of whose blocks satisfy P.
  Conditions: those that each theorem names.
-/
namespace Go.Proofs.YtdglmnmalfpipaaDoor.tree
open Go.ChangeShapes Go.WideShapes Go.ChangeAt Go.RowKit
set_option linter.unusedVariables false

def OwR (w : World) (P : Nat → Prop) (v : Value) (xs : List Value) (ks : List Ky) (vs : List Tr) : Prop :=
  w.ownsRow 0 IE 8 v vs.length xs ∧ (∀ b, v.ownBlock = some b → P b) ∧ ks.length = vs.length ∧ ∀ i, i < vs.length → ∃ y k n s x ks' vs' A c, ks[i]? = some y ∧ vs[i]? = some (.mk k n s x ks' vs') ∧ (I64 y.num ∧ y.str.size ≤ maxLen) ∧
    xAt8 xs i y k n s x A vs'.length c ∧ TIn w (fun b => P b ∧ v.ownBlock ≠ some b) (.mk k n s x ks' vs') (vV k n s x A vs'.length c)

section
variable {w w' : World} {P P' : Nat → Prop} {v : Value} {xs : List Value} {ks : List Ky} {vs : List Tr}
theorem OwR.of {lo : Nat} (h : ORowX w lo v xs ks vs) : OwR w (fun b => lo ≤ b ∧ b < w.heap.size) v xs ks vs := by
  have hb := ORow.block (lo := lo) (ks := ks) (vs := vs) ⟨xs, h⟩
  obtain ⟨h1, h2, h3⟩ := h
  refine ⟨⟨h1.1, h1.2.imp id fun ⟨g, cap, cur, e, hlo, r⟩ => ⟨g, cap, cur, e, Nat.zero_le _, r⟩⟩, hb, h2, fun i hi => ?_⟩
  obtain ⟨y, k, n, s, x, ks', vs', A, c, a1, a2, a3, a4, a5⟩ := h3 i hi
  refine ⟨y, k, n, s, x, ks', vs', A, c, a1, a2, a3, a4, ?_⟩
  have h' : TIn w (fun b => SX lo v b ∧ b < w.heap.size) (.mk k n s x ks' vs') (vV k n s x A vs'.length c) := by
    generalize (Tr.mk k n s x ks' vs') = t at a5
    generalize (vV k n s x A vs'.length c) = u at a5
    clear a1 a2 a4
    induction a5 with
    | mk k n s x ks vs A cap C hk hl hm hcap hc ht ih =>
      refine .mk k n s x ks vs A cap C hk hl hm hcap (fun i hi => ?_) ih
      obtain ⟨a, ha, hS, hky, hs, hj⟩ := hc i hi
      refine ⟨a, ha, ⟨hS, ?_⟩, hky, hs, hj⟩
      have := World.block_lt_of_cell? _ _ hky.1
      rwa [mem.add_block] at this
  exact h'.stays (fun b hb => ⟨⟨hb.1.1, hb.2⟩, hb.1.2⟩) (fun _ _ _ => rfl)
theorem OwR.mono (h : OwR w P v xs ks vs) (hP : ∀ b, P b → P' b) : OwR w P' v xs ks vs := by
  obtain ⟨h1, h0, h2, h3⟩ := h
  refine ⟨h1, fun b e => hP b (h0 b e), h2, fun i hi => ?_⟩
  obtain ⟨y, k, n, s, x, ks', vs', A, c, a1, a2, a3, a4, a5⟩ := h3 i hi
  exact ⟨y, k, n, s, x, ks', vs', A, c, a1, a2, a3, a4, a5.stays (fun b hb => ⟨hP b hb.1, hb.2⟩) (fun _ _ _ => rfl)⟩
theorem OwR.keep (h : OwR w P v xs ks vs) (hs : ∀ b, P b → b < w.heap.size → w'.heap[b]? = w.heap[b]?) : OwR w' P v xs ks vs := by
  obtain ⟨h1, h0, h2, h3⟩ := h
  refine ⟨⟨h1.1, ?_⟩, h0, h2, fun i hi => ?_⟩
  · rcases h1.2 with h | ⟨g, cap, cur, e, hlo, hg, hr⟩
    · exact .inl h
    · exact .inr ⟨g, cap, cur, e, hlo, (hs g (h0 g (by rw [e]; rfl)) (Array.getElem?_eq_some_iff.1 hg).1).trans hg, hr⟩
  · obtain ⟨y, k, n, s, x, ks', vs', A, c, a1, a2, a3, a4, a5⟩ := h3 i hi
    exact ⟨y, k, n, s, x, ks', vs', A, c, a1, a2, a3, a4, a5.stays (fun _ h => h) fun b hb hlt => hs b hb.1 hlt⟩
theorem OwR.below (h : OwR w P v xs ks vs) (hb : Below w.heap.size w w') : OwR w' P v xs ks vs := h.keep fun b _ hl => hb.block b hl
theorem OwR.row (h : OwR w P v xs ks vs) : ORow w 0 v ks vs := by
  obtain ⟨h1, h0, h2, h3⟩ := h
  refine ⟨xs, h1, h2, fun i hi => ?_⟩
  obtain ⟨y, k, n, s, x, ks', vs', A, c, a1, a2, a3, a4, a5⟩ := h3 i hi
  exact ⟨y, k, n, s, x, ks', vs', A, c, a1, a2, a3, a4, a5.stays (fun b hb => ⟨Nat.zero_le _, hb.2⟩) (fun _ _ _ => rfl)⟩
theorem OwR.isin (h : OwR w P v xs ks vs) (hm : vs.length ≤ maxLen) : ∃ A c, v = .slice A vs.length c ∧ (vs.length ≤ c ∧ c ≤ maxLen) ∧ IsIn w (fun b => 0 ≤ b) ks vs A := h.row.isin hm

/-- One more. -/
theorem OwR.more {Q : Nat → Prop} (h : OwR w P v xs ks vs)
    {y : Ky} {k n x : Int} {s : ByteArray} {ks' : List Ky} {vs' : List Tr} {A : Option Addr} {c : Nat} (hy : I64 y.num ∧ y.str.size ≤ maxLen) (ht : TIn w Q (.mk k n s x ks' vs') (vV k n s x A vs'.length c)) (hQ : ∀ b, Q b → v.ownBlock ≠ some b)
    {v' : Value} (ho : w'.ownsRow 0 IE 8 v' (vs.length + 1) (xs ++ [.bool y.text, .int .i64 y.num, .string y.str, .int .i64 k, .int .i64 n, .string s, .int .i64 x, .slice A vs'.length c])) (hg : w.grownBy w' v.ownBlock) (hat : v'.ownBlock = v.ownBlock ∨ v'.ownBlock = some w.heap.size) :
    OwR w' (fun b => ((P b ∧ v.ownBlock ≠ some b) ∨ Q b) ∨ v'.ownBlock = some b) v' (xs ++ [.bool y.text, .int .i64 y.num, .string y.str, .int .i64 k, .int .i64 n, .string s, .int .i64 x, .slice A vs'.length c]) (ks ++ [y]) (vs ++ [.mk k n s x ks' vs']) := by
  obtain ⟨h1, h0, h2, h3⟩ := h
  have hxl : xs.length = vs.length * 8 := h1.1
  have st : ∀ {t : Tr} {u : Value} {R : Nat → Prop}, (∀ b, R b → v.ownBlock ≠ some b) → (∀ b, R b → (P b ∧ v.ownBlock ≠ some b) ∨ Q b) → TIn w R t u → TIn w' (fun b => (((P b ∧ v.ownBlock ≠ some b) ∨ Q b) ∨ v'.ownBlock = some b) ∧ v'.ownBlock ≠ some b) t u := fun {t u R} hR1 hR2 h => by
    have h' : TIn w (fun b => R b ∧ b < w.heap.size) t u := by
      induction h with
      | mk k n s x ks vs A cap C hk hl hm hcap hc ht ih =>
        refine .mk k n s x ks vs A cap C hk hl hm hcap (fun i hi => ?_) ih
        obtain ⟨a, ha, hS, hky, hs, hj⟩ := hc i hi
        refine ⟨a, ha, ⟨hS, ?_⟩, hky, hs, hj⟩
        have := World.block_lt_of_cell? _ _ hky.1
        rwa [mem.add_block] at this
    exact h'.stays (fun b ⟨hb1, hb3⟩ => ⟨.inl (hR2 b hb1), fun e => by
      rcases hat with h | h
      · exact hR1 b hb1 (h ▸ e)
      · rw [h] at e; injection e with e; omega⟩) (fun b ⟨hb1, hb3⟩ hlt => hg.block b hlt (fun e => hR1 b hb1 e.symm))
  refine ⟨by rw [List.length_append]; exact ho, fun b e => .inr e, by rw [List.length_append, List.length_append, h2]; rfl, fun i hi => ?_⟩
  rw [List.length_append] at hi
  simp only [List.length_cons, List.length_nil] at hi
  by_cases e : i = vs.length
  · subst e
    refine ⟨y, k, n, s, x, ks', vs', A, c, by rw [List.getElem?_append_right (by omega), h2]; simp, by rw [List.getElem?_append_right (by omega)]; simp, hy, fun q hq => ?_, st hQ (fun b hb => .inr hb) ht⟩
    rw [List.getElem?_append_right (by omega), hxl, Nat.add_sub_cancel_left]
    match q, hq with
    | 0, _ => rfl
    | 1, _ => rfl
    | 2, _ => rfl
    | 3, _ => rfl
    | 4, _ => rfl
    | 5, _ => rfl
    | 6, _ => rfl
    | 7, _ => rfl
  · obtain ⟨y1, k1, n1, s1, x1, ks1, vs1, A1, c1, a1, a2, a3, a4, a5⟩ := h3 i (by omega)
    refine ⟨y1, k1, n1, s1, x1, ks1, vs1, A1, c1, by rw [List.getElem?_append_left (by omega)]; exact a1, by rw [List.getElem?_append_left (by omega)]; exact a2, a3, fun q hq => ?_, st (fun b hb => hb.2) (fun b hb => .inl hb) a5⟩
    rw [List.getElem?_append_left (by omega)]
    exact a4 q hq

theorem OwR.isinP (h : OwR w P v xs ks vs) (hm : vs.length ≤ maxLen) : ∃ A c, v = .slice A vs.length c ∧ (vs.length ≤ c ∧ c ≤ maxLen) ∧ IsIn w P ks vs A := by
  obtain ⟨h1, h0, h2, h3⟩ := h
  rcases h1.2 with ⟨rfl, h0'⟩ | ⟨g, cap, cur, rfl, hlo, hg, hnc, hcm, hsz, htk⟩
  · obtain rfl : vs = [] := List.length_eq_zero_iff.1 h0'
    obtain rfl : ks = [] := List.length_eq_zero_iff.1 h2
    exact ⟨none, 0, rfl, ⟨by simp, by simp⟩, IsIn.nil _ _ _⟩
  · refine ⟨some ⟨g, 0, none⟩, cap, rfl, ⟨hnc, hcm⟩, h2, hm, ?_⟩
    have each : ∀ i, ∃ C : Array Value, ∀ (hi : i < vs.length), KyAt w ⟨g, 0, none⟩ i (ks[i]'(h2 ▸ hi)) ∧ C.size = 5 ∧ (∀ j, j < 5 → w.cell? ((⟨g, 0, none⟩ : Addr).add (8 * i + (3 + j))) = C[j]?) ∧ TIn w P (vs[i]) (.agg C) := by
      intro i
      by_cases hi : i < vs.length
      · obtain ⟨y, k, n, s, x, ks', vs', A, c, hy, ht, hyb, hat, hT⟩ := h3 i hi
        have ey : ks[i]'(h2 ▸ hi) = y := by rw [List.getElem?_eq_getElem (h2 ▸ hi)] at hy; exact Option.some.inj hy
        have et : vs[i] = .mk k n s x ks' vs' := by rw [List.getElem?_eq_getElem hi] at ht; exact Option.some.inj ht
        have at_ : ∀ q, q < 8 → w.cell? ((⟨g, 0, none⟩ : Addr).add (8 * i + q)) = (eV y k n s x A vs'.length c).cells[q]? := fun q hq => by
          rw [Addr.add_lit, Nat.zero_add, cell_of_row w g _ cur IE _ hg, ← hat q hq, ← htk, List.getElem?_take_of_lt (by omega), Nat.mul_comm]
          simp
        refine ⟨#[.int .i64 k, .int .i64 n, .string s, .int .i64 x, .slice A vs'.length c], fun _ => ?_⟩
        rw [ey, et]
        refine ⟨⟨at_ 0 (by omega), at_ 1 (by omega), at_ 2 (by omega), hyb⟩, rfl, fun j hj => ?_, hT.stays (fun b hb => hb.1) (fun b _ _ => rfl)⟩
        rw [at_ (3 + j) (by omega)]
        match j, hj with
        | 0, _ => rfl
        | 1, _ => rfl
        | 2, _ => rfl
        | 3, _ => rfl
        | 4, _ => rfl
      · exact ⟨#[], fun h => absurd h hi⟩
    exact ⟨fun i => (each i).choose, fun i hi => ⟨_, rfl, h0 g rfl, ((each i).choose_spec hi).1, ((each i).choose_spec hi).2.1, ((each i).choose_spec hi).2.2.1⟩, fun i hi => ((each i).choose_spec hi).2.2.2⟩

/-- Items in a row of the call's own, all of whose blocks are plain and lie at lo or above. -/
def OwP (w : World) (lo : Nat) (v : Value) (xs : List Value) (ks : List Ky) (vs : List Tr) : Prop := OwR w (Nw lo w) v xs ks vs
theorem OwP.nil (w : World) (lo : Nat) : OwP w lo (.slice none 0 0) [] [] [] := ⟨World.ownsRow_nil w 0 _ 8, fun b e => by simp [Value.ownBlock] at e, rfl, fun i hi => absurd hi (by simp)⟩
theorem Plain.same {b : Nat} (h : Plain w b) (hs : w'.heap[b]? = w.heap[b]?) : Plain w' b := by
  obtain ⟨cs, t, hc⟩ := h
  exact ⟨cs, t, hs.trans hc⟩
theorem OwP.above {lo : Nat} (h : OwP w lo v xs ks vs) (hs : ∀ b, lo ≤ b → b < w.heap.size → w'.heap[b]? = w.heap[b]?) : OwP w' lo v xs ks vs :=
  (OwR.keep h fun b hb hl => hs b hb.1 hl).mono fun b hb => ⟨hb.1, hb.2.same (hs b hb.1 hb.2.lt)⟩
theorem OwP.below {lo : Nat} (h : OwP w lo v xs ks vs) (hb : Below w.heap.size w w') : OwP w' lo v xs ks vs := h.above fun b _ hl => hb.block b hl
theorem OwP.mono {lo lo' : Nat} (h : OwP w lo v xs ks vs) (hl : lo' ≤ lo) : OwP w lo' v xs ks vs := OwR.mono h fun b hb => ⟨Nat.le_trans hl hb.1, hb.2⟩
theorem OwP.block {lo : Nat} (h : OwP w lo v xs ks vs) : ∀ k, v.ownBlock = some k → lo ≤ k ∧ k < w.heap.size := fun k e => ⟨(h.2.1 k e).1, (h.2.1 k e).2.lt⟩
theorem OwP.len {lo : Nat} (h : OwP w lo v xs ks vs) : ks.length = vs.length := h.2.2.1
theorem OwP.isin {lo : Nat} (h : OwP w lo v xs ks vs) (hm : vs.length ≤ maxLen) : ∃ A c, v = .slice A vs.length c ∧ (vs.length ≤ c ∧ c ≤ maxLen) ∧ IsIn w (Nw lo w) ks vs A := OwR.isinP h hm
/-- One more, whose blocks are new. -/
theorem OwP.more {lo lq : Nat} (h : OwP w lo v xs ks vs) (hlq : lo ≤ lq) (hvq : ∀ b, v.ownBlock = some b → b < lq)
    {y : Ky} {k n x : Int} {s : ByteArray} {ks' : List Ky} {vs' : List Tr} {A : Option Addr} {c : Nat} (hy : I64 y.num ∧ y.str.size ≤ maxLen) (ht : TIn w (Nw lq w) (.mk k n s x ks' vs') (vV k n s x A vs'.length c))
    {v' : Value} (ho : w'.ownsRow 0 IE 8 v' (vs.length + 1) (xs ++ [.bool y.text, .int .i64 y.num, .string y.str, .int .i64 k, .int .i64 n, .string s, .int .i64 x, .slice A vs'.length c])) (hg : w.grownBy w' v.ownBlock) (hat : v'.ownBlock = v.ownBlock ∨ v'.ownBlock = some w.heap.size) (hlw : lo ≤ w.heap.size) :
    OwP w' lo v' (xs ++ [.bool y.text, .int .i64 y.num, .string y.str, .int .i64 k, .int .i64 n, .string s, .int .i64 x, .slice A vs'.length c]) (ks ++ [y]) (vs ++ [.mk k n s x ks' vs']) := by
  have hm := OwR.more (Q := Nw lq w) h hy ht (fun b hb e => by have := hvq b e; have := hb.1; omega) ho hg hat
  have hown : ∀ b, v'.ownBlock = some b → lo ≤ b ∧ Plain w' b := fun b e => by
    refine ⟨?_, ?_⟩
    · rcases hat with h' | h'
      · exact (OwP.block h b (h' ▸ e)).1
      · rw [h'] at e; injection e with e; omega
    · rcases ho.2 with ⟨rfl, h'⟩ | ⟨g, cap, cur, rfl, hlo, hgc, hr⟩
      · simp [Value.ownBlock] at e
      · simp [Value.ownBlock] at e
        subst e
        exact ⟨cur, IE, hgc⟩
  refine OwR.mono hm fun b hb => ?_
  rcases hb with (⟨hb, hne⟩ | hb) | hb
  · exact ⟨hb.1, hb.2.same (hg.block b hb.2.lt (fun e => hne e.symm))⟩
  · exact ⟨Nat.le_trans hlq hb.1, hb.2.same (hg.block b hb.2.lt (fun e => by have := hvq b e.symm; have := hb.1; omega))⟩
  · exact hown b hb
end

end Go.Proofs.YtdglmnmalfpipaaDoor.tree

/-
  The model's reading of an array; of any value.
  Conditions: those that each theorem names.
-/
namespace Go.Proofs.YtdglmnmalfpipaaDoor.tree
open Go.ChangeShapes Go.WideShapes Go.ChangeAt Go.RowKit
set_option linter.unusedVariables false

theorem arrayValue_s' (w : World) : Calls Tryd.prog 47 #[] w (GivesQ w (vV 4 0 ⟨#[]⟩ 0 none 0 0)) := by
  go_enter Tryd.func47, Tryd.ntmps47
  go_wp2
  exact bodyPost_ret (v := vV 4 0 ⟨#[]⟩ 0 none 0 0) (by simp [results, Tryd.results47, go_sem]) rfl ⟨rfl, b1 _ _⟩
/-- The array read so far, as the result. -/
theorem ret_v {w wr wF : World} {M l Sc : Nat} {X : Int} {SA : Option Addr} {xs : List Value} {ks : List Ky} {vs : List Tr} (hP : OwP wr (M + 1) (.slice SA l Sc) xs ks vs) (hl : vs.length ≤ 1000) (hM : w.heap.size < M) (hX : I64 X) (oF : ∀ q, q ≠ w.heap.size → wF.heap[q]? = wr.heap[q]?) :
    TIn wF (Nw w.heap.size wF) (.mk 4 0 ⟨#[]⟩ X ks vs) (vV 4 0 ⟨#[]⟩ X SA vs.length Sc) := by
  obtain ⟨A, c, e, hc, hin⟩ := hP.isin (by unfold maxLen; omega)
  injection e with e1 e2 e3
  subst e1 e2 e3
  have := TIn.of (k := 4) (n := 0) (s := ⟨#[]⟩) (x := X) Sc ⟨by unfold I64; omega, by unfold I64; omega, hX, Nat.zero_le _⟩ hin hc
  exact this.stays (fun b hb => ⟨by have := hb.1; omega, hb.2.same (oF b (by have := hb.1; omega))⟩) (fun b hb _ => oF b (by have := hb.1; omega))


set_option maxHeartbeats 8000000 in
set_option maxRecDepth 100000 in
theorem read_a (f : Nat) (L : List UInt8) (hL : L.length ≤ 1048576) (a : Nat) (h2 : a + 1 < L.length) (deep : Nat) (hd : deep ≤ 200) (hp : (L.drop a).take 2 = [97, 58]) (HR : ∀ (b : Nat) (w : World), b ≤ L.length → Calls Tryd.prog 24 #[.string (bz L), .int .i64 b, .int .i64 ((deep + 1 : Nat) : Int)] w (RmQ L (rdM f (L.drop b)) w)) (w : World) :
    Calls Tryd.prog 24 #[.string (bz L), .int .i64 a, .int .i64 deep] w (RmQ L (rdB (rdM f) (L.drop (a + 2))) w) := by
  obtain ⟨O, HO⟩ : ∃ O, Hid ((rdB (rdM f) (L.drop (a + 2))) = O) := ⟨_, Lib.hid rfl⟩
  rw [HO.out]
  obtain ⟨j, hj⟩ : ∃ j : Nat, (a : Int) + 2 = (j : Int) := ⟨a + 2, rfl⟩
  have hja : a + 2 = j := by omega
  have hex := head_ext hj hp
  obtain ⟨y, HY⟩ : ∃ y, Hid (bz [97, 58] = y) := ⟨_, Lib.hid rfl⟩
  have HYL : Hid (y.toList = [97, 58]) := Lib.hid (by rw [← HY.out]; exact bz_toList _)
  rw [HY.out] at hex
  have t0 : (y.toList == [78, 59]) = false := by rw [HYL.out]; decide
  have u0 : ¬ y.toList = [78, 59] := by rw [HYL.out]; decide
  have t1 : (y.toList == [98, 58]) = false := by rw [HYL.out]; decide
  have u1 : ¬ y.toList = [98, 58] := by rw [HYL.out]; decide
  have t2 : (y.toList == [105, 58]) = false := by rw [HYL.out]; decide
  have u2 : ¬ y.toList = [105, 58] := by rw [HYL.out]; decide
  have t3 : (y.toList == [115, 58]) = false := by rw [HYL.out]; decide
  have u3 : ¬ y.toList = [115, 58] := by rw [HYL.out]; decide
  have t4 : (y.toList == [97, 58]) = true := by rw [HYL.out]; decide
  have u4 : y.toList = [97, 58] := HYL.out
  have NS := num_s L hL (a + 2) (by omega) 58
  rw [show ((a + 2 : Nat) : Int) = (j : Int) by omega] at NS
  have NB := numR_is 58 (show a + 2 ≤ L.length by omega)
  obtain ⟨⟨n, nx⟩, HNR⟩ : ∃ p, Hid (numR L (a + 2) 58 = p) := ⟨_, Lib.hid rfl⟩
  rw [HNR.out] at NS NB
  have NS3 := fun b (hb : b ≤ L.length) w => num_s L hL b hb 123 w
  obtain ⟨z, HZ⟩ : ∃ z, Hid (bz L = z) := ⟨_, Lib.hid rfl⟩
  obtain ⟨Ln, HLn⟩ : ∃ n, Hid (L.length = n) := ⟨_, Lib.hid rfl⟩
  have hzs : z.size = Ln := by rw [← HZ.out, ← HLn.out]; rfl
  rw [HLn.out] at hL h2
  rw [HZ.out] at hex NS NS3 HR ⊢
  have c1 : ¬ ((Ln : Int) - 1 ≤ (a : Int)) := by omega
  have c2 : (a : Int) < (Ln : Int) - 1 := by omega
  have c3 : ¬ ((200 : Int) < (deep : Int)) := by omega
  have c4 : ¬ ((Ln : Int) ≤ (a : Int) + 1) := by omega
  have e1 : (0 : Int) ≤ (a : Int) := by omega
  have e2 : (a : Int) ≤ (j : Int) := by omega
  have e3 : (j : Int) ≤ (z.size : Int) := by omega
  have e4 : a ≤ j := by omega
  have e5 : j ≤ z.size := by omega
  have e6 : j ≤ Ln := by omega
  clear hp
  have NS2 : Hid (∀ w, Calls Tryd.prog 44 #[.string z, .int .i64 j, .int .u8 58] w (fun e w' => e = .returned (.tuple #[.int .i64 n, .int .i64 nx]) ∧ Below w.heap.size w w')) := Lib.hid NS
  have NS4 : Hid (∀ b, b ≤ L.length → ∀ w, Calls Tryd.prog 44 #[.string z, .int .i64 b, .int .u8 123] w (fun e w' => e = .returned (.tuple #[.int .i64 (numR L b 123).1, .int .i64 (numR L b 123).2]) ∧ Below w.heap.size w w')) := Lib.hid NS3
  have HREC := Lib.hid HR
  clear NS NS3 HR
  have bad : O = none → ∀ wz, Below w.heap.size w wz → RmQ L O w (.returned (.tuple #[vV 0 0 ⟨#[]⟩ 0 none 0 0, .int .i64 (-1)])) wz := fun h wz hb => ⟨0, 0, ⟨#[]⟩, 0, [], [], none, 0, -1, rfl, leaf_tin (by decide) i64_zero (Nat.zero_le _), hb, .inr ⟨h, rfl⟩⟩
  have BAD := Lib.hid bad
  clear bad
  rcases NB with ⟨h1, h3⟩ | ⟨n', b, h1, hab, hbL, h5, hn0, hn1⟩
  · cases h3
    have HON : Hid (O = none) := Lib.hid (by rw [← HO.out]; exact rdB_bad (fun n r h => by rw [h1] at h; cases h))
    clear h1
    go_enter Tryd.func24, Tryd.ntmps24
    go_wp2_with (fail)
    refine (NS2.out _).mono ?_
    rintro e w1 ⟨rfl, hb⟩
    have EL := Lib.hid (carry hb (heap_alloc_new w _))
    have HBL := Lib.hid (bs (b1 w _) hb)
    obtain ⟨r1, f1⟩ := rowc EL.out
    clear hb
    go_wp2_with (fail)
    generalize hwF : (((((w1.setCell ⟨w.heap.size, 0, none⟩ (.int .i64 0)).setCell ⟨w.heap.size, 1, none⟩ (.int .i64 0)).setCell ⟨w.heap.size, 2, none⟩ (.string ⟨#[]⟩)).setCell ⟨w.heap.size, 3, none⟩ (.int .i64 0)).setCell ⟨w.heap.size, 4, none⟩ (.slice none 0 0)) = wF
    obtain ⟨rF, oF, bF⟩ := fill5 EL.out hwF
    refine bodyPost_ret (v := .tuple #[vV 0 0 ⟨#[]⟩ 0 none 0 0, .int .i64 (-1)]) ?_ rfl (BAD.out HON.out _ (bF _ _ (Nat.le_refl _) HBL.out))
    simp [results, Tryd.results24, go_sem, rF]
  · cases h5
    by_cases hn : n < 0
    · have HON : Hid (O = none) := Lib.hid (by rw [← HO.out]; exact rdB_bad (fun n' r h => by rw [h1] at h; cases h; exact .inl hn))
      have d1 : ¬ ((b : Int) < 0) := by omega
      clear h1
      go_enter Tryd.func24, Tryd.ntmps24
      go_wp2_with (fail)
      refine (NS2.out _).mono ?_
      rintro e w1 ⟨rfl, hb⟩
      have EL := Lib.hid (carry hb (heap_alloc_new w _))
      have HBL := Lib.hid (bs (b1 w _) hb)
      obtain ⟨r1, f1⟩ := rowc EL.out
      clear hb
      go_wp2_with (fail)
      generalize hwF : (((((w1.setCell ⟨w.heap.size, 0, none⟩ (.int .i64 0)).setCell ⟨w.heap.size, 1, none⟩ (.int .i64 0)).setCell ⟨w.heap.size, 2, none⟩ (.string ⟨#[]⟩)).setCell ⟨w.heap.size, 3, none⟩ (.int .i64 0)).setCell ⟨w.heap.size, 4, none⟩ (.slice none 0 0)) = wF
      obtain ⟨rF, oF, bF⟩ := fill5 EL.out hwF
      refine bodyPost_ret (v := .tuple #[vV 0 0 ⟨#[]⟩ 0 none 0 0, .int .i64 (-1)]) ?_ rfl (BAD.out HON.out _ (bF _ _ (Nat.le_refl _) HBL.out))
      simp [results, Tryd.results24, go_sem, rF]
    by_cases hn2 : 200 < n
    · have HON : Hid (O = none) := Lib.hid (by rw [← HO.out]; exact rdB_bad (fun n' r h => by rw [h1] at h; cases h; exact .inr hn2))
      have d1 : ¬ ((b : Int) < 0) := by omega
      clear h1
      go_enter Tryd.func24, Tryd.ntmps24
      go_wp2_with (fail)
      refine (NS2.out _).mono ?_
      rintro e w1 ⟨rfl, hb⟩
      have EL := Lib.hid (carry hb (heap_alloc_new w _))
      have HBL := Lib.hid (bs (b1 w _) hb)
      obtain ⟨r1, f1⟩ := rowc EL.out
      clear hb
      go_wp2_with (fail)
      generalize hwF : (((((w1.setCell ⟨w.heap.size, 0, none⟩ (.int .i64 0)).setCell ⟨w.heap.size, 1, none⟩ (.int .i64 0)).setCell ⟨w.heap.size, 2, none⟩ (.string ⟨#[]⟩)).setCell ⟨w.heap.size, 3, none⟩ (.int .i64 0)).setCell ⟨w.heap.size, 4, none⟩ (.slice none 0 0)) = wF
      obtain ⟨rF, oF, bF⟩ := fill5 EL.out hwF
      refine bodyPost_ret (v := .tuple #[vV 0 0 ⟨#[]⟩ 0 none 0 0, .int .i64 (-1)]) ?_ rfl (BAD.out HON.out _ (bF _ _ (Nat.le_refl _) HBL.out))
      simp [results, Tryd.results24, go_sem, rF]
    obtain ⟨m, rfl⟩ : ∃ m : Nat, n = (m : Int) := ⟨n.toNat, by omega⟩
    have hm200 : m ≤ 200 := by omega
    have hO2 := (rdB_two (rd := rdM f) h1 hm200).symm.trans HO.out
    have d1 : ¬ ((b : Int) < 0) := by omega
    have d2 : ¬ ((m : Int) < 0) := by omega
    have d3 : ¬ ((200 : Int) < (m : Int)) := by omega
    have NS5 := Lib.hid (NS4.out b hbL)
    have NB2 := numR_is 123 hbL
    obtain ⟨⟨X, nx0⟩, HNR2⟩ : ∃ p, Hid (numR L b 123 = p) := ⟨_, Lib.hid rfl⟩
    rw [HNR2.out] at NS5 NB2
    have NS5 : Hid (∀ w, Calls Tryd.prog 44 #[.string z, .int .i64 b, .int .u8 123] w (fun e w' => e = .returned (.tuple #[.int .i64 X, .int .i64 nx0]) ∧ Below w.heap.size w w')) := NS5
    obtain ⟨IT, HIT⟩ : ∃ I, Hid (((numM 123 (L.drop b)).bind fun q => itM (rdM f) m q.2) = I) := ⟨_, Lib.hid rfl⟩
    rw [HIT.out] at hO2
    obtain ⟨HX, HST0⟩ : Hid (I64 X) ∧ Hid (((∃ b' : Nat, nx0 = (b' : Int) ∧ b' ≤ L.length ∧ Itm (rdM f) (m - 0) (L.drop b') [] [] = IT) ∨ (nx0 = -1 ∧ IT = none)) ∧ (IT.bind fun z => (pf [125] z.2.2).map fun e => (Tr.mk 4 0 ⟨#[]⟩ X z.1 z.2.1, e)) = O) := by
      rcases NB2 with ⟨g1, g3⟩ | ⟨n', b', g1, -, g4, g5, g6, g7⟩
      · cases g3
        have hI : IT = none := by rw [← HIT.out, g1]; rfl
        exact ⟨Lib.hid i64_zero, Lib.hid ⟨.inr ⟨rfl, hI⟩, by rw [← hO2, hI]; rfl⟩⟩
      · cases g5
        have hI : IT = itM (rdM f) m (L.drop b') := by rw [← HIT.out, g1]; rfl
        exact ⟨Lib.hid (by unfold I64; omega), Lib.hid ⟨.inl ⟨b', rfl, g4, by rw [itm_start, hI]; rfl⟩, by rw [← hO2, g1]; rfl⟩⟩
    clear h1 hn hn2 NB2 hO2
    go_enter Tryd.func24, Tryd.ntmps24
    go_wp2_with (fail)
    refine (NS2.out _).mono ?_
    rintro e w1 ⟨rfl, hb⟩
    have EL := Lib.hid (carry hb (heap_alloc_new w _))
    have HBL := Lib.hid (bs (b1 w _) hb)
    obtain ⟨r1, f1⟩ := rowc EL.out
    clear hb
    go_wp2_with (fail)
    refine (arrayValue_s' _).mono ?_
    rintro e w2 ⟨rfl, hb2⟩
    have EN2 := Lib.hid (carry hb2 EL.out)
    have HB2 := Lib.hid (bs HBL.out hb2)
    have hMN : w.heap.size < w2.heap.size := (Array.getElem?_eq_some_iff.1 EN2.out).1
    obtain ⟨M, HM⟩ : ∃ M, Hid (w2.heap.size = M) := ⟨_, Lib.hid rfl⟩
    rw [HM.out] at hMN
    clear hb2 r1 f1
    go_wp2_with (fail)
    refine (NS5.out _).mono ?_
    rintro e w3 ⟨rfl, hb3⟩
    have EM3 : Hid (w3.heap[M]? = some (.cells #[.int .i64 4, .int .i64 0, .string ⟨#[]⟩, .int .i64 0, .slice none 0 0] IV (0, 0))) := Lib.hid (by rw [← HM.out]; exact carry hb3 (heap_alloc_new w2 _))
    have EN3 := Lib.hid (carry hb3 (keepAlloc EN2.out))
    have HB3 := Lib.hid (bs (bs HB2.out (b1 w2 _)) hb3)
    have hM3 : M < w3.heap.size := (Array.getElem?_eq_some_iff.1 EM3.out).1
    obtain ⟨rm3, fm3⟩ := rowc EM3.out
    rw [HM.out]
    obtain ⟨i0, hi0, hz0⟩ := ie_info
    have HII := Lib.hid hi0
    have HZZ := Lib.hid hz0
    obtain ⟨dp, hdp⟩ : ∃ dp : Nat, (deep : Int) + 1 = (dp : Int) := ⟨deep + 1, rfl⟩
    have HRE : Hid (∀ (b : Nat) (w : World), b ≤ L.length → Calls Tryd.prog 24 #[.string z, .int .i64 b, .int .i64 dp] w (RmQ L (rdM f (L.drop b)) w)) := Lib.hid (by have := HREC.out; rw [show ((deep + 1 : Nat) : Int) = (dp : Int) by omega] at this; exact this)
    clear hb3 hi0 hz0
    go_wp2_with (fail)
    go_loopg [10, 12] (m + 1) (fun gk nxt i wr => ∃ (j : Nat) (nx : Int) (sv : Value) (xs : List Value) (ks : List Ky) (vs : List Tr), i = .int .i64 j ∧ nxt = .int .i64 nx ∧ gk + j = m + 1 ∧ j ≤ m ∧ I64 nx ∧ Hid (vs.length = j) ∧ Hid (OwP wr (M + 1) sv xs ks vs) ∧
      Hid (wr.heap[M]? = some (.cells #[.int .i64 4, .int .i64 0, .string ⟨#[]⟩, .int .i64 X, sv] IV (0, 0))) ∧ Hid (wr.heap[w.heap.size]? = some (.cells #[.int .i64 0, .int .i64 0, .string ⟨#[]⟩, .int .i64 0, .slice none 0 0] IV (0, 0))) ∧ Hid (Below w.heap.size w wr) ∧
      Hid ((∃ b' : Nat, nx = (b' : Int) ∧ b' ≤ L.length ∧ Itm (rdM f) (m - j) (L.drop b') ks vs = IT) ∨ (nx = -1 ∧ IT = none)))
    case atStart =>
      refine ⟨0, nx0, _, [], [], [], rfl, rfl, by omega, by omega, ?_, Lib.hid rfl, Lib.hid (OwP.nil _ _), Lib.hid (by have := set_heap EM3.out 3 (.int .i64 X); simpa using this), Lib.hid ((set_other (by omega)).trans EN3.out), Lib.hid (HB3.out.setCell (by show w.heap.size ≤ M; omega) _), Lib.hid HST0.out.1⟩
      rcases HST0.out.1 with ⟨b', rfl, hb', -⟩ | ⟨rfl, -⟩
      · have := HLn.out; unfold I64; omega
      · unfold I64; simp
    case round =>
      obtain ⟨jj, nx, sv, xs, ks, vs, rfl, rfl, hgj, hjm, hnx, HVL0, HP, HEM, HEN, HB, HST⟩ := hrel
      have HIO := Lib.hid HST0.out.2
      obtain ⟨SA, Sc, hsv, hSc, -⟩ := HP.out.isin (by unfold maxLen; rw [HVL0.out]; omega)
      subst hsv
      obtain ⟨l, HVL⟩ : ∃ l, Hid (vs.length = l) := ⟨_, Lib.hid rfl⟩
      have HLJ : Hid (l = jj) := Lib.hid (HVL.out.symm.trans HVL0.out)
      have hl200 : l ≤ 200 := by have := HLJ.out; omega
      rw [HVL.out] at HP HEM hSc
      unfold I64 at hnx
      by_cases hend : nx < 0 ∨ ¬ jj < m
      · -- the loop ends
        have HFX : Hid ((nx = -1 ∧ O = none) ∨ ∃ b' : Nat, nx = (b' : Int) ∧ b' ≤ Ln ∧ jj = m ∧ ((pf [125] (L.drop b')).map fun e => (Tr.mk 4 0 ⟨#[]⟩ X ks vs, e)) = O) := Lib.hid (by
          rcases HST.out with ⟨b', rfl, hb', hq⟩ | ⟨rfl, hq⟩
          · have hj : jj = m := by omega
            refine .inr ⟨b', rfl, by have := HLn.out; omega, hj, ?_⟩
            rw [show m - jj = 0 by omega, itm_zero] at hq
            rw [← HIO.out, ← hq]
            rfl
          · exact .inl ⟨rfl, by rw [← HIO.out, hq]; rfl⟩)
        rcases HFX.out with ⟨hneg, hO⟩ | ⟨b', rfl, hb', hjm2, hO⟩
        · subst hneg
          have HON := Lib.hid hO
          clear hO hend
          have q1 : decide ((jj : Int) < (m : Int)) = decide ((jj : Int) < (m : Int)) := rfl
          by_cases hlt : jj < m
          · have a1 : (jj : Int) < (m : Int) := by omega
            clear q1
            have g0 : wr.cell? ⟨M, 0, none⟩ = some (.int .i64 4) := (rowc HEM.out).1 0
            have g1 : wr.cell? ⟨M, 1, none⟩ = some (.int .i64 0) := (rowc HEM.out).1 1
            have g2 : wr.cell? ⟨M, 2, none⟩ = some (.string ⟨#[]⟩) := (rowc HEM.out).1 2
            have g3 : wr.cell? ⟨M, 3, none⟩ = some (.int .i64 X) := (rowc HEM.out).1 3
            have g4 : wr.cell? ⟨M, 4, none⟩ = some (.slice SA l Sc) := (rowc HEM.out).1 4
            obtain ⟨rn, fn⟩ := rowc HEN.out
            go_wp2_with (fail)
            generalize hwF : (((((wr.setCell ⟨w.heap.size, 0, none⟩ (.int .i64 4)).setCell ⟨w.heap.size, 1, none⟩ (.int .i64 0)).setCell ⟨w.heap.size, 2, none⟩ (.string ⟨#[]⟩)).setCell ⟨w.heap.size, 3, none⟩ (.int .i64 X)).setCell ⟨w.heap.size, 4, none⟩ (.slice SA l Sc)) = wF
            obtain ⟨rF, oF, bF⟩ := fill5 HEN.out hwF
            refine bodyPost_ret (v := .tuple #[vV 4 0 ⟨#[]⟩ X SA l Sc, .int .i64 (-1)]) ?_ rfl ?_
            · simp [results, Tryd.results24, go_sem, rF]
            · refine ⟨4, 0, ⟨#[]⟩, X, ks, vs, SA, Sc, (-1), by rw [HVL.out], ret_v HP.out (by rw [HVL.out]; omega) hMN HX.out oF, bF _ _ (Nat.le_refl _) HB.out, .inr ⟨HON.out, rfl⟩⟩
          · have a1 : ¬ ((jj : Int) < (m : Int)) := by omega
            clear q1
            have g0 : wr.cell? ⟨M, 0, none⟩ = some (.int .i64 4) := (rowc HEM.out).1 0
            have g1 : wr.cell? ⟨M, 1, none⟩ = some (.int .i64 0) := (rowc HEM.out).1 1
            have g2 : wr.cell? ⟨M, 2, none⟩ = some (.string ⟨#[]⟩) := (rowc HEM.out).1 2
            have g3 : wr.cell? ⟨M, 3, none⟩ = some (.int .i64 X) := (rowc HEM.out).1 3
            have g4 : wr.cell? ⟨M, 4, none⟩ = some (.slice SA l Sc) := (rowc HEM.out).1 4
            obtain ⟨rn, fn⟩ := rowc HEN.out
            go_wp2_with (fail)
            generalize hwF : (((((wr.setCell ⟨w.heap.size, 0, none⟩ (.int .i64 4)).setCell ⟨w.heap.size, 1, none⟩ (.int .i64 0)).setCell ⟨w.heap.size, 2, none⟩ (.string ⟨#[]⟩)).setCell ⟨w.heap.size, 3, none⟩ (.int .i64 X)).setCell ⟨w.heap.size, 4, none⟩ (.slice SA l Sc)) = wF
            obtain ⟨rF, oF, bF⟩ := fill5 HEN.out hwF
            refine bodyPost_ret (v := .tuple #[vV 4 0 ⟨#[]⟩ X SA l Sc, .int .i64 (-1)]) ?_ rfl ?_
            · simp [results, Tryd.results24, go_sem, rF]
            · refine ⟨4, 0, ⟨#[]⟩, X, ks, vs, SA, Sc, (-1), by rw [HVL.out], ret_v HP.out (by rw [HVL.out]; omega) hMN HX.out oF, bF _ _ (Nat.le_refl _) HB.out, .inr ⟨HON.out, rfl⟩⟩
        · have a1 : ¬ ((jj : Int) < (m : Int)) := by omega
          have a2 : ¬ ((b' : Int) < 0) := by omega
          have HOO := Lib.hid hO
          clear hO hend
          rcases pf_brace (L := L) (b := b') (by rw [HLn.out]; exact hb') with ⟨hlt, h125, hpf⟩ | ⟨hno, hpf⟩
          · have hb2 : b' < Ln := by rw [← HLn.out]; exact hlt
            have a3 : ¬ ((Ln : Int) ≤ (b' : Int)) := by omega
            have a4 : (0 : Int) ≤ (b' : Int) := by omega
            have a5 : (b' : Int) < (z.size : Int) := by omega
            have a6 : b' < z.size := by omega
            have a7 : ¬ Ln ≤ b' := by omega
            have hzq : z[b']'(by omega) = 125 := by
              have : ∀ z', bz L = z' → ∀ h : b' < z'.size, z'[b']'h = L[b'] := fun z' e h => by subst e; rfl
              rw [this z HZ.out (by omega), h125]
            have HON : Hid (O = some (Tr.mk 4 0 ⟨#[]⟩ X ks vs, L.drop (b' + 1))) := Lib.hid (by rw [← HOO.out, hpf]; rfl)
            clear hpf h125 hlt
            have g0 : wr.cell? ⟨M, 0, none⟩ = some (.int .i64 4) := (rowc HEM.out).1 0
            have g1 : wr.cell? ⟨M, 1, none⟩ = some (.int .i64 0) := (rowc HEM.out).1 1
            have g2 : wr.cell? ⟨M, 2, none⟩ = some (.string ⟨#[]⟩) := (rowc HEM.out).1 2
            have g3 : wr.cell? ⟨M, 3, none⟩ = some (.int .i64 X) := (rowc HEM.out).1 3
            have g4 : wr.cell? ⟨M, 4, none⟩ = some (.slice SA l Sc) := (rowc HEM.out).1 4
            obtain ⟨rn, fn⟩ := rowc HEN.out
            go_wp2_with (fail)
            generalize hwF : (((((wr.setCell ⟨w.heap.size, 0, none⟩ (.int .i64 4)).setCell ⟨w.heap.size, 1, none⟩ (.int .i64 0)).setCell ⟨w.heap.size, 2, none⟩ (.string ⟨#[]⟩)).setCell ⟨w.heap.size, 3, none⟩ (.int .i64 X)).setCell ⟨w.heap.size, 4, none⟩ (.slice SA l Sc)) = wF
            obtain ⟨rF, oF, bF⟩ := fill5 HEN.out hwF
            refine bodyPost_ret (v := .tuple #[vV 4 0 ⟨#[]⟩ X SA l Sc, .int .i64 (b' + 1 : Int)]) ?_ rfl ?_
            · simp [results, Tryd.results24, go_sem, rF]
            · refine ⟨4, 0, ⟨#[]⟩, X, ks, vs, SA, Sc, (b' + 1 : Int), by rw [HVL.out], ret_v HP.out (by rw [HVL.out]; omega) hMN HX.out oF, bF _ _ (Nat.le_refl _) HB.out, .inl ⟨b' + 1, HON.out, rfl, by rw [HLn.out]; omega⟩⟩
          · have HON : Hid (O = none) := Lib.hid (by rw [← HOO.out, hpf]; rfl)
            by_cases hb2 : b' < Ln
            · have a3 : ¬ ((Ln : Int) ≤ (b' : Int)) := by omega
              have a4 : (0 : Int) ≤ (b' : Int) := by omega
              have a5 : (b' : Int) < (z.size : Int) := by omega
              have a6 : b' < z.size := by omega
              have a7 : ¬ Ln ≤ b' := by omega
              obtain ⟨v, hzq, hv⟩ : ∃ v : UInt8, z[b']'(by omega) = v ∧ v ≠ 125 := by
                refine ⟨_, rfl, ?_⟩
                have : ∀ z', bz L = z' → ∀ h : b' < z'.size, z'[b']'h = L[b']'(by have := HLn.out; omega) := fun z' e h => by subst e; rfl
                rw [this z HZ.out (by omega)]
                exact hno _
              have hv1 : ¬ ((v.toNat : Int) = 125) := fun e => hv (UInt8.toNat_inj.1 (by show v.toNat = 125; omega))
              have hv2 : ((v.toNat : Int) == 125) = false := by rw [beq_eq_false_iff_ne]; exact hv1
              have hv3 : ((v.toNat : Int) != 125) = true := by simp [hv1]
              clear hpf hno hv
              have g0 : wr.cell? ⟨M, 0, none⟩ = some (.int .i64 4) := (rowc HEM.out).1 0
              have g1 : wr.cell? ⟨M, 1, none⟩ = some (.int .i64 0) := (rowc HEM.out).1 1
              have g2 : wr.cell? ⟨M, 2, none⟩ = some (.string ⟨#[]⟩) := (rowc HEM.out).1 2
              have g3 : wr.cell? ⟨M, 3, none⟩ = some (.int .i64 X) := (rowc HEM.out).1 3
              have g4 : wr.cell? ⟨M, 4, none⟩ = some (.slice SA l Sc) := (rowc HEM.out).1 4
              obtain ⟨rn, fn⟩ := rowc HEN.out
              go_wp2_with (fail)
              generalize hwF : (((((wr.setCell ⟨w.heap.size, 0, none⟩ (.int .i64 4)).setCell ⟨w.heap.size, 1, none⟩ (.int .i64 0)).setCell ⟨w.heap.size, 2, none⟩ (.string ⟨#[]⟩)).setCell ⟨w.heap.size, 3, none⟩ (.int .i64 X)).setCell ⟨w.heap.size, 4, none⟩ (.slice SA l Sc)) = wF
              obtain ⟨rF, oF, bF⟩ := fill5 HEN.out hwF
              refine bodyPost_ret (v := .tuple #[vV 4 0 ⟨#[]⟩ X SA l Sc, .int .i64 (-1)]) ?_ rfl ?_
              · simp [results, Tryd.results24, go_sem, rF]
              · refine ⟨4, 0, ⟨#[]⟩, X, ks, vs, SA, Sc, (-1), by rw [HVL.out], ret_v HP.out (by rw [HVL.out]; omega) hMN HX.out oF, bF _ _ (Nat.le_refl _) HB.out, .inr ⟨HON.out, rfl⟩⟩
            · have a3 : (Ln : Int) ≤ (b' : Int) := by omega
              have a7 : Ln ≤ b' := by omega
              clear hpf hno
              have g0 : wr.cell? ⟨M, 0, none⟩ = some (.int .i64 4) := (rowc HEM.out).1 0
              have g1 : wr.cell? ⟨M, 1, none⟩ = some (.int .i64 0) := (rowc HEM.out).1 1
              have g2 : wr.cell? ⟨M, 2, none⟩ = some (.string ⟨#[]⟩) := (rowc HEM.out).1 2
              have g3 : wr.cell? ⟨M, 3, none⟩ = some (.int .i64 X) := (rowc HEM.out).1 3
              have g4 : wr.cell? ⟨M, 4, none⟩ = some (.slice SA l Sc) := (rowc HEM.out).1 4
              obtain ⟨rn, fn⟩ := rowc HEN.out
              go_wp2_with (fail)
              generalize hwF : (((((wr.setCell ⟨w.heap.size, 0, none⟩ (.int .i64 4)).setCell ⟨w.heap.size, 1, none⟩ (.int .i64 0)).setCell ⟨w.heap.size, 2, none⟩ (.string ⟨#[]⟩)).setCell ⟨w.heap.size, 3, none⟩ (.int .i64 X)).setCell ⟨w.heap.size, 4, none⟩ (.slice SA l Sc)) = wF
              obtain ⟨rF, oF, bF⟩ := fill5 HEN.out hwF
              refine bodyPost_ret (v := .tuple #[vV 4 0 ⟨#[]⟩ X SA l Sc, .int .i64 (-1)]) ?_ rfl ?_
              · simp [results, Tryd.results24, go_sem, rF]
              · refine ⟨4, 0, ⟨#[]⟩, X, ks, vs, SA, Sc, (-1), by rw [HVL.out], ret_v HP.out (by rw [HVL.out]; omega) hMN HX.out oF, bF _ _ (Nat.le_refl _) HB.out, .inr ⟨HON.out, rfl⟩⟩
      · have hlt : jj < m := by omega
        obtain ⟨b', rfl, hb', hq⟩ : ∃ b' : Nat, nx = (b' : Int) ∧ b' ≤ L.length ∧ Itm (rdM f) (m - jj) (L.drop b') ks vs = IT := by
          rcases HST.out with h | ⟨rfl, -⟩
          · exact h
          · omega
        rw [show m - jj = (m - (jj + 1)) + 1 by omega] at hq
        have HQ := Lib.hid hq
        have a1 : (jj : Int) < (m : Int) := by omega
        have a2 : (0 : Int) ≤ (b' : Int) := by omega
        have hMw : M < wr.heap.size := (Array.getElem?_eq_some_iff.1 HEM.out).1
        have HB' := Lib.hid hb'
        have hOB := HP.out.block
        have HOB := Lib.hid hOB
        clear hend hq hb' hOB
        go_wp2_with (fail)
        refine (HRE.out b' _ HB'.out).mono ?_
        rintro e w4 ⟨kk, kn, kz, kx, kks, kvs, kA, kc, nx4, rfl, htk, hb4, hres4⟩
        have hb4' := bs (b2 wr _ _) hb4
        have EK4 := Lib.hid (carry hb4 (keepAlloc (heap_alloc_new wr (.cells #[.int .i64 0, .int .i64 0, .string ⟨#[]⟩, .int .i64 0, .slice none 0 0] IV))))
        have EX4 := Lib.hid (carry hb4 (heap_alloc2_new wr (.cells #[.int .i64 0, .int .i64 0, .string ⟨#[]⟩, .int .i64 0, .slice none 0 0] IV) (.cells #[.int .i64 0, .int .i64 0, .string ⟨#[]⟩, .int .i64 0, .slice none 0 0] IV)))
        have HB4 := Lib.hid hb4'
        have HTK := Lib.hid htk
        have HRES4 := Lib.hid hres4
        obtain ⟨kl, HKL⟩ : ∃ q, Hid (kvs.length = q) := ⟨_, Lib.hid rfl⟩
        rw [HKL.out] at HTK ⊢
        obtain ⟨rk4, fk4⟩ := rowc EK4.out
        clear htk hb4 hb4' hres4
        go_upto_region 32 with fail
        generalize hw5 : (((((w4.setCell ⟨wr.heap.size, 0, none⟩ (.int .i64 kk)).setCell ⟨wr.heap.size, 1, none⟩ (.int .i64 kn)).setCell ⟨wr.heap.size, 2, none⟩ (.string kz)).setCell ⟨wr.heap.size, 3, none⟩ (.int .i64 kx)).setCell ⟨wr.heap.size, 4, none⟩ (.slice kA kl kc)) = w5
        obtain ⟨r5, o5, b5⟩ := fill5 EK4.out hw5
        have hsz5 := (b5 0 w4 (Nat.zero_le _) (Below.refl 0 w4)).size
        have HB5 : Hid (Below wr.heap.size wr w5) := Lib.hid (b5 _ _ (Nat.le_refl _) HB4.out)
        have EX5 := Lib.hid ((o5 _ (by omega)).trans EX4.out)
        have EM5 := Lib.hid (carry HB5.out HEM.out)
        have EN5 := Lib.hid (carry HB5.out HEN.out)
        have HP5 : Hid (OwP w5 (M + 1) (.slice SA l Sc) xs ks vs) := Lib.hid (HP.out.below HB5.out)
        have EK5 : Hid (∀ j, w5.cell? ⟨wr.heap.size, j, none⟩ = _) := Lib.hid r5
        have HTK5 := Lib.hid HTK.out
        have HZ5 : Hid (wr.heap.size + 1 < w5.heap.size) := Lib.hid ((Array.getElem?_eq_some_iff.1 EX5.out).1)
        have EKH : Hid (w5.heap[wr.heap.size]? = some (.cells #[.int .i64 kk, .int .i64 kn, .string kz, .int .i64 kx, .slice kA kl kc] IV (0, 0))) := Lib.hid (by
          rw [← hw5]
          have := set_heap (set_heap (set_heap (set_heap (set_heap EK4.out 0 (.int .i64 kk)) 1 (.int .i64 kn)) 2 (.string kz)) 3 (.int .i64 kx)) 4 (.slice kA kl kc)
          simpa using this)
        clear hw5 rk4 fk4 o5 b5 r5 hsz5 EK5
        rcases HRES4.out with ⟨b4, hr4, rfl, hb4⟩ | ⟨hr4, rfl⟩
        rotate_left
        · have HON : Hid (O = none) := Lib.hid (by rw [← HIO.out, ← HQ.out, itm_k hr4]; rfl)
          clear hr4
          have g0 : w5.cell? ⟨M, 0, none⟩ = some (.int .i64 4) := (rowc EM5.out).1 0
          have g1 : w5.cell? ⟨M, 1, none⟩ = some (.int .i64 0) := (rowc EM5.out).1 1
          have g2 : w5.cell? ⟨M, 2, none⟩ = some (.string ⟨#[]⟩) := (rowc EM5.out).1 2
          have g3 : w5.cell? ⟨M, 3, none⟩ = some (.int .i64 X) := (rowc EM5.out).1 3
          have g4 : w5.cell? ⟨M, 4, none⟩ = some (.slice SA l Sc) := (rowc EM5.out).1 4
          obtain ⟨rn, fn⟩ := rowc EN5.out
          go_wp2_with (fail)
          generalize hwF : (((((w5.setCell ⟨w.heap.size, 0, none⟩ (.int .i64 4)).setCell ⟨w.heap.size, 1, none⟩ (.int .i64 0)).setCell ⟨w.heap.size, 2, none⟩ (.string ⟨#[]⟩)).setCell ⟨w.heap.size, 3, none⟩ (.int .i64 X)).setCell ⟨w.heap.size, 4, none⟩ (.slice SA l Sc)) = wF
          obtain ⟨rF, oF, bF⟩ := fill5 EN5.out hwF
          refine bodyPost_ret (v := .tuple #[vV 4 0 ⟨#[]⟩ X SA l Sc, .int .i64 (-1)]) ?_ rfl ?_
          · simp [results, Tryd.results24, go_sem, rF]
          · refine ⟨4, 0, ⟨#[]⟩, X, ks, vs, SA, Sc, (-1), by rw [HVL.out], ret_v HP5.out (by rw [HVL.out]; omega) hMN HX.out oF, bF _ _ (Nat.le_refl _) (bs HB.out HB5.out), .inr ⟨HON.out, rfl⟩⟩
        have a3 : ¬ ((b4 : Int) < 0) := by omega
        have k0 : w5.cell? ⟨wr.heap.size, 0, none⟩ = some (.int .i64 kk) := (rowc EKH.out).1 0
        have HIN := Lib.hid (fun w' q (hq : nums.inr kk 2 3 = q) => hq ▸ nums.l1In kk 2 3 w')
        have HHR4 := Lib.hid hr4
        by_cases hkk : kk = 2 ∨ kk = 3
        rotate_left
        · have HON : Hid (O = none) := Lib.hid (by rw [← HIO.out, ← HQ.out, itm_y hr4 (kyM_none hkk)]; rfl)
          have hin : nums.inr kk 2 3 = false := by unfold nums.inr; simp; omega
          have IN1 := Lib.hid (fun w' => HIN.out w' false hin)
          clear hr4 hin hkk
          go_wp2_with (fail)
          refine (IN1.out _).mono ?_
          rintro e w6 ⟨rfl, rfl⟩
          have g0 : w5.cell? ⟨M, 0, none⟩ = some (.int .i64 4) := (rowc EM5.out).1 0
          have g1 : w5.cell? ⟨M, 1, none⟩ = some (.int .i64 0) := (rowc EM5.out).1 1
          have g2 : w5.cell? ⟨M, 2, none⟩ = some (.string ⟨#[]⟩) := (rowc EM5.out).1 2
          have g3 : w5.cell? ⟨M, 3, none⟩ = some (.int .i64 X) := (rowc EM5.out).1 3
          have g4 : w5.cell? ⟨M, 4, none⟩ = some (.slice SA l Sc) := (rowc EM5.out).1 4
          obtain ⟨rn, fn⟩ := rowc EN5.out
          go_wp2_with (fail)
          generalize hwF : (((((w5.setCell ⟨w.heap.size, 0, none⟩ (.int .i64 4)).setCell ⟨w.heap.size, 1, none⟩ (.int .i64 0)).setCell ⟨w.heap.size, 2, none⟩ (.string ⟨#[]⟩)).setCell ⟨w.heap.size, 3, none⟩ (.int .i64 X)).setCell ⟨w.heap.size, 4, none⟩ (.slice SA l Sc)) = wF
          obtain ⟨rF, oF, bF⟩ := fill5 EN5.out hwF
          refine bodyPost_ret (v := .tuple #[vV 4 0 ⟨#[]⟩ X SA l Sc, .int .i64 (-1)]) ?_ rfl ?_
          · simp [results, Tryd.results24, go_sem, rF]
          · refine ⟨4, 0, ⟨#[]⟩, X, ks, vs, SA, Sc, (-1), by rw [HVL.out], ret_v HP5.out (by rw [HVL.out]; omega) hMN HX.out oF, bF _ _ (Nat.le_refl _) (bs HB.out HB5.out), .inr ⟨HON.out, rfl⟩⟩
        have hin : nums.inr kk 2 3 = true := by unfold nums.inr; simp; omega
        have IN1 := Lib.hid (fun w' => HIN.out w' true hin)
        clear hr4 hin HIN
        go_wp2_with (fail)
        refine (IN1.out _).mono ?_
        rintro e w6 ⟨rfl, rfl⟩
        go_wp2_with (fail)
        refine (HRE.out b4 _ hb4).mono ?_
        rintro e w6 ⟨xk, xn, xz, xx, xks, xvs, xA, xc, nx6, rfl, htx, hb6, hres6⟩
        have EX6 := Lib.hid (carry hb6 EX5.out)
        have EK6 := Lib.hid (carry hb6 EKH.out)
        have EM6 := Lib.hid (carry hb6 EM5.out)
        have EN6 := Lib.hid (carry hb6 EN5.out)
        have HB6 := Lib.hid (bs HB5.out hb6)
        have HSZ6 : Hid (w5.heap.size ≤ w6.heap.size) := Lib.hid hb6.size
        have HP6 : Hid (OwP w6 (M + 1) (.slice SA l Sc) xs ks vs) := Lib.hid (HP5.out.below hb6)
        have HTX := Lib.hid htx
        have HRES6 := Lib.hid hres6
        obtain ⟨xl, HXL⟩ : ∃ q, Hid (xvs.length = q) := ⟨_, Lib.hid rfl⟩
        rw [HXL.out] at HTX ⊢
        obtain ⟨rx6, fx6⟩ := rowc EX6.out
        clear htx hb6 hres6 k0
        go_upto_region 35 with fail
        generalize hw7 : (((((w6.setCell ⟨wr.heap.size + 1, 0, none⟩ (.int .i64 xk)).setCell ⟨wr.heap.size + 1, 1, none⟩ (.int .i64 xn)).setCell ⟨wr.heap.size + 1, 2, none⟩ (.string xz)).setCell ⟨wr.heap.size + 1, 3, none⟩ (.int .i64 xx)).setCell ⟨wr.heap.size + 1, 4, none⟩ (.slice xA xl xc)) = w7
        obtain ⟨r7, o7, b7⟩ := fill5 EX6.out hw7
        have hsz7 := (b7 0 w6 (Nat.zero_le _) (Below.refl 0 w6)).size
        have HB7 : Hid (Below wr.heap.size wr w7) := Lib.hid (b7 _ _ (by omega) HB6.out)
        have EK7 := Lib.hid ((o7 _ (by omega)).trans EK6.out)
        have EM7 := Lib.hid (carry HB7.out HEM.out)
        have EN7 := Lib.hid (carry HB7.out HEN.out)
        have HP7 : Hid (OwP w7 (M + 1) (.slice SA l Sc) xs ks vs) := Lib.hid (HP.out.below HB7.out)
        have EXH : Hid (w7.heap[wr.heap.size + 1]? = some (.cells #[.int .i64 xk, .int .i64 xn, .string xz, .int .i64 xx, .slice xA xl xc] IV (0, 0))) := Lib.hid (by
          rw [← hw7]
          have := set_heap (set_heap (set_heap (set_heap (set_heap EX6.out 0 (.int .i64 xk)) 1 (.int .i64 xn)) 2 (.string xz)) 3 (.int .i64 xx)) 4 (.slice xA xl xc)
          simpa using this)
        have HTX7 : Hid (TIn w7 (Nw w5.heap.size w7) (.mk xk xn xz xx xks xvs) (vV xk xn xz xx xA xl xc)) := Lib.hid (HTX.out.stays (fun b hb => ⟨hb.1, hb.2.same (o7 b (by have h1 := hb.1; have h2 := HZ5.out; omega))⟩) (fun b hb _ => o7 b (by have h1 := hb.1; have h2 := HZ5.out; omega)))
        have HZ7 : Hid (w5.heap.size ≤ w7.heap.size ∧ wr.heap.size + 1 < w7.heap.size) := Lib.hid ⟨by have h1 := (Array.getElem?_eq_some_iff.1 EX6.out).1; have h2 := hsz7; have h3 := HSZ6.out; omega, (Array.getElem?_eq_some_iff.1 EXH.out).1⟩
        have p0 : w7.cell? ⟨wr.heap.size, 0, none⟩ = some (.int .i64 kk) := (rowc EK7.out).1 0
        have p1 : w7.cell? ⟨wr.heap.size, 1, none⟩ = some (.int .i64 kn) := (rowc EK7.out).1 1
        have p2 : w7.cell? ⟨wr.heap.size, 2, none⟩ = some (.string kz) := (rowc EK7.out).1 2
        have p4 : ∀ o, (w7.alloc o).cell? ⟨M, 4, none⟩ = some (.slice SA l Sc) := fun o => (rowc (keepAlloc EM7.out)).1 4
        have x0 : ∀ o, (w7.alloc o).cell? ⟨wr.heap.size + 1, 0, none⟩ = some (.int .i64 xk) := fun o => (rowc (keepAlloc EXH.out)).1 0
        have x1 : ∀ o, (w7.alloc o).cell? ⟨wr.heap.size + 1, 1, none⟩ = some (.int .i64 xn) := fun o => (rowc (keepAlloc EXH.out)).1 1
        have x2 : ∀ o, (w7.alloc o).cell? ⟨wr.heap.size + 1, 2, none⟩ = some (.string xz) := fun o => (rowc (keepAlloc EXH.out)).1 2
        have x3 : ∀ o, (w7.alloc o).cell? ⟨wr.heap.size + 1, 3, none⟩ = some (.int .i64 xx) := fun o => (rowc (keepAlloc EXH.out)).1 3
        have x4 : ∀ o, (w7.alloc o).cell? ⟨wr.heap.size + 1, 4, none⟩ = some (.slice xA xl xc) := fun o => (rowc (keepAlloc EXH.out)).1 4
        clear hw7 rx6 fx6 o7 b7 r7 hsz7
        have HKI : Hid (I64 kn ∧ kz.size ≤ maxLen) := Lib.hid (by obtain ⟨_, _, _, ⟨_, h2, _, h4⟩, -⟩ := HTK.out.out; exact ⟨h2, h4⟩)
        have hMz : M + 1 ≤ w7.heap.size := by have := HZ7.out.2; omega
        obtain ⟨yb, HYB, hyb⟩ : ∃ yb : Bool, Hid (yb = decide (kk = 3)) ∧ (kk == 3) = yb := by
          refine ⟨decide (kk = 3), Lib.hid rfl, ?_⟩
          rw [Bool.eq_iff_iff]; simp
        have HKK := Lib.hid hkk
        clear hkk
        have HOW : Hid (∀ o o', ((w7.alloc o).alloc o').ownsRow 0 IE 8 (.slice SA l Sc) l xs) := Lib.hid (fun o o' => by
          have := ((HP7.out.below (b1 w7 o)).below (b1 _ o')).1
          rwa [HVL.out] at this)
        obtain ⟨w8, HW8⟩ : ∃ q, Hid (w7.alloc (.cells #[.bool yb, .int .i64 kn, .string kz] IK) = q) := ⟨_, Lib.hid rfl⟩
        have HZ8 : Hid (w8.heap.size = w7.heap.size + 1) := Lib.hid (by rw [← HW8.out]; simp)
        have HEN8 := Lib.hid (eight_new w8 (.bool yb) (.int .i64 kn) (.string kz) (.int .i64 xk) (.int .i64 xn) (.string xz) (.int .i64 xx) (.slice xA xl xc) IE)
        rw [HZ8.out, ← HW8.out] at HEN8
        go_wp2_with (first
          | (at_builtin; go_loud (refine wpList_append_own_at _ rfl _ _ 28 rfl 0 IE i0 _ 8 96 Tryd.underlying28 HII.out HZZ.out.1 HZZ.out.2.1 HZZ.out.2.2 rfl (by decide) _ l xs rfl (HOW.out _ _) ⟨w7.heap.size + 1, 0, none⟩ 1 1 [.bool yb, .int .i64 kn, .string kz, .int .i64 xk, .int .i64 xn, .string xz, .int .i64 xx, .slice xA xl xc] rfl rfl HEN8.out (eight_one _ _ _ _ _ _ _ _ _ _) (by unfold maxLen; omega) (by omega) (Nat.zero_le _) ?_)
             intro v' w9 hown' hgrow' hnil hat'
             have HO9 := Lib.hid hown'
             have HG9 := Lib.hid hgrow'
             have HA9 := Lib.hid hat'
             have hMo : some M ≠ (Value.slice SA l Sc).ownBlock := fun e => by have := (HOB.out M e.symm).1; omega
             have HEM9 : Hid (w9.heap[M]? = some (.cells #[.int .i64 4, .int .i64 0, .string ⟨#[]⟩, .int .i64 X, .slice SA l Sc] IV (0, 0))) := Lib.hid ((hgrow'.block M (by simp; omega) hMo).trans (keepAlloc (keepAlloc EM7.out)))
             obtain ⟨rM9, fM9⟩ := rowc HEM9.out
             obtain ⟨g3, c3, rfl⟩ : ∃ g3 c3, v' = .slice (some ⟨g3, 0, none⟩) (l + 1) c3 := by
               rcases hown'.2 with ⟨-, h⟩ | ⟨g, cap, cur, h, -⟩
               · omega
               · exact ⟨g, cap, h⟩
             clear hown' hgrow' hnil hat' hMo)
          | fail)
        have hOB := HOB.out
        have hNo : some w.heap.size ≠ (Value.slice SA l Sc).ownBlock := fun e => by have := (hOB _ e.symm).1; omega
        have HP9 := Lib.hid (((HP7.out.below (b1 w7 (.cells #[.bool yb, .int .i64 kn, .string kz] IK))).below (b1 _ (.cells #[.bool yb, .int .i64 kn, .string kz, .int .i64 xk, .int .i64 xn, .string xz, .int .i64 xx, .slice xA xl xc] IE))).more (lq := w5.heap.size) (by have h1 := HZ5.out; omega) (fun b e => by have h1 := (hOB b e).2; have h2 := HZ5.out; omega) (y := ⟨yb, kn, kz⟩) (k := xk) (n := xn) (s := xz) (x := xx) (ks' := xks) (vs' := xvs) (A := xA) (c := xc) (v' := .slice (some ⟨g3, 0, none⟩) (l + 1) c3) HKI.out
          (by rw [HXL.out]; exact (HTX7.out.nwb (b1 w7 _)).nwb (b1 _ _)) (by rw [HVL.out, HXL.out]; exact HO9.out) HG9.out HA9.out (by simp; omega))
        have HB9 : Hid (Below w.heap.size w (w9.setCell ⟨M, 4, none⟩ (.slice (some ⟨g3, 0, none⟩) (l + 1) c3))) := Lib.hid ((((bs HB.out (HB7.out.trans ((b1 w7 (.cells #[.bool yb, .int .i64 kn, .string kz] IK)).mono (by have := HZ7.out.2; omega)))).alloc (by simp; omega) (.cells #[.bool yb, .int .i64 kn, .string kz, .int .i64 xk, .int .i64 xn, .string xz, .int .i64 xx, .slice xA xl xc] IE)).grown HG9.out (by simp; omega) (fun b e => by have := (hOB b e).1; omega)).setCell (by show w.heap.size ≤ M; omega) _)
        have HE9 : Hid ((w9.setCell ⟨M, 4, none⟩ (.slice (some ⟨g3, 0, none⟩) (l + 1) c3)).heap[w.heap.size]? = some (.cells #[.int .i64 0, .int .i64 0, .string ⟨#[]⟩, .int .i64 0, .slice none 0 0] IV (0, 0))) := Lib.hid ((set_other (by omega)).trans ((HG9.out.block _ (by simp; omega) hNo).trans (keepAlloc (keepAlloc EN7.out))))
        have HEM10 : Hid ((w9.setCell ⟨M, 4, none⟩ (.slice (some ⟨g3, 0, none⟩) (l + 1) c3)).heap[M]? = some (.cells #[.int .i64 4, .int .i64 0, .string ⟨#[]⟩, .int .i64 X, .slice (some ⟨g3, 0, none⟩) (l + 1) c3] IV (0, 0))) := Lib.hid (by have := set_heap HEM9.out 4 (.slice (some ⟨g3, 0, none⟩) (l + 1) c3); simpa using this)
        have HST9 : Hid (I64 nx6 ∧ ((∃ b' : Nat, nx6 = (b' : Int) ∧ b' ≤ L.length ∧ Itm (rdM f) (m - (jj + 1)) (L.drop b') (ks ++ [⟨yb, kn, kz⟩]) (vs ++ [.mk xk xn xz xx xks xvs]) = IT) ∨ (nx6 = -1 ∧ IT = none))) := Lib.hid (by
          have hky := kyM_some (k := kk) (n := kn) (s := kz) (x := kx) (ks := kks) (vs := kvs) HKK.out
          rw [← HYB.out] at hky
          rcases HRES6.out with ⟨b6, hr6, rfl, hb6⟩ | ⟨hr6, rfl⟩
          · exact ⟨by have := HLn.out; unfold I64; omega, .inl ⟨b6, rfl, hb6, by rw [← HQ.out, itm_step HHR4.out hky hr6]⟩⟩
          · exact ⟨by unfold I64; simp, .inr ⟨rfl, by rw [← HQ.out, itm_x HHR4.out hky hr6]⟩⟩)
        clear hOB hNo rM9 fM9 p0 p1 p2 p4 x0 x1 x2 x3 x4 hyb
        go_roundg (m - jj)
        case rel => exact ⟨jj + 1, nx6, _, _, _, _, by go_num, rfl, by omega, by omega, HST9.out.1, Lib.hid (by rw [List.length_append, List.length_singleton, HVL.out, HLJ.out]), Lib.hid (HP9.out.above fun b hb _ => set_other (by omega)), HEM10, HE9, HB9, Lib.hid HST9.out.2⟩
        case measure => omega

theorem take_two {L : List UInt8} {a : Nat} {x y : UInt8} {r : List UInt8} (h : L.drop a = x :: y :: r) : (L.drop a).take 2 = [x, y] := by rw [h]; rfl
theorem read_all (L : List UInt8) (hL : L.length ≤ 1048576) : ∀ (f deep a : Nat) (w : World), f + deep = 201 → a ≤ L.length → Calls Tryd.prog 24 #[.string (bz L), .int .i64 a, .int .i64 deep] w (RmQ L (rdM f (L.drop a)) w)
  | 0, deep, a, w, hfd, ha => by
    rw [rdM]
    exact read_end L hL a ha deep (by omega) (.inr (by omega)) w
  | f + 1, deep, a, w, hfd, ha => by
    by_cases h2 : a + 1 < L.length
    rotate_left
    · rw [rdM_short (by rw [List.length_drop]; omega)]
      exact read_end L hL a ha deep (by omega) (.inl (by omega)) w
    obtain ⟨x, y, hd⟩ := drop_two h2
    have hp := take_two hd
    by_cases hN : ([x, y] : List UInt8) = [78, 59]
    · have e : rdM (f + 1) (L.drop a) = some (leaf 0 0 ⟨#[]⟩, L.drop (a + 2)) := by
        injection hN with h1 h3; injection h3 with h3 h4
        rw [rdM]; unfold rdN; rw [hd, pf_pair, if_pos ⟨h1.symm, h3.symm⟩]
      rw [e]
      exact read_N L hL a h2 deep (by omega) (hp.trans hN) w
    by_cases hb : ([x, y] : List UInt8) = [98, 58]
    · have e : rdM (f + 1) (L.drop a) = (numM 59 (L.drop (a + 2))).map fun p => (leaf 1 p.1 ⟨#[]⟩, p.2) := by
        injection hb with h1 h3; injection h3 with h3 h4
        subst h1 h3
        rw [rdM]; unfold rdN; rw [hd, pf_pair, if_neg (by decide), pf_pair, if_pos ⟨rfl, rfl⟩]
      rw [e]
      exact read_b L hL a h2 deep (by omega) (hp.trans hb) w
    by_cases hi : ([x, y] : List UInt8) = [105, 58]
    · have e : rdM (f + 1) (L.drop a) = (numM 59 (L.drop (a + 2))).map fun p => (leaf 2 p.1 ⟨#[]⟩, p.2) := by
        injection hi with h1 h3; injection h3 with h3 h4
        subst h1 h3
        rw [rdM]; unfold rdN; rw [hd, pf_pair, if_neg (by decide), pf_pair, if_neg (by decide), pf_pair, if_pos ⟨rfl, rfl⟩]
      rw [e]
      exact read_i L hL a h2 deep (by omega) (hp.trans hi) w
    by_cases hs : ([x, y] : List UInt8) = [115, 58]
    · have e : rdM (f + 1) (L.drop a) = (txM (L.drop (a + 2))).map fun p => (leaf 3 0 (bz p.1), p.2) := by
        injection hs with h1 h3; injection h3 with h3 h4
        subst h1 h3
        rw [rdM]; unfold rdN; rw [hd, pf_pair, if_neg (by decide), pf_pair, if_neg (by decide), pf_pair, if_neg (by decide), pf_pair, if_pos ⟨rfl, rfl⟩]
      rw [e]
      exact read_t L hL a h2 deep (by omega) (hp.trans hs) w
    by_cases hA : ([x, y] : List UInt8) = [97, 58]
    · have e : rdM (f + 1) (L.drop a) = rdB (rdM f) (L.drop (a + 2)) := by
        injection hA with h1 h3; injection h3 with h3 h4
        subst h1 h3
        rw [rdM]; unfold rdN; rw [hd, pf_pair, if_neg (by decide), pf_pair, if_neg (by decide), pf_pair, if_neg (by decide), pf_pair, if_neg (by decide)]
        simp only
        rw [pf_pair, if_pos ⟨rfl, rfl⟩]
      rw [e]
      exact read_a f L hL a h2 deep (by omega) (hp.trans hA) (fun b w hb => read_all L hL f (deep + 1) b w (by omega) hb) w
    · have ne : ∀ (p q : UInt8), ¬ ([x, y] : List UInt8) = [p, q] → ¬ (p = x ∧ q = y) := fun p q h e => h (by rw [e.1, e.2])
      have e : rdM (f + 1) (L.drop a) = none := by
        rw [rdM]; unfold rdN; rw [hd, pf_pair, if_neg (ne _ _ hN), pf_pair, if_neg (ne _ _ hb), pf_pair, if_neg (ne _ _ hi), pf_pair, if_neg (ne _ _ hs)]
        simp only
        rw [pf_pair, if_neg (ne _ _ hA)]
      rw [e]
      exact read_x L hL a h2 deep (by omega) _ hp hN hb hi hs hA w

end Go.Proofs.YtdglmnmalfpipaaDoor.tree

/-
  Unserialize of the model.
  Conditions: those that each theorem names.
-/
namespace Go.Proofs.YtdglmnmalfpipaaDoor.tree
open Go.ChangeShapes Go.WideShapes Go.ChangeAt Go.RowKit
set_option linter.unusedVariables false

theorem numM_tot {c : UInt8} {n : Int} {l r : List UInt8} (h : numM c l = some (n, r)) : r.length + 1 ≤ l.length := by
  rw [numM_out h]
  simp only [List.length_append, List.length_cons]
  omega
theorem txM_tot {l d q : List UInt8} (h : txM l = some (d, q)) : d.length + q.length + 1 ≤ l.length := by
  rw [txM_out h]
  simp only [List.length_append, List.length_cons, List.length_nil]
  omega
theorem rdN_tot {l r : List UInt8} {t : Tr} (h : rdN l = some (some (t, r))) : tot t + r.length + 1 ≤ l.length := by
  have e0 : (⟨#[]⟩ : ByteArray).size = 0 := rfl
  unfold rdN at h
  split at h
  · rename_i r1 h1
    cases h
    have a := pf_tot h1
    simp only [List.length_cons, List.length_nil] at a
    rw [tot_leaf]
    omega
  · split at h
    · rename_i r1 h1
      obtain ⟨⟨n, r2⟩, h2, h3⟩ := Option.map_eq_some_iff.1 (Option.some.inj h)
      cases h3
      have a := pf_tot h1
      have b := numM_tot h2
      simp only [List.length_cons, List.length_nil] at a
      show tot (leaf 1 n ⟨#[]⟩) + r2.length + 1 ≤ _
      rw [tot_leaf]
      omega
    · split at h
      · rename_i r1 h1
        obtain ⟨⟨n, r2⟩, h2, h3⟩ := Option.map_eq_some_iff.1 (Option.some.inj h)
        cases h3
        have a := pf_tot h1
        have b := numM_tot h2
        simp only [List.length_cons, List.length_nil] at a
        show tot (leaf 2 n ⟨#[]⟩) + r2.length + 1 ≤ _
        rw [tot_leaf]
        omega
      · split at h
        · rename_i r1 h1
          obtain ⟨⟨d, r2⟩, h2, h3⟩ := Option.map_eq_some_iff.1 (Option.some.inj h)
          cases h3
          have a := pf_tot h1
          have b := txM_tot h2
          simp only [List.length_cons, List.length_nil] at a
          show tot (leaf 3 0 (bz d)) + r2.length + 1 ≤ _
          rw [tot_leaf, bz_size]
          omega
        · cases h
theorem kyM_tot {t : Tr} {y : Ky} (h : kyM t = some y) : y.str.size ≤ tot t := by
  obtain ⟨k, n, s, x, ks, vs⟩ := t
  replace h : (if k = 2 ∨ k = 3 then some (⟨decide (k = 3), n, s⟩ : Ky) else none) = some y := h
  by_cases hk : k = 2 ∨ k = 3
  · rw [if_pos hk] at h
    cases h
    show s.size ≤ _
    rw [tot]
    omega
  · rw [if_neg hk] at h
    cases h
theorem itM_tot {rd : List UInt8 → Option (Tr × List UInt8)} (hrd : ∀ l t r, rd l = some (t, r) → tot t + r.length + 1 ≤ l.length) : ∀ (n : Nat) (l : List UInt8) (ks : List Ky) (vs : List Tr) (r : List UInt8), itM rd n l = some (ks, vs, r) → vs.length + tots ks vs + r.length ≤ l.length
  | 0, l, ks, vs, r, h => by rw [itM] at h; cases h; simp [tots]
  | n + 1, l, ks, vs, r, h => by
    rw [itM] at h
    obtain ⟨⟨k, l1⟩, h1, h⟩ := Option.bind_eq_some_iff.1 h
    obtain ⟨y, hy, h⟩ := Option.bind_eq_some_iff.1 h
    obtain ⟨⟨t, l2⟩, h2, h⟩ := Option.bind_eq_some_iff.1 h
    obtain ⟨⟨ks', vs', r'⟩, h3, h⟩ := Option.map_eq_some_iff.1 h
    cases h
    have a : tot k + l1.length + 1 ≤ l.length := hrd _ _ _ h1
    have b : tot t + l2.length + 1 ≤ l1.length := hrd _ _ _ h2
    have c : vs'.length + tots ks' vs' + r'.length ≤ l2.length := itM_tot hrd n _ _ _ _ h3
    have d : y.str.size ≤ tot k := kyM_tot hy
    show (t :: vs').length + tots (y :: ks') (t :: vs') + r'.length ≤ l.length
    rw [tots_cons, List.length_cons]
    omega
theorem rdM_tot : ∀ (f : Nat) (l : List UInt8) (t : Tr) (r : List UInt8), rdM f l = some (t, r) → tot t + r.length + 1 ≤ l.length
  | 0, l, t, r, h => by rw [rdM] at h; cases h
  | f + 1, l, t, r, h => by
    rw [rdM] at h
    split at h
    · rename_i o ho
      subst h
      exact rdN_tot ho
    · split at h
      · rename_i r1 h1
        unfold rdB at h
        obtain ⟨⟨n, l1⟩, h2, h⟩ := Option.bind_eq_some_iff.1 h
        by_cases hn : 0 ≤ n ∧ n ≤ 200
        · simp only [hn, and_self, if_true] at h
          obtain ⟨⟨x, l2⟩, h3, h⟩ := Option.bind_eq_some_iff.1 h
          obtain ⟨⟨ks, vs, l3⟩, h4, h⟩ := Option.bind_eq_some_iff.1 h
          obtain ⟨e, h5, h⟩ := Option.map_eq_some_iff.1 h
          cases h
          have a := pf_tot h1
          have b := numM_tot h2
          have c := numM_tot h3
          have d : vs.length + tots ks vs + l3.length ≤ l2.length := itM_tot (rdM_tot f) _ _ _ _ _ h4
          have g := pf_tot h5
          have e0 : (⟨#[]⟩ : ByteArray).size = 0 := rfl
          simp only [List.length_cons, List.length_nil] at a b c d g
          show tot (.mk 4 0 ⟨#[]⟩ x ks vs) + _ + 1 ≤ _
          rw [tot, e0]
          show 0 + (vs.length + tots ks vs) + _ + 1 ≤ _
          omega
        · simp only [hn, if_false] at h
          cases h
      · cases h
theorem unM_no {l : List UInt8} (h : rdM 201 l = none) : unP l = none := by rw [← un_eq]; unfold unM; rw [h]; rfl
theorem unM_is {l r : List UInt8} {t : Tr} (h : rdM 201 l = some (t, r)) : unP l = if r = [] ∧ valB t = true then some t else none := by rw [← un_eq]; unfold unM; rw [h]; rfl

/-- What the model's Unserialize gives. -/
def UsQ (l : List UInt8) (w : World) (e : Ending) (w' : World) : Prop :=
  ∃ k n s x ks vs A c, e = .returned (.tuple #[vV k n s x A vs.length c, .bool (unB l)]) ∧ TIn w' (Nw w.heap.size w') (.mk k n s x ks vs) (vV k n s x A vs.length c) ∧ unT l = .mk k n s x ks vs ∧ Below w.heap.size w w'

set_option maxHeartbeats 4000000 in
set_option maxRecDepth 100000 in
theorem unserialize_s (L : List UInt8) (hL : L.length ≤ 1048576) (w : World) (hE : prs.Env w) : Calls Tryd.prog 10 #[.string (bz L)] w (UsQ L w) := by
  have RA0 := read_all L hL 201 0 0
  have RA : Hid (∀ w, Calls Tryd.prog 24 #[.string (bz L), .int .i64 0, .int .i64 0] w (RmQ L (rdM 201 L) w)) := Lib.hid (fun w => by have := RA0 w rfl (Nat.zero_le _); rw [List.drop_zero] at this; exact this)
  obtain ⟨UB, HUB⟩ : ∃ q, Hid (unB L = q) := ⟨_, Lib.hid rfl⟩
  obtain ⟨UT, HUT⟩ : ∃ q, Hid (unT L = q) := ⟨_, Lib.hid rfl⟩
  unfold UsQ
  rw [HUB.out, HUT.out]
  have HEN := Lib.hid hE
  clear hE RA0
  obtain ⟨z, HZ⟩ : ∃ z, Hid (bz L = z) := ⟨_, Lib.hid rfl⟩
  obtain ⟨Ln, HLn⟩ : ∃ n, Hid (L.length = n) := ⟨_, Lib.hid rfl⟩
  have hzs : z.size = Ln := by rw [← HZ.out, ← HLn.out]; rfl
  rw [HZ.out] at RA ⊢
  go_enter Tryd.func10, Tryd.ntmps10
  go_wp2_with (fail)
  refine (RA.out _).mono ?_
  rintro e w3 ⟨k, n, s, x, ks, vs, A, c, nx, rfl, htin, hb3, hres⟩
  have E3 := Lib.hid (carry hb3 (heap_alloc_new w _))
  have HB3 := Lib.hid (bs (b1 w _) hb3)
  have hnz : w.heap.size < (w.alloc (.cells #[.int .i64 0, .int .i64 0, .string ⟨#[]⟩, .int .i64 0, .slice none 0 0] IV)).heap.size := by simp
  have HT := Lib.hid (htin.stays (S' := fun b => w.heap.size < b ∧ Plain w3 b) (fun b hb => ⟨Nat.lt_of_lt_of_le hnz hb.1, hb.2⟩) (fun _ _ _ => rfl))
  have HRES := Lib.hid hres
  obtain ⟨l, HL⟩ : ∃ q, Hid (vs.length = q) := ⟨_, Lib.hid rfl⟩
  rw [HL.out] at HT ⊢
  have HE4 : Hid (∀ o wz, Below (w3.alloc o).heap.size (w3.alloc o) wz → wz.heap[w.heap.size]? = some (.cells #[.int .i64 0, .int .i64 0, .string ⟨#[]⟩, .int .i64 0, .slice none 0 0] IV (0, 0))) := Lib.hid (fun o wz hb => carry hb (keepAlloc E3.out))
  clear htin hb3 hres hnz
  have hno : UB = false → UT = nulT → ∀ wz, Below w3.heap.size w3 wz → ∀ wF, (((((wz.setCell ⟨w.heap.size, 0, none⟩ (.int .i64 0)).setCell ⟨w.heap.size, 1, none⟩ (.int .i64 0)).setCell ⟨w.heap.size, 2, none⟩ (.string ⟨#[]⟩)).setCell ⟨w.heap.size, 3, none⟩ (.int .i64 0)).setCell ⟨w.heap.size, 4, none⟩ (.slice none 0 0)) = wF →
      (∀ j, wF.cell? ⟨w.heap.size, j, none⟩ = (#[.int .i64 0, .int .i64 0, .string ⟨#[]⟩, .int .i64 0, .slice none 0 0] : Array Value)[j]?) ∧ ∃ k n s x ks vs A c, Ending.returned (.tuple #[vV 0 0 ⟨#[]⟩ 0 none 0 0, .bool false]) = .returned (.tuple #[vV k n s x A vs.length c, .bool UB]) ∧ TIn wF (Nw w.heap.size wF) (.mk k n s x ks vs) (vV k n s x A vs.length c) ∧ UT = .mk k n s x ks vs ∧ Below w.heap.size w wF := fun h1 h2 wz hb wF hwF => by
    obtain ⟨rF, oF, bF⟩ := fill5 (carry hb E3.out) hwF
    exact ⟨rF, 0, 0, ⟨#[]⟩, 0, [], [], none, 0, by rw [h1]; rfl, leaf_tin (by decide) i64_zero (Nat.zero_le _), h2, bF _ _ (Nat.le_refl _) (bs HB3.out hb)⟩
  have HNO := Lib.hid hno
  clear hno
  by_cases hnx : nx = (Ln : Int)
  · subst hnx
    have hp : rdM 201 L = some (.mk k n s x ks vs, []) := by
      rcases HRES.out with ⟨b, h1, h2, h3⟩ | ⟨_, h⟩
      · rw [h1, show L.drop b = [] from List.drop_eq_nil_of_le (by rw [HLn.out]; omega)]
      · omega
    have hu := unM_is hp
    have htot := rdM_tot _ _ _ _ hp
    have IV2 := Lib.hid (fun w' hE S h => show Calls _ _ _ _ (BoQ w' (valB (.mk k n s x ks vs))) from isValue_s (.mk k n s x ks vs) (by simp only [List.length_nil] at htot; omega) w' S (vV k n s x A l c) hE h)
    obtain ⟨q, HQ⟩ : ∃ q, Hid (valB (.mk k n s x ks vs) = q) := ⟨_, Lib.hid rfl⟩
    rw [HQ.out] at IV2 hu
    have IV3 : Hid (∀ o, Calls Tryd.prog 15 #[vV k n s x A l c] (w3.alloc o) (BoQ (w3.alloc o) q)) := Lib.hid (fun o => IV2.out _ (HEN.out.stays (bs HB3.out (b1 w3 o))) _ (HT.out.below' (b1 w3 o)))
    clear hp htot
    cases q with
    | false =>
      have HU1 : Hid (UB = false) := Lib.hid (by rw [← HUB.out]; unfold unB; rw [hu]; rfl)
      have HU2 : Hid (UT = nulT) := Lib.hid (by rw [← HUT.out]; unfold unT; rw [hu]; rfl)
      clear hu
      go_wp2_with (fail)
      refine (IV3.out _).mono ?_
      rintro e w4 ⟨rfl, hb4⟩
      have HB4 := Lib.hid (bs (b1 w3 _) hb4)
      obtain ⟨r4, f4⟩ := rowc (HE4.out _ _ hb4)
      clear hb4
      go_wp2_with (fail)
      generalize hwF : (((((w4.setCell ⟨w.heap.size, 0, none⟩ (.int .i64 0)).setCell ⟨w.heap.size, 1, none⟩ (.int .i64 0)).setCell ⟨w.heap.size, 2, none⟩ (.string ⟨#[]⟩)).setCell ⟨w.heap.size, 3, none⟩ (.int .i64 0)).setCell ⟨w.heap.size, 4, none⟩ (.slice none 0 0)) = wF
      obtain ⟨rF, hv⟩ := HNO.out HU1.out HU2.out w4 HB4.out wF hwF
      refine bodyPost_ret (v := .tuple #[vV 0 0 ⟨#[]⟩ 0 none 0 0, .bool false]) ?_ rfl hv
      simp [results, Tryd.results10, go_sem, rF]
    | true =>
      have HU1 : Hid (true = UB) := Lib.hid (by rw [← HUB.out]; unfold unB; rw [hu]; rfl)
      have HU2 : Hid (UT = .mk k n s x ks vs) := Lib.hid (by rw [← HUT.out]; unfold unT; rw [hu]; rfl)
      have EK : Hid (∀ wz, Below (w3.alloc (.cells #[.int .i64 k, .int .i64 n, .string s, .int .i64 x, .slice A l c] IV)).heap.size (w3.alloc (.cells #[.int .i64 k, .int .i64 n, .string s, .int .i64 x, .slice A l c] IV)) wz → wz.heap[w3.heap.size]? = some (.cells #[.int .i64 k, .int .i64 n, .string s, .int .i64 x, .slice A l c] IV (0, 0))) := Lib.hid (fun wz hb => carry hb (heap_alloc_new w3 _))
      clear hu
      go_wp2_with (fail)
      refine (IV3.out _).mono ?_
      rintro e w4 ⟨rfl, hb4⟩
      have HB4 := Lib.hid (bs (b1 w3 _) hb4)
      obtain ⟨rk, fk⟩ := rowc (EK.out _ hb4)
      have E4 := Lib.hid (HE4.out _ _ hb4)
      obtain ⟨rn, fn⟩ := rowc E4.out
      clear hb4
      go_wp2_with (fail)
      generalize hwF : (((((w4.setCell ⟨w.heap.size, 0, none⟩ (.int .i64 k)).setCell ⟨w.heap.size, 1, none⟩ (.int .i64 n)).setCell ⟨w.heap.size, 2, none⟩ (.string s)).setCell ⟨w.heap.size, 3, none⟩ (.int .i64 x)).setCell ⟨w.heap.size, 4, none⟩ (.slice A l c)) = wF
      obtain ⟨rF, oF, bF⟩ := fill5 E4.out hwF
      refine bodyPost_ret (v := .tuple #[vV k n s x A l c, .bool true]) ?_ rfl ?_
      · simp [results, Tryd.results10, go_sem, rF]
      · refine ⟨k, n, s, x, ks, vs, A, c, by rw [HL.out, ← HU1.out], ?_, HU2.out, bF _ _ (Nat.le_refl _) (bs HB3.out HB4.out)⟩
        rw [HL.out]
        exact (HT.out.below' HB4.out).stays (fun b hb => ⟨Nat.le_of_lt hb.1, (hb.2.same (HB4.out.block b hb.2.lt)).same (oF b (by have := hb.1; omega))⟩) (fun b hb _ => oF b (by have := hb.1; omega))
  · have hu : unP L = none := by
      rcases HRES.out with ⟨b, h1, rfl, h3⟩ | ⟨h, _⟩
      · rw [unM_is h1, if_neg (fun h => hnx (by have := congrArg List.length h.1; rw [List.length_drop, List.length_nil] at this; have := HLn.out; omega))]
      · exact unM_no h
    have HU1 : Hid (UB = false) := Lib.hid (by rw [← HUB.out]; unfold unB; rw [hu]; rfl)
    have HU2 : Hid (UT = nulT) := Lib.hid (by rw [← HUT.out]; unfold unT; rw [hu]; rfl)
    have hb1 : (nx == (Ln : Int)) = false := by rw [beq_eq_false_iff_ne]; exact hnx
    have hb2 : (nx != (Ln : Int)) = true := by simp [hnx]
    obtain ⟨r3, f3⟩ := rowc E3.out
    have r3o : ∀ o j, (w3.alloc o).cell? ⟨w.heap.size, j, none⟩ = _ := fun o j => (rowc (keepAlloc (o' := o) E3.out)).1 j
    have f3o : ∀ o j, (w3.alloc o).frozen? ⟨w.heap.size, j, none⟩ = _ := fun o j => (rowc (keepAlloc (o' := o) E3.out)).2 j
    clear hu
    go_wp2_with (fail)
    generalize hwF : ((((((w3.alloc (.cells #[.int .i64 k, .int .i64 n, .string s, .int .i64 x, .slice A l c] IV)).setCell ⟨w.heap.size, 0, none⟩ (.int .i64 0)).setCell ⟨w.heap.size, 1, none⟩ (.int .i64 0)).setCell ⟨w.heap.size, 2, none⟩ (.string ⟨#[]⟩)).setCell ⟨w.heap.size, 3, none⟩ (.int .i64 0)).setCell ⟨w.heap.size, 4, none⟩ (.slice none 0 0)) = wF
    obtain ⟨rF, hv⟩ := HNO.out HU1.out HU2.out _ (b1 w3 _) wF hwF
    refine bodyPost_ret (v := .tuple #[vV 0 0 ⟨#[]⟩ 0 none 0 0, .bool false]) ?_ rfl hv
    simp [results, Tryd.results10, go_sem, rF]

end Go.Proofs.YtdglmnmalfpipaaDoor.tree

/-
  Values whose lists lie each in a block of its own, whichever of two blocks is the older one: every block knows where it hangs, and a rank grows from there.
  Conditions: those that each theorem names.
-/
namespace Go.Proofs.YtdglmnmalfpipaaDoor.tree
open Go.ChangeShapes Go.WideShapes Go.ChangeAt Go.RowKit
set_option linter.unusedVariables false

/-- The value is the tree; its lists lie in blocks of their own, and par says of each block in which block and at which item it hangs. -/
inductive TRk (w : World) (rk : Nat → Nat) (par : Nat → Nat × Nat) : Nat × Nat → Tr → Value → Prop
  | mk (here : Nat × Nat) (k n : Int) (s : ByteArray) (x : Int) (ks : List Ky) (vs : List Tr) (A : Option Addr) (cap g : Nat) (arr : Array Value)
      (K N X : Nat → Int) (Z : Nat → ByteArray) (D : Nat → Option Addr) (H : Nat → Nat)
      (hk : I64 k ∧ I64 n ∧ I64 x ∧ s.size ≤ maxLen) (hl : ks.length = vs.length) (hm : vs.length ≤ maxLen) (hcap : vs.length ≤ cap ∧ cap ≤ maxLen)
      (hg : 0 < vs.length → A = some ⟨g, 0, none⟩ ∧ par g = here ∧ rk here.1 < rk g ∧ w.heap[g]? = some (.cells arr IE (0, 0)) ∧ vs.length * 8 ≤ arr.size)
      (hc : ∀ (i : Nat) (hi : i < vs.length), (I64 (ks[i]'(hl ▸ hi)).num ∧ (ks[i]'(hl ▸ hi)).str.size ≤ maxLen) ∧ ∃ L, At8r arr i (ks[i]'(hl ▸ hi)) (K i) (N i) (Z i) (X i) (D i) L (H i))
      (ht : ∀ (i : Nat) (hi : i < vs.length), ∀ L, At8r arr i (ks[i]'(hl ▸ hi)) (K i) (N i) (Z i) (X i) (D i) L (H i) → TRk w rk par (g, i) (vs[i]) (vV (K i) (N i) (Z i) (X i) (D i) L (H i))) :
      TRk w rk par here (.mk k n s x ks vs) (vV k n s x A vs.length cap)

/-- A row of items in block g, each of which is its tree. -/
def PBlkR (w : World) (rk : Nat → Nat) (par : Nat → Nat × Nat) (g : Nat) (ks : List Ky) (vs : List Tr) : Prop :=
  ∃ arr, w.heap[g]? = some (.cells arr IE (0, 0)) ∧ vs.length * 8 ≤ arr.size ∧ ∀ i, i < vs.length → ∃ y k n s x ks' vs' A c, ks[i]? = some y ∧ vs[i]? = some (.mk k n s x ks' vs') ∧ (I64 y.num ∧ y.str.size ≤ maxLen) ∧
    At8r arr i y k n s x A vs'.length c ∧ TRk w rk par (g, i) (.mk k n s x ks' vs') (vV k n s x A vs'.length c)

section
variable {w w' : World} {rk : Nat → Nat} {par : Nat → Nat × Nat} {here : Nat × Nat}

theorem TRk.out {k n x : Int} {s : ByteArray} {ks : List Ky} {vs : List Tr} {v : Value} (h : TRk w rk par here (.mk k n s x ks vs) v) :
    ∃ A c, v = vV k n s x A vs.length c ∧ (I64 k ∧ I64 n ∧ I64 x ∧ s.size ≤ maxLen) ∧ ks.length = vs.length ∧ (vs.length ≤ c ∧ c ≤ maxLen) ∧ (0 < vs.length → ∃ g, A = some ⟨g, 0, none⟩ ∧ par g = here ∧ rk here.1 < rk g ∧ PBlkR w rk par g ks vs) := by
  cases h with
  | mk _ _ _ _ _ _ _ A cap g arr K N X Z D H hk hl hm hcap hg hc ht =>
    refine ⟨A, cap, rfl, hk, hl, hcap, fun h0 => ?_⟩
    obtain ⟨hA, hp, hlt, hb, hs⟩ := hg h0
    refine ⟨g, hA, hp, hlt, arr, hb, hs, fun i hi => ?_⟩
    obtain ⟨hy, L, hL⟩ := hc i hi
    have h := ht i hi L hL
    generalize hv : vs[i] = t at h
    obtain ⟨k', n', s', x', ks', vs'⟩ := t
    cases h with
    | mk _ _ _ _ _ _ _ A' cap' g' arr' K' N' X' Z' D' H' hk' hl' hm' hcap' hg' hc' ht' =>
      exact ⟨_, _, _, _, _, ks', vs', _, _, List.getElem?_eq_getElem _, by rw [List.getElem?_eq_getElem hi, hv], hy, hL, .mk _ _ _ _ _ _ _ _ _ _ _ K' N' X' Z' D' H' hk' hl' hm' hcap' hg' hc' ht'⟩

theorem TRk.of {k n x : Int} {s : ByteArray} {ks : List Ky} {vs : List Tr} {A : Option Addr} {c : Nat} (hk : I64 k ∧ I64 n ∧ I64 x ∧ s.size ≤ maxLen) (hl : ks.length = vs.length) (hcap : vs.length ≤ c ∧ c ≤ maxLen)
    (h : 0 < vs.length → ∃ g, A = some ⟨g, 0, none⟩ ∧ par g = here ∧ rk here.1 < rk g ∧ PBlkR w rk par g ks vs) : TRk w rk par here (.mk k n s x ks vs) (vV k n s x A vs.length c) := by
  by_cases h0 : 0 < vs.length
  · obtain ⟨g, hA, hp, hlt, arr, hb, hs, hi⟩ := h h0
    have pick : ∃ (K N X : Nat → Int) (Z : Nat → ByteArray) (D : Nat → Option Addr) (H : Nat → Nat), ∀ (i : Nat) (hi : i < vs.length), (I64 (ks[i]'(hl ▸ hi)).num ∧ (ks[i]'(hl ▸ hi)).str.size ≤ maxLen) ∧ ∃ L, At8r arr i (ks[i]'(hl ▸ hi)) (K i) (N i) (Z i) (X i) (D i) L (H i) ∧ TRk w rk par (g, i) (vs[i]) (vV (K i) (N i) (Z i) (X i) (D i) L (H i)) := by
      have each : ∀ i, ∃ (K N X : Int) (Z : ByteArray) (D : Option Addr) (H : Nat), ∀ (hi : i < vs.length), (I64 (ks[i]'(hl ▸ hi)).num ∧ (ks[i]'(hl ▸ hi)).str.size ≤ maxLen) ∧ ∃ L, At8r arr i (ks[i]'(hl ▸ hi)) K N Z X D L H ∧ TRk w rk par (g, i) (vs[i]) (vV K N Z X D L H) := by
        intro i
        by_cases hlt : i < vs.length
        · obtain ⟨y, k', n', s', x', ks', vs', A', c', hy, ht, hyb, hc, htp⟩ := hi i hlt
          have ey : ks[i]'(hl ▸ hlt) = y := by rw [List.getElem?_eq_getElem (hl ▸ hlt)] at hy; exact Option.some.inj hy
          have et : vs[i] = .mk k' n' s' x' ks' vs' := by rw [List.getElem?_eq_getElem hlt] at ht; exact Option.some.inj ht
          exact ⟨k', n', x', s', A', c', fun _ => by rw [ey, et]; exact ⟨hyb, _, hc, htp⟩⟩
        · exact ⟨0, 0, 0, ⟨#[]⟩, none, 0, fun h => absurd h hlt⟩
      refine ⟨fun i => (each i).choose, fun i => (each i).choose_spec.choose, fun i => (each i).choose_spec.choose_spec.choose, fun i => (each i).choose_spec.choose_spec.choose_spec.choose, fun i => (each i).choose_spec.choose_spec.choose_spec.choose_spec.choose, fun i => (each i).choose_spec.choose_spec.choose_spec.choose_spec.choose_spec.choose, fun i hi => ?_⟩
      exact (each i).choose_spec.choose_spec.choose_spec.choose_spec.choose_spec.choose_spec hi
    obtain ⟨K, N, X, Z, D, H, hp2⟩ := pick
    refine .mk here k n s x ks vs A c g arr K N X Z D H hk hl (by omega) hcap (fun _ => ⟨hA, hp, hlt, hb, hs⟩) (fun i hi => ⟨(hp2 i hi).1, ?_⟩) (fun i hi L hL => ?_)
    · obtain ⟨L, h1, _⟩ := (hp2 i hi).2
      exact ⟨L, h1⟩
    · obtain ⟨L', h1, h2⟩ := (hp2 i hi).2
      obtain ⟨-, -, -, -, -, -, rfl, -⟩ := at8r_inj hL h1
      exact h2
  · exact .mk here k n s x ks vs A c 0 #[] (fun _ => 0) (fun _ => 0) (fun _ => 0) (fun _ => ⟨#[]⟩) (fun _ => none) (fun _ => 0) hk hl (by omega) hcap (fun h => absurd h h0) (fun i hi => absurd hi (by omega)) (fun i hi => absurd hi (by omega))

/-- The blocks that hang, over others or not, at item h.2 of block h.1. -/
inductive HangR (rk : Nat → Nat) (par : Nat → Nat × Nat) (h : Nat × Nat) : Nat → Prop
  | root (b : Nat) (e : par b = h) (hlt : rk h.1 < rk b) : HangR rk par h b
  | step (b g i : Nat) (e : par b = (g, i)) (hlt : rk g < rk b) (hh : HangR rk par h g) : HangR rk par h b
theorem HangR.gt {b : Nat} (h : HangR rk par here b) : rk here.1 < rk b := by
  induction h with
  | root b e hlt => exact hlt
  | step b g i e hlt hh ih => omega
theorem HangR.sub {g i b : Nat} (h : HangR rk par (g, i) b) (hp : par g = here) (hlt : rk here.1 < rk g) : HangR rk par here b := by
  induction h with
  | root b e hlt' => exact .step b g i e hlt' (.root g hp hlt)
  | step b g' i' e hlt' hh ih => exact .step b g' i' e hlt' ih
theorem HangR.disj {g i j b : Nat} (h : HangR rk par (g, i) b) (h' : HangR rk par (g, j) b) : i = j := by
  induction h with
  | root b e hlt =>
    cases h' with
    | root _ e' _ => rw [e] at e'; injection e'
    | step _ g' i' e' hlt' hh => rw [e] at e'; injection e' with e1 e2; subst e1; have := hh.gt; simp at this
  | step b g' i' e hlt hh ih =>
    cases h' with
    | root _ e' _ => rw [e] at e'; injection e' with e1 e2; subst e1; have := hh.gt; simp at this
    | step _ g2 i2 e' hlt' hh' => rw [e] at e'; injection e' with e1 e2; subst e1; exact ih hh'

/-- What hangs there stays. -/
theorem TRk.stays {t : Tr} {v : Value} (h : TRk w rk par here t v) (hs : ∀ b, HangR rk par here b → w'.heap[b]? = w.heap[b]?) : TRk w' rk par here t v := by
  induction h with
  | mk here k n s x ks vs A cap g arr K N X Z D H hk hl hm hcap hg hc ht ih =>
    by_cases h0 : 0 < vs.length
    · obtain ⟨hA, hp, hlt, hb, hs2⟩ := hg h0
      refine .mk here k n s x ks vs A cap g arr K N X Z D H hk hl hm hcap (fun _ => ⟨hA, hp, hlt, (hs g (.root g hp hlt)).trans hb, hs2⟩) hc (fun i hi L hL => ih i hi L hL fun b hb => hs b (hb.sub hp hlt))
    · exact .mk here k n s x ks vs A cap g arr K N X Z D H hk hl hm hcap (fun h => absurd h h0) hc (fun i hi => absurd hi (by omega))
/-- par matters for the blocks that are there alone. -/
theorem TRk.par_ {par' : Nat → Nat × Nat} {t : Tr} {v : Value} (h : TRk w rk par here t v) (hs : ∀ b, b < w.heap.size → par' b = par b) : TRk w rk par' here t v := by
  induction h with
  | mk here k n s x ks vs A cap g arr K N X Z D H hk hl hm hcap hg hc ht ih =>
    by_cases h0 : 0 < vs.length
    · obtain ⟨hA, hp, hlt, hb, hs2⟩ := hg h0
      refine .mk here k n s x ks vs A cap g arr K N X Z D H hk hl hm hcap (fun _ => ⟨hA, (hs g (Array.getElem?_eq_some_iff.1 hb).1).trans hp, hlt, hb, hs2⟩) hc ih
    · exact .mk here k n s x ks vs A cap g arr K N X Z D H hk hl hm hcap (fun h => absurd h h0) hc (fun i hi => absurd hi (by omega))
/-- Other words at the head. -/
theorem TRk.head {k n x k' n' x' : Int} {s s' : ByteArray} {ks : List Ky} {vs : List Tr} {A : Option Addr} {L c : Nat} (h : TRk w rk par here (.mk k n s x ks vs) (vV k n s x A L c)) (hk : I64 k' ∧ I64 n' ∧ I64 x' ∧ s'.size ≤ maxLen) :
    TRk w rk par here (.mk k' n' s' x' ks vs) (vV k' n' s' x' A L c) := by
  obtain ⟨A', c', e, -, h2, h3, h4⟩ := h.out
  simp [vV] at e
  obtain ⟨rfl, rfl, rfl⟩ := e
  exact TRk.of hk h2 h3 h4

theorem TRk.tin {t : Tr} {v : Value} (h : TRk w rk par here t v) : TIn w (Nw 0 w) t v := by
  induction h with
  | mk here k n s x ks vs A cap g arr K N X Z D H hk hl hm hcap hg hc ht ih =>
    by_cases h0 : 0 < vs.length
    · obtain ⟨hA, hp, hlt, hb, hs2⟩ := hg h0
      have each : ∀ i (hi : i < vs.length), ∃ L, At8r arr i (ks[i]'(hl ▸ hi)) (K i) (N i) (Z i) (X i) (D i) L (H i) := fun i hi => (hc i hi).2
      refine .mk k n s x ks vs A cap (fun i => if hi : i < vs.length then #[.int .i64 (K i), .int .i64 (N i), .string (Z i), .int .i64 (X i), .slice (D i) (each i hi).choose (H i)] else #[]) hk hl hm hcap (fun i hi => ?_) (fun i hi => ?_)
      · have hL := (each i hi).choose_spec
        have at_ : ∀ q, q < 8 → w.cell? ((⟨g, 0, none⟩ : Addr).add (8 * i + q)) = (eV (ks[i]'(hl ▸ hi)) (K i) (N i) (Z i) (X i) (D i) (each i hi).choose (H i)).cells[q]? := fun q hq => by
          rw [Addr.add_lit, Nat.zero_add, cell_of_row w g _ arr IE _ hb, ← hL q hq, Nat.mul_comm]
        refine ⟨⟨g, 0, none⟩, hA, ⟨Nat.zero_le _, arr, IE, hb⟩, ⟨at_ 0 (by omega), at_ 1 (by omega), at_ 2 (by omega), (hc i hi).1⟩, by simp only [dif_pos hi]; rfl, fun j hj => ?_⟩
        rw [at_ (3 + j) (by omega)]
        simp only [dif_pos hi]
        match j, hj with
        | 0, _ => rfl
        | 1, _ => rfl
        | 2, _ => rfl
        | 3, _ => rfl
        | 4, _ => rfl
      · simp only [dif_pos hi]
        exact ih i hi _ (each i hi).choose_spec
    · exact .mk k n s x ks vs A cap (fun _ => #[]) hk hl hm hcap (fun i hi => absurd hi (by omega)) (fun i hi => absurd hi (by omega))
/-- What hangs there, and is there, stays. -/
theorem TRk.keep {t : Tr} {v : Value} (h : TRk w rk par here t v) (hs : ∀ b, HangR rk par here b → b < w.heap.size → w'.heap[b]? = w.heap[b]?) : TRk w' rk par here t v := by
  induction h with
  | mk here k n s x ks vs A cap g arr K N X Z D H hk hl hm hcap hg hc ht ih =>
    by_cases h0 : 0 < vs.length
    · obtain ⟨hA, hp, hlt, hb, hs2⟩ := hg h0
      refine .mk here k n s x ks vs A cap g arr K N X Z D H hk hl hm hcap (fun _ => ⟨hA, hp, hlt, (hs g (.root g hp hlt) (Array.getElem?_eq_some_iff.1 hb).1).trans hb, hs2⟩) hc (fun i hi L hL => ih i hi L hL fun b hb => hs b (hb.sub hp hlt))
    · exact .mk here k n s x ks vs A cap g arr K N X Z D H hk hl hm hcap (fun h => absurd h h0) hc (fun i hi => absurd hi (by omega))
end

end Go.Proofs.YtdglmnmalfpipaaDoor.tree

/-
  Values that lie in blocks of their own, whichever is the older one; a row of the call's own that holds such values, made by append.
  Conditions: those that each theorem names.
-/
namespace Go.Proofs.YtdglmnmalfpipaaDoor.tree
open Go.ChangeShapes Go.WideShapes Go.ChangeAt Go.RowKit
set_option linter.unusedVariables false

section
variable {w w' : World} {rk rk' : Nat → Nat} {par par' : Nat → Nat × Nat} {here here' : Nat × Nat}
/-- Other ranks and other places, alike. -/
theorem TRk.inner {c : Nat} {t : Tr} {v : Value} (h : TRk w rk par here t v) (h0 : rk here.1 ≠ 0) (hp : ∀ b, rk b ≠ 0 → rk (par b).1 ≠ 0 → par' b = par b) (hr : ∀ b, rk b ≠ 0 → rk' b = rk b + c) : TRk w rk' par' here t v := by
  induction h with
  | mk here k n s x ks vs A cap g arr K N X Z D H hk hl hm hcap hg hc ht ih =>
    by_cases hz : 0 < vs.length
    · obtain ⟨hA, hpg, hlt, hb, hs2⟩ := hg hz
      have hg0 : rk g ≠ 0 := by omega
      refine .mk here k n s x ks vs A cap g arr K N X Z D H hk hl hm hcap (fun _ => ⟨hA, (hp g hg0 (by rw [hpg]; exact h0)).trans hpg, ?_, hb, hs2⟩) hc (fun i hi L hL => ih i hi L hL hg0)
      rw [hr _ h0, hr _ hg0]
      omega
    · exact .mk here k n s x ks vs A cap g arr K N X Z D H hk hl hm hcap (fun h => absurd h hz) hc (fun i hi => absurd hi (by omega))
theorem TRk.outer {c : Nat} {t : Tr} {v : Value} (h : TRk w rk par here t v) (h0 : rk here.1 = 0) (hp : ∀ b, rk b ≠ 0 → par' b = if par b = here then here' else par b) (hr : ∀ b, rk b ≠ 0 → rk' b = rk b + c) (hc' : rk' here'.1 ≤ c) : TRk w rk' par' here' t v := by
  cases h with
  | mk _ k n s x ks vs A cap g arr K N X Z D H hk hl hm hcap hg hc ht =>
    by_cases hz : 0 < vs.length
    · obtain ⟨hA, hpg, hlt, hb, hs2⟩ := hg hz
      have hg0 : rk g ≠ 0 := by omega
      refine .mk here' k n s x ks vs A cap g arr K N X Z D H hk hl hm hcap (fun _ => ⟨hA, (hp g hg0).trans (if_pos hpg), ?_, hb, hs2⟩) hc (fun i hi L hL => (ht i hi L hL).inner (c := c) hg0 (fun b hb0 hb1 => ?_) hr)
      · rw [hr _ hg0]; omega
      · rw [hp b hb0, if_neg]
        intro e
        rw [e] at hb1
        exact hb1 h0
    · exact .mk here' k n s x ks vs A cap g arr K N X Z D H hk hl hm hcap (fun h => absurd h hz) hc (fun i hi => absurd hi (by omega))
theorem HangR.nz {b : Nat} (h : HangR rk par here b) : rk b ≠ 0 := by
  cases h with
  | root _ e hlt => omega
  | step _ g i e hlt hh => omega
end

/-- The value is the tree, in blocks of its own, all of them in F. -/
def FIn (w : World) (F : Nat → Prop) (t : Tr) (v : Value) : Prop := ∃ rk par here, TRk w rk par here t v ∧ rk here.1 = 0 ∧ ∀ b, rk b ≠ 0 → F b
section
variable {w w' : World} {F F' : Nat → Prop} {t : Tr} {v : Value}
theorem FIn.keep (h : FIn w F t v) (hs : ∀ b, F b → b < w.heap.size → w'.heap[b]? = w.heap[b]?) : FIn w' F t v := by
  obtain ⟨rk, par, here, h1, h2, h3⟩ := h
  exact ⟨rk, par, here, h1.keep fun b hb hlt => hs b (h3 b hb.nz) hlt, h2, h3⟩
theorem FIn.below (h : FIn w F t v) (hb : Below w.heap.size w w') : FIn w' F t v := h.keep fun b _ hlt => hb.block b hlt
theorem FIn.mono (h : FIn w F t v) (hs : ∀ b, F b → F' b) : FIn w F' t v := by
  obtain ⟨rk, par, here, h1, h2, h3⟩ := h
  exact ⟨rk, par, here, h1, h2, fun b hb => hs b (h3 b hb)⟩
theorem FIn.tin (h : FIn w F t v) : TIn w (Nw 0 w) t v := by
  obtain ⟨rk, par, here, h1, h2, h3⟩ := h
  exact h1.tin
theorem FIn.leaf {k n x : Int} {s : ByteArray} (hk : I64 k ∧ I64 n ∧ I64 x ∧ s.size ≤ maxLen) (A : Option Addr) (c : Nat) (hc : c ≤ maxLen) : FIn w F (.mk k n s x [] []) (vV k n s x A 0 c) :=
  ⟨fun _ => 0, fun _ => (0, 0), (0, 0), TRk.of hk rfl ⟨Nat.zero_le _, hc⟩ (fun h => absurd h (by simp)), rfl, fun b h => absurd rfl h⟩
end

/-- A row of the call's own from lo on, made by append, whose values lie apart: those of item i in G i. -/
def FRow (w : World) (lo : Nat) (v : Value) (xs : List Value) (ks : List Ky) (vs : List Tr) (G : Nat → Nat → Prop) : Prop :=
  w.ownsRow lo IE 8 v vs.length xs ∧ ks.length = vs.length ∧ ∀ i, i < vs.length → ∃ y k n s x ks' vs' A c, ks[i]? = some y ∧ vs[i]? = some (.mk k n s x ks' vs') ∧ (I64 y.num ∧ y.str.size ≤ maxLen) ∧
    xAt8 xs i y k n s x A vs'.length c ∧ FIn w (G i) (.mk k n s x ks' vs') (vV k n s x A vs'.length c) ∧ ∀ b, G i b → (lo ≤ b ∧ b < w.heap.size ∧ v.ownBlock ≠ some b) ∧ ∀ j, j < i → ¬ G j b
section
variable {w w' : World} {lo : Nat} {v : Value} {xs : List Value} {ks : List Ky} {vs : List Tr} {G : Nat → Nat → Prop}
theorem FRow.nil (w : World) (lo : Nat) (G : Nat → Nat → Prop) : FRow w lo (.slice none 0 0) [] [] [] G := ⟨World.ownsRow_nil w lo _ 8, rfl, fun i hi => absurd hi (by simp)⟩
theorem FRow.len (h : FRow w lo v xs ks vs G) : ks.length = vs.length := h.2.1
theorem FRow.block (h : FRow w lo v xs ks vs G) : ∀ b, v.ownBlock = some b → lo ≤ b ∧ b < w.heap.size := fun b e => World.ownsRow.lt h.1 b e
theorem FRow.keep (h : FRow w lo v xs ks vs G) (hz : w.heap.size ≤ w'.heap.size) (hs : ∀ b, lo ≤ b → b < w.heap.size → w'.heap[b]? = w.heap[b]?) : FRow w' lo v xs ks vs G := by
  obtain ⟨h1, h2, h3⟩ := h
  refine ⟨⟨h1.1, ?_⟩, h2, fun i hi => ?_⟩
  · rcases h1.2 with h | ⟨g, cap, cur, e, hl, hg, hr⟩
    · exact .inl h
    · exact .inr ⟨g, cap, cur, e, hl, (hs g hl (Array.getElem?_eq_some_iff.1 hg).1).trans hg, hr⟩
  · obtain ⟨y, k, n, s, x, ks', vs', A, c, a1, a2, a3, a4, a5, a6⟩ := h3 i hi
    exact ⟨y, k, n, s, x, ks', vs', A, c, a1, a2, a3, a4, a5.keep fun b hb hlt => hs b (a6 b hb).1.1 hlt, fun b hb => ⟨⟨(a6 b hb).1.1, Nat.lt_of_lt_of_le (a6 b hb).1.2.1 hz, (a6 b hb).1.2.2⟩, (a6 b hb).2⟩⟩
theorem FRow.below (h : FRow w lo v xs ks vs G) (hb : Below w.heap.size w w') : FRow w' lo v xs ks vs G := h.keep hb.size fun b _ hl => hb.block b hl
theorem FRow.isin (h : FRow w lo v xs ks vs G) : ∃ A c, v = .slice A vs.length c ∧ (vs.length ≤ c ∧ c ≤ maxLen) := by
  rcases h.1.2 with ⟨rfl, h0'⟩ | ⟨g, cap, cur, rfl, hlo, hg, hnc, hcm, hsz, htk⟩
  · exact ⟨none, 0, by rw [h0'], by rw [h0']; exact ⟨Nat.zero_le _, Nat.zero_le _⟩⟩
  · exact ⟨_, _, rfl, hnc, hcm⟩
/-- One more, whose blocks are new: at lq or above, and not the row's. -/
theorem FRow.more (h : FRow w lo v xs ks vs G) {F : Nat → Prop}
    {y : Ky} {k n x : Int} {s : ByteArray} {ks' : List Ky} {vs' : List Tr} {A : Option Addr} {c : Nat} (hy : I64 y.num ∧ y.str.size ≤ maxLen) (ht : FIn w F (.mk k n s x ks' vs') (vV k n s x A vs'.length c))
    (hF : ∀ b, F b → (lo ≤ b ∧ b < w.heap.size ∧ v.ownBlock ≠ some b) ∧ ∀ j, j < vs.length → ¬ G j b)
    {v' : Value} (ho : w'.ownsRow lo IE 8 v' (vs.length + 1) (xs ++ [.bool y.text, .int .i64 y.num, .string y.str, .int .i64 k, .int .i64 n, .string s, .int .i64 x, .slice A vs'.length c])) (hg : w.grownBy w' v.ownBlock) (hat : v'.ownBlock = v.ownBlock ∨ v'.ownBlock = some w.heap.size) (hz : w.heap.size ≤ w'.heap.size) :
    FRow w' lo v' (xs ++ [.bool y.text, .int .i64 y.num, .string y.str, .int .i64 k, .int .i64 n, .string s, .int .i64 x, .slice A vs'.length c]) (ks ++ [y]) (vs ++ [.mk k n s x ks' vs']) (fun i => if i = vs.length then F else G i) := by
  obtain ⟨h1, h2, h3⟩ := h
  have hxl : xs.length = vs.length * 8 := h1.1
  have st : ∀ {t : Tr} {u : Value} {R : Nat → Prop}, (∀ b, R b → v.ownBlock ≠ some b) → FIn w R t u → FIn w' R t u := fun {t u R} hR h => h.keep fun b hb hlt => hg.block b hlt fun e => hR b hb e.symm
  have nb : ∀ b, (lo ≤ b ∧ b < w.heap.size ∧ v.ownBlock ≠ some b) → lo ≤ b ∧ b < w'.heap.size ∧ v'.ownBlock ≠ some b := fun b hb => ⟨hb.1, Nat.lt_of_lt_of_le hb.2.1 hz, fun e => by
    rcases hat with h | h
    · exact hb.2.2 (h ▸ e)
    · rw [h] at e; injection e with e; have := hb.2.1; omega⟩
  refine ⟨by rw [List.length_append]; exact ho, by rw [List.length_append, List.length_append, h2]; rfl, fun i hi => ?_⟩
  rw [List.length_append] at hi
  simp only [List.length_cons, List.length_nil] at hi
  by_cases e : i = vs.length
  · subst e
    refine ⟨y, k, n, s, x, ks', vs', A, c, by rw [List.getElem?_append_right (by omega), h2]; simp, by rw [List.getElem?_append_right (by omega)]; simp, hy, fun q hq => ?_, by show FIn w' (if vs.length = vs.length then F else G vs.length) _ _; rw [if_pos rfl]; exact st (fun b hb => (hF b hb).1.2.2) ht, fun b hb => ?_⟩
    · rw [List.getElem?_append_right (by omega), hxl, Nat.add_sub_cancel_left]
      match q, hq with
      | 0, _ => rfl
      | 1, _ => rfl
      | 2, _ => rfl
      | 3, _ => rfl
      | 4, _ => rfl
      | 5, _ => rfl
      | 6, _ => rfl
      | 7, _ => rfl
    · replace hb : (if vs.length = vs.length then F else G vs.length) b := hb
      rw [if_pos rfl] at hb
      exact ⟨nb b (hF b hb).1, fun j hj => by show ¬ (if j = vs.length then F else G j) b; rw [if_neg (by omega)]; exact (hF b hb).2 j hj⟩
  · obtain ⟨y1, k1, n1, s1, x1, ks1, vs1, A1, c1, a1, a2, a3, a4, a5, a6⟩ := h3 i (by omega)
    refine ⟨y1, k1, n1, s1, x1, ks1, vs1, A1, c1, by rw [List.getElem?_append_left (by omega)]; exact a1, by rw [List.getElem?_append_left (by omega)]; exact a2, a3, fun q hq => ?_, by show FIn w' (if i = vs.length then F else G i) _ _; rw [if_neg e]; exact st (fun b hb => (a6 b hb).1.2.2) a5, fun b hb => ?_⟩
    · rw [List.getElem?_append_left (by omega)]
      exact a4 q hq
    · replace hb : (if i = vs.length then F else G i) b := hb
      rw [if_neg e] at hb
      exact ⟨nb b (a6 b hb).1, fun j hj => by show ¬ (if j = vs.length then F else G j) b; rw [if_neg (by omega)]; exact (a6 b hb).2 j hj⟩

open Classical in
/-- The row as the items of a value. -/
theorem FRow.out (h : FRow w lo v xs ks vs G) (hm : vs.length ≤ maxLen) {k n x : Int} {s : ByteArray} (hk : I64 k ∧ I64 n ∧ I64 x ∧ s.size ≤ maxLen) :
    ∃ A c, v = .slice A vs.length c ∧ (vs.length ≤ c ∧ c ≤ maxLen) ∧ FIn w (fun b => lo ≤ b ∧ b < w.heap.size) (.mk k n s x ks vs) (vV k n s x A vs.length c) := by
  obtain ⟨h1, h2, h3⟩ := h
  rcases h1.2 with ⟨rfl, h0'⟩ | ⟨g, cap, cur, rfl, hlo, hg, hnc, hcm, hsz, htk⟩
  · obtain rfl : vs = [] := List.length_eq_zero_iff.1 h0'
    obtain rfl : ks = [] := List.length_eq_zero_iff.1 h2
    exact ⟨none, 0, rfl, ⟨by simp, by simp⟩, FIn.leaf hk none 0 (by simp)⟩
  refine ⟨some ⟨g, 0, none⟩, cap, rfl, ⟨hnc, hcm⟩, ?_⟩
  have each : ∀ i, ∃ (rk : Nat → Nat) (par : Nat → Nat × Nat) (here : Nat × Nat), ∀ (hi : i < vs.length), ∃ y k n s x ks' vs' A c, ks[i]? = some y ∧ vs[i]? = some (.mk k n s x ks' vs') ∧ (I64 y.num ∧ y.str.size ≤ maxLen) ∧
      xAt8 xs i y k n s x A vs'.length c ∧ TRk w rk par here (.mk k n s x ks' vs') (vV k n s x A vs'.length c) ∧ rk here.1 = 0 ∧ ∀ b, rk b ≠ 0 → G i b := fun i => by
    by_cases hi : i < vs.length
    · obtain ⟨y, k, n, s, x, ks', vs', A, c, a1, a2, a3, a4, ⟨rk, par, here, b1, b2, b3⟩, a6⟩ := h3 i hi
      exact ⟨rk, par, here, fun _ => ⟨y, k, n, s, x, ks', vs', A, c, a1, a2, a3, a4, b1, b2, b3⟩⟩
    · exact ⟨fun _ => 0, fun _ => (0, 0), (0, 0), fun h => absurd h hi⟩
  have sep : ∀ i j b, i < vs.length → j < vs.length → G i b → G j b → i = j := fun i j b hi hj hbi hbj => by
    obtain ⟨_, _, _, _, _, _, _, _, _, -, -, -, -, -, a6⟩ := h3 i hi
    obtain ⟨_, _, _, _, _, _, _, _, _, -, -, -, -, -, b6⟩ := h3 j hj
    rcases Nat.lt_trichotomy i j with h | h | h
    · exact absurd hbi ((b6 b hbj).2 i h)
    · exact h
    · exact absurd hbj ((a6 b hbi).2 j h)
  have bnd : ∀ i b, i < vs.length → G i b → lo ≤ b ∧ b < w.heap.size ∧ b ≠ g := fun i b hi hb => by
    obtain ⟨_, _, _, _, _, _, _, _, _, -, -, -, -, -, a6⟩ := h3 i hi
    have := (a6 b hb).1
    exact ⟨this.1, this.2.1, fun e => this.2.2 (by rw [e]; rfl)⟩
  have hgl := (Array.getElem?_eq_some_iff.1 hg).1
  let RK : Nat → Nat := fun b => if b = g then 1 else if hh : ∃ i, i < vs.length ∧ G i b then (each hh.choose).choose b + 1 else 0
  let PA : Nat → Nat × Nat := fun b => if b = g then (w.heap.size, 0) else if hh : ∃ i, i < vs.length ∧ G i b then (if (each hh.choose).choose_spec.choose b = (each hh.choose).choose_spec.choose_spec.choose then (g, hh.choose) else (each hh.choose).choose_spec.choose b) else (b, 0)
  have eRK : ∀ i b, i < vs.length → G i b → RK b = (each i).choose b + 1 := fun i b hi hb => by
    have hh : ∃ i, i < vs.length ∧ G i b := ⟨i, hi, hb⟩
    have e : hh.choose = i := sep _ _ b hh.choose_spec.1 hi hh.choose_spec.2 hb
    show (if b = g then 1 else if hh : ∃ i, i < vs.length ∧ G i b then (each hh.choose).choose b + 1 else 0) = _
    rw [if_neg (bnd i b hi hb).2.2, dif_pos hh, e]
  have ePA : ∀ i b, i < vs.length → G i b → PA b = if (each i).choose_spec.choose b = (each i).choose_spec.choose_spec.choose then (g, i) else (each i).choose_spec.choose b := fun i b hi hb => by
    have hh : ∃ i, i < vs.length ∧ G i b := ⟨i, hi, hb⟩
    have e : hh.choose = i := sep _ _ b hh.choose_spec.1 hi hh.choose_spec.2 hb
    show (if b = g then _ else if hh : ∃ i, i < vs.length ∧ G i b then _ else _) = _
    rw [if_neg (bnd i b hi hb).2.2, dif_pos hh, e]
  have eG : RK g = 1 := if_pos rfl
  have e0 : RK w.heap.size = 0 := by
    show (if w.heap.size = g then 1 else if hh : ∃ i, i < vs.length ∧ G i w.heap.size then _ else 0) = 0
    rw [if_neg (by omega), dif_neg]
    rintro ⟨i, hi, hb⟩
    have := (bnd i _ hi hb).2.1
    omega
  refine ⟨RK, PA, (w.heap.size, 0), TRk.of hk h2 ⟨hnc, hcm⟩ (fun _ => ⟨g, rfl, if_pos rfl, by rw [eG]; show RK w.heap.size < 1; omega, cur, hg, by omega, fun i hi => ?_⟩), e0, fun b hb => ?_⟩
  · obtain ⟨y, k, n, s, x, ks', vs', A, c, a1, a2, a3, a4, b1, b2, b3⟩ := (each i).choose_spec.choose_spec.choose_spec hi
    refine ⟨y, k, n, s, x, ks', vs', A, c, a1, a2, a3, fun q hq => ?_, b1.outer (c := 1) b2 (fun b hb => ePA i b hi (b3 b hb)) (fun b hb => eRK i b hi (b3 b hb)) (by show RK g ≤ 1; omega)⟩
    rw [← a4 q hq, ← htk, List.getElem?_take_of_lt (by omega)]
    simp
  · by_cases e : b = g
    · subst e
      exact ⟨hlo, hgl⟩
    · by_cases hh : ∃ i, i < vs.length ∧ G i b
      · obtain ⟨i, hi, hbi⟩ := hh
        have := bnd i b hi hbi
        exact ⟨this.1, this.2.1⟩
      · exact absurd (show RK b = 0 by show (if b = g then 1 else if hh : ∃ i, i < vs.length ∧ G i b then _ else 0) = 0; rw [if_neg e, dif_neg hh]) hb
end

end Go.Proofs.YtdglmnmalfpipaaDoor.tree

/-
  The laws' marks: what they leave in a value.
  Conditions: those that each theorem names.
-/
namespace Go.Proofs.YtdglmnmalfpipaaDoor.tree
open Go.ChangeShapes Go.WideShapes Go.ChangeAt Go.RowKit
set_option linter.unusedVariables false

theorem cnts_nil : cnts [] = 0 := by rw [cnts]
theorem cnts_cons' (t : Tr) (vs : List Tr) : cnts (t :: vs) = cnt t + cnts vs := by rw [cnts]
theorem cnt_mk' (k n : Int) (s : ByteArray) (x : Int) (ks : List Ky) (vs : List Tr) : cnt (.mk k n s x ks vs) = 1 + cnts vs := by rw [cnt]
theorem cnts_app : ∀ (a b : List Tr), cnts (a ++ b) = cnts a + cnts b
  | [], b => by rw [cnts_nil]; simp
  | t :: a, b => by rw [List.cons_append, cnts_cons', cnts_cons', cnts_app a b]; omega
theorem cnts_take {vs : List Tr} {j : Nat} {t : Tr} (h : vs[j]? = some t) : cnts (vs.take (j + 1)) = cnts (vs.take j) + cnt t := by
  obtain ⟨hj, rfl⟩ := List.getElem?_eq_some_iff.1 h
  rw [List.take_succ_eq_append_getElem hj, cnts_app, cnts_cons', cnts_nil]
  omega
theorem cnts_le (vs : List Tr) (j : Nat) : cnts (vs.take j) ≤ cnts vs := by
  have := cnts_app (vs.take j) (vs.drop j)
  rw [List.take_append_drop] at this
  omega
theorem cnts_lt {vs : List Tr} {j : Nat} {t : Tr} (h : vs[j]? = some t) : cnts (vs.take j) + cnt t ≤ cnts vs := by
  rw [← cnts_take h]
  exact cnts_le vs (j + 1)

/-- The digits of a number, before a text. -/
def digOf (k : Nat) : ByteArray := ⟨#[UInt8.ofNat (48 + k % 10)]⟩
def mgo : Nat → Nat → ByteArray → ByteArray
  | 0, _, out => out
  | f + 1, k, out => if k = 0 then out else mgo f (k / 10) (digOf k ++ out)
def mtx (k : Int) : ByteArray := "m".toUTF8 ++ mgo 30 k.toNat ⟨#[]⟩

/-- The key and the value that the marks from m on leave. -/
def mkY (m : Int) : Ky := ⟨decide (m % 3 = 0), m + 1, mtx (m + 2)⟩
def mkK (m : Int) : List Tr → List Ky
  | [] => []
  | t :: vs => mkY m :: mkK (m + 7 * cnt t) vs
mutual
def mkT (m : Int) : Tr → Tr
  | .mk _ _ _ _ _ vs => .mk (m + 3) (m + 4) (mtx (m + 5)) (m + 6) (mkK (m + 7) vs) (mkV (m + 7) vs)
def mkV (m : Int) : List Tr → List Tr
  | [] => []
  | t :: vs => mkT m t :: mkV (m + 7 * cnt t) vs
end
theorem mkT_mk (m k n : Int) (s : ByteArray) (x : Int) (ks : List Ky) (vs : List Tr) : mkT m (.mk k n s x ks vs) = .mk (m + 3) (m + 4) (mtx (m + 5)) (m + 6) (mkK (m + 7) vs) (mkV (m + 7) vs) := by rw [mkT]
theorem mkK_len : ∀ (m : Int) (vs : List Tr), (mkK m vs).length = vs.length
  | _, [] => rfl
  | m, t :: vs => by rw [mkK, List.length_cons, mkK_len, List.length_cons]
theorem mkV_len : ∀ (m : Int) (vs : List Tr), (mkV m vs).length = vs.length
  | _, [] => by rw [mkV]
  | m, t :: vs => by rw [mkV, List.length_cons, mkV_len, List.length_cons]
theorem mkK_get : ∀ (m : Int) (vs : List Tr) (j : Nat) (t : Tr), vs[j]? = some t → (mkK m vs)[j]? = some (mkY (m + 7 * cnts (vs.take j)))
  | _, [], j, t, h => by simp at h
  | m, u :: vs, 0, t, h => by simp [mkK, cnts_nil]
  | m, u :: vs, j + 1, t, h => by
    rw [mkK, List.getElem?_cons_succ, mkK_get (m + 7 * cnt u) vs j t (by simpa using h), List.take_succ_cons, cnts_cons']
    congr 2
    push_cast
    omega
theorem mkV_get : ∀ (m : Int) (vs : List Tr) (j : Nat) (t : Tr), vs[j]? = some t → (mkV m vs)[j]? = some (mkT (m + 7 * cnts (vs.take j)) t)
  | _, [], j, t, h => by simp at h
  | m, u :: vs, 0, t, h => by
    simp at h
    subst h
    simp [mkV, cnts_nil]
  | m, u :: vs, j + 1, t, h => by
    rw [mkV, List.getElem?_cons_succ, mkV_get (m + 7 * cnt u) vs j t (by simpa using h), List.take_succ_cons, cnts_cons']
    congr 2
    push_cast
    omega

/-- The first j of one list, then the other. -/
def mix {α : Type} (a b : List α) (j : Nat) : List α := a.take j ++ b.drop j
theorem mix_len {α : Type} {a b : List α} (h : a.length = b.length) (j : Nat) : (mix a b j).length = b.length := by
  unfold mix
  rw [List.length_append, List.length_take, List.length_drop]
  omega
theorem mix_lt {α : Type} {a b : List α} (h : a.length = b.length) {i j : Nat} (hi : i < j) (hj : j ≤ a.length) : (mix a b j)[i]? = a[i]? := by
  unfold mix
  rw [List.getElem?_append_left (by rw [List.length_take]; omega), List.getElem?_take_of_lt hi]
theorem mix_ge {α : Type} {a b : List α} (h : a.length = b.length) {i j : Nat} (hi : j ≤ i) (hj : j ≤ a.length) : (mix a b j)[i]? = b[i]? := by
  unfold mix
  rw [List.getElem?_append_right (by rw [List.length_take]; omega), List.length_take, List.getElem?_drop]
  congr 1
  omega
theorem mix_zero {α : Type} (a b : List α) : mix a b 0 = b := by simp [mix]
theorem mix_all {α : Type} {a b : List α} (h : a.length = b.length) : mix a b b.length = a := by simp [mix, ← h]

def MtQ (w : World) (k : Int) (e : Ending) (w' : World) : Prop := e = .returned (.string (mtx k)) ∧ Below w.heap.size w w'
theorem mgo_size : ∀ (f k : Nat) (out : ByteArray), (mgo f k out).size ≤ f + out.size
  | 0, _, out => by simp [mgo]
  | f + 1, k, out => by
    rw [mgo]
    split
    · omega
    · have := mgo_size f (k / 10) (digOf k ++ out)
      rw [ByteArray.size_append] at this
      have e : (digOf k).size = 1 := rfl
      omega
theorem mtx_size (k : Int) : (mtx k).size ≤ 31 := by
  unfold mtx
  rw [ByteArray.size_append]
  have := mgo_size 30 k.toNat ⟨#[]⟩
  have e : ("m".toUTF8 : ByteArray).size = 1 := by decide
  have e0 : (⟨#[]⟩ : ByteArray).size = 0 := rfl
  omega

end Go.Proofs.YtdglmnmalfpipaaDoor.tree

/-
  The laws' marks: the text of a mark.
  Conditions: the number is above 0 and at most 10^15.
-/
namespace Go.Proofs.YtdglmnmalfpipaaDoor.tree
open Go.ChangeShapes Go.WideShapes Go.ChangeAt Go.RowKit mem
set_option linter.unusedVariables false

theorem mgo_step {f q : Nat} (hq : q ≠ 0) (o : ByteArray) : mgo (f + 1) q o = mgo f (q / 10) (digOf q ++ o) := by rw [mgo, if_neg hq]
theorem mgo_zero (f : Nat) (o : ByteArray) : mgo f 0 o = o := by cases f <;> simp [mgo]

set_option maxHeartbeats 800000 in
theorem markText (k : Int) (h0 : 1 ≤ k) (h1 : k ≤ 1000000000000000) (w : World) : Calls Tryd.prog 55 #[.int .i64 k] w (MtQ w k) := by
  obtain ⟨K, rfl⟩ : ∃ K : Nat, k = (K : Int) := ⟨k.toNat, by omega⟩
  unfold MtQ mtx
  rw [Int.toNat_natCast]
  obtain ⟨T, HT⟩ : ∃ T, Hid (mgo 30 K ⟨#[]⟩ = T) := ⟨_, Lib.hid rfl⟩
  rw [HT.out]
  go_enter Tryd.func55, Tryd.ntmps55
  go_wp2_with (fail)
  go_loopg [0, 3] 30 (fun gk kv ov wr => ∃ (q : Nat) (o : ByteArray), kv = .int .i64 q ∧ ov = .string o ∧ q ≤ 1000000000000000 ∧ q < 10 ^ gk ∧ o.size + gk = 30 ∧ Hid (mgo gk q o = T) ∧ Below w.heap.size w wr)
  case atStart => exact ⟨K, ⟨#[]⟩, rfl, rfl, by omega, by omega, rfl, HT, Below.refl _ _⟩
  case round =>
    obtain ⟨q, o, rfl, rfl, hq, hp, ho, HQ, hb⟩ := hrel
    have HB := Lib.hid hb
    have HP := Lib.hid hp
    clear hb hp
    by_cases hq0 : q = 0
    · subst hq0
      have e : T = o := by rw [← HQ.out, mgo_zero]
      subst e
      have ho' : T.size ≤ 30 := by omega
      go_wp2_with (fail)
      go_ret
      exact ⟨rfl, HB.out⟩
    · have hpos : 0 < q := by omega
      have hgk : gk ≠ 0 := fun e => by have := HP.out; rw [e] at this; simp at this; omega
      obtain ⟨f, HF⟩ : ∃ f, Hid (gk = f + 1) := ⟨gk - 1, Lib.hid (by omega)⟩
      have hd0 : (0 : Int) ≤ (q : Int) % 10 := by omega
      have hd1 : (q : Int) % 10 ≤ 9 := by omega
      have hcv := conv_rd (P := Tryd.prog) _ 42 9 5 Tryd.underlying42 Tryd.underlying5 Tryd.underlying9 (rd_one wr (48 + (q : Int) % 10) (by omega) (by omega) 5) 1
      rw [show strOfNums [48 + (q : Int) % 10] = digOf q by
        have e : (48 + (q : Int) % 10).toNat = 48 + q % 10 := by omega
        simp [strOfNums, digOf, e]] at hcv
      have hd2 : (digOf q).size ≤ 1 := Nat.le_refl 1
      have ho2 : o.size ≤ 30 := by omega
      obtain ⟨D, HD⟩ : ∃ D, Hid (digOf q = D) := ⟨_, Lib.hid rfl⟩
      rw [HD.out] at hcv hd2
      go_wp2_with (fail)
      clear hcv
      go_roundg f
      case rel =>
        refine ⟨q / 10, D ++ o, rfl, rfl, by omega, ?_, ?_, Lib.hid ?_, bs HB.out (b1 _ _)⟩
        · exact Nat.div_lt_of_lt_mul (by have := HP.out; rw [HF.out, Nat.pow_succ] at this; omega)
        · have e1 : (digOf q).size = 1 := rfl
          rw [HD.out] at e1
          have := HF.out
          rw [ByteArray.size_append]
          omega
        · rw [← HD.out, ← mgo_step hq0, ← HF.out]
          exact HQ.out
      case measure => have := HF.out; omega

end Go.Proofs.YtdglmnmalfpipaaDoor.tree

