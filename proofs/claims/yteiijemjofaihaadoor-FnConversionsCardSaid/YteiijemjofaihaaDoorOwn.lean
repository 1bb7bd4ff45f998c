/-
  Items in a row of the call's own, all of whose blocks satisfy P.
  Conditions: those that each theorem names.
-/
import Derived.Test.YteiijemjofaihaaDoorRow
namespace Go.Proofs.YteiijemjofaihaaDoor.tree
open Go.ChangeShapes Go.WideShapes Go.ChangeAt Go.RowKit
set_option linter.unusedVariables false

def OwR (w : World) (P : Nat → Prop) (v : Value) (xs : List Value) (ks : List Ky) (vs : List Tr) : Prop :=
  w.ownsRow 0 IE 8 v vs.length xs ∧ (∀ b, v.ownBlock = some b → P b) ∧ ks.length = vs.length ∧ ∀ i, i < vs.length → ∃ y k n s x ks' vs' A c, ks[i]? = some y ∧ vs[i]? = some (.mk k n s x ks' vs') ∧ (I64 y.num ∧ y.str.size ≤ maxLen) ∧
    xAt8 xs i y k n s x A vs'.length c ∧ TIn w (fun b => P b ∧ v.ownBlock ≠ some b) (.mk k n s x ks' vs') (vV k n s x A vs'.length c)

section
variable {w w' : World} {P P' : Nat → Prop} {v : Value} {xs : List Value} {ks : List Ky} {vs : List Tr}
theorem OwR.of {lo : Nat} (h : ORowX w lo v xs ks vs) : OwR w (fun b => lo ≤ b ∧ b < w.heap.size) v xs ks vs := by
  have hb := ORow.block (lo := lo) (ks := ks) (vs := vs) ⟨xs, h⟩
  obtain ⟨h1, h2, h3⟩ := h
  refine ⟨⟨h1.1, h1.2.imp id fun ⟨g, cap, cur, e, hlo, r⟩ => ⟨g, cap, cur, e, Nat.zero_le _, r⟩⟩, hb, h2, fun i hi => ?_⟩
  obtain ⟨y, k, n, s, x, ks', vs', A, c, a1, a2, a3, a4, a5⟩ := h3 i hi
  refine ⟨y, k, n, s, x, ks', vs', A, c, a1, a2, a3, a4, ?_⟩
  have h' : TIn w (fun b => SX lo v b ∧ b < w.heap.size) (.mk k n s x ks' vs') (vV k n s x A vs'.length c) := by
    generalize (Tr.mk k n s x ks' vs') = t at a5
    generalize (vV k n s x A vs'.length c) = u at a5
    clear a1 a2 a4
    induction a5 with
    | mk k n s x ks vs A cap C hk hl hm hcap hc ht ih =>
      refine .mk k n s x ks vs A cap C hk hl hm hcap (fun i hi => ?_) ih
      obtain ⟨a, ha, hS, hky, hs, hj⟩ := hc i hi
      refine ⟨a, ha, ⟨hS, ?_⟩, hky, hs, hj⟩
      have := World.block_lt_of_cell? _ _ hky.1
      rwa [mem.add_block] at this
  exact h'.stays (fun b hb => ⟨⟨hb.1.1, hb.2⟩, hb.1.2⟩) (fun _ _ _ => rfl)
theorem OwR.mono (h : OwR w P v xs ks vs) (hP : ∀ b, P b → P' b) : OwR w P' v xs ks vs := by
  obtain ⟨h1, h0, h2, h3⟩ := h
  refine ⟨h1, fun b e => hP b (h0 b e), h2, fun i hi => ?_⟩
  obtain ⟨y, k, n, s, x, ks', vs', A, c, a1, a2, a3, a4, a5⟩ := h3 i hi
  exact ⟨y, k, n, s, x, ks', vs', A, c, a1, a2, a3, a4, a5.stays (fun b hb => ⟨hP b hb.1, hb.2⟩) (fun _ _ _ => rfl)⟩
theorem OwR.keep (h : OwR w P v xs ks vs) (hs : ∀ b, P b → b < w.heap.size → w'.heap[b]? = w.heap[b]?) : OwR w' P v xs ks vs := by
  obtain ⟨h1, h0, h2, h3⟩ := h
  refine ⟨⟨h1.1, ?_⟩, h0, h2, fun i hi => ?_⟩
  · rcases h1.2 with h | ⟨g, cap, cur, e, hlo, hg, hr⟩
    · exact .inl h
    · exact .inr ⟨g, cap, cur, e, hlo, (hs g (h0 g (by rw [e]; rfl)) (Array.getElem?_eq_some_iff.1 hg).1).trans hg, hr⟩
  · obtain ⟨y, k, n, s, x, ks', vs', A, c, a1, a2, a3, a4, a5⟩ := h3 i hi
    exact ⟨y, k, n, s, x, ks', vs', A, c, a1, a2, a3, a4, a5.stays (fun _ h => h) fun b hb hlt => hs b hb.1 hlt⟩
theorem OwR.below (h : OwR w P v xs ks vs) (hb : Below w.heap.size w w') : OwR w' P v xs ks vs := h.keep fun b _ hl => hb.block b hl
theorem OwR.row (h : OwR w P v xs ks vs) : ORow w 0 v ks vs := by
  obtain ⟨h1, h0, h2, h3⟩ := h
  refine ⟨xs, h1, h2, fun i hi => ?_⟩
  obtain ⟨y, k, n, s, x, ks', vs', A, c, a1, a2, a3, a4, a5⟩ := h3 i hi
  exact ⟨y, k, n, s, x, ks', vs', A, c, a1, a2, a3, a4, a5.stays (fun b hb => ⟨Nat.zero_le _, hb.2⟩) (fun _ _ _ => rfl)⟩
theorem OwR.isin (h : OwR w P v xs ks vs) (hm : vs.length ≤ maxLen) : ∃ A c, v = .slice A vs.length c ∧ (vs.length ≤ c ∧ c ≤ maxLen) ∧ IsIn w (fun b => 0 ≤ b) ks vs A := h.row.isin hm

/-- One more. -/
theorem OwR.more {Q : Nat → Prop} (h : OwR w P v xs ks vs)
    {y : Ky} {k n x : Int} {s : ByteArray} {ks' : List Ky} {vs' : List Tr} {A : Option Addr} {c : Nat} (hy : I64 y.num ∧ y.str.size ≤ maxLen) (ht : TIn w Q (.mk k n s x ks' vs') (vV k n s x A vs'.length c)) (hQ : ∀ b, Q b → v.ownBlock ≠ some b)
    {v' : Value} (ho : w'.ownsRow 0 IE 8 v' (vs.length + 1) (xs ++ [.bool y.text, .int .i64 y.num, .string y.str, .int .i64 k, .int .i64 n, .string s, .int .i64 x, .slice A vs'.length c])) (hg : w.grownBy w' v.ownBlock) (hat : v'.ownBlock = v.ownBlock ∨ v'.ownBlock = some w.heap.size) :
    OwR w' (fun b => P b ∨ Q b ∨ v'.ownBlock = some b) v' (xs ++ [.bool y.text, .int .i64 y.num, .string y.str, .int .i64 k, .int .i64 n, .string s, .int .i64 x, .slice A vs'.length c]) (ks ++ [y]) (vs ++ [.mk k n s x ks' vs']) := by
  obtain ⟨h1, h0, h2, h3⟩ := h
  have hxl : xs.length = vs.length * 8 := h1.1
  have st : ∀ {t : Tr} {u : Value} {R : Nat → Prop}, (∀ b, R b → v.ownBlock ≠ some b) → (∀ b, R b → P b ∨ Q b) → TIn w R t u → TIn w' (fun b => (P b ∨ Q b ∨ v'.ownBlock = some b) ∧ v'.ownBlock ≠ some b) t u := fun {t u R} hR1 hR2 h => by
    have h' : TIn w (fun b => R b ∧ b < w.heap.size) t u := by
      induction h with
      | mk k n s x ks vs A cap C hk hl hm hcap hc ht ih =>
        refine .mk k n s x ks vs A cap C hk hl hm hcap (fun i hi => ?_) ih
        obtain ⟨a, ha, hS, hky, hs, hj⟩ := hc i hi
        refine ⟨a, ha, ⟨hS, ?_⟩, hky, hs, hj⟩
        have := World.block_lt_of_cell? _ _ hky.1
        rwa [mem.add_block] at this
    exact h'.stays (fun b ⟨hb1, hb3⟩ => ⟨(hR2 b hb1).imp id .inl, fun e => by
      rcases hat with h | h
      · exact hR1 b hb1 (h ▸ e)
      · rw [h] at e; injection e with e; omega⟩) (fun b ⟨hb1, hb3⟩ hlt => hg.block b hlt (fun e => hR1 b hb1 e.symm))
  refine ⟨by rw [List.length_append]; exact ho, fun b e => .inr (.inr e), by rw [List.length_append, List.length_append, h2]; rfl, fun i hi => ?_⟩
  rw [List.length_append] at hi
  simp only [List.length_cons, List.length_nil] at hi
  by_cases e : i = vs.length
  · subst e
    refine ⟨y, k, n, s, x, ks', vs', A, c, by rw [List.getElem?_append_right (by omega), h2]; simp, by rw [List.getElem?_append_right (by omega)]; simp, hy, fun q hq => ?_, st hQ (fun b hb => .inr hb) ht⟩
    rw [List.getElem?_append_right (by omega), hxl, Nat.add_sub_cancel_left]
    match q, hq with
    | 0, _ => rfl
    | 1, _ => rfl
    | 2, _ => rfl
    | 3, _ => rfl
    | 4, _ => rfl
    | 5, _ => rfl
    | 6, _ => rfl
    | 7, _ => rfl
  · obtain ⟨y1, k1, n1, s1, x1, ks1, vs1, A1, c1, a1, a2, a3, a4, a5⟩ := h3 i (by omega)
    refine ⟨y1, k1, n1, s1, x1, ks1, vs1, A1, c1, by rw [List.getElem?_append_left (by omega)]; exact a1, by rw [List.getElem?_append_left (by omega)]; exact a2, a3, fun q hq => ?_, st (fun b hb => hb.2) (fun b hb => .inl hb.1) a5⟩
    rw [List.getElem?_append_left (by omega)]
    exact a4 q hq
end

end Go.Proofs.YteiijemjofaihaaDoor.tree
