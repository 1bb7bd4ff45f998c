/-
  A row of items of the call's own whose values lie in older blocks; the project's copy of a list as such a row.
  Conditions: those that each theorem names.
-/
import Derived.Test.YtdglmnmalfpipaaGreatDoorVSCopyI
import Derived.Test.YtdglmnmalfpipaaGreatDoorVB8
namespace Go.Proofs.YtdglmnmalfpipaaGreatDoor.tree
open Go.ChangeShapes Go.WideShapes Go.ChangeAt Go.RowKit
set_option linter.unusedVariables false

/-- A row at M or above whose values lie below M, in plain blocks. -/
def OwU (w : World) (M : Nat) (v : Value) (xs : List Value) (ks : List Ky) (vs : List Tr) : Prop :=
  w.ownsRow M IE 8 v vs.length xs ∧ ks.length = vs.length ∧ ∀ i, i < vs.length → ∃ y k n s x ks' vs' A c, ks[i]? = some y ∧ vs[i]? = some (.mk k n s x ks' vs') ∧ (I64 y.num ∧ y.str.size ≤ maxLen) ∧
    xAt8 xs i y k n s x A vs'.length c ∧ TIn w (fun b => b < M ∧ Plain w b) (.mk k n s x ks' vs') (vV k n s x A vs'.length c)

section
variable {w w' : World} {M : Nat} {v : Value} {xs : List Value} {ks : List Ky} {vs : List Tr}
theorem OwU.block (h : OwU w M v xs ks vs) : ∀ b, v.ownBlock = some b → M ≤ b ∧ b < w.heap.size := fun b e => by
  rcases h.1.2 with ⟨rfl, -⟩ | ⟨g, cap, cur, rfl, hlo, hg, -⟩
  · simp [Value.ownBlock] at e
  · have : g = b := by simpa [Value.ownBlock] using e
    subst this
    exact ⟨hlo, (Array.getElem?_eq_some_iff.1 hg).1⟩
theorem OwU.keep (h : OwU w M v xs ks vs) (hlo : ∀ b, b < M → b < w.heap.size → w'.heap[b]? = w.heap[b]?) (ho : ∀ b, v.ownBlock = some b → w'.heap[b]? = w.heap[b]?) : OwU w' M v xs ks vs := by
  obtain ⟨h1, h2, h3⟩ := h
  refine ⟨⟨h1.1, ?_⟩, h2, fun i hi => ?_⟩
  · rcases h1.2 with h | ⟨g, cap, cur, e, hl, hg, hr⟩
    · exact .inl h
    · exact .inr ⟨g, cap, cur, e, hl, (ho g (by rw [e]; rfl)).trans hg, hr⟩
  · obtain ⟨y, k, n, s, x, ks', vs', A, c, a1, a2, a3, a4, a5⟩ := h3 i hi
    exact ⟨y, k, n, s, x, ks', vs', A, c, a1, a2, a3, a4, a5.stays (fun b hb => ⟨hb.1, hb.2.same (hlo b hb.1 hb.2.lt)⟩) fun b hb hlt => hlo b hb.1 hlt⟩
theorem OwU.below (h : OwU w M v xs ks vs) (hb : Below w.heap.size w w') : OwU w' M v xs ks vs := h.keep (fun b _ hl => hb.block b hl) (fun b e => hb.block b (h.block b e).2)
theorem OwU.far (h : OwU w M v xs ks vs) {q : Nat} {cs : Array Value} (hq : w.heap[q]? = some (.cells cs IV (0, 0))) : some q ≠ v.ownBlock := fun e => by
  rcases h.1.2 with ⟨rfl, -⟩ | ⟨g, cap, cur, rfl, hlo, hg, -⟩
  · simp [Value.ownBlock] at e
  · have e1 : q = g := by simpa [Value.ownBlock] using e
    subst e1
    rw [hq] at hg
    have e2 : IV = IE := by injection hg with hg; injection hg
    exact absurd e2 (by decide)
/-- One more. -/
theorem OwU.more (h : OwU w M v xs ks vs) (hM : M ≤ w.heap.size)
    {y : Ky} {k n x : Int} {s : ByteArray} {ks' : List Ky} {vs' : List Tr} {A : Option Addr} {c : Nat} (hy : I64 y.num ∧ y.str.size ≤ maxLen) (ht : TIn w (fun b => b < M ∧ Plain w b) (.mk k n s x ks' vs') (vV k n s x A vs'.length c))
    {v' : Value} (ho : w'.ownsRow M IE 8 v' (vs.length + 1) (xs ++ [.bool y.text, .int .i64 y.num, .string y.str, .int .i64 k, .int .i64 n, .string s, .int .i64 x, .slice A vs'.length c])) (hg : w.grownBy w' v.ownBlock) :
    OwU w' M v' (xs ++ [.bool y.text, .int .i64 y.num, .string y.str, .int .i64 k, .int .i64 n, .string s, .int .i64 x, .slice A vs'.length c]) (ks ++ [y]) (vs ++ [.mk k n s x ks' vs']) := by
  have hbl := h.block
  obtain ⟨h1, h2, h3⟩ := h
  have hxl : xs.length = vs.length * 8 := h1.1
  have sm : ∀ b, b < M → w'.heap[b]? = w.heap[b]? := fun b hb => hg.block b (by omega) (fun e => by have := (hbl b e.symm).1; omega)
  have st : ∀ {t : Tr} {u : Value}, TIn w (fun b => b < M ∧ Plain w b) t u → TIn w' (fun b => b < M ∧ Plain w' b) t u := fun h => h.stays (fun b hb => ⟨hb.1, hb.2.same (sm b hb.1)⟩) (fun b hb _ => sm b hb.1)
  refine ⟨by rw [List.length_append]; exact ho, by rw [List.length_append, List.length_append, h2]; rfl, fun i hi => ?_⟩
  rw [List.length_append] at hi
  simp only [List.length_cons, List.length_nil] at hi
  by_cases e : i = vs.length
  · subst e
    refine ⟨y, k, n, s, x, ks', vs', A, c, by rw [List.getElem?_append_right (by omega), h2]; simp, by rw [List.getElem?_append_right (by omega)]; simp, hy, fun q hq => ?_, st ht⟩
    rw [List.getElem?_append_right (by omega), hxl, Nat.add_sub_cancel_left]
    match q, hq with
    | 0, _ => rfl
    | 1, _ => rfl
    | 2, _ => rfl
    | 3, _ => rfl
    | 4, _ => rfl
    | 5, _ => rfl
    | 6, _ => rfl
    | 7, _ => rfl
  · obtain ⟨y1, k1, n1, s1, x1, ks1, vs1, A1, c1, a1, a2, a3, a4, a5⟩ := h3 i (by omega)
    refine ⟨y1, k1, n1, s1, x1, ks1, vs1, A1, c1, by rw [List.getElem?_append_left (by omega)]; exact a1, by rw [List.getElem?_append_left (by omega)]; exact a2, a3, fun q hq => ?_, st a5⟩
    rw [List.getElem?_append_left (by omega)]
    exact a4 q hq
theorem OwU.isin (h : OwU w M v xs ks vs) (hm : vs.length ≤ maxLen) : ∃ A c, v = .slice A vs.length c ∧ (vs.length ≤ c ∧ c ≤ maxLen) ∧ IsIn w (Nw 0 w) ks vs A := by
  obtain ⟨h1, h2, h3⟩ := h
  have h1' : w.ownsRow 0 IE 8 v vs.length xs := ⟨h1.1, h1.2.imp id fun ⟨g, cap, cur, e, hlo, r⟩ => ⟨g, cap, cur, e, Nat.zero_le _, r⟩⟩
  have hpl : ∀ b, v.ownBlock = some b → Nw 0 w b := fun b e => by
    rcases h1.2 with ⟨rfl, -⟩ | ⟨g, cap, cur, rfl, hlo, hg, -⟩
    · simp [Value.ownBlock] at e
    · have : g = b := by simpa [Value.ownBlock] using e
      subst this
      exact ⟨Nat.zero_le _, cur, IE, hg⟩
  have hne : ∀ b, v.ownBlock = some b → M ≤ b := fun b e => by
    rcases h1.2 with ⟨rfl, -⟩ | ⟨g, cap, cur, rfl, hlo, hg, -⟩
    · simp [Value.ownBlock] at e
    · have : g = b := by simpa [Value.ownBlock] using e
      omega
  exact OwR.isinP (P := Nw 0 w) ⟨h1', hpl, h2, fun i hi => by
    obtain ⟨y, k, n, s, x, ks', vs', A, c, a1, a2, a3, a4, a5⟩ := h3 i hi
    exact ⟨y, k, n, s, x, ks', vs', A, c, a1, a2, a3, a4, a5.stays (fun b hb => ⟨⟨Nat.zero_le _, hb.2⟩, fun e => by have := hne b e; have := hb.1; omega⟩) (fun _ _ _ => rfl)⟩⟩ hm
end

/-- A copy of a list of items. -/
def CoQ (w : World) (M : Nat) (ks : List Ky) (vs : List Tr) (L : Nat) (e : Ending) (w' : World) : Prop :=
  ∃ A' c' xs, e = .returned (.slice A' L c') ∧ OwU w' M (.slice A' L c') xs ks vs ∧ (∀ b, (Value.slice A' L c').ownBlock = some b → w.heap.size ≤ b) ∧ Below w.heap.size w w'

theorem copyItemsO (ks : List Ky) (vs : List Tr) (A : Option Addr) (c : Nat) (w : World) (M : Nat) (h : IsIn w (fun b => b < M ∧ Plain w b) ks vs A) (hL : vs.length ≤ 1000000000) (hM : M ≤ w.heap.size) :
    Calls Tryz.prog 144 #[.slice A vs.length c] w (CoQ w M ks vs vs.length) := by
  have hkl := h.1
  obtain ⟨L, HL⟩ : ∃ L, Hid (L = vs.length) := ⟨_, Lib.hid rfl⟩
  rw [← HL.out] at hL ⊢
  cases A with
  | none =>
    have h0 : L = 0 := by
      rcases Nat.eq_zero_or_pos L with h0 | h0
      · exact h0
      · obtain ⟨_, _, C, hc, -⟩ := h
        obtain ⟨a, ha, -⟩ := hc 0 (by rw [← HL.out]; exact h0)
        cases ha
    subst h0
    have heq := Lib.run_eql_slice_nil (P := Tryz.prog) w 30 IE none 0 c 0 0 Tryz.underlying30
    have HKL := Lib.hid hkl
    clear h hkl
    go_enter Tryz.func144, Tryz.ntmps144
    go_wp2_with (fail)
    go_ret
    have e : vs.length = 0 := HL.out.symm
    exact ⟨none, 0, [], rfl, ⟨by rw [e]; exact World.ownsRow_nil w M _ 8, HKL.out, fun i hi => by omega⟩, fun b e => by simp [Value.ownBlock] at e, Below.refl _ _⟩
  | some a =>
    obtain ⟨cs, hcl, hsrc, hone, hit⟩ := h.cells
    obtain ⟨i0, hi, hz⟩ := ie_info
    have hmk := run_make (P := Tryz.prog) w 30 IE i0 _ Tryz.underlying30 hi hz.1 .i64 .i64 L L (by omega) (Int.le_refl _) (by rw [hz.2.2]; omega) (by omega)
    rw [hz.2.1] at hmk
    simp only [Int.toNat_natCast] at hmk
    obtain ⟨arr0, HA⟩ : ∃ a, Hid (a = madeCells (Value.agg #[.bool false, .int .i64 0, .string ⟨#[]⟩, .int .i64 0, .int .i64 0, .string ⟨#[]⟩, .int .i64 0, .slice none 0 0]).cells (L * 8)) := ⟨_, Lib.hid rfl⟩
    rw [← HA.out] at hmk
    have hsz : arr0.size = L * 8 := by rw [HA.out, madeSize]
    have hcp := run_copy_8 (P := Tryz.prog) (w.alloc (.cells arr0 IE)) 30 30 3 IE w.heap.size 0 L L a L c arr0 IE cs L Tryz.underlying30 (by rw [hi]; exact congrArg some hz.2.1) (heap_alloc_new w _) (by simp) (by rw [hcl, HL.out]) (fun j v hv => cell_stays (fun hlt => (b1 w _).block _ hlt) (hsrc j v hv)) (by rw [hcl, ← HL.out, hsz]; omega) hone
    have heq := Lib.run_eql_slice_nil (P := Tryz.prog) w 30 IE (some a) L c 0 0 Tryz.underlying30
    have HCL := Lib.hid hcl
    have HIT := Lib.hid hit
    have HSZ := Lib.hid hsz
    have HKL := Lib.hid hkl
    have HM := Lib.hid hM
    have HLL := Lib.hid hL
    clear h hi hz hsrc hone hit hcl hsz hkl hM
    go_enter Tryz.func144, Tryz.ntmps144
    go_wp2_with (fail)
    go_ret
    refine ⟨_, L, cs, rfl, ⟨?_, HKL.out, fun i hi => ?_⟩, fun b e => by simp [Value.ownBlock] at e; omega, setRow_below (b1 w _) (Nat.le_refl _) _⟩
    · rw [← HL.out]
      refine ⟨by rw [HCL.out, HL.out], .inr ⟨w.heap.size, L, _, rfl, HM.out, setRow_heap _ _ _ _ _ _ (heap_alloc_new w _), Nat.le_refl _, by have := HLL.out; unfold maxLen; omega, ?_, ?_⟩⟩
      · simp [HCL.out, HSZ.out, HL.out]
      · have h1 : cs.length = L * 8 := by rw [HCL.out, HL.out]
        simp [h1]
    · obtain ⟨y, k, n, s, x, ks', vs', A', c', e1, e2, e3, e4, e5, e6⟩ := HIT.out i hi
      exact ⟨y, k, n, s, x, ks', vs', A', c', e1, e2, e3, e5, e6.stays (fun b hb => ⟨hb.1, hb.2.same ((setRow_other (by have := HM.out; have := hb.1; omega)).trans ((b1 w _).block b hb.2.lt))⟩) fun b hb hlt => (setRow_other (by have := HM.out; have := hb.1; omega)).trans ((b1 w _).block b hlt)⟩

end Go.Proofs.YtdglmnmalfpipaaGreatDoor.tree

