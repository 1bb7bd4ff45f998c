/-
  What the texts behind this one use: 11 parts of one proof.
  Conditions: those that each theorem names.
-/
import Derived.Test.YtbgffmiffmmohaaCrSVals
import Derived.Test.YtbgffmiffmmohaaCrB2
import Derived.Test.YtbgffmiffmmohaaCrB3
import Derived.Test.YtbgffmiffmmohaaCrSCopyS
import Derived.Maps.AppendAt
import Derived.Deep.DeepCutAuto
import Derived.Deep.RegionWith
import Derived.Test.YtbgffmiffmmohaaCrB1
import Derived.Test.YtbgffmiffmmohaaCrB4
import Derived.Deep.RegionHeld3
import Derived.Test.YtbgffmiffmmohaaCrSMarkA
import Derived.Test.YtbgffmiffmmohaaCrSLawBox
import Derived.Test.YtbgffmiffmmohaaCrSTreeCp
/-
  Values as a list of cells, five each; one more put in at a place.
  Conditions: those that each theorem names.
-/
namespace Go.Proofs.Ytbgffmiffmmohaa.tree
open Go.ChangeShapes Go.WideShapes Go.ChangeAt Go.RowKit
set_option linter.unusedVariables false

/-- The cells xs are the values s. -/
def XV (w : World) (S : Nat → Prop) (s : List Tr) (xs : List Value) : Prop :=
  xs.length = s.length * 5 ∧ ∀ i t, s[i]? = some t → ∃ k n z x ks' vs' A' c', t = .mk k n z x ks' vs' ∧ TIn w S (.mk k n z x ks' vs') (vV k n z x A' vs'.length c') ∧ ∀ q, q < 5 → xs[i * 5 + q]? = (#[.int .i64 k, .int .i64 n, .string z, .int .i64 x, .slice A' vs'.length c'] : Array Value)[q]?
theorem XV.nil (w : World) (S : Nat → Prop) : XV w S [] [] := ⟨rfl, fun i t h => by simp at h⟩
theorem XV.stays {w w' : World} {S S' : Nat → Prop} {s : List Tr} {xs : List Value} (h : XV w S s xs) (hS : ∀ b, S b → S' b) (hb : ∀ b, S b → b < w.heap.size → w'.heap[b]? = w.heap[b]?) : XV w' S' s xs :=
  ⟨h.1, fun i t ht => by
    obtain ⟨k, n, z, x, ks', vs', A', c', e, hT, hc⟩ := h.2 i t ht
    exact ⟨k, n, z, x, ks', vs', A', c', e, hT.stays hS hb, hc⟩⟩
theorem XV.below {w w' : World} {S : Nat → Prop} {s : List Tr} {xs : List Value} (h : XV w S s xs) (hb : Below w.heap.size w w') : XV w' S s xs := h.stays (fun _ h => h) fun b _ hl => hb.block b hl
theorem XV.ins {w : World} {S : Nat → Prop} {s : List Tr} {xs : List Value} (h : XV w S s xs) {p : Nat} (hp : p ≤ s.length) {k n x : Int} {z : ByteArray} {ks' : List Ky} {vs' : List Tr} {A' : Option Addr} {c' : Nat} (hT : TIn w S (.mk k n z x ks' vs') (vV k n z x A' vs'.length c')) :
    XV w S (s.take p ++ .mk k n z x ks' vs' :: s.drop p) (xs.take (p * 5) ++ [.int .i64 k, .int .i64 n, .string z, .int .i64 x, .slice A' vs'.length c'] ++ xs.drop (p * 5)) := by
  obtain ⟨hl, hi⟩ := h
  refine ⟨by simp; omega, fun i t ht => ?_⟩
  have hlt : (xs.take (p * 5)).length = p * 5 := by rw [List.length_take]; omega
  have hls : (s.take p).length = p := by rw [List.length_take]; omega
  rcases Nat.lt_trichotomy i p with hlt1 | rfl | hgt
  · rw [List.getElem?_append_left (by omega), List.getElem?_take_of_lt hlt1] at ht
    obtain ⟨k, n, z, x, ks', vs', A', c', e, hT, hc⟩ := hi i t ht
    refine ⟨k, n, z, x, ks', vs', A', c', e, hT, fun q hq => ?_⟩
    rw [List.append_assoc, List.getElem?_append_left (by omega), List.getElem?_take_of_lt (by omega)]
    exact hc q hq
  · rw [List.getElem?_append_right (by omega), hls, Nat.sub_self, List.getElem?_cons_zero] at ht
    obtain rfl := Option.some.inj ht
    refine ⟨k, n, z, x, ks', vs', A', c', rfl, hT, fun q hq => ?_⟩
    rw [List.append_assoc, List.getElem?_append_right (by omega), hlt, Nat.add_sub_cancel_left]
    match q, hq with
    | 0, _ => rfl
    | 1, _ => rfl
    | 2, _ => rfl
    | 3, _ => rfl
    | 4, _ => rfl
  · obtain ⟨m, rfl⟩ : ∃ m, i = p + 1 + m := ⟨i - p - 1, by omega⟩
    rw [List.getElem?_append_right (by omega), hls, show p + 1 + m - p = m + 1 by omega, List.getElem?_cons_succ, List.getElem?_drop] at ht
    obtain ⟨k, n, z, x, ks', vs', A', c', e, hT, hc⟩ := hi _ t ht
    refine ⟨k, n, z, x, ks', vs', A', c', e, hT, fun q hq => ?_⟩
    rw [List.getElem?_append_right (by simp; omega), List.getElem?_drop]
    rw [← hc q hq]
    congr 1
    simp
    omega
theorem XV.at_ {w : World} {S : Nat → Prop} {s : List Tr} {xs : List Value} (h : XV w S s xs) {i : Nat} {t : Tr} (ht : s[i]? = some t) : ∃ k n z x ks' vs' A' c', t = .mk k n z x ks' vs' ∧ TIn w S t (vV k n z x A' vs'.length c') ∧ ∀ q, q < 5 → xs[i * 5 + q]? = (#[.int .i64 k, .int .i64 n, .string z, .int .i64 x, .slice A' vs'.length c'] : Array Value)[q]? := by
  obtain ⟨k, n, z, x, ks', vs', A', c', e, hT, hc⟩ := h.2 i t ht
  exact ⟨k, n, z, x, ks', vs', A', c', e, e ▸ hT, hc⟩
theorem XV.one {w : World} {S : Nat → Prop} {s : List Tr} {xs : List Value} (h : XV w S s xs) : ∀ u ∈ xs, u.oneCell' = true := fun u hu => by
  obtain ⟨j, hj, rfl⟩ := List.mem_iff_getElem.1 hu
  have hlen := h.1
  have hi : j / 5 < s.length := by omega
  obtain ⟨k, n, z, x, ks', vs', A', c', e, hT, hc⟩ := h.2 (j / 5) _ (List.getElem?_eq_getElem hi)
  have hq := hc (j % 5) (Nat.mod_lt _ (by omega))
  rw [show j / 5 * 5 + j % 5 = j by omega, List.getElem?_eq_getElem hj] at hq
  have h5 : j % 5 = 0 ∨ j % 5 = 1 ∨ j % 5 = 2 ∨ j % 5 = 3 ∨ j % 5 = 4 := by omega
  rcases h5 with h5 | h5 | h5 | h5 | h5 <;> rw [h5] at hq <;> simp at hq <;> rw [hq] <;> rfl
/-- The values at a row whose cells are xs. -/
theorem XV.vin {w : World} {S : Nat → Prop} {s : List Tr} {xs : List Value} (h : XV w S s xs) {a : Addr} (ha : S a.block) (hc : ∀ j u, xs[j]? = some u → w.cell? (a.add j) = some u) : VIn w S s (some a) := fun i t ht => by
  obtain ⟨k, n, z, x, ks', vs', A', c', rfl, hT, hq⟩ := h.2 i t ht
  have at_ : ∀ q u, q < 5 → (#[.int .i64 k, .int .i64 n, .string z, .int .i64 x, .slice A' vs'.length c'] : Array Value)[q]? = some u → w.cell? (a.add (i * 5 + q)) = some u := fun q u hq5 hu => hc _ _ ((hq q hq5).trans hu)
  have sp : ∀ j, j ≠ 0 → a.add (i * 5 + j) = ⟨(a.add (i * 5)).block, (a.add (i * 5)).off + j, none⟩ := fun j hj => by rw [← add_add', add_pos _ _ hj]
  refine ⟨a, k, n, z, x, ks', vs', A', c', rfl, ha, rfl, hT, ?_, ?_, ?_, ?_, ?_⟩
  · exact at_ 0 _ (by omega) rfl
  · rw [← sp 1 (by omega)]; exact at_ 1 _ (by omega) rfl
  · rw [← sp 2 (by omega)]; exact at_ 2 _ (by omega) rfl
  · rw [← sp 3 (by omega)]; exact at_ 3 _ (by omega) rfl
  · rw [← sp 4 (by omega)]; exact at_ 4 _ (by omega) rfl
theorem cnts_perm {l l' : List Tr} (h : l.Perm l') : cnts l = cnts l' := by
  induction h with
  | nil => rfl
  | cons a _ ih => rw [cnts, cnts, ih]
  | swap a b l => rw [cnts, cnts, cnts, cnts]; omega
  | trans _ _ ih1 ih2 => rw [ih1, ih2]

end Go.Proofs.Ytbgffmiffmmohaa.tree

/-
  Values that a call appends one by one to a row of its own.
  Conditions: those that each theorem names.
-/
namespace Go.Proofs.Ytbgffmiffmmohaa.tree
open Go.ChangeShapes Go.WideShapes Go.ChangeAt Go.RowKit
set_option linter.unusedVariables false

theorem iv_info : ∃ i, Try.prog.info? IV = some i ∧ (i.zero = some (.agg #[.int .i64 0, .int .i64 0, .string ⟨#[]⟩, .int .i64 0, .slice none 0 0]) ∧ i.size = 5 ∧ i.bytes = 64) := by
  have : (Try.prog.info? IV).map (fun i => (i.zero, i.size, i.bytes)) = some (some (.agg #[.int .i64 0, .int .i64 0, .string ⟨#[]⟩, .int .i64 0, .slice none 0 0]), 5, 64) := by kernel_rfl
  cases hq : Try.prog.info? IV with
  | none => rw [hq] at this; cases this
  | some i => rw [hq] at this; simp at this; exact ⟨i, rfl, this⟩
theorem five_one (k m : Int) (z : ByteArray) (x : Int) (A : Option Addr) (L c : Nat) : ∀ u ∈ [Value.int .i64 k, .int .i64 m, .string z, .int .i64 x, .slice A L c], u.oneCell' = true := by simp [Value.oneCell']
theorem five_new (w : World) (c0 c1 c2 c3 c4 : Value) (t : TypeId) : ∀ j u, [c0, c1, c2, c3, c4][j]? = some u → (w.alloc (.cells #[c0, c1, c2, c3, c4] t)).cell? ((⟨w.heap.size, 0, none⟩ : Addr).add j) = some u := by
  intro j u hj
  rw [Addr.add_lit, Nat.zero_add, cell_of_row _ _ j _ t _ (heap_alloc_new w _)]
  simpa using hj
theorem Fr.grown {S : Nat → Prop} {w w' : World} {row : Option Nat} (g : w.grownBy w' row) (hr : ∀ b, row = some b → S b) : Fr S w w' := ⟨g.os, g.tape, g.output, g.size, fun b hb hn => g.block b hb (fun e => hn (hr b e.symm))⟩

theorem VIn.lt' {w : World} {S : Nat → Prop} {vs : List Tr} {A : Option Addr} (h : VIn w S vs A) : VIn w (fun b => b < w.heap.size) vs A := fun i t ht => by
  obtain ⟨a, k, n, s, x, ks', vs', A', c', e, hSa, rfl, hT, hc⟩ := h i t ht
  refine ⟨a, k, n, s, x, ks', vs', A', c', e, ?_, rfl, hT.lt', hc⟩
  have := World.block_lt_of_cell? _ _ hc.c0
  rwa [mem.add_block] at this

/-- Values that a call appends one by one. -/
def VOwn (w : World) (lo : Nat) (v : Value) (xs : List Value) (vs : List Tr) : Prop :=
  w.ownsRow lo IV 5 v vs.length xs ∧ ∀ i, i < vs.length → ∃ k n s x ks' vs' A c, vs[i]? = some (.mk k n s x ks' vs') ∧ (∀ q, q < 5 → xs[i * 5 + q]? = (#[.int .i64 k, .int .i64 n, .string s, .int .i64 x, .slice A vs'.length c] : Array Value)[q]?) ∧ TIn w (SX lo v) (.mk k n s x ks' vs') (vV k n s x A vs'.length c)
theorem VOwn.row {w : World} {lo : Nat} {v : Value} {xs : List Value} {vs : List Tr} (h : VOwn w lo v xs vs) : w.ownsRow lo IV 5 v vs.length xs := h.1
theorem VOwn.lt {w : World} {lo : Nat} {v : Value} {xs : List Value} {vs : List Tr} (h : VOwn w lo v xs vs) : ∀ b, v.ownBlock = some b → lo ≤ b ∧ b < w.heap.size := World.ownsRow.lt h.1
theorem VOwn.below {w w' : World} {lo : Nat} {v : Value} {xs : List Value} {vs : List Tr} (h : VOwn w lo v xs vs) (hb : Below w.heap.size w w') : VOwn w' lo v xs vs := by
  obtain ⟨h1, h2⟩ := h
  refine ⟨World.ownsRow.kept h1 (mem.none_of_below hb) ownBlock_keep, fun i hi => ?_⟩
  obtain ⟨k, n, s, x, ks', vs', A, c, a2, a4, a5⟩ := h2 i hi
  exact ⟨k, n, s, x, ks', vs', A, c, a2, a4, a5.below' hb⟩
theorem VOwn.more {w w' : World} {lo : Nat} {v : Value} {xs : List Value} {vs : List Tr} (h : VOwn w lo v xs vs) {k n x : Int} {s : ByteArray} {ks' : List Ky} {vs' : List Tr} {A : Option Addr} {c : Nat} (ht : TIn w (SX lo v) (.mk k n s x ks' vs') (vV k n s x A vs'.length c)) {v' : Value}
    (ho : w'.ownsRow lo IV 5 v' (vs.length + 1) (xs ++ [.int .i64 k, .int .i64 n, .string s, .int .i64 x, .slice A vs'.length c])) (hg : w.grownBy w' v.ownBlock) (hat : v'.ownBlock = v.ownBlock ∨ v'.ownBlock = some w.heap.size) :
    VOwn w' lo v' (xs ++ [.int .i64 k, .int .i64 n, .string s, .int .i64 x, .slice A vs'.length c]) (vs ++ [.mk k n s x ks' vs']) := by
  obtain ⟨h1, h3⟩ := h
  have hxl : xs.length = vs.length * 5 := h1.1
  have st : ∀ {t : Tr} {u : Value}, TIn w (SX lo v) t u → TIn w' (SX lo v') t u := fun {t u} h => by
    have h' : TIn w (fun b => SX lo v b ∧ b < w.heap.size) t u := by
      induction h with
      | mk k n s x ks vs A cap C hk hl hm hcap hc ht ih =>
        refine .mk k n s x ks vs A cap C hk hl hm hcap (fun i hi => ?_) ih
        obtain ⟨a, ha, hS, hky, hs, hj⟩ := hc i hi
        refine ⟨a, ha, ⟨hS, ?_⟩, hky, hs, hj⟩
        have := World.block_lt_of_cell? _ _ hky.1
        rwa [mem.add_block] at this
    exact h'.stays (fun b ⟨⟨hb1, hb2⟩, hb3⟩ => ⟨hb1, fun e => by
      rcases hat with h | h
      · exact hb2 (h ▸ e)
      · rw [h] at e; injection e with e; omega⟩) (fun b ⟨⟨hb1, hb2⟩, hb3⟩ hlt => hg.block b hlt (fun e => hb2 e.symm))
  refine ⟨by rw [List.length_append]; exact ho, fun i hi => ?_⟩
  rw [List.length_append] at hi
  simp only [List.length_cons, List.length_nil] at hi
  by_cases e : i = vs.length
  · subst e
    refine ⟨k, n, s, x, ks', vs', A, c, by rw [List.getElem?_append_right (by omega)]; simp, fun q hq => ?_, st ht⟩
    rw [List.getElem?_append_right (by omega), hxl, Nat.add_sub_cancel_left]
    match q, hq with
    | 0, _ => rfl
    | 1, _ => rfl
    | 2, _ => rfl
    | 3, _ => rfl
    | 4, _ => rfl
  · obtain ⟨k1, n1, s1, x1, ks1, vs1, A1, c1, a2, a4, a5⟩ := h3 i (by omega)
    refine ⟨k1, n1, s1, x1, ks1, vs1, A1, c1, by rw [List.getElem?_append_left (by omega)]; exact a2, fun q hq => ?_, st a5⟩
    rw [List.getElem?_append_left (by omega)]
    exact a4 q hq
theorem VOwn.out {w : World} {lo : Nat} {v : Value} {xs : List Value} {vs : List Tr} (h : VOwn w lo v xs vs) : ∃ A c, v = .slice A vs.length c ∧ VIn w (fun _ => True) vs A := by
  obtain ⟨h1, h3⟩ := h
  rcases h1.2 with ⟨rfl, h0⟩ | ⟨g, cap, cur, rfl, hlo, hg, hnc, hcm, hsz, htk⟩
  · rw [h0]
    exact ⟨none, 0, rfl, fun i t ht => by have := (List.getElem?_eq_some_iff.1 ht).1; omega⟩
  · refine ⟨some ⟨g, 0, none⟩, cap, rfl, fun i t ht => ?_⟩
    have hi := (List.getElem?_eq_some_iff.1 ht).1
    obtain ⟨k, n, s, x, ks', vs', A, c, a2, a4, a5⟩ := h3 i hi
    rw [ht] at a2
    obtain rfl := Option.some.inj a2
    have at_ : ∀ q, q < 5 → w.cell? ⟨g, i * 5 + q, none⟩ = (#[.int .i64 k, .int .i64 n, .string s, .int .i64 x, .slice A vs'.length c] : Array Value)[q]? := fun q hq => by
      rw [cell_of_row w g _ cur IV _ hg, ← a4 q hq, ← htk, List.getElem?_take_of_lt (by omega), Array.getElem?_toList]
    refine ⟨⟨g, 0, none⟩, k, n, s, x, ks', vs', A, c, rfl, trivial, rfl, a5.stays (fun _ _ => trivial) (fun _ _ _ => rfl), ?_⟩
    rw [Addr.add_lit, Nat.zero_add]
    exact ⟨at_ 0 (by omega), at_ 1 (by omega), at_ 2 (by omega), at_ 3 (by omega), at_ 4 (by omega)⟩

end Go.Proofs.Ytbgffmiffmmohaa.tree

/-
  The live values of a table, as a new row.
  Conditions: at most 2^20 slots.
-/
namespace Go.Proofs.Ytbgffmiffmmohaa.tree
open Go.ChangeShapes Go.WideShapes Go.ChangeAt Go.RowKit
set_option linter.unusedVariables false

theorem TIn.bothv {w : World} {S : Nat → Prop} {t : Tr} {v : Value} (h : TIn w S t v) : TIn w (fun b => S b ∧ b < w.heap.size) t v := by
  induction h with
  | mk k n s x ks vs A cap C hk hl hm hcap hc ht ih =>
    refine .mk k n s x ks vs A cap C hk hl hm hcap (fun i hi => ?_) ih
    obtain ⟨a, ha, hS, hky, hs, hj⟩ := hc i hi
    refine ⟨a, ha, ⟨hS, ?_⟩, hky, hs, hj⟩
    have := World.block_lt_of_cell? _ _ hky.1
    rwa [mem.add_block] at this
/-- A row of the call's own whose values lie in memory below lo. -/
def LvO (w : World) (lo : Nat) (S : Nat → Prop) (v : Value) (xs : List Value) (vs : List Tr) : Prop := w.ownsRow lo IV 5 v vs.length xs ∧ XV w (fun b => S b ∧ b < lo) vs xs
theorem LvO.below {w w' : World} {lo : Nat} {S : Nat → Prop} {v : Value} {xs : List Value} {vs : List Tr} (h : LvO w lo S v xs vs) (hb : Below w.heap.size w w') : LvO w' lo S v xs vs :=
  ⟨World.ownsRow.kept h.1 (mem.none_of_below hb) ownBlock_keep, h.2.below hb⟩
theorem LvO.more {w w7 : World} {lo : Nat} {S : Nat → Prop} {v v' : Value} {xs : List Value} {vs : List Tr} (h : LvO w lo S v xs vs) {k n x : Int} {s : ByteArray} {ks' : List Ky} {vs' : List Tr} {A : Option Addr} {c : Nat}
    (hT : TIn w (fun b => S b ∧ b < lo) (.mk k n s x ks' vs') (vV k n s x A vs'.length c))
    (ho : w7.ownsRow lo IV 5 v' (vs.length + 1) (xs ++ [.int .i64 k, .int .i64 n, .string s, .int .i64 x, .slice A vs'.length c])) (hg : w.grownBy w7 v.ownBlock) :
    LvO w7 lo S v' (xs ++ [.int .i64 k, .int .i64 n, .string s, .int .i64 x, .slice A vs'.length c]) (vs ++ [.mk k n s x ks' vs']) := by
  refine ⟨by rw [List.length_append]; exact ho, ?_⟩
  have hx := h.2.ins (p := vs.length) (Nat.le_refl _) hT
  rw [List.take_length, List.drop_length, ← h.2.1, List.take_length, List.drop_length, List.append_nil] at hx
  exact hx.stays (fun b hb => hb) fun b hb hl => hg.block b hl (fun e => by have := (World.ownsRow.lt h.1 b e.symm).1; have hb' : b < lo := hb.2; omega)
theorem LvO.out {w : World} {lo : Nat} {S : Nat → Prop} {v : Value} {xs : List Value} {vs : List Tr} (h : LvO w lo S v xs vs) : ∃ A c, v = .slice A vs.length c ∧ vs.length ≤ maxLen ∧ VIn w (fun b => S b ∨ lo ≤ b) vs A := by
  obtain ⟨h1, h2⟩ := h
  rcases h1.2 with ⟨rfl, h0⟩ | ⟨g, cap, cur, rfl, hlo, hg, hnc, hcm, hsz, htk⟩
  · obtain rfl : vs = [] := List.length_eq_zero_iff.1 h0
    exact ⟨none, 0, rfl, by simp, fun i t ht => by simp at ht⟩
  · refine ⟨some ⟨g, 0, none⟩, cap, rfl, by omega, (h2.stays (S' := fun b => S b ∨ lo ≤ b) (fun _ hb => .inl hb.1) fun _ _ _ => rfl).vin (.inr hlo) fun j u hu => ?_⟩
    rw [Addr.add_lit, Nat.zero_add, cell_of_row w g _ cur IV _ hg]
    rw [← htk, List.getElem?_take] at hu
    split at hu
    · rw [Array.getElem?_toList] at hu; exact hu
    · cases hu

theorem grownB5v {w w1 w2 : World} {B : Nat} {row : Option Nat} (h : Below B w w1) (g : w1.grownBy w2 row) (hB : B ≤ w1.heap.size) (hk : ∀ b, row = some b → B ≤ b) : Below B w w2 :=
  ⟨g.os.trans h.os, g.tape.trans h.tape, g.output.trans h.output, Nat.le_trans h.size g.size, fun b hb => (g.block b (by omega) (fun e => by have := hk b e.symm; omega)).trans (h.block b hb)⟩
def LvQ (w : World) (S : Nat → Prop) (vs : List Tr) (e : Ending) (w' : World) : Prop := ∃ A c, e = .returned (.slice A vs.length c) ∧ vs.length ≤ maxLen ∧ VIn w' (fun b => S b ∨ w.heap.size ≤ b) vs A ∧ Below w.heap.size w w'

set_option maxRecDepth 100000 in
set_option maxHeartbeats 1600000 in
theorem liveValues_i {sl : List Sl} {b : Bool} {A : Option Addr} {n c : Nat} {B : Option Addr} {m d : Nat} {x k : Int} (w : World) {S : Nat → Prop} (hs : SIn w S sl B) (hm : sl.length = m) (hm2 : m ≤ 1048576) :
    Calls Try.prog 23 #[tbV b A n c B m d x k] w (LvQ w S (livV sl)) := by
  obtain ⟨P, HP⟩ : ∃ P, Hid (w.heap.size = P) := ⟨_, Lib.hid rfl⟩
  have HI := Lib.hid (show SIn w (fun b => S b ∧ b < P) sl B by
    have h := hs
    intro i t ht
    obtain ⟨a, k, n, s, x, ks, vs, A', c', e, hSa, hk, hl, hv, hT, hc⟩ := h i t ht
    refine ⟨a, k, n, s, x, ks, vs, A', c', e, ?_, hk, hl, hv, ?_, hc⟩
    · refine ⟨hSa, ?_⟩
      rw [← HP.out]
      have := World.block_lt_of_cell? _ _ hc.c0
      rwa [mem.add_block] at this
    · rw [← HP.out]; exact hT.bothv)
  have HM2 := Lib.hid hm
  obtain ⟨i0, hi, hz⟩ := iv_info
  have HII := Lib.hid hi
  have HZZ := Lib.hid hz
  clear hi hz hs
  go_enter Try.func23, Try.ntmps23
  go_upto_region 2 with (fail)
  generalize hw0 : (w.alloc (.cells #[.bool b, .slice A n c, .slice B m d, .int .i64 x, .int .i64 k] IT)).alloc (.cells #[] IV) = w0
  have a0 : w0.heap[w.heap.size]? = some (.cells #[.bool b, .slice A n c, .slice B m d, .int .i64 x, .int .i64 k] IT (0, 0)) := by rw [← hw0]; exact heap_alloc2_old w _ _
  have A0 : Hid (LvO w0 P S (.slice (some ⟨w.heap.size + 1, 0, none⟩) 0 0) [] []) := Lib.hid (by
    rw [← hw0]
    have := (World.ownsRow_made (base := P) (e := IV) (size := 5) (w.alloc (.cells #[.bool b, .slice A n c, .slice B m d, .int .i64 x, .int .i64 k] IT)) #[] 0 (by rw [← HP.out]; simp) (Nat.zero_le _) rfl)
    rw [show (w.alloc (.cells #[.bool b, .slice A n c, .slice B m d, .int .i64 x, .int .i64 k] IT)).heap.size = w.heap.size + 1 by simp] at this
    exact ⟨this, XV.nil _ _⟩)
  have HB0 : Hid (Below w.heap.size w w0) := Lib.hid (by rw [← hw0]; exact b2 w _ _)
  have r0 := (rowc a0).1 2
  simp at r0
  have hPZ : P < w0.heap.size := by rw [← hw0, ← HP.out]; simp; omega
  clear hw0 a0
  go_wp2_with (fail)
  go_loopg [3, 10] (m + 1) (fun gk r i wr => ∃ (j : Nat) (vs : List Tr) (xs : List Value), i = .int .i64 j ∧ gk + j = m + 1 ∧ j ≤ m ∧ vs.length ≤ j ∧ Hid (vs = livV (sl.take j)) ∧ Hid (LvO wr P S r xs vs) ∧ Hid (Below w.heap.size w wr))
  case atStart => exact ⟨0, [], [], rfl, by omega, by omega, by simp, Lib.hid rfl, A0, HB0⟩
  case round =>
    clear r0 A0 HB0
    obtain ⟨j, vs, xs, rfl, hgj, hjm, hvj, HV, HO, HB⟩ := hrel
    by_cases hlt : j < m
    · obtain ⟨t, htj⟩ : ∃ t, sl[j]? = some t := ⟨_, List.getElem?_eq_getElem (by omega)⟩
      obtain ⟨a, k1, n1, s1, x1, ks1, vs1, A1, c1, rfl, -, hyb, hlb, hv, hT, hcell⟩ := HI.out j t htj
      have hlv := liv_take htj
      have hc10 := hcell.stays (w' := wr) (fun hl => HB.out.block _ hl)
      obtain ⟨⟨yb, yn, ys⟩, tv, tb, tl⟩ := t
      simp only at hyb hlb hv hT hc10 hlv
      subst hv
      have HT := Lib.hid (hT.below' HB.out)
      have HLV := Lib.hid hlv
      obtain ⟨L1, HL1⟩ : ∃ L, Hid (vs1.length = L) := ⟨_, Lib.hid rfl⟩
      rw [HL1.out] at hc10 HT
      obtain ⟨p0, p1, p2, p3, p4, p5, p6, p7, p8, p9⟩ := hc10
      simp only at p0 p1 p2
      clear hyb hlb hT hcell hlv htj
      go_upto_region 5 with fail
      generalize hw1 : wr.alloc (.cells #[.bool yb, .int .i64 yn, .string ys, .int .i64 k1, .int .i64 n1, .string s1, .int .i64 x1, .slice A1 L1 c1, .bool tb, .int .i64 tl] 76) = w1
      have hb1 : Below wr.heap.size wr w1 := hw1 ▸ b1 wr _
      have h10 : w1.heap[wr.heap.size]? = some (.cells #[.bool yb, .int .i64 yn, .string ys, .int .i64 k1, .int .i64 n1, .string s1, .int .i64 x1, .slice A1 L1 c1, .bool tb, .int .i64 tl] 76 (0, 0)) := by rw [← hw1]; exact heap_alloc_new wr _
      have HB1 := Lib.hid (bs HB.out hb1)
      have HO1 := Lib.hid (HO.out.below hb1)
      have HT1 := Lib.hid (HT.out.below' hb1)
      have r10 := (rowc h10).1
      have z3 := r10 3; have z4 := r10 4; have z5 := r10 5; have z6 := r10 6; have z7 := r10 7; have z8 := r10 8
      simp at z3 z4 z5 z6 z7 z8
      clear hw1 hb1 h10 r10 HO HB HT p0 p1 p2 p3 p4 p5 p6 p7 p8 p9
      cases tb with
      | false =>
        have HV2 : Hid (vs = livV (sl.take (j + 1))) := Lib.hid (by
          have h := HLV.out
          simp at h
          unfold livV
          rw [h]
          exact HV.out)
        go_wp2_with (fail)
        go_roundg (m - j)
        case rel => exact ⟨j + 1, vs, xs, by go_num, by omega, by omega, by omega, HV2, HO1, HB1⟩
        case measure => omega
      | true =>
        have HV2 : Hid (vs ++ [.mk k1 n1 s1 x1 ks1 vs1] = livV (sl.take (j + 1))) := Lib.hid (by
          have h := HLV.out
          simp at h
          unfold livV
          rw [h, HV.out]
          simp [livV])
        go_wp2_with (first
          | (at_builtin; refine wpList_append_own_at _ rfl _ _ 34 rfl P IV i0 _ 5 64 Try.underlying34 HII.out HZZ.out.1 HZZ.out.2.1 HZZ.out.2.2 rfl (by decide) _ vs.length xs rfl (World.ownsRow.alloc HO1.out.1 _) ⟨w1.heap.size, 0, none⟩ 1 1 [.int .i64 k1, .int .i64 n1, .string s1, .int .i64 x1, .slice A1 L1 c1] rfl rfl (five_new _ _ _ _ _ _ _) (five_one _ _ _ _ _ _ _) (by unfold maxLen; omega) (by omega) (by have := HB1.out.size; have := HP.out; simp; omega) ?_
             intro v' w5 hown' hgrow' hnil hat'
             have HO5 := Lib.hid hown'
             have HG5 := Lib.hid hgrow'
             clear hown' hgrow' hnil hat')
          | fail)
        go_roundg (m - j)
        case rel =>
          refine ⟨j + 1, vs ++ [.mk k1 n1 s1 x1 ks1 vs1], xs ++ [.int .i64 k1, .int .i64 n1, .string s1, .int .i64 x1, .slice A1 vs1.length c1], by go_num, by omega, by omega, by simp; omega, HV2, Lib.hid ?_, Lib.hid ?_⟩
          · have h5 := HO5.out
            rw [← HL1.out] at h5
            have hT := HT1.out
            rw [← HL1.out] at hT
            exact (HO1.out.below (b1 w1 _)).more (hT.below' (b1 w1 _)) h5 HG5.out
          · exact grownB5v (HB1.out.alloc HB1.out.size _) HG5.out (by have := HB1.out.size; simp; omega) (fun b hb => by have := (World.ownsRow.lt HO1.out.1 b hb).1; rw [HP.out]; exact this)
        case measure => omega
    · obtain rfl : j = m := by omega
      have e : vs = livV sl := by rw [HV.out, ← HM2.out, List.take_length]
      have HO3 := Lib.hid (e ▸ HO.out)
      clear e HO HV
      go_wp2_with (fail)
      go_ret
      obtain ⟨A9, c9, e9, hl9, h9⟩ := HO3.out.out
      exact ⟨A9, c9, by rw [e9]; rfl, hl9, by rw [HP.out]; exact h9, HB.out⟩

end Go.Proofs.Ytbgffmiffmmohaa.tree

/-
  CountRefs of the project.
  Conditions: at most 2^20 blocks, each with at most 2^20 slots; at most 2^20 roots.
-/
namespace Go.Proofs.Ytbgffmiffmmohaa.tree
open Go.ChangeShapes Go.WideShapes Go.ChangeAt Go.RowKit
set_option linter.unusedVariables false

theorem irng_i (n l h : Int) (q : Bool) (hq : decide (l ≤ n ∧ n ≤ h) = q) (w : World) : Calls Try.prog 42 #[.int .i64 n, .int .i64 l, .int .i64 h] w fun e w' => e = .returned (.bool q) ∧ w = w' := by
  subst hq
  by_cases h1 : l ≤ n
  all_goals
    by_cases h2 : n ≤ h
    all_goals
      go_enter Try.func42, Try.ntmps42
      go_wp2
      go_ret
      exact ⟨by simp [h1, h2], rfl⟩
theorem irng_s (n l h : Int) (q : Bool) (hq : decide (l ≤ n ∧ n ≤ h) = q) (w : World) : Calls Try.prog 31 #[.int .i64 n, .int .i64 l, .int .i64 h] w fun e w' => e = .returned (.bool q) ∧ w = w' := by
  subst hq
  by_cases h1 : l ≤ n
  all_goals
    by_cases h2 : n ≤ h
    all_goals
      go_enter Try.func31, Try.ntmps31
      go_wp2
      go_ret
      exact ⟨by simp [h1, h2], rfl⟩
theorem isIndex_n (n : Int) (A : Option Addr) (L c : Nat) (hL : L ≤ 1048576) (q : Bool) (hq : decide (0 ≤ n ∧ n < L) = q) (w : World) : Calls Try.prog 34 #[.slice A L c, .int .i64 n] w fun e w' => e = .returned (.bool q) ∧ w = w' := by
  have IR := irng_i n 0 ((L : Int) - 1) q (by rw [← hq]; exact decide_eq_decide.2 (by omega))
  clear hq
  go_enter Try.func34, Try.ntmps34
  go_wp2_with (fail)
  refine (IR _).mono ?_
  rintro e w1 ⟨rfl, rfl⟩
  go_wp2_with (fail)
  go_ret
  exact ⟨rfl, rfl⟩

set_option maxRecDepth 100000 in
set_option maxHeartbeats 1600000 in
theorem addRefs_i (vs : List Tr) (A : Option Addr) (c : Nat) (w : World) (S : Nat → Prop) (h : VIn w S vs A) (hm : vs.length ≤ 1048576) (C : Option Addr) (N d lo : Nat) (cs : List Int) (hC : imem.OwnI w lo C N d cs) (hN : N ≤ 1048576) (hno : ∀ q, (Value.slice C N d).ownBlock = some q → ¬ S q) (M : Int) (hM : Upto cs M) (hM1 : M ≤ 1000000000000000) :
    Calls Try.prog 22 #[.slice C N d, .slice A vs.length c] w (fun e w' => e = .returned (.tuple #[]) ∧ imem.OwnI w' lo C N d (addR cs vs) ∧ Fr (fun b => (Value.slice C N d).ownBlock = some b) w w') := by
  obtain ⟨L, HL⟩ : ∃ L, Hid (vs.length = L) := ⟨_, Lib.hid rfl⟩
  rw [HL.out] at hm ⊢
  have HV := Lib.hid h
  have HC := Lib.hid hC
  have HNO := Lib.hid hno
  have HM := Lib.hid hM
  have HCL := Lib.hid hC.len
  clear h hC hno hM
  go_enter Try.func22, Try.ntmps22
  go_upto_region 1 with fail
  go_loopg [8] (L + 1) (fun gk i wr => ∃ (j : Nat), i = .int .i64 j ∧ gk + j = L + 1 ∧ j ≤ L ∧ Hid (imem.OwnI wr lo C N d (addR cs (vs.take j))) ∧ Hid (Fr (fun b => (Value.slice C N d).ownBlock = some b) w wr))
  case atStart => exact ⟨0, rfl, by omega, by omega, HC, Lib.hid (Fr.refl _ _)⟩
  case round =>
    clear HC
    obtain ⟨j, rfl, hgj, hjL, HO, HF⟩ := hrel
    by_cases hlt : j < L
    · obtain ⟨t, ht⟩ : ∃ t, vs[j]? = some t := ⟨_, List.getElem?_eq_getElem (by rw [HL.out]; exact hlt)⟩
      have hstep := addR_take (cs := cs) ht
      have hup := (Upto.addR (vs.take j) HM.out).mono (M' := M + L) (by rw [List.length_take]; omega)
      have HW : VIn wr S vs A := HV.out.stays (fun _ h => h) fun b hb hl => HF.out.block b hl (fun e => HNO.out b e hb)
      obtain ⟨a, k, n, s, x, ks', vs', A1, c1, rfl, -, rfl, hT, hcell⟩ := HW j t ht
      obtain ⟨L1, HL1⟩ : ∃ L1, Hid (vs'.length = L1) := ⟨_, Lib.hid rfl⟩
      rw [HL1.out] at hcell
      obtain ⟨p0, p1, p2, p3, p4⟩ := hcell
      have HUP := Lib.hid hup
      have hlen : (addR cs (vs.take j)).length = N := (addR_len _ cs).trans HCL.out
      have HLEN := Lib.hid hlen
      have HST := Lib.hid hstep
      clear hT ht HW hstep hup hlen
      go_upto_region 3 with fail
      generalize hw1 : wr.alloc (.cells #[.int .i64 k, .int .i64 n, .string s, .int .i64 x, .slice A1 L1 c1] IV) = w1
      have hb1 : Below wr.heap.size wr w1 := hw1 ▸ b1 wr _
      have h5 : w1.heap[wr.heap.size]? = some (.cells #[.int .i64 k, .int .i64 n, .string s, .int .i64 x, .slice A1 L1 c1] IV (0, 0)) := by rw [← hw1]; exact heap_alloc_new wr _
      have HO1 := Lib.hid (HO.out.below hb1)
      have HF1 := Lib.hid (HF.out.trans (Fr.of hb1))
      have r5 := (rowc h5).1
      have z0 := r5 0; have z1 := r5 1
      simp at z0 z1
      clear hw1 hb1 h5 r5 HO HF p0 p1 p2 p3 p4
      by_cases h5 : k = 5
      · subst h5
        obtain ⟨q, HQ⟩ : ∃ q, Hid (decide (0 ≤ n ∧ n < N) = q) := ⟨_, Lib.hid rfl⟩
        have IX := isIndex_n n C N d hN q HQ.out
        go_wp2_with (fail)
        refine (IX _).mono ?_
        rintro e w2 ⟨rfl, rfl⟩
        cases q with
        | false =>
          have HST2 : Hid (addR cs (vs.take (j + 1)) = addR cs (vs.take j)) := Lib.hid (by rw [HST.out, addO_five, bump_out (by rw [HLEN.out]; exact of_decide_eq_false HQ.out)])
          go_wp2_with (fail)
          go_roundg (L - j)
          case rel => exact ⟨j + 1, by go_num, by omega, by omega, Lib.hid (by rw [HST2.out]; exact HO1.out), HF1⟩
          case measure => omega
        | true =>
          obtain ⟨h0, h1⟩ := of_decide_eq_true HQ.out
          obtain ⟨i, rfl⟩ : ∃ i : Nat, n = i := ⟨n.toNat, by omega⟩
          have hi : i < N := by omega
          obtain ⟨g, rfl, -, -, hob⟩ := HO1.out.head (by omega)
          obtain ⟨v, hv⟩ : ∃ v, (addR cs (vs.take j))[i]? = some v := ⟨_, List.getElem?_eq_getElem (by rw [HLEN.out]; exact hi)⟩
          have hvb := HUP.out i v hv
          have hcv : w1.cell? ⟨g, i, none⟩ = some (.int .i64 v) := by rw [HO1.out.row.cellAt i (by omega)]; exact imem.ics_get hv
          have hfz : w1.frozen? ⟨g, i, none⟩ = false := HO1.out.row.frozenAt i
          have HST2 : Hid (addR cs (vs.take (j + 1)) = (addR cs (vs.take j)).set i (v + 1)) := Lib.hid (by rw [HST.out, addO_five, bump_in hv])
          clear hv HQ IX
          go_wp2_with (fail)
          go_roundg (L - j)
          case rel => exact ⟨j + 1, by go_num, by omega, by omega, Lib.hid (by rw [HST2.out]; exact (HO1.out.set i (v + 1)).1), Lib.hid (HF1.out.trans (Fr.set (S := fun b => (Value.slice (some ⟨g, 0, none⟩) N d).ownBlock = some b) hob _ _))⟩
          case measure => omega
      · have HST2 : Hid (addR cs (vs.take (j + 1)) = addR cs (vs.take j)) := Lib.hid (by rw [HST.out, addO_not h5])
        go_wp2_with (fail)
        go_roundg (L - j)
        case rel => exact ⟨j + 1, by go_num, by omega, by omega, Lib.hid (by rw [HST2.out]; exact HO1.out), HF1⟩
        case measure => omega
    · obtain rfl : j = L := by omega
      have e : vs.take j = vs := by rw [← HL.out, List.take_length]
      have HO3 := Lib.hid (e ▸ HO.out)
      clear e HO
      go_wp2_with (fail)
      go_end0
      exact ⟨rfl, HO3.out, HF.out⟩

/-- A new row of counts. -/
def RfQ (w : World) (cs : List Int) (e : Ending) (w' : World) : Prop := ∃ A c, e = .returned (.slice A cs.length c) ∧ imem.OwnI w' w.heap.size A cs.length c cs ∧ Below w.heap.size w w'

set_option maxRecDepth 100000 in
set_option maxHeartbeats 1600000 in
theorem countRefs_i (bl : List Bk) (A : Option Addr) (c : Nat) (vs : List Tr) (B : Option Addr) (d : Nat) (w : World) (S S' : Nat → Prop) (h : HIn w S bl A) (h' : VIn w S' vs B) (hm : bl.length ≤ 1048576) (hv : vs.length ≤ 1048576) (hs : ∀ k ∈ bl, k.slots.length ≤ 1048576) :
    Calls Try.prog 9 #[hpV A bl.length c, .slice B vs.length d] w (RfQ w (refsOf bl vs)) := by
  obtain ⟨L, HL⟩ : ∃ L, Hid (bl.length = L) := ⟨_, Lib.hid rfl⟩
  rw [HL.out] at hm ⊢
  have HH := Lib.hid h
  have HS := Lib.hid hs
  have HV0 := Lib.hid h'.lt'
  obtain ⟨LV, HLV⟩ : ∃ L, Hid (vs.length = L) := ⟨_, Lib.hid rfl⟩
  rw [HLV.out] at hv ⊢
  have AR := Lib.hid (fun (w' : World) (S : Nat → Prop) (h : VIn w' S vs B) => addRefs_i vs B d w' S h (by rw [HLV.out]; exact hv))
  rw [HLV.out] at AR
  have hLR : (refsOf bl vs).length = L := by unfold refsOf; rw [refsB_len, addR_len, List.length_replicate]; exact HL.out
  unfold RfQ
  rw [hLR]
  obtain ⟨i0, hi, hz0, hz1, hz2⟩ := info_parts imem.i64row
  have HZ := Lib.hid hz2
  obtain ⟨P, HP⟩ : ∃ P, Hid (w.heap.size = P) := ⟨_, Lib.hid rfl⟩
  clear h h' hs hLR hz2
  go_enter Try.func9, Try.ntmps9
  go_wp2_with (first | (at_make; refine wpList_make_full _ rfl _ _ 28 rfl P 3 i0 (.int .i64 0) 1 Try.underlying28 hi hz0 hz1 _ _ _ _ L rfl rfl rfl rfl (by have := HZ.out; rw [this]; omega) (by unfold maxLen; omega) (by rw [← HP.out]; simp) ?_; intro w1 hown hg; have HOW := Lib.hid hown; have HG := Lib.hid hg; clear hown hg) | fail)
  have HO1 : Hid (imem.OwnI w1 P (some ⟨w.heap.size + 1, 0, none⟩) L L (List.replicate L 0)) := Lib.hid ⟨List.length_replicate, by have h := HOW.out; rw [show (Value.int IntKind.i64 0).cells = #[Value.int .i64 0] from rfl] at h; rw [imem.ics_zero, ← toList_madeCells_one, ← Nat.mul_one L]; simpa using h⟩
  have HB1 : Hid (Below w.heap.size w w1) := Lib.hid (bs (b1 w _) (mem.below_of_none HG.out))
  have hbx : w1.heap[w.heap.size]? = some (.cells #[.slice A L c] IH (0, 0)) := (HG.out.block w.heap.size (by simp) (by simp)).trans (heap_alloc_new w _)
  have HBX := Lib.hid hbx
  have HW1 : Hid (w.heap.size + 1 < w1.heap.size) := Lib.hid (HO1.out.block _ rfl).2
  refine (AR.out w1 _ (HV0.out.below HB1.out) _ L L P _ HO1.out hm (fun q e hq => by have e1 : w.heap.size + 1 = q := (by simpa [Value.ownBlock] using e); have hq' : q < w.heap.size := hq; omega) 0 (Upto.zero L) (by omega)).mono ?_
  rintro e w2 ⟨rfl, ho2, hf2⟩
  have HO2 := Lib.hid ho2
  have HB2 : Hid (Below w.heap.size w w2) := Lib.hid (HB1.out.trans (hf2.below (by have := HW1.out; omega) (fun b e => by have e1 : w.heap.size + 1 = b := (by simpa [Value.ownBlock] using e); omega)))
  have hbx2 : w2.heap[w.heap.size]? = some (.cells #[.slice A L c] IH (0, 0)) := (hf2.block w.heap.size (by have := HW1.out; omega) (fun e => by simp [Value.ownBlock] at e)).trans hbx
  have r0 := (rowc hbx2).1 0
  simp at r0
  have HUP0 : Hid (Upto (addR (List.replicate L 0) vs) 1048576) := Lib.hid ((Upto.addR vs (Upto.zero L)).mono (by rw [HLV.out]; omega))
  obtain ⟨cs0, HC0⟩ : ∃ cs0, Hid (addR (List.replicate L 0) vs = cs0) := ⟨_, Lib.hid rfl⟩
  have HR0 : Hid (refsOf bl vs = refsB cs0 bl) := Lib.hid (by unfold refsOf; rw [HL.out, HC0.out])
  rw [HC0.out] at HO2 HUP0
  clear hbx hbx2 ho2 hf2 HO1 HB1 HOW HG HBX hi hz0 hz1 AR HV0
  go_upto_region 4 with fail
  go_loopg [18] (L + 1) (fun gk i wr => ∃ (j : Nat), i = .int .i64 j ∧ gk + j = L + 1 ∧ j ≤ L ∧ Hid (imem.OwnI wr P (some ⟨w.heap.size + 1, 0, none⟩) L L (refsB cs0 (bl.take j))) ∧ Hid (Upto (refsB cs0 (bl.take j)) (1048576 + 1048576 * j)) ∧ Hid (Below w.heap.size w wr))
  case atStart => exact ⟨0, rfl, by omega, by omega, HO2, Lib.hid (HUP0.out.mono (by omega)), HB2⟩
  case round =>
    clear HO2 HB2 HUP0 r0
    obtain ⟨j, rfl, hgj, hjL, HO, HUP, HB⟩ := hrel
    by_cases hlt : j < L
    · obtain ⟨k, hk⟩ : ∃ k, bl[j]? = some k := ⟨_, List.getElem?_eq_getElem (by rw [HL.out]; exact hlt)⟩
      have hms := HS.out k (List.mem_of_getElem? hk)
      obtain ⟨a, A1, n1, c1, B1, m1, d1, rfl, -, -, hT, hcell⟩ := HH.out j k hk
      have hsl : SIn w (fun b => b < w.heap.size) k.slots B1 := by
        intro i t ht
        obtain ⟨a, k, n, s, x, ks, vs, A', c', e, hSa, hk, hl, hv, hT, hc⟩ := hT.slots i t ht
        refine ⟨a, k, n, s, x, ks, vs, A', c', e, ?_, hk, hl, hv, hT.lt', hc⟩
        have := World.block_lt_of_cell? _ _ hc.c0
        rwa [mem.add_block] at this
      have hst := refsB_take (cs := cs0) hk
      have hlm := hT.len
      have hc6 := hcell.stays (w' := wr) (fun hl => HB.out.block _ hl)
      have hlv := livV_len k.slots
      have hlen : (refsB cs0 (bl.take j)).length = L := HO.out.len
      obtain ⟨rf, hh, l, sl, x, ct⟩ := k
      simp only at hms hsl hst hlm hc6 hlv
      have HST := Lib.hid hst
      have HUP2 : Hid (Upto (refsB cs0 (bl.take (j + 1))) (1048576 + 1048576 * (j + 1 : Nat))) := Lib.hid (by rw [HST.out]; exact (Upto.addR (livV sl) HUP.out).mono (by push_cast; omega))
      have LV := Lib.hid (fun w' (hb : Below w.heap.size w w') => liveValues_i (b := hh) (A := A1) (n := n1) (c := c1) (d := d1) (x := x) (k := ct) w' (hsl.below hb) hlm (by omega))
      have HM1 : Hid ((livV sl).length ≤ 1048576) := Lib.hid (by omega)
      obtain ⟨p0, p1, p2, p3, p4, p5⟩ := hc6
      clear hms hsl hst hlm hT hcell hk hlv hlen
      go_upto_region 6 with fail
      generalize hw3 : wr.alloc (.cells #[.int .i64 rf, .bool hh, .slice A1 n1 c1, .slice B1 m1 d1, .int .i64 x, .int .i64 ct] IB) = w3
      have hb3 : Below wr.heap.size wr w3 := hw3 ▸ b1 wr _
      have h6 : w3.heap[wr.heap.size]? = some (.cells #[.int .i64 rf, .bool hh, .slice A1 n1 c1, .slice B1 m1 d1, .int .i64 x, .int .i64 ct] IB (0, 0)) := by rw [← hw3]; exact heap_alloc_new wr _
      have HO3 := Lib.hid (HO.out.below hb3)
      have HB3 := Lib.hid (bs HB.out hb3)
      have r6 := (rowc h6).1
      have z1 := r6 1; have z2 := r6 2; have z3 := r6 3; have z4 := r6 4; have z5 := r6 5
      simp at z1 z2 z3 z4 z5
      have HG1 : Hid (w.heap.size + 1 < w3.heap.size) := Lib.hid (HO3.out.block _ rfl).2
      clear hw3 hb3 h6 r6 HO HB p0 p1 p2 p3 p4 p5
      go_wp2_with (fail)
      refine (LV.out _ HB3.out).mono ?_
      rintro e w4 ⟨A4, c4, rfl, hl4, hv4, hb4⟩
      have HO4 := Lib.hid (HO3.out.below hb4)
      have HB4 := Lib.hid (bs HB3.out hb4)
      have HG4 : Hid (w.heap.size + 1 < w4.heap.size) := Lib.hid (HO4.out.block _ rfl).2
      have AR := Lib.hid (addRefs_i (livV sl) A4 c4 w4 _ hv4 HM1.out (some ⟨w.heap.size + 1, 0, none⟩) L L P _ HO4.out hm (fun q e hq => by
        have e1 : w.heap.size + 1 = q := (by simpa [Value.ownBlock] using e)
        have := HG1.out
        rcases hq with hq | hq
        · have hq' : q < w.heap.size := hq; omega
        · omega) _ HUP.out (by have : (j : Int) ≤ 1048576 := by omega
                               omega))
      rw [← HST.out] at AR
      obtain ⟨LL, HLL⟩ : ∃ L, Hid ((livV sl).length = L) := ⟨_, Lib.hid rfl⟩
      rw [HLL.out] at AR ⊢
      clear hl4 hv4 hb4 z1 z2 z3 z4 z5
      go_wp2_with (fail)
      refine AR.out.mono ?_
      rintro e w5 ⟨rfl, ho5, hf5⟩
      have HO5 := Lib.hid ho5
      have HB5 : Hid (Below w.heap.size w w5) := Lib.hid (HB4.out.trans (hf5.below (by have := HG4.out; omega) (fun b e => by have e1 : w.heap.size + 1 = b := (by simpa [Value.ownBlock] using e); omega)))
      clear ho5 hf5
      go_wp2_with (fail)
      go_roundg (L - j)
      case rel => exact ⟨j + 1, by go_num, by omega, by omega, HO5, HUP2, HB5⟩
      case measure => omega
    · obtain rfl : j = L := by omega
      have e : bl.take j = bl := by rw [← HL.out, List.take_length]
      have HO3 := Lib.hid (e ▸ HO.out)
      clear e HO
      go_wp2_with (fail)
      go_ret
      exact ⟨_, _, rfl, by rw [HR0.out]; have h := HO3.out; rw [← HP.out] at h; exact h, HB.out⟩

end Go.Proofs.Ytbgffmiffmmohaa.tree

/-
  CountRefs of the model.
  Conditions: at most 2^20 blocks, each with at most 2^20 slots; at most 2^20 roots.
-/
namespace Go.Proofs.Ytbgffmiffmmohaa.tree
open Go.ChangeShapes Go.WideShapes Go.ChangeAt Go.RowKit
set_option linter.unusedVariables false

set_option maxRecDepth 100000 in
set_option maxHeartbeats 4000000 in
theorem counts_s (bl : List Bk) (A : Option Addr) (c : Nat) (vs : List Tr) (B : Option Addr) (d : Nat) (w : World) (S S' : Nat → Prop) (h : HIn w S bl A) (h' : VIn w S' vs B) (hm : bl.length ≤ 1048576) (hv : vs.length ≤ 1048576) (hs : ∀ k ∈ bl, k.slots.length ≤ 1048576) :
    Calls Try.prog 19 #[hpV A bl.length c, .slice B vs.length d] w (RfQ w (refsOf bl vs)) := by
  obtain ⟨L, HL⟩ : ∃ L, Hid (bl.length = L) := ⟨_, Lib.hid rfl⟩
  rw [HL.out] at hm ⊢
  have HH := Lib.hid h
  have HS := Lib.hid hs
  have HV0 := Lib.hid h'.lt'
  obtain ⟨LV, HLV⟩ : ∃ L, Hid (vs.length = L) := ⟨_, Lib.hid rfl⟩
  rw [HLV.out] at hv ⊢
  have hLR : (refsOf bl vs).length = L := by unfold refsOf; rw [refsB_len, addR_len, List.length_replicate]; exact HL.out
  unfold RfQ
  rw [hLR]
  obtain ⟨i0, hi, hz0, hz1, hz2⟩ := info_parts imem.i64row
  have HZ := Lib.hid hz2
  obtain ⟨P, HP⟩ : ∃ P, Hid (w.heap.size = P) := ⟨_, Lib.hid rfl⟩
  clear h h' hs hLR hz2
  go_enter Try.func19, Try.ntmps19
  go_wp2_with (first | (at_make; refine wpList_make_full _ rfl _ _ 28 rfl P 3 i0 (.int .i64 0) 1 Try.underlying28 hi hz0 hz1 _ _ _ _ L rfl rfl rfl rfl (by have := HZ.out; rw [this]; omega) (by unfold maxLen; omega) (by rw [← HP.out]; simp) ?_; intro w1 hown hg; have HOW := Lib.hid hown; have HG := Lib.hid hg; clear hown hg) | fail)
  have HO1 : Hid (imem.OwnI w1 P (some ⟨w.heap.size + 1, 0, none⟩) L L (List.replicate L 0)) := Lib.hid ⟨List.length_replicate, by have h := HOW.out; rw [show (Value.int IntKind.i64 0).cells = #[Value.int .i64 0] from rfl] at h; rw [imem.ics_zero, ← toList_madeCells_one, ← Nat.mul_one L]; simpa using h⟩
  have HB1 : Hid (Below w.heap.size w w1) := Lib.hid (bs (b1 w _) (mem.below_of_none HG.out))
  have HBX : Hid (w1.heap[w.heap.size]? = some (.cells #[.slice A L c] IH (0, 0))) := Lib.hid ((HG.out.block w.heap.size (by simp) (by simp)).trans (heap_alloc_new w _))
  clear HOW HG hi hz0 hz1
  go_loopg [6] (LV + 1) (fun gk i wr => ∃ (j : Nat), i = .int .i64 j ∧ gk + j = LV + 1 ∧ j ≤ LV ∧ Hid (imem.OwnI wr P (some ⟨w.heap.size + 1, 0, none⟩) L L (addR (List.replicate L 0) (vs.take j))) ∧ Hid (wr.heap[w.heap.size]? = some (.cells #[.slice A L c] IH (0, 0))) ∧ Hid (Below w.heap.size w wr))
  case atStart => exact ⟨0, rfl, by omega, by omega, HO1, HBX, HB1⟩
  case round =>
    clear HO1 HBX HB1
    obtain ⟨j, rfl, hgj, hjL, HO, HBX, HB⟩ := hrel
    by_cases hlt : j < LV
    · obtain ⟨t, ht⟩ : ∃ t, vs[j]? = some t := ⟨_, List.getElem?_eq_getElem (by rw [HLV.out]; exact hlt)⟩
      have hstep := addR_take (cs := List.replicate L 0) ht
      have hup := (Upto.addR (vs.take j) (Upto.zero L)).mono (M' := LV) (by rw [List.length_take]; omega)
      obtain ⟨a, k, n, s, x, ks', vs', A1, c1, rfl, -, rfl, hT, hcell⟩ := HV0.out.below HB.out j t ht
      obtain ⟨L1, HL1⟩ : ∃ L1, Hid (vs'.length = L1) := ⟨_, Lib.hid rfl⟩
      rw [HL1.out] at hcell
      obtain ⟨p0, p1, p2, p3, p4⟩ := hcell
      have HUP := Lib.hid hup
      have hlen := HO.out.len
      have HLEN := Lib.hid hlen
      have HST := Lib.hid hstep
      clear hT ht hstep hup hlen p2 p3 p4
      by_cases h5 : k = 5
      · subst h5
        obtain ⟨q, HQ⟩ : ∃ q, Hid (decide (0 ≤ n ∧ n ≤ (L : Int) - 1) = q) := ⟨_, Lib.hid rfl⟩
        have IX := irng_s n 0 ((L : Int) - 1) q HQ.out
        go_wp2_with (fail)
        refine (IX _).mono ?_
        rintro e w2 ⟨rfl, rfl⟩
        cases q with
        | false =>
          have HST2 : Hid (addR (List.replicate L 0) (vs.take (j + 1)) = addR (List.replicate L 0) (vs.take j)) := Lib.hid (by rw [HST.out, addO_five, bump_out (by rw [HLEN.out]; have := of_decide_eq_false HQ.out; omega)])
          go_wp2_with (fail)
          go_roundg (LV - j)
          case rel => exact ⟨j + 1, by go_num, by omega, by omega, Lib.hid (by rw [HST2.out]; exact HO.out), HBX, HB⟩
          case measure => omega
        | true =>
          obtain ⟨h0, h1⟩ := of_decide_eq_true HQ.out
          obtain ⟨i, rfl⟩ : ∃ i : Nat, n = i := ⟨n.toNat, by omega⟩
          have hi : i < L := by omega
          obtain ⟨v, hv'⟩ : ∃ v, (addR (List.replicate L 0) (vs.take j))[i]? = some v := ⟨_, List.getElem?_eq_getElem (by rw [HLEN.out]; exact hi)⟩
          have hvb := HUP.out i v hv'
          have hcv : wr.cell? ⟨w.heap.size + 1, i, none⟩ = some (.int .i64 v) := by rw [HO.out.row.cellAt i (by omega)]; exact imem.ics_get hv'
          have hfz : wr.frozen? ⟨w.heap.size + 1, i, none⟩ = false := HO.out.row.frozenAt i
          have HST2 : Hid (addR (List.replicate L 0) (vs.take (j + 1)) = (addR (List.replicate L 0) (vs.take j)).set i (v + 1)) := Lib.hid (by rw [HST.out, addO_five, bump_in hv'])
          have HON : Hid (imem.OwnI (wr.setCell ⟨w.heap.size + 1, i, none⟩ (.int .i64 (v + 1))) P (some ⟨w.heap.size + 1, 0, none⟩) L L (addR (List.replicate L 0) (vs.take (j + 1)))) := Lib.hid (by rw [HST2.out]; exact (HO.out.set i (v + 1)).1)
          have HBN : Hid (Below w.heap.size w (wr.setCell ⟨w.heap.size + 1, i, none⟩ (.int .i64 (v + 1)))) := Lib.hid (HB.out.setCell (by simp) _)
          have HBXN : Hid ((wr.setCell ⟨w.heap.size + 1, i, none⟩ (.int .i64 (v + 1))).heap[w.heap.size]? = some (.cells #[.slice A L c] IH (0, 0))) := Lib.hid (by rw [set_other (by omega)]; exact HBX.out)
          clear hv' HQ IX HST2
          go_wp2_with (fail)
          go_region
          have HOD : Hid (imem.OwnI (wr.setCell ⟨w.heap.size + 1, i, none⟩ (.int .i64 (v + 1))).drew P (some ⟨w.heap.size + 1, 0, none⟩) L L (addR (List.replicate L 0) (vs.take (j + 1)))) := Lib.hid HON.out
          have HBD := Lib.hid (HBN.out.trans ((Below.refl _ _).drew))
          have HBXD : Hid ((wr.setCell ⟨w.heap.size + 1, i, none⟩ (.int .i64 (v + 1))).drew.heap[w.heap.size]? = some (.cells #[.slice A L c] IH (0, 0))) := Lib.hid HBXN.out
          generalize (wr.setCell ⟨w.heap.size + 1, i, none⟩ (.int .i64 (v + 1))).drew = wz at *
          clear hcv hfz p0 p1
          go_wp2_with (fail)
          go_roundg (LV - j)
          case rel => exact ⟨j + 1, by go_num, by omega, by omega, HOD, HBXD, HBD⟩
          case measure => omega
      · have HST2 : Hid (addR (List.replicate L 0) (vs.take (j + 1)) = addR (List.replicate L 0) (vs.take j)) := Lib.hid (by rw [HST.out, addO_not h5])
        go_wp2_with (fail)
        go_roundg (LV - j)
        case rel => exact ⟨j + 1, by go_num, by omega, by omega, Lib.hid (by rw [HST2.out]; exact HO.out), HBX, HB⟩
        case measure => omega
    · obtain rfl : j = LV := by omega
      have HO2 : Hid (imem.OwnI wr P (some ⟨w.heap.size + 1, 0, none⟩) L L (addR (List.replicate L 0) vs)) := Lib.hid (by have h := HO.out; rw [← HLV.out, List.take_length] at h; exact h)
      have HUP0 : Hid (Upto (addR (List.replicate L 0) vs) 1048576) := Lib.hid ((Upto.addR vs (Upto.zero L)).mono (by rw [HLV.out]; omega))
      obtain ⟨cs0, HC0⟩ : ∃ cs0, Hid (addR (List.replicate L 0) vs = cs0) := ⟨_, Lib.hid rfl⟩
      have HR0 : Hid (refsOf bl vs = refsB cs0 bl) := Lib.hid (by unfold refsOf; rw [HL.out, HC0.out])
      rw [HC0.out] at HO2 HUP0
      have r0 := (rowc HBX.out).1 0
      simp at r0
      clear HO HV0
      go_wp2_with (fail)
      clear r0
      go_loopg [7] (L + 1) (fun gk i wr => ∃ (j : Nat), i = .int .i64 j ∧ gk + j = L + 1 ∧ j ≤ L ∧ Hid (imem.OwnI wr P (some ⟨w.heap.size + 1, 0, none⟩) L L (refsB cs0 (bl.take j))) ∧ Hid (Upto (refsB cs0 (bl.take j)) (1048576 + 1048576 * j)) ∧ Hid (wr.heap[w.heap.size]? = some (.cells #[.slice A L c] IH (0, 0))) ∧ Hid (Below w.heap.size w wr))
      case atStart => exact ⟨0, rfl, by omega, by omega, HO2, Lib.hid (HUP0.out.mono (by omega)), HBX, HB⟩
      case round =>
        clear HO2 HBX HB HUP0
        rename_i j0 _ _ _ _ _ _ _ _
        obtain ⟨i, rfl, hgi, hiL, HO, HUP, HBX, HB⟩ := hrel
        have r0 := (rowc HBX.out).1 0
        simp at r0
        by_cases hlt2 : i < L
        · obtain ⟨k, hk⟩ : ∃ k, bl[i]? = some k := ⟨_, List.getElem?_eq_getElem (by rw [HL.out]; exact hlt2)⟩
          have hms := HS.out k (List.mem_of_getElem? hk)
          obtain ⟨a, A1, n1, c1, B1, m1, d1, rfl, -, -, hT, hcell⟩ := HH.out i k hk
          have hsl : SIn w (fun b => b < w.heap.size) k.slots B1 := by
            intro i t ht
            obtain ⟨a, k, n, s, x, ks, vs, A', c', e, hSa, hk, hl, hv, hT, hc⟩ := hT.slots i t ht
            refine ⟨a, k, n, s, x, ks, vs, A', c', e, ?_, hk, hl, hv, hT.lt', hc⟩
            have := World.block_lt_of_cell? _ _ hc.c0
            rwa [mem.add_block] at this
          have hst := refsB_take (cs := cs0) hk
          have hlm := hT.len
          have hc6 := hcell.stays (w' := wr) (fun hl => HB.out.block _ hl)
          obtain ⟨rf, hh, l, sl, x, ct⟩ := k
          simp only at hms hsl hst hlm hc6
          have HST := Lib.hid hst
          have HSL := Lib.hid hsl
          have HLM := Lib.hid hlm
          obtain ⟨cs1, HC1⟩ : ∃ cs1, Hid (refsB cs0 (bl.take i) = cs1) := ⟨_, Lib.hid rfl⟩
          rw [HC1.out] at HO HUP HST
          have hM : 1048576 + 1048576 * (i : Int) ≤ 1000000000000000 := by omega
          obtain ⟨M, HMM⟩ : ∃ M : Int, Hid (1048576 + 1048576 * (i : Int) = M) := ⟨_, Lib.hid rfl⟩
          rw [HMM.out] at HUP hM
          have hm1 : m1 ≤ 1048576 := by omega
          obtain ⟨p0, p1, p2, p3, p4, p5⟩ := hc6
          clear hms hsl hst hlm hT hcell hk p0 p1 p2 p4 p5
          go_wp2_with (fail)
          clear r0 p3
          go_loopg [9] (m1 + 1) (fun gk i2 wr => ∃ (jj : Nat), i2 = .int .i64 jj ∧ gk + jj = m1 + 1 ∧ jj ≤ m1 ∧ Hid (imem.OwnI wr P (some ⟨w.heap.size + 1, 0, none⟩) L L (addR cs1 (livV (sl.take jj)))) ∧ Hid (wr.heap[w.heap.size]? = some (.cells #[.slice (some a) L c] IH (0, 0))) ∧ Hid (Below w.heap.size w wr))
          case atStart => exact ⟨0, rfl, by omega, by omega, HO, HBX, HB⟩
          case round =>
            clear HO HBX HB
            obtain ⟨jj, rfl, hgjj, hjj, HO, HBX, HB⟩ := hrel
            by_cases hlt3 : jj < m1
            · obtain ⟨t, ht⟩ : ∃ t, sl[jj]? = some t := ⟨_, List.getElem?_eq_getElem (by rw [HLM.out]; exact hlt3)⟩
              have hstep := addS_take (cs := cs1) ht
              have hup := (Upto.addR (livV (sl.take jj)) HUP.out).mono (M' := M + 1048576) (by have h1 := livV_len (sl.take jj); rw [List.length_take] at h1; omega)
              obtain ⟨a2, k, n, s, x2, ks', vs', A2, c2, rfl, -, hyb, hlb, hv2, hT, hcell⟩ := HSL.out.below HB.out jj t ht
              obtain ⟨⟨yb, yn, ys⟩, tv, tb, tl⟩ := t
              simp only at hstep hyb hlb hv2 hT hcell
              subst hv2
              obtain ⟨L1, HL1⟩ : ∃ L1, Hid (vs'.length = L1) := ⟨_, Lib.hid rfl⟩
              rw [HL1.out] at hcell
              obtain ⟨p0, p1, p2, p3, p4, p5, p6, p7, p8, p9⟩ := hcell
              have HUP2 := Lib.hid hup
              have hlen := HO.out.len
              have HLEN := Lib.hid hlen
              have HST2 := Lib.hid hstep
              clear hT ht hstep hup hlen hyb hlb p0 p1 p2 p5 p6 p7 p9
              cases tb with
              | false =>
                have HST3 : Hid (addR cs1 (livV (sl.take (jj + 1))) = addR cs1 (livV (sl.take jj))) := Lib.hid (by rw [HST2.out]; rfl)
                go_wp2_with (fail)
                go_roundg (m1 - jj)
                case rel => exact ⟨jj + 1, by go_num, by omega, by omega, Lib.hid (by rw [HST3.out]; exact HO.out), HBX, HB⟩
                case measure => omega
              | true =>
                by_cases h5 : k = 5
                · subst h5
                  obtain ⟨q, HQ⟩ : ∃ q, Hid (decide (0 ≤ n ∧ n ≤ (L : Int) - 1) = q) := ⟨_, Lib.hid rfl⟩
                  have IX := irng_s n 0 ((L : Int) - 1) q HQ.out
                  go_wp2_with (fail)
                  refine (IX _).mono ?_
                  rintro e w2 ⟨rfl, rfl⟩
                  cases q with
                  | false =>
                    have HST3 : Hid (addR cs1 (livV (sl.take (jj + 1))) = addR cs1 (livV (sl.take jj))) := Lib.hid (by
                      rw [HST2.out]
                      simp only [addS, if_true]
                      rw [addO_five, bump_out (by rw [HLEN.out]; have := of_decide_eq_false HQ.out; omega)])
                    go_wp2_with (fail)
                    go_roundg (m1 - jj)
                    case rel => exact ⟨jj + 1, by go_num, by omega, by omega, Lib.hid (by rw [HST3.out]; exact HO.out), HBX, HB⟩
                    case measure => omega
                  | true =>
                    obtain ⟨h0, h1⟩ := of_decide_eq_true HQ.out
                    obtain ⟨z, rfl⟩ : ∃ i : Nat, n = i := ⟨n.toNat, by omega⟩
                    have hi : z < L := by omega
                    obtain ⟨v, hv'⟩ : ∃ v, (addR cs1 (livV (sl.take jj)))[z]? = some v := ⟨_, List.getElem?_eq_getElem (by rw [HLEN.out]; exact hi)⟩
                    have hvb := HUP2.out z v hv'
                    have hcv : wr.cell? ⟨w.heap.size + 1, z, none⟩ = some (.int .i64 v) := by rw [HO.out.row.cellAt z (by omega)]; exact imem.ics_get hv'
                    have hfz : wr.frozen? ⟨w.heap.size + 1, z, none⟩ = false := HO.out.row.frozenAt z
                    have HST3 : Hid (addR cs1 (livV (sl.take (jj + 1))) = (addR cs1 (livV (sl.take jj))).set z (v + 1)) := Lib.hid (by
                      rw [HST2.out]
                      simp only [addS, if_true]
                      rw [addO_five, bump_in hv'])
                    have HOD : Hid (imem.OwnI (wr.setCell ⟨w.heap.size + 1, z, none⟩ (.int .i64 (v + 1))).drew P (some ⟨w.heap.size + 1, 0, none⟩) L L (addR cs1 (livV (sl.take (jj + 1))))) := Lib.hid (by rw [HST3.out]; exact (HO.out.set z (v + 1)).1)
                    have HBD : Hid (Below w.heap.size w (wr.setCell ⟨w.heap.size + 1, z, none⟩ (.int .i64 (v + 1))).drew) := Lib.hid ((HB.out.setCell (by simp) _).trans ((Below.refl _ _).drew))
                    have HBXD : Hid ((wr.setCell ⟨w.heap.size + 1, z, none⟩ (.int .i64 (v + 1))).drew.heap[w.heap.size]? = some (.cells #[.slice (some a) L c] IH (0, 0))) := Lib.hid (by
                      show (wr.setCell ⟨w.heap.size + 1, z, none⟩ (.int .i64 (v + 1))).heap[w.heap.size]? = _
                      rw [set_other (by omega)]; exact HBX.out)
                    clear hv' HQ IX HST3
                    go_wp2_with (fail)
                    go_region
                    generalize (wr.setCell ⟨w.heap.size + 1, z, none⟩ (.int .i64 (v + 1))).drew = wz at *
                    clear hcv hfz p3 p4 p8
                    go_wp2_with (fail)
                    go_roundg (m1 - jj)
                    case rel => exact ⟨jj + 1, by go_num, by omega, by omega, HOD, HBXD, HBD⟩
                    case measure => omega
                · have HST3 : Hid (addR cs1 (livV (sl.take (jj + 1))) = addR cs1 (livV (sl.take jj))) := Lib.hid (by
                    rw [HST2.out]
                    simp only [addS, if_true]
                    rw [addO_not h5])
                  go_wp2_with (fail)
                  go_roundg (m1 - jj)
                  case rel => exact ⟨jj + 1, by go_num, by omega, by omega, Lib.hid (by rw [HST3.out]; exact HO.out), HBX, HB⟩
                  case measure => omega
            · obtain rfl : jj = m1 := by omega
              have HON : Hid (imem.OwnI wr P (some ⟨w.heap.size + 1, 0, none⟩) L L (refsB cs0 (bl.take (i + 1)))) := Lib.hid (by rw [HST.out]; have h := HO.out; rw [← HLM.out, List.take_length] at h; exact h)
              have HUPN : Hid (Upto (refsB cs0 (bl.take (i + 1))) (1048576 + 1048576 * (i + 1 : Nat))) := Lib.hid (by
                rw [HST.out]
                refine (Upto.addR (livV sl) HUP.out).mono ?_
                have h1 := livV_len sl
                have h2 := HLM.out
                have h3 := HMM.out
                push_cast
                omega)
              go_wp2_with (fail)
              go_roundg (L - i)
              case rel => exact ⟨i + 1, by go_num, by omega, by omega, HON, HUPN, HBX, HB⟩
              case measure => omega
        · obtain rfl : i = L := by omega
          have e : bl.take i = bl := by rw [← HL.out, List.take_length]
          have HO3 := Lib.hid (e ▸ HO.out)
          clear e HO
          go_wp2_with (fail)
          go_ret
          exact ⟨_, _, rfl, by rw [HR0.out]; have h := HO3.out; rw [← HP.out] at h; exact h, HB.out⟩

theorem countRefs_s (bl : List Bk) (A : Option Addr) (c : Nat) (vs : List Tr) (B : Option Addr) (d : Nat) (w : World) (S S' : Nat → Prop) (h : HIn w S bl A) (h' : VIn w S' vs B) (hm : bl.length ≤ 1048576) (hv : vs.length ≤ 1048576) (hs : ∀ k ∈ bl, k.slots.length ≤ 1048576) :
    Calls Try.prog 6 #[hpV A bl.length c, .slice B vs.length d] w (RfQ w (refsOf bl vs)) := by
  have C := Lib.hid (fun w' (hb : Below w.heap.size w w') => counts_s bl A c vs B d w' S S' (h.below hb) (h'.below hb) hm hv hs)
  obtain ⟨L, HL⟩ : ∃ L, Hid (bl.length = L) := ⟨_, Lib.hid rfl⟩
  obtain ⟨LV, HLV⟩ : ∃ L, Hid (vs.length = L) := ⟨_, Lib.hid rfl⟩
  unfold RfQ at C ⊢
  have hLR : (refsOf bl vs).length = L := by unfold refsOf; rw [refsB_len, addR_len, List.length_replicate]; exact HL.out
  rw [HL.out, HLV.out, hLR] at C
  rw [HL.out, HLV.out, hLR]
  clear h h' hm hv hs hLR
  go_enter Try.func6, Try.ntmps6
  go_wp2_with (fail)
  refine (C.out _ (b1 w _)).mono ?_
  rintro e w1 ⟨A1, c1, rfl, ho, hb⟩
  have HO := Lib.hid (ho.less (show w.heap.size ≤ _ by simp))
  have HB := Lib.hid (bs (b1 w _) hb)
  clear ho hb
  go_wp2_with (fail)
  go_ret
  exact ⟨A1, c1, rfl, HO.out, HB.out⟩

end Go.Proofs.Ytbgffmiffmmohaa.tree

/-
  The laws' marks, put into a table that the law has made.
  Conditions: those that each theorem names.
-/
namespace Go.Proofs.Ytbgffmiffmmohaa.tree
open Go.ChangeShapes Go.WideShapes Go.ChangeAt Go.RowKit
set_option linter.unusedVariables false

section
variable {S : Nat → Prop} {w w' : World}
theorem At10.at8 {q : Addr} {y : Ky} {k n x l : Int} {s : ByteArray} {A : Option Addr} {L c : Nat} {b : Bool} (h : At10 w q y k n s x A L c b l) : At8 w q y k n s x A L c := ⟨h.c0, h.c1, h.c2, h.c3, h.c4, h.c5, h.c6, h.c7⟩
theorem At10.sim {g o : Nat} {y : Ky} {k n x l : Int} {s : ByteArray} {A : Option Addr} {L c : Nat} {b : Bool} (h : At10 w ⟨g, o, none⟩ y k n s x A L c b l) (hs : Sims S w w') (hg : S g) (hy : I64 y.num ∧ y.str.size ≤ maxLen) (hk : I64 k ∧ I64 n ∧ I64 x ∧ s.size ≤ maxLen) (hl : I64 l) :
    ∃ y' k' n' s' x' b' l', At10 w' ⟨g, o, none⟩ y' k' n' s' x' A L c b' l' ∧ (I64 y'.num ∧ y'.str.size ≤ maxLen) ∧ (I64 k' ∧ I64 n' ∧ I64 x' ∧ s'.size ≤ maxLen) ∧ I64 l' := by
  obtain ⟨y', k', n', s', x', h8, hy', hk'⟩ := h.at8.sim hs hg hy hk
  obtain ⟨u8, q8, s8⟩ := hs.cell _ _ hg h.c8
  obtain ⟨b', rfl⟩ := s8.bool
  obtain ⟨u9, q9, s9⟩ := hs.cell _ _ hg h.c9
  obtain ⟨l', rfl, hl'⟩ := s9.int hl
  exact ⟨y', k', n', s', x', b', l', ⟨h8.c0, h8.c1, h8.c2, h8.c3, h8.c4, h8.c5, h8.c6, h8.c7, q8, q9⟩, hy', hk', hl'⟩
theorem spot_no {p : Addr} {u : Value} (h : w.cell? p = some u) : p.spot = none := by
  unfold World.cell? at h
  split at h
  · cases hs : p.spot with
    | none => rfl
    | some z => rw [hs] at h; simp at h
  · cases h
/-- A slot behind marks: its tree has its form. -/
theorem SIn.simAt {sl : List Sl} {A : Option Addr} (h : SIn w S sl A) (hs : Sims S w w') {j : Nat} {t : Sl} (ht : sl[j]? = some t) : ∃ a y k n s x ks vs A' c' b l, A = some a ∧ S a.block ∧ (a.add (j * 10)).spot = none ∧ (I64 y.num ∧ y.str.size ≤ maxLen) ∧ (I64 k ∧ I64 n ∧ I64 x ∧ s.size ≤ maxLen) ∧ I64 l ∧
    nrm (.mk k n s x ks vs) = nrm t.val ∧ TIn w' S (.mk k n s x ks vs) (vV k n s x A' vs.length c') ∧ At10 w' (a.add (j * 10)) y k n s x A' vs.length c' b l := by
  obtain ⟨a, k, n, s, x, ks', vs', A', c', rfl, hSa, hy, hl, hv, hT, hc⟩ := h j t ht
  obtain ⟨t2, hn, hT2⟩ := hT.sim hs
  obtain ⟨k2, n2, s2, x2, ks2, vs2⟩ := t2
  obtain ⟨A2, c2, e2, hk2, -⟩ := hT2.out
  obtain ⟨rfl, rfl, rfl, rfl, rfl, hl2, rfl⟩ : k = k2 ∧ n = n2 ∧ s = s2 ∧ x = x2 ∧ A' = A2 ∧ vs'.length = vs2.length ∧ c' = c2 := by simpa using e2
  have hsp := spot_no hc.c0
  obtain ⟨gb, go, sp, hadd⟩ : ∃ gb go sp, a.add (j * 10) = ⟨gb, go, sp⟩ := ⟨_, _, _, rfl⟩
  rw [hadd] at hsp
  simp only at hsp
  subst hsp
  have hSg : S gb := by have := mem.add_block a (j * 10); rw [hadd] at this; simp only at this; rw [this]; exact hSa
  rw [hadd] at hc
  obtain ⟨y3, k3, n3, s3, x3, b3, l3, hc3, hy3, hk3, hl3⟩ := hc.sim hs hSg hy hk2 hl
  rw [hl2] at hc3 hT2
  exact ⟨a, y3, k3, n3, s3, x3, ks2, vs2, A', c', b3, l3, rfl, hSa, by rw [hadd], hy3, hk3, hl3, by rw [← hn, nrm_mk, nrm_mk], TIn.head hT2 hk3, by rw [hadd]; exact hc3⟩
end
/-- How many marks slots take. -/
def cS : List Sl → Nat
  | [] => 0
  | t :: l => 2 + 7 * cnt t.val + cS l
theorem cS_take : ∀ {sl : List Sl} {j : Nat} {t : Sl}, sl[j]? = some t → cS (sl.take (j + 1)) = cS (sl.take j) + (2 + 7 * cnt t.val)
  | [], j, _, h => by simp at h
  | t0 :: sl, 0, t, h => by
    obtain rfl : t0 = t := by simpa using h
    simp [cS]
  | t0 :: sl, j + 1, t, h => by
    have := cS_take (sl := sl) (j := j) (t := t) (by simpa using h)
    rw [List.take_succ_cons, List.take_succ_cons, cS, cS, this]
    omega
theorem cS_le : ∀ (sl : List Sl) (j : Nat), cS (sl.take j) ≤ cS sl
  | [], j => by simp
  | t :: sl, 0 => by simp [cS]
  | t :: sl, j + 1 => by have := cS_le sl j; rw [List.take_succ_cons, cS, cS]; omega

theorem cS_len : ∀ sl : List Sl, sl.length ≤ cS sl
  | [] => by simp [cS]
  | t :: sl => by have := cS_len sl; rw [cS, List.length_cons]; omega

set_option maxHeartbeats 2000000 in
set_option maxRecDepth 100000 in
theorem markSlots (sl : List Sl) (m : Int) (hm0 : 1 ≤ m) (hm1 : m + cS sl ≤ 100000000000) (w : World) (S : Nat → Prop) (A : Option Addr) (c : Nat) (h : SIn w S sl A) (hm : sl.length ≤ maxLen) (hpl : ∀ b, S b → Plain w b) :
    Calls Try.prog 37 #[.slice A sl.length c, .int .i64 m] w (MyQ w S (m + cS sl)) := by
  obtain ⟨L, HL⟩ : ∃ L, Hid (L = sl.length) := ⟨_, Lib.hid rfl⟩
  rw [← HL.out] at hm ⊢
  unfold maxLen at hm
  have HV := Lib.hid h
  have HPL := Lib.hid hpl
  have HM1 := Lib.hid hm1
  obtain ⟨W, HW⟩ : ∃ W : Int, Hid (m + cS sl = W) := ⟨_, Lib.hid rfl⟩
  rw [HW.out] at hm1 ⊢
  clear h hpl
  go_enter Try.func37, Try.ntmps37
  go_wp2_with (fail)
  go_loopg [1, 5] (L + 1) (fun gk l i wr => ∃ (j : Nat) (q : Int), i = .int .i64 j ∧ l = .int .i64 q ∧ gk + j = L + 1 ∧ j ≤ L ∧ 1 ≤ q ∧ q ≤ 100000000000 ∧ Hid (q = m + cS (sl.take j)) ∧ Hid (Sims S w wr))
  case atStart => exact ⟨0, m, rfl, rfl, by omega, by omega, hm0, by have := HM1.out; omega, Lib.hid (by simp [cS]), Lib.hid (Sims.refl _ _)⟩
  case round =>
    obtain ⟨j, q, rfl, rfl, hgj, hjL, hq0, hq1, HQ, HFR⟩ := hrel
    by_cases hlt : j < L
    · obtain ⟨t, ht⟩ : ∃ t, sl[j]? = some t := ⟨_, List.getElem?_eq_getElem (by rw [← HL.out]; exact hlt)⟩
      obtain ⟨a, y, k1, n1, s1, x1, ks1, vs1, A1, c1, lb, ll, rfl, hS, hsp, hyb, hkb, hlb, hnt, htin, hcell⟩ := HV.out.simAt HFR.out ht
      have hct := cS_take ht
      have hcle := cS_le sl (j + 1)
      obtain ⟨yt, ⟨kt, nt, st, xt, kst, vst⟩, bt, lt⟩ := t
      simp only at hnt hct
      have hni := nrm_items hnt
      have hli := nrms_len hni
      rw [cnt_mk'] at hct
      have hq7 : q + 9 + 7 * cnts vst ≤ 100000000000 := by have h1 := HQ.out; have h2 := HM1.out; omega
      obtain ⟨Q, HQ2⟩ : ∃ Q : Int, Hid (q + 7 + 7 * cnts vst = Q) := ⟨_, Lib.hid rfl⟩
      obtain ⟨L1, HL1⟩ : ∃ L1, Hid (L1 = vst.length) := ⟨_, Lib.hid rfl⟩
      have hq9 : Q + 2 ≤ 100000000000 := by rw [← HQ2.out]; omega
      have hQ0 : 1 ≤ Q := by rw [← HQ2.out]; omega
      have hin' : IsIn wr S ks1 vs1 A1 := by
        obtain ⟨_, _, e1, -, hin⟩ := htin.out
        obtain ⟨-, -, -, -, rfl, -, -⟩ : k1 = k1 ∧ n1 = n1 ∧ s1 = s1 ∧ x1 = x1 ∧ A1 = _ ∧ vs1.length = vs1.length ∧ c1 = _ := by simpa using e1
        exact hin
      have IHJ : Hid (∀ z, z = q + 7 → ∀ w', Sims S wr w' → Calls Try.prog 28 #[.slice A1 L1 c1, .int .i64 z] w' (MyQ w' S Q)) := Lib.hid (fun z hz w' hw' => by
        subst hz
        obtain ⟨ks3, vs3, hn4, hin4⟩ := hin'.sim hw'
        have := markAny (.mk kt nt st xt kst vst) kt nt st xt kst vst rfl (q + 7) (by omega) (by omega) w' S A1 c1 ks3 vs3 (hn4.trans hni) hin4 (fun b hb => (HFR.out.trans hw').plain b hb (HPL.out b hb))
        rw [HQ2.out] at this
        rw [HL1.out]
        exact this)
      have HQ3 : Hid (Q + 1 + 1 = m + cS (sl.take (j + 1))) := Lib.hid (by rw [hct, ← HQ2.out, HQ.out]; push_cast; omega)
      have MT2 := markText (q + 2) (by omega) (by omega)
      have MT5 := markText (q + 5) (by omega) (by omega)
      have z2 := mtx_size (q + 2)
      have z5 := mtx_size (q + 5)
      obtain ⟨u2, HU2⟩ : ∃ u, Hid (mtx (q + 2) = u) := ⟨_, Lib.hid rfl⟩
      obtain ⟨u5, HU5⟩ : ∃ u, Hid (mtx (q + 5) = u) := ⟨_, Lib.hid rfl⟩
      unfold MtQ at MT2 MT5
      rw [HU2.out] at MT2 z2
      rw [HU5.out] at MT5 z5
      rw [show q + 2 = q + 1 + 1 by omega] at MT2
      rw [show q + 5 = q + 1 + 1 + 1 + 1 + 1 by omega] at MT5
      rw [hli, ← HL1.out] at hcell
      have HLB := Lib.hid hlb
      obtain ⟨gb, go, sp, hadd⟩ : ∃ gb go sp, a.add (j * 10) = ⟨gb, go, sp⟩ := ⟨_, _, _, rfl⟩
      rw [hadd] at hsp
      simp only at hsp
      subst hsp
      have hSg : S gb := by have := mem.add_block a (j * 10); rw [hadd] at this; simp only at this; rw [this]; exact hS
      rw [hadd] at hcell
      have hpg : Plain wr gb := HFR.out.plain gb hSg (HPL.out gb hSg)
      have HPG := Lib.hid hpg
      have HSG := Lib.hid hSg
      have HC := Lib.hid hcell
      have HYB := Lib.hid hyb
      have HKB := Lib.hid hkb
      have f := frozen_plain hpg
      obtain ⟨p0, p1, p2, p3, p4, p5, p6, p7, p8, p9⟩ := hcell
      clear htin hyb hkb hlb hin' hnt hni hli ht hpg hSg hS hct hcle
      go_wp2_with (fail)
      refine (MT2 _).mono ?_
      rintro e w1 ⟨rfl, hb1⟩
      have hs1 : Sims S wr w1 := ((Sims.set HSG.out HC.out.c0 (.inr (.inl ⟨_, _, rfl, rfl⟩))).trans (Sims.set HSG.out (u := .int .i64 y.num) ((World.cell?_setCell_other _ _ _ _ (by simp)).trans HC.out.c1) (.inr (.inr (.inl ⟨_, _, rfl, rfl, by unfold I64; omega⟩))))).trans (Sims.of hb1)
      have HS1 := Lib.hid hs1
      obtain ⟨y1, k2, n2, s2, x2, b1_, l1_, hc1, hyb1, hkb1, hlb1⟩ := HC.out.sim hs1 HSG.out HYB.out HKB.out HLB.out
      have HC1 := Lib.hid hc1
      have HYB1 := Lib.hid hyb1
      have HKB1 := Lib.hid hkb1
      have HLB1 := Lib.hid hlb1
      have f1 := frozen_plain (hs1.plain gb HSG.out HPG.out)
      clear hb1 hs1 f p0 p1 p2 p3 p4 p5 p6 p7 p8 p9 hyb1 hkb1 hlb1
      obtain ⟨p0, p1, p2, p3, p4, p5, p6, p7, p8, p9⟩ := hc1
      go_wp2_with (fail)
      refine (MT5 _).mono ?_
      rintro e w2 ⟨rfl, hb2⟩
      have hs2 : Sims S w1 w2 := (((Sims.set HSG.out HC1.out.c2 (v := .string u2) (.inr (.inr (.inr ⟨_, _, rfl, rfl, by unfold maxLen; omega⟩)))).trans
        (Sims.set HSG.out (u := .int .i64 k2) (v := .int .i64 (q + 1 + 1 + 1)) ((World.cell?_setCell_other _ _ _ _ (by simp)).trans HC1.out.c3) (.inr (.inr (.inl ⟨_, _, rfl, rfl, by unfold I64; omega⟩))))).trans
        (Sims.set HSG.out (u := .int .i64 n2) (v := .int .i64 (q + 1 + 1 + 1 + 1)) ((World.cell?_setCell_other _ _ _ _ (by simp)).trans ((World.cell?_setCell_other _ _ _ _ (by simp)).trans HC1.out.c4)) (.inr (.inr (.inl ⟨_, _, rfl, rfl, by unfold I64; omega⟩))))).trans (Sims.of hb2)
      have HS2 := Lib.hid (HS1.out.trans hs2)
      obtain ⟨y3, k3, n3, s3, x3, b3_, l3_, hc2, hyb2, hkb2, hlb2⟩ := HC1.out.sim hs2 HSG.out HYB1.out HKB1.out HLB1.out
      have HYB2 := Lib.hid hyb2
      have HKB2 := Lib.hid hkb2
      have HLB2 := Lib.hid hlb2
      have HC2 := Lib.hid hc2
      have f2 := frozen_plain (HS2.out.plain gb HSG.out HPG.out)
      clear hb2 hs2 f1 p0 p1 p2 p3 p4 p5 p6 p7 p8 p9 hyb2 hkb2 hlb2
      obtain ⟨p0, p1, p2, p3, p4, p5, p6, p7, p8, p9⟩ := hc2
      go_wp2_with (fail)
      have HS3 : Hid (∀ v6, v6 = q + 6 → Sims S wr ((w2.setCell ⟨gb, go + 5, none⟩ (.string u5)).setCell ⟨gb, go + 6, none⟩ (.int .i64 v6))) := Lib.hid fun v6 h6 => (HS2.out.trans (Sims.set HSG.out (u := .string s3) HC2.out.c5 (.inr (.inr (.inr ⟨_, _, rfl, rfl, by unfold maxLen; omega⟩))))).trans (Sims.set HSG.out (u := .int .i64 x3) ((World.cell?_setCell_other _ _ _ _ (by simp)).trans HC2.out.c6) (.inr (.inr (.inl ⟨_, _, rfl, rfl, by unfold I64; omega⟩))))
      refine (IHJ.out _ (by omega) _ (HS3.out _ (by omega))).mono ?_
      rintro e w4 ⟨rfl, hs4⟩
      have HS4 := Lib.hid ((HS3.out _ (by omega)).trans hs4)
      have HSW := Lib.hid ((HS2.out.trans (Sims.refl S w2)))
      obtain ⟨y5, k5, n5, s5, x5, b5, l5, hc4, -, -, hlb4⟩ := HC.out.sim HS4.out HSG.out HYB.out HKB.out HLB.out
      have HC4 := Lib.hid hc4
      have HL4 := Lib.hid hlb4
      have f4 := frozen_plain (HS4.out.plain gb HSG.out HPG.out)
      clear f2 p0 p1 p2 p3 p4 p5 p6 p7 p8 p9 hs4 hlb4 HSW
      obtain ⟨p0, p1, p2, p3, p4, p5, p6, p7, p8, p9⟩ := hc4
      go_wp2_with (fail)
      have HS5 : Hid (∀ v8 v9, v9 = Q + 1 → Sims S wr ((w4.setCell ⟨gb, go + 8, none⟩ (.bool v8)).setCell ⟨gb, go + 9, none⟩ (.int .i64 v9))) := Lib.hid fun v8 v9 h9 => (HS4.out.trans (Sims.set HSG.out (u := .bool b5) HC4.out.c8 (.inr (.inl ⟨_, _, rfl, rfl⟩)))).trans (Sims.set HSG.out (u := .int .i64 l5) ((World.cell?_setCell_other _ _ _ _ (by simp)).trans HC4.out.c9) (.inr (.inr (.inl ⟨_, _, rfl, rfl, by unfold I64; omega⟩))))
      go_roundg (L - j)
      case rel => exact ⟨j + 1, Q + 1 + 1, by go_num, rfl, by omega, by omega, by omega, by omega, HQ3, Lib.hid (HFR.out.trans (HS5.out _ _ rfl))⟩
      case measure => omega
    · obtain rfl : j = L := by omega
      have e : q = W := by have := HQ.out; rw [HL.out, List.take_length] at this; rw [← HW.out]; exact this
      subst e
      go_wp2_with (fail)
      go_ret
      exact ⟨rfl, HFR.out⟩

set_option maxHeartbeats 1600000 in
theorem markInts (A : Option Addr) (n c lo : Nat) (l : List Int) (w : World) (h : imem.OwnI w lo A n c l) (hn : n ≤ 1048576) (m : Int) (hm0 : 1 ≤ m) (hm1 : m ≤ 1000000000) :
    Calls Try.prog 15 #[.slice A n c, .int .i64 m] w (fun e w' => e = .returned (.int .i64 (m + n)) ∧ Fr (fun b => (Value.slice A n c).ownBlock = some b) w w') := by
  obtain ⟨W, HW⟩ : ∃ W : Int, Hid (m + n = W) := ⟨_, Lib.hid rfl⟩
  rw [HW.out]
  have HO := Lib.hid h
  clear h
  go_enter Try.func15, Try.ntmps15
  go_wp2_with (fail)
  go_loopg [1, 5] (n + 1) (fun gk lv i wr => ∃ (j : Nat) (q : Int) (l2 : List Int), i = .int .i64 j ∧ lv = .int .i64 q ∧ gk + j = n + 1 ∧ j ≤ n ∧ 1 ≤ q ∧ q ≤ 2000000000 ∧ Hid (q = m + j) ∧ Hid (imem.OwnI wr lo A n c l2) ∧ Hid (Fr (fun b => (Value.slice A n c).ownBlock = some b) w wr))
  case atStart => exact ⟨0, m, l, rfl, rfl, by omega, by omega, hm0, by omega, Lib.hid (by omega), HO, Lib.hid (Fr.refl _ _)⟩
  case round =>
    clear HO
    obtain ⟨j, q, l2, rfl, rfl, hgj, hjn, hq0, hq1, HQ, HO, HF⟩ := hrel
    by_cases hlt : j < n
    · obtain ⟨g, rfl, -, -, -⟩ := HO.out.head (by omega)
      obtain ⟨⟨v0, hv0⟩, hf0⟩ := HO.out.cellk hlt
      go_wp2_with (fail)
      go_roundg (n - j)
      case rel => exact ⟨j + 1, q + 1, _, by go_num, rfl, by omega, by omega, by omega, by have := HQ.out; omega, Lib.hid (by have := HQ.out; push_cast; omega), Lib.hid (HO.out.set j q).1, Lib.hid (HF.out.trans (Fr.set (S := fun b => (Value.slice (some ⟨g, 0, none⟩) n c).ownBlock = some b) (show (Value.slice (some ⟨g, 0, none⟩) n c).ownBlock = some g from rfl) _ _))⟩
      case measure => omega
    · obtain rfl : j = n := by omega
      have e : q = W := by rw [HQ.out, ← HW.out]
      subst e
      go_wp2_with (fail)
      go_ret
      exact ⟨rfl, HF.out⟩


end Go.Proofs.Ytbgffmiffmmohaa.tree

/-
  The laws' marks, put into a heap that the law has made.
  Conditions: those that each theorem names.
-/
namespace Go.Proofs.Ytbgffmiffmmohaa.tree
open Go.ChangeShapes Go.WideShapes Go.ChangeAt Go.RowKit
set_option linter.unusedVariables false

/-- How many marks blocks take. -/
def cB : List Bk → Nat
  | [] => 0
  | k :: bl => 4 + k.heads.length + cS k.slots + cB bl
theorem cB_take : ∀ {bl : List Bk} {j : Nat} {k : Bk}, bl[j]? = some k → cB (bl.take (j + 1)) = cB (bl.take j) + (4 + k.heads.length + cS k.slots)
  | [], j, _, h => by simp at h
  | k0 :: bl, 0, k, h => by
    obtain rfl : k0 = k := by simpa using h
    simp [cB]
  | k0 :: bl, j + 1, k, h => by
    have := cB_take (bl := bl) (j := j) (k := k) (by simpa using h)
    rw [List.take_succ_cons, List.take_succ_cons, cB, cB, this]
    omega
theorem cB_le : ∀ (bl : List Bk) (j : Nat), cB (bl.take j) ≤ cB bl
  | [], j => by simp
  | k :: bl, 0 => by simp [cB]
  | k :: bl, j + 1 => by have := cB_le bl j; rw [List.take_succ_cons, cB, cB]; omega

theorem LaidB.mark {w w' : World} {g hi L j : Nat} {ow : Nat → Nat} {bl : List Bk} (h : LaidB w g hi L (fun i => j ≤ i) ow bl)
    (hg : ∀ arr, w.heap[g]? = some (.cells arr IB (0, 0)) → ∃ arr', w'.heap[g]? = some (.cells arr' IB (0, 0)) ∧ arr'.size = arr.size ∧ ∀ p, (p < j * 6 ∨ j * 6 + 6 ≤ p) → arr'[p]? = arr[p]?)
    (ho : ∀ b, g < b → ow b ≠ 2 * j → ow b ≠ 2 * j + 1 → b < w.heap.size → w'.heap[b]? = w.heap[b]?) : LaidB w' g hi L (fun i => j + 1 ≤ i) ow bl := by
  obtain ⟨arr, hg0, hs, hgh, hi'⟩ := h
  obtain ⟨arr', hg', hs', hp⟩ := hg arr hg0
  refine ⟨arr', hg', hs'.trans hs, hgh, fun i k hk hij => ?_⟩
  have hij' : j + 1 ≤ i := hij
  obtain ⟨A, n, c, s, m, hr, hx, hc, hm, hmm, hnn, hO, hq, hS, hcl⟩ := hi' i k hk (show j ≤ i by omega)
  refine ⟨A, n, c, s, m, hr, hx, hc, hm, hmm, hnn, owni_own hO fun b e h2 => ?_, hq, hS.stays (fun b hb' => ⟨hb'.1, hb'.2.1, hb'.2.2.1, hb'.2.2.2.same (ho b hb'.1 (by have := hb'.2.2.1; omega) (by have := hb'.2.2.1; omega) hb'.2.2.2.lt)⟩) (fun b hb' hlt => ho b hb'.1 (by have := hb'.2.2.1; omega) (by have := hb'.2.2.1; omega) hlt), fun q hq6 => ?_⟩
  · have h1 := (hO.block b e).1
    have h3 := (hq b e).2
    exact ho b (by omega) (by omega) (by omega) h2
  · rw [hp _ (.inr (by omega))]
    exact hcl q hq6

set_option maxHeartbeats 2000000 in
set_option maxRecDepth 100000 in
theorem markBlocks (bl : List Bk) (m : Int) (hm0 : 1 ≤ m) (hm1 : m + cB bl ≤ 900000000) (w : World) (g hi : Nat) (ow : Nat → Nat) (h : LaidB w g hi bl.length (fun i => i < bl.length) ow bl) (hm : bl.length ≤ 1048576) :
    Calls Try.prog 26 #[.slice (some ⟨g, 0, none⟩) bl.length bl.length, .int .i64 m] w (fun e w' => e = .returned (.int .i64 (m + cB bl)) ∧ Fr (fun b => g ≤ b ∧ b < hi) w w') := by
  obtain ⟨L, HL⟩ : ∃ L, Hid (L = bl.length) := ⟨_, Lib.hid rfl⟩
  rw [← HL.out] at h hm ⊢
  have h0 : LaidB w g hi L (fun i => 0 ≤ i) ow bl := by
    obtain ⟨arr, a, b, c, d⟩ := h
    exact ⟨arr, a, b, c, fun i k hk _ => d i k hk (by have := (List.getElem?_eq_some_iff.1 hk).1; have := HL.out; omega)⟩
  have H0 := Lib.hid h0
  have HM1 := Lib.hid hm1
  obtain ⟨W, HW⟩ : ∃ W : Int, Hid (m + cB bl = W) := ⟨_, Lib.hid rfl⟩
  rw [HW.out] at hm1 ⊢
  clear h h0
  go_enter Try.func26, Try.ntmps26
  go_wp2_with (fail)
  go_loopg [1, 5] (L + 1) (fun gk l i wr => ∃ (j : Nat) (q : Int), i = .int .i64 j ∧ l = .int .i64 q ∧ gk + j = L + 1 ∧ j ≤ L ∧ 1 ≤ q ∧ q ≤ 900000000 ∧ Hid (q = m + cB (bl.take j)) ∧ Hid (LaidB wr g hi L (fun i => j ≤ i) ow bl) ∧ Hid (Fr (fun b => g ≤ b ∧ b < hi) w wr))
  case atStart => exact ⟨0, m, rfl, rfl, by omega, by omega, hm0, by have := HM1.out; omega, Lib.hid (by simp [cB]), H0, Lib.hid (Fr.refl _ _)⟩
  case round =>
    clear H0
    obtain ⟨j, q, rfl, rfl, hgj, hjL, hq0, hq1, HQ, HLa, HFR⟩ := hrel
    by_cases hlt : j < L
    · obtain ⟨k, hk⟩ : ∃ k, bl[j]? = some k := ⟨_, List.getElem?_eq_getElem (by rw [← HL.out]; exact hlt)⟩
      have hct := cB_take hk
      have hcle := cB_le bl (j + 1)
      obtain ⟨arr, hg0, hsz, hgh, hi'⟩ := HLa.out
      obtain ⟨A, n, c, s, mm, -, -, -, hmm, hm2, hnn, hO, hq, hS, hcl⟩ := hi' j k hk (Nat.le_refl j)
      have hln := hO.len
      have HQN : Hid (q + 4 + n + cS k.slots = m + cB (bl.take (j + 1))) := Lib.hid (by rw [hct, HQ.out, ← hln]; push_cast; omega)
      have hqn : q + 4 + n + cS k.slots ≤ 900000000 := by have h1 := HQN.out; have h2 := HM1.out; omega
      obtain ⟨rf, hs, l, sl, x, ct⟩ := k
      simp only at hmm hO hS hln HQN hqn
      obtain ⟨C, HC⟩ : ∃ C : Nat, Hid (cS sl = C) := ⟨_, Lib.hid rfl⟩
      rw [HC.out] at HQN hqn
      have HG0 := Lib.hid hg0
      have HGH := Lib.hid hgh
      have HO := Lib.hid hO
      have HOQ := Lib.hid hq
      have HS := Lib.hid hS
      have HSZ : Hid (j * 6 + 6 ≤ arr.size) := Lib.hid (by rw [hsz]; omega)
      obtain ⟨r0, f0⟩ := rowc hg0
      have z : ∀ p, p < 6 → wr.cell? ⟨g, j * 6 + p, none⟩ = _ := fun p hp => (r0 _).trans (hcl p hp)
      have z0 : wr.cell? ⟨g, j * 6, none⟩ = some (.int .i64 rf) := z 0 (by omega)
      have z1 : wr.cell? ⟨g, j * 6 + 1, none⟩ = some (.bool hs) := z 1 (by omega)
      have z2 : wr.cell? ⟨g, j * 6 + 2, none⟩ = some (.slice A n c) := z 2 (by omega)
      have HZ3 : Hid (arr[j * 6 + 3]? = some (.slice (some ⟨s, 0, none⟩) mm mm)) := Lib.hid (hcl 3 (by omega))
      have HZ4 : Hid (arr[j * 6 + 4]? = some (.int .i64 x)) := Lib.hid (hcl 4 (by omega))
      have HZ5 : Hid (arr[j * 6 + 5]? = some (.int .i64 ct)) := Lib.hid (hcl 5 (by omega))
      clear hk hct hcle hg0 hsz hgh hi' hO hq hS hcl r0 z hln
      go_wp2_with (fail)
      generalize hw1 : World.setCell (World.setCell wr _ _) _ _ = w1
      obtain ⟨arr1, hg1, hs1, hp1⟩ : ∃ arr1, w1.heap[g]? = some (.cells arr1 IB (0, 0)) ∧ arr1.size = arr.size ∧ ∀ p, p ≠ j * 6 → p ≠ j * 6 + 1 → arr1[p]? = arr[p]? := by
        rw [← hw1]
        exact ⟨_, set_heap (set_heap HG0.out _ _) _ _, by simp, fun p h1 h2 => by rw [Array.getElem?_setIfInBounds_ne (by omega), Array.getElem?_setIfInBounds_ne (by omega)]⟩
      have ho1 : ∀ b, b ≠ g → w1.heap[b]? = wr.heap[b]? := fun b hb => by rw [← hw1, set_other hb, set_other hb]
      have hz1 : w1.heap.size = wr.heap.size := by rw [← hw1, set_size, set_size]
      have HF1 : Hid (Fr (fun b => g ≤ b ∧ b < hi) wr w1) := Lib.hid (by
        rw [← hw1]
        exact (Fr.set (S := fun b => g ≤ b ∧ b < hi) (show g ≤ g ∧ g < hi from ⟨Nat.le_refl g, HGH.out⟩) _ _).trans (Fr.set (S := fun b => g ≤ b ∧ b < hi) (show g ≤ g ∧ g < hi from ⟨Nat.le_refl g, HGH.out⟩) _ _))
      have HO1 := Lib.hid (owni_own HO.out (w' := w1) fun b e h2 => ho1 b (by have := (HO.out.block b e).1; omega))
      have HS1 : Hid (SIn w1 (fun b => g < b ∧ b < hi ∧ ow b = 2 * j + 1 ∧ Plain w1 b) sl (some ⟨s, 0, none⟩)) := Lib.hid (HS.out.stays (fun b hb => ⟨hb.1, hb.2.1, hb.2.2.1, hb.2.2.2.same (ho1 b (by have := hb.1; omega))⟩) fun b hb _ => ho1 b (by have := hb.1; omega))
      have HG1 := Lib.hid hg1
      have HP1 := Lib.hid hp1
      have HS1Z := Lib.hid hs1
      have HO1B := Lib.hid ho1
      have HZ1 := Lib.hid hz1
      clear hw1 hg1 hp1 hs1 ho1 hz1 z0 z1 z2 f0
      refine (markInts A n c (g + 1) l _ HO1.out hnn _ (by omega) (by omega)).mono ?_
      rintro e w2 ⟨rfl, hf2⟩
      have hown : ∀ b, (Value.slice A n c).ownBlock = some b → g < b ∧ b < hi ∧ ow b = 2 * j := fun b e => ⟨by have := (HO.out.block b e).1; omega, HOQ.out b e⟩
      have HG2 : Hid (w2.heap[g]? = some (.cells arr1 IB (0, 0))) := Lib.hid ((hf2.block g (Array.getElem?_eq_some_iff.1 HG1.out).1 (fun e => by have := (hown g e).1; omega)).trans HG1.out)
      have HS2 : Hid (SIn w2 (fun b => g < b ∧ b < hi ∧ ow b = 2 * j + 1 ∧ Plain w2 b) sl (some ⟨s, 0, none⟩)) := Lib.hid (HS1.out.stays (fun b hb => ⟨hb.1, hb.2.1, hb.2.2.1, hb.2.2.2.same (hf2.block b hb.2.2.2.lt (fun e => by have := (hown b e).2.2; have := hb.2.2.1; omega))⟩) fun b hb hl => hf2.block b hl (fun e => by have := (hown b e).2.2; have := hb.2.2.1; omega))
      have HF2 : Hid (Fr (fun b => g ≤ b ∧ b < hi) wr w2) := Lib.hid (HF1.out.trans (hf2.mono fun b e => ⟨Nat.le_of_lt (hown b e).1, (hown b e).2.1⟩))
      have HE2 : Hid (∀ b, g < b → ow b ≠ 2 * j → b < wr.heap.size → w2.heap[b]? = wr.heap[b]?) := Lib.hid (fun b h1 h2 h3 => (hf2.block b (by rw [HZ1.out]; exact h3) (fun e => h2 (hown b e).2.2)).trans (HO1B.out b (by omega)))
      have HZ2 : Hid (wr.heap.size ≤ w2.heap.size) := Lib.hid (by rw [← HZ1.out]; exact hf2.size)
      obtain ⟨r2, f2⟩ := rowc HG2.out
      have z3 : w2.cell? ⟨g, j * 6 + 3, none⟩ = some (.slice (some ⟨s, 0, none⟩) mm mm) := (r2 _).trans ((HP1.out _ (by omega) (by omega)).trans HZ3.out)
      clear hf2 hown r2 HO1 HS1 HF1
      obtain ⟨Q, HQ2⟩ : ∃ Q : Int, Hid (q + 1 + 1 + n + C = Q) := ⟨_, Lib.hid rfl⟩
      have hQ : 1 ≤ Q ∧ Q + 2 ≤ 900000000 := by rw [← HQ2.out]; omega
      go_wp2_with (fail)
      have MS := markSlots sl (q + 1 + 1 + n) (by omega) (by rw [HC.out]; omega) w2 _ (some ⟨s, 0, none⟩) mm HS2.out (by unfold maxLen; omega) (fun b hb => hb.2.2.2)
      rw [hmm, HC.out, HQ2.out] at MS
      refine MS.mono ?_
      rintro e w3 ⟨rfl, hs3⟩
      have hf3 := hs3.fr
      have HG3 : Hid (w3.heap[g]? = some (.cells arr1 IB (0, 0))) := Lib.hid ((hf3.block g (Array.getElem?_eq_some_iff.1 HG2.out).1 (fun hb => Nat.lt_irrefl _ hb.1)).trans HG2.out)
      have HF3 : Hid (Fr (fun b => g ≤ b ∧ b < hi) wr w3) := Lib.hid (HF2.out.trans (hf3.mono fun b hb => ⟨Nat.le_of_lt hb.1, hb.2.1⟩))
      have HE3 : Hid (∀ b, g < b → ow b ≠ 2 * j → ow b ≠ 2 * j + 1 → b < wr.heap.size → w3.heap[b]? = wr.heap[b]?) := Lib.hid (fun b h1 h2 h4 h3 => (hf3.block b (by have := HZ2.out; omega) (fun hb => h4 hb.2.2.1)).trans (HE2.out b h1 h2 h3))
      obtain ⟨r3, f3⟩ := rowc HG3.out
      have z4 : w3.cell? ⟨g, j * 6 + 4, none⟩ = some (.int .i64 x) := (r3 _).trans ((HP1.out _ (by omega) (by omega)).trans HZ4.out)
      have z5 : w3.cell? ⟨g, j * 6 + 5, none⟩ = some (.int .i64 ct) := (r3 _).trans ((HP1.out _ (by omega) (by omega)).trans HZ5.out)
      clear hs3 hf3 r3 f2 z3 MS HF2 HS2
      go_wp2_with (fail)
      have HLN : Hid (∀ v4 v5 : Value, LaidB ((w3.setCell ⟨g, j * 6 + 4, none⟩ v4).setCell ⟨g, j * 6 + 5, none⟩ v5) g hi L (fun i => j + 1 ≤ i) ow bl) := Lib.hid (fun v4 v5 => by
        refine HLa.out.mark (fun a ha => ?_) (fun b h1 h2 h4 h3 => ?_)
        · obtain rfl : arr = a := by have := HG0.out.symm.trans ha; injection this with this; injection this
          refine ⟨_, set_heap (set_heap HG3.out _ _) _ _, by simp [HS1Z.out], fun p hp => ?_⟩
          rw [Array.getElem?_setIfInBounds_ne (by omega), Array.getElem?_setIfInBounds_ne (by omega)]
          exact HP1.out p (by omega) (by omega)
        · rw [set_other (by omega), set_other (by omega)]
          exact HE3.out b h1 h2 h4 h3)
      have HFN : Hid (∀ v4 v5 : Value, Fr (fun b => g ≤ b ∧ b < hi) w ((w3.setCell ⟨g, j * 6 + 4, none⟩ v4).setCell ⟨g, j * 6 + 5, none⟩ v5)) := Lib.hid (fun v4 v5 => (HFR.out.trans HF3.out).trans ((Fr.set (S := fun b => g ≤ b ∧ b < hi) (show g ≤ g ∧ g < hi from ⟨Nat.le_refl g, HGH.out⟩) _ _).trans (Fr.set (S := fun b => g ≤ b ∧ b < hi) (show g ≤ g ∧ g < hi from ⟨Nat.le_refl g, HGH.out⟩) _ _)))
      have HQ3 : Hid (Q + 1 + 1 = m + cB (bl.take (j + 1))) := Lib.hid (by rw [← HQN.out, ← HQ2.out]; omega)
      go_roundg (L - j)
      case rel => exact ⟨j + 1, Q + 1 + 1, by go_num, rfl, by omega, by omega, by omega, by omega, HQ3, HLN.out _ _ |> Lib.hid, HFN.out _ _ |> Lib.hid⟩
      case measure => omega
    · obtain rfl : j = L := by omega
      have e : q = W := by have := HQ.out; rw [HL.out, List.take_length] at this; rw [← HW.out]; exact this
      subst e
      go_wp2_with (fail)
      go_ret
      exact ⟨rfl, HFR.out⟩

theorem markHeap (bl : List Bk) (m : Int) (hm0 : 1 ≤ m) (hm1 : m + cB bl ≤ 900000000) (w : World) (g hi : Nat) (ow : Nat → Nat) (h : LaidB w g hi bl.length (fun i => i < bl.length) ow bl) (hm : bl.length ≤ 1048576) :
    Calls Try.prog 13 #[hpV (some ⟨g, 0, none⟩) bl.length bl.length, .int .i64 m] w (fun e w' => e = .returned (.int .i64 (m + cB bl)) ∧ Fr (fun b => g ≤ b ∧ b < hi) w w') := by
  have M := Lib.hid (fun w' (hb : Below w.heap.size w w') => markBlocks bl m hm0 hm1 w' g hi ow (h.below hb) hm)
  obtain ⟨L, HL⟩ : ∃ L, Hid (bl.length = L) := ⟨_, Lib.hid rfl⟩
  obtain ⟨C, HC⟩ : ∃ C : Int, Hid (m + cB bl = C) := ⟨_, Lib.hid rfl⟩
  rw [HL.out, HC.out] at M ⊢
  clear h hm
  go_enter Try.func13, Try.ntmps13
  go_wp2_with (fail)
  refine (M.out _ (b1 w _)).mono ?_
  rintro e w1 ⟨rfl, hf⟩
  have HF := Lib.hid ((Fr.of (S := fun b => g ≤ b ∧ b < hi) (b1 w (.cells #[.slice (some ⟨g, 0, none⟩) L L] IH))).trans hf)
  clear hf
  go_wp2_with (fail)
  go_ret
  exact ⟨rfl, HF.out⟩
theorem cS_sz : ∀ (sl : List Sl), (∀ t ∈ sl, fits t.val) → cS sl ≤ 9 * sl.length + 7 * totS sl
  | [], _ => by simp [cS]
  | t :: sl, h => by
    have h1 := cS_sz sl fun u hu => h u (by simp [hu])
    have h2 := cnt_tot t.val (h t (by simp))
    rw [cS, totS, List.length_cons]
    omega
theorem cB_sz : ∀ (bl : List Bk), (∀ k ∈ bl, ∀ t ∈ k.slots, fits t.val) → cB bl ≤ 4 * bl.length + 9 * totB bl
  | [], _ => by simp [cB]
  | k :: bl, h => by
    have h1 := cB_sz bl fun u hu => h u (by simp [hu])
    have h2 := cS_sz k.slots (h k (by simp))
    rw [cB, totB, List.length_cons, szB]
    omega
theorem HIn.fits {w : World} {S : Nat → Prop} {bl : List Bk} {A : Option Addr} (h : HIn w S bl A) : ∀ k ∈ bl, ∀ t ∈ k.slots, fits t.val := fun k hk t ht => by
  obtain ⟨i, hi, rfl⟩ := List.mem_iff_getElem.1 hk
  obtain ⟨a, A', n, c, B, m, d, -, -, -, hT, -⟩ := h i _ (List.getElem?_eq_getElem hi)
  obtain ⟨j, hj, rfl⟩ := List.mem_iff_getElem.1 ht
  obtain ⟨a, k, n, s, x, ks, vs, A', c', -, -, -, -, -, hT, -⟩ := hT.slots j _ (List.getElem?_eq_getElem hj)
  exact hT.fits
theorem totB_le {bl : List Bk} {k : Bk} (h : k ∈ bl) : szB k ≤ totB bl := by
  obtain ⟨i, hi, rfl⟩ := List.mem_iff_getElem.1 h
  exact totB_mem (List.getElem?_eq_getElem hi)

end Go.Proofs.Ytbgffmiffmmohaa.tree

/-
  Rows of values: five cells written at once; the first j values of a row.
  Conditions: those that each theorem names.
-/
namespace Go.Proofs.Ytbgffmiffmmohaa.tree
open Go.ChangeShapes Go.WideShapes Go.ChangeAt Go.RowKit
set_option linter.unusedVariables false

def set5 (arr : Array Value) (o : Nat) (c0 c1 c2 c3 c4 : Value) : Array Value := ((((arr.setIfInBounds o c0).setIfInBounds (o + 1) c1).setIfInBounds (o + 2) c2).setIfInBounds (o + 3) c3).setIfInBounds (o + 4) c4
theorem set5_size (arr : Array Value) (o : Nat) (c0 c1 c2 c3 c4 : Value) : (set5 arr o c0 c1 c2 c3 c4).size = arr.size := by simp [set5]
theorem set5_out (arr : Array Value) (o : Nat) (c0 c1 c2 c3 c4 : Value) (p : Nat) (h : p < o ∨ o + 5 ≤ p) : (set5 arr o c0 c1 c2 c3 c4)[p]? = arr[p]? := by
  unfold set5
  rw [Array.getElem?_setIfInBounds_ne (by omega), Array.getElem?_setIfInBounds_ne (by omega), Array.getElem?_setIfInBounds_ne (by omega), Array.getElem?_setIfInBounds_ne (by omega), Array.getElem?_setIfInBounds_ne (by omega)]
theorem set5_in (arr : Array Value) (o : Nat) (c0 c1 c2 c3 c4 : Value) (h : o + 5 ≤ arr.size) (q : Nat) (hq : q < 5) : (set5 arr o c0 c1 c2 c3 c4)[o + q]? = (#[c0, c1, c2, c3, c4] : Array Value)[q]? := by
  unfold set5
  have hq' : q = 0 ∨ q = 1 ∨ q = 2 ∨ q = 3 ∨ q = 4 := by omega
  rcases hq' with rfl | rfl | rfl | rfl | rfl <;> simp [Array.getElem?_setIfInBounds] <;> omega
theorem set5_heap {W : World} {g : Nat} {arr : Array Value} {t : TypeId} (h : W.heap[g]? = some (.cells arr t (0, 0))) (o : Nat) (c0 c1 c2 c3 c4 : Value) :
    (((((W.setCell ⟨g, o, none⟩ c0).setCell ⟨g, o + 1, none⟩ c1).setCell ⟨g, o + 2, none⟩ c2).setCell ⟨g, o + 3, none⟩ c3).setCell ⟨g, o + 4, none⟩ c4).heap[g]? = some (.cells (set5 arr o c0 c1 c2 c3 c4) t (0, 0)) :=
  set_heap (set_heap (set_heap (set_heap (set_heap h _ _) _ _) _ _) _ _) _ _
theorem set5_other {W : World} {g k : Nat} (h : k ≠ g) (o : Nat) (c0 c1 c2 c3 c4 : Value) :
    (((((W.setCell ⟨g, o, none⟩ c0).setCell ⟨g, o + 1, none⟩ c1).setCell ⟨g, o + 2, none⟩ c2).setCell ⟨g, o + 3, none⟩ c3).setCell ⟨g, o + 4, none⟩ c4).heap[k]? = W.heap[k]? := by
  iterate 5 refine (set_other h).trans ?_
  rfl
theorem iv_info' : ∃ i, Try.prog.info? IV = some i ∧ (i.zero = some (.agg #[.int .i64 0, .int .i64 0, .string ⟨#[]⟩, .int .i64 0, .slice none 0 0]) ∧ i.size = 5 ∧ i.bytes = 64) := by
  have : (Try.prog.info? IV).map (fun i => (i.zero, i.size, i.bytes)) = some (some (.agg #[.int .i64 0, .int .i64 0, .string ⟨#[]⟩, .int .i64 0, .slice none 0 0]), 5, 64) := by kernel_rfl
  cases hq : Try.prog.info? IV with
  | none => rw [hq] at this; cases this
  | some i => rw [hq] at this; simp at this; exact ⟨i, rfl, this⟩
/-- The first j values of a row. -/
def V5 (w : World) (lo : Nat) (vs : List Tr) (arr : Array Value) (j : Nat) : Prop :=
  ∀ i, i < j → ∃ k n s x ks' vs' A' c', vs[i]? = some (.mk k n s x ks' vs') ∧ TIn w (Nw lo w) (.mk k n s x ks' vs') (vV k n s x A' vs'.length c') ∧ ∀ q, q < 5 → arr[i * 5 + q]? = (#[.int .i64 k, .int .i64 n, .string s, .int .i64 x, .slice A' vs'.length c'] : Array Value)[q]?
theorem V5.keep {w w' : World} {lo : Nat} {vs : List Tr} {arr : Array Value} {j : Nat} (h : V5 w lo vs arr j) (hb : ∀ b, lo ≤ b → b < w.heap.size → w'.heap[b]? = w.heap[b]?) : V5 w' lo vs arr j := fun i hi => by
  obtain ⟨k, n, s, x, ks', vs', A', c', e1, e2, e3⟩ := h i hi
  exact ⟨k, n, s, x, ks', vs', A', c', e1, e2.nw (Nat.le_refl _) fun b hb' hlt => hb b hb' hlt, e3⟩
theorem V5.more {w : World} {lo : Nat} {vs : List Tr} {arr : Array Value} {j : Nat} (h : V5 w lo vs arr j) (hs : j * 5 + 5 ≤ arr.size) {k n x : Int} {s : ByteArray} {ks' : List Ky} {vs' : List Tr} {A' : Option Addr} {c' : Nat} (hv : vs[j]? = some (.mk k n s x ks' vs')) (hT : TIn w (Nw lo w) (.mk k n s x ks' vs') (vV k n s x A' vs'.length c')) :
    V5 w lo vs (set5 arr (j * 5) (.int .i64 k) (.int .i64 n) (.string s) (.int .i64 x) (.slice A' vs'.length c')) (j + 1) := by
  intro i hi
  by_cases e : i = j
  · subst e
    exact ⟨k, n, s, x, ks', vs', A', c', hv, hT, fun q hq => set5_in _ _ _ _ _ _ _ hs q hq⟩
  · obtain ⟨k2, n2, s2, x2, ks2, vs2, A2, c2, e1, e2, e3⟩ := h i (by omega)
    exact ⟨k2, n2, s2, x2, ks2, vs2, A2, c2, e1, e2, fun q hq => by rw [set5_out _ _ _ _ _ _ _ _ (by omega)]; exact e3 q hq⟩
theorem V5.vin {w : World} {lo g : Nat} {vs : List Tr} {arr : Array Value} (h : V5 w lo vs arr vs.length) (hg : w.heap[g]? = some (.cells arr IV (0, 0))) (hlo : g ≤ lo) : VIn w (Nw g w) vs (some ⟨g, 0, none⟩) := fun i t ht => by
  obtain ⟨k, n, s, x, ks', vs', A', c', e1, e2, e3⟩ := h i (List.getElem?_eq_some_iff.1 ht).1
  rw [ht] at e1
  obtain rfl := Option.some.inj e1
  have at_ : ∀ q, q < 5 → w.cell? ⟨g, i * 5 + q, none⟩ = (#[.int .i64 k, .int .i64 n, .string s, .int .i64 x, .slice A' vs'.length c'] : Array Value)[q]? := fun q hq => by rw [cell_of_row w g _ arr IV _ hg]; exact e3 q hq
  refine ⟨_, k, n, s, x, ks', vs', A', c', rfl, ⟨Nat.le_refl _, _, _, hg⟩, rfl, e2.stays (fun b hb => ⟨Nat.le_trans hlo hb.1, hb.2⟩) (fun _ _ _ => rfl), ?_⟩
  rw [Addr.add_lit, Nat.zero_add]
  exact ⟨at_ 0 (by omega), at_ 1 (by omega), at_ 2 (by omega), at_ 3 (by omega), at_ 4 (by omega)⟩
end Go.Proofs.Ytbgffmiffmmohaa.tree

/-
  The laws' marks, put into a list of values that the law has made.
  Conditions: those that each theorem names.
-/
namespace Go.Proofs.Ytbgffmiffmmohaa.tree
open Go.ChangeShapes Go.WideShapes Go.ChangeAt Go.RowKit
set_option linter.unusedVariables false

section
variable {S : Nat → Prop} {w w' : World}
theorem At5.sim {g o : Nat} {k n x : Int} {s : ByteArray} {A : Option Addr} {L c : Nat} (h : At5 w ⟨g, o, none⟩ k n s x A L c) (hs : Sims S w w') (hg : S g) (hk : I64 k ∧ I64 n ∧ I64 x ∧ s.size ≤ maxLen) :
    ∃ k' n' s' x', At5 w' ⟨g, o, none⟩ k' n' s' x' A L c ∧ (I64 k' ∧ I64 n' ∧ I64 x' ∧ s'.size ≤ maxLen) := by
  obtain ⟨u3, q3, s3⟩ := hs.cell _ _ hg h.c0
  obtain ⟨n3, rfl, h3⟩ := s3.int hk.1
  obtain ⟨u4, q4, s4⟩ := hs.cell _ _ hg h.c1
  obtain ⟨n4, rfl, h4⟩ := s4.int hk.2.1
  obtain ⟨u5, q5, s5⟩ := hs.cell _ _ hg h.c2
  obtain ⟨z5, rfl, h5⟩ := s5.text hk.2.2.2
  obtain ⟨u6, q6, s6⟩ := hs.cell _ _ hg h.c3
  obtain ⟨n6, rfl, h6⟩ := s6.int hk.2.2.1
  obtain ⟨u7, q7, s7⟩ := hs.cell _ _ hg h.c4
  obtain rfl := s7.slice
  exact ⟨n3, n4, z5, n6, ⟨q3, q4, q5, q6, q7⟩, h3, h4, h6, h5⟩
theorem spot_none {w : World} {p : Addr} {u : Value} (h : w.cell? p = some u) : p.spot = none := by
  unfold World.cell? at h
  split at h
  · cases hs : p.spot with
    | none => rfl
    | some z => rw [hs] at h; simp at h
  · cases h
theorem VIn.sim {vs : List Tr} {A : Option Addr} (h : VIn w S vs A) (hs : Sims S w w') : ∃ vs', nrms vs' = nrms vs ∧ VIn w' S vs' A := by
  have each : ∀ i, ∃ t' : Tr, ∀ t, vs[i]? = some t → nrm t' = nrm t ∧ ∃ a k n s x ks' vs' A' c', A = some a ∧ S a.block ∧ t' = .mk k n s x ks' vs' ∧ TIn w' S t' (vV k n s x A' vs'.length c') ∧ At5 w' (a.add (i * 5)) k n s x A' vs'.length c' := by
    intro i
    cases hi : vs[i]? with
    | none => exact ⟨.mk 0 0 ⟨#[]⟩ 0 [] [], fun t ht => by cases ht⟩
    | some t =>
      obtain ⟨a, k, n, s, x, ks', vs', A', c', rfl, hSa, rfl, hT, hc⟩ := h i t hi
      obtain ⟨t2, hn, hT2⟩ := hT.sim hs
      obtain ⟨k2, n2, s2, x2, ks2, vs2⟩ := t2
      obtain ⟨A2, c2, e2, hk2, -⟩ := hT2.out
      obtain ⟨rfl, rfl, rfl, rfl, rfl, hl, rfl⟩ : k = k2 ∧ n = n2 ∧ s = s2 ∧ x = x2 ∧ A' = A2 ∧ vs'.length = vs2.length ∧ c' = c2 := by simpa using e2
      obtain ⟨_, _, _, hk, -⟩ := hT.out
      have hsp := spot_none hc.c0
      obtain ⟨gb, go, sp, hadd⟩ : ∃ gb go sp, a.add (i * 5) = ⟨gb, go, sp⟩ := ⟨_, _, _, rfl⟩
      rw [hadd] at hsp
      simp only at hsp
      subst hsp
      have hSg : S gb := by have := mem.add_block a (i * 5); rw [hadd] at this; simp only at this; rw [this]; exact hSa
      rw [hadd] at hc
      obtain ⟨k3, n3, s3, x3, hc3, hk3⟩ := hc.sim hs hSg hk
      rw [hl] at hc3 hT2
      refine ⟨.mk k3 n3 s3 x3 ks2 vs2, fun t ht => ?_⟩
      obtain rfl := Option.some.inj ht
      refine ⟨by rw [← hn, nrm_mk, nrm_mk], a, k3, n3, s3, x3, ks2, vs2, A', c', rfl, hSa, rfl, TIn.head hT2 hk3, ?_⟩
      rw [hadd]
      exact hc3
  refine ⟨(List.range vs.length).map fun i => (each i).choose, ?_, fun i t ht => ?_⟩
  · rw [nrms_map, nrms_map, List.map_map]
    apply List.ext_getElem
    · simp
    · intro i h1 h2
      simp only [List.getElem_map, List.getElem_range, Function.comp]
      exact ((each i).choose_spec _ (List.getElem?_eq_getElem (by simpa using h2))).1
  · rw [List.getElem?_map] at ht
    obtain ⟨i', hi', rfl⟩ := Option.map_eq_some_iff.1 ht
    have hil : i < vs.length := by
      have := (List.getElem?_eq_some_iff.1 hi').1
      simpa using this
    rw [List.getElem?_range hil] at hi'
    obtain rfl := Option.some.inj hi'
    exact ((each i).choose_spec _ (List.getElem?_eq_getElem hil)).2
end

set_option maxHeartbeats 2000000 in
set_option maxRecDepth 100000 in
theorem markValsS (vs : List Tr) (m : Int) (hm0 : 1 ≤ m) (hm1 : m + 7 * cnts vs ≤ 100000000000) (w : World) (S : Nat → Prop) (A : Option Addr) (c : Nat) (h : VIn w S vs A) (hm : vs.length ≤ maxLen) (hpl : ∀ b, S b → Plain w b) :
    Calls Try.prog 14 #[.slice A vs.length c, .int .i64 m] w (fun e w' => ∃ q, e = .returned (.int .i64 q) ∧ m ≤ q ∧ q ≤ m + 7 * cnts vs ∧ Sims S w w') := by
  obtain ⟨L, HL⟩ : ∃ L, Hid (L = vs.length) := ⟨_, Lib.hid rfl⟩
  rw [← HL.out] at hm ⊢
  unfold maxLen at hm
  have HV := Lib.hid h
  have HPL := Lib.hid hpl
  have HM1 := Lib.hid hm1
  obtain ⟨W, HW⟩ : ∃ W : Int, Hid (m + 7 * cnts vs = W) := ⟨_, Lib.hid rfl⟩
  rw [HW.out] at hm1 ⊢
  clear h hpl
  go_enter Try.func14, Try.ntmps14
  go_wp2_with (fail)
  go_loopg [1, 5] (L + 1) (fun gk l i wr => ∃ (j : Nat) (q : Int), i = .int .i64 j ∧ l = .int .i64 q ∧ gk + j = L + 1 ∧ j ≤ L ∧ m ≤ q ∧ q ≤ 100000000000 ∧ Hid (q ≤ m + 7 * cnts (vs.take j)) ∧ Hid (Sims S w wr))
  case atStart => exact ⟨0, m, rfl, rfl, by omega, by omega, by omega, by have := HM1.out; omega, Lib.hid (by omega), Lib.hid (Sims.refl _ _)⟩
  case round =>
    obtain ⟨j, q, rfl, rfl, hgj, hjL, hq0, hq1, HQ, HFR⟩ := hrel
    by_cases hlt : j < L
    · obtain ⟨vs2, hn2, hv2⟩ := HV.out.sim HFR.out
      have hl2 := nrms_len hn2
      obtain ⟨t, ht⟩ : ∃ t, vs[j]? = some t := ⟨_, List.getElem?_eq_getElem (by rw [← HL.out]; exact hlt)⟩
      obtain ⟨t2, ht2⟩ : ∃ t, vs2[j]? = some t := ⟨_, List.getElem?_eq_getElem (by rw [hl2, ← HL.out]; exact hlt)⟩
      have hnt := nrms_get hn2 ht ht2
      obtain ⟨a, k1, n1, s1, x1, ks1, vs1, A1, c1, rfl, hS, rfl, hT, hcell⟩ := hv2 j _ ht2
      obtain ⟨_, _, e1, hkb, hin⟩ := hT.out
      obtain ⟨kt, nt, st, xt, kst, vst⟩ := t
      have hni := nrm_items hnt
      have hli := nrms_len hni
      have hcl := cnts_lt ht
      rw [cnt_mk'] at hcl
      have hq7 : q + 4 + 7 * cnts vst ≤ 100000000000 := by have h1 := HQ.out; have h2 := HM1.out; omega
      obtain ⟨Q, HQ2⟩ : ∃ Q : Int, Hid (q + 4 + 7 * cnts vst = Q) := ⟨_, Lib.hid rfl⟩
      obtain ⟨L1, HL1⟩ : ∃ L1, Hid (L1 = vst.length) := ⟨_, Lib.hid rfl⟩
      rw [HQ2.out] at hq7
      have hQ0 : m ≤ Q := by rw [← HQ2.out]; omega
      have hin' : IsIn wr S ks1 vs1 A1 := by
        obtain ⟨-, -, -, -, rfl, -, -⟩ : k1 = k1 ∧ n1 = n1 ∧ s1 = s1 ∧ x1 = x1 ∧ A1 = _ ∧ vs1.length = vs1.length ∧ c1 = _ := by simpa using e1
        exact hin
      have IHJ : Hid (∀ z, z = q + 4 → ∀ w', Sims S wr w' → Calls Try.prog 28 #[.slice A1 L1 c1, .int .i64 z] w' (MyQ w' S Q)) := Lib.hid (fun z hz w' hw' => by
        subst hz
        obtain ⟨ks3, vs3, hn4, hin4⟩ := hin'.sim hw'
        have := markAny (.mk kt nt st xt kst vst) kt nt st xt kst vst rfl (q + 4) (by omega) (by rw [HQ2.out]; exact hq7) w' S A1 c1 ks3 vs3 (hn4.trans hni) hin4 (fun b hb => (HFR.out.trans hw').plain b hb (HPL.out b hb))
        rw [HQ2.out] at this
        rw [HL1.out]
        exact this)
      have HQ3 : Hid (Q ≤ m + 7 * cnts (vs.take (j + 1))) := Lib.hid (by have := HQ.out; rw [cnts_take ht, cnt_mk', ← HQ2.out]; push_cast; omega)
      have MT2 := markText (q + 2) (by omega) (by omega)
      have z2 := mtx_size (q + 2)
      obtain ⟨u2, HU2⟩ : ∃ u, Hid (mtx (q + 2) = u) := ⟨_, Lib.hid rfl⟩
      unfold MtQ at MT2
      rw [HU2.out] at MT2 z2
      rw [show q + 2 = q + 1 + 1 by omega] at MT2
      rw [hli, ← HL1.out] at hcell
      have hsp := spot_none hcell.c0
      obtain ⟨gb, go, sp, hadd⟩ : ∃ gb go sp, a.add (j * 5) = ⟨gb, go, sp⟩ := ⟨_, _, _, rfl⟩
      rw [hadd] at hsp
      simp only at hsp
      subst hsp
      have hSg : S gb := by have := mem.add_block a (j * 5); rw [hadd] at this; simp only at this; rw [this]; exact hS
      rw [hadd] at hcell
      have hpg : Plain wr gb := HFR.out.plain gb hSg (HPL.out gb hSg)
      have HPG := Lib.hid hpg
      have HSG := Lib.hid hSg
      have HC := Lib.hid hcell
      have HKB := Lib.hid hkb
      have f := frozen_plain hpg
      obtain ⟨p0, p1, p2, p3, p4⟩ := hcell
      clear hv2 hn2 hl2 ht2 hT hkb hin hin' hnt hni hli hcl ht hpg hSg hS e1
      go_wp2_with (fail)
      refine (MT2 _).mono ?_
      rintro e w1 ⟨rfl, hb1⟩
      have hs1 : Sims S wr w1 := ((Sims.set HSG.out (v := .int .i64 q) HC.out.c0 (.inr (.inr (.inl ⟨_, _, rfl, rfl, by unfold I64; omega⟩)))).trans (Sims.set HSG.out (u := .int .i64 n1) (v := .int .i64 (q + 1)) ((World.cell?_setCell_other _ _ _ _ (by simp)).trans HC.out.c1) (.inr (.inr (.inl ⟨_, _, rfl, rfl, by unfold I64; omega⟩))))).trans (Sims.of hb1)
      have HS1 := Lib.hid hs1
      obtain ⟨k2, n2, s2, x2, hc1, hkb1⟩ := HC.out.sim hs1 HSG.out HKB.out
      have HC1 := Lib.hid hc1
      have f1 := frozen_plain (hs1.plain gb HSG.out HPG.out)
      clear hb1 hs1 f p0 p1 p2 p3 p4 hkb1
      obtain ⟨p0, p1, p2, p3, p4⟩ := hc1
      go_wp2_with (fail)
      have HS3 : Hid (∀ v6, v6 = q + 3 → Sims S wr ((w1.setCell ⟨gb, go + 2, none⟩ (.string u2)).setCell ⟨gb, go + 3, none⟩ (.int .i64 v6))) := Lib.hid fun v6 h6 => (HS1.out.trans (Sims.set HSG.out (u := .string s2) HC1.out.c2 (.inr (.inr (.inr ⟨_, _, rfl, rfl, by unfold maxLen; omega⟩))))).trans (Sims.set HSG.out (u := .int .i64 x2) ((World.cell?_setCell_other _ _ _ _ (by simp)).trans HC1.out.c3) (.inr (.inr (.inl ⟨_, _, rfl, rfl, by unfold I64; omega⟩))))
      refine (IHJ.out _ (by omega) _ (HS3.out _ (by omega))).mono ?_
      rintro e w4 ⟨rfl, hs4⟩
      have HS4 := Lib.hid ((HS3.out _ (by omega)).trans hs4)
      clear f1 p0 p1 p2 p3 p4 hs4
      go_wp2_with (fail)
      go_roundg (L - j)
      case rel => exact ⟨j + 1, Q, by go_num, rfl, by omega, by omega, hQ0, hq7, HQ3, Lib.hid (HFR.out.trans HS4.out)⟩
      case measure => omega
    · obtain rfl : j = L := by omega
      have e : q ≤ W := by have := HQ.out; rw [HL.out, List.take_length] at this; rw [← HW.out]; exact this
      go_wp2_with (fail)
      go_ret
      exact ⟨q, rfl, hq0, e, HFR.out⟩

end Go.Proofs.Ytbgffmiffmmohaa.tree

/-
  How a list of values that came in is opened.
  Conditions: those that each theorem names.
-/
namespace Go.Proofs.Ytbgffmiffmmohaa.tree
open Go.ChangeShapes Go.WideShapes Go.ChangeAt Go.RowKit mem
set_option linter.unusedVariables false

section
variable {H : Type} {enc : TypeId × Value → H} {P : Program} {w : World} {base : Nat} {spare : Nat → Bool} {held : Bool}
theorem open_valS {tV tE tK tS tSS : TypeId} (T : Types P tV tE tK tS) (hSS : P.underlying tSS = some (.slice tV)) {fuel : Nat} {c0 : Value} {x : DataW H × List MemPlace} (h : DataW.trod enc P w base spare held fuel tSS [c0] = some x) :
    ∃ A c vs, c0 = .slice A (List.length vs) c ∧ (vs.length ≤ c ∧ c ≤ maxLen) ∧ VIn w (fun _ => True) vs A := by
  rcases DataW.trod_slice hSS h with ⟨hc4, _⟩ | ⟨a, len, cap, elems, rest, m, hfm, hc4, _, hbs, hlc, hcm, hel, hat, _⟩
  · simp at hc4
    subst hc4
    exact ⟨none, 0, [], rfl, ⟨Nat.le_refl _, Nat.zero_le _⟩, fun i t ht => by simp at ht⟩
  · simp at hc4
    subst hc4
    have each : ∀ i, i < len → ∃ t : Tr, ∃ k n s x ks vs A' c', t = .mk k n s x ks vs ∧ TIn w (fun _ => True) t (vV k n s x A' vs.length c') ∧ At5 w (a.add (i * 5)) k n s x A' vs.length c' := by
      intro i hi
      have hi2 := hat i hi
      rw [List.getElem?_eq_getElem (by omega)] at hi2
      obtain ⟨cs', hcs, htr⟩ := Option.bind_eq_some_iff.1 hi2
      rw [T.cV] at hcs
      obtain ⟨_, hcl, hcat⟩ := World.cells?_some hcs
      match cs', hcl with
      | [d3, d4, d5, d6, d7], _ =>
        obtain ⟨t, ht⟩ := open_tree T _ _ _ htr
        obtain ⟨k, n, s, x, ks, vs⟩ := t
        obtain ⟨A', c', e, -, -⟩ := ht.out
        have e' : d3 = .int .i64 k ∧ d4 = .int .i64 n ∧ d5 = .string s ∧ d6 = .int .i64 x ∧ d7 = .slice A' vs.length c' := by simpa using e
        obtain ⟨rfl, rfl, rfl, rfl, rfl⟩ := e'
        have at' : ∀ j, j < 5 → w.cell? (a.add (i * 5 + j)) = ([.int .i64 k, .int .i64 n, .string s, .int .i64 x, .slice A' vs.length c'] : List Value)[j]? := fun j hj => by
          have := hcat j hj
          rwa [add_add'] at this
        have sp : ∀ j, j ≠ 0 → a.add (i * 5 + j) = ⟨(a.add (i * 5)).block, (a.add (i * 5)).off + j, none⟩ := fun j hj => by rw [← add_add', add_pos _ _ hj]
        have at2 : ∀ j, j ≠ 0 → j < 5 → w.cell? ⟨(a.add (i * 5)).block, (a.add (i * 5)).off + j, none⟩ = _ := fun j h0 hj => (congrArg w.cell? (sp j h0)).symm.trans (at' j hj)
        exact ⟨.mk k n s x ks vs, k, n, s, x, ks, vs, A', c', rfl, ht, ⟨at' 0 (by omega), at2 1 (by omega) (by omega), at2 2 (by omega) (by omega), at2 3 (by omega) (by omega), at2 4 (by omega) (by omega)⟩⟩
    have hl : ((List.range len).map (fun i => if hi : i < len then (each i hi).choose else Tr.mk 0 0 ⟨#[]⟩ 0 [] [])).length = len := by simp
    refine ⟨some a, cap, (List.range len).map (fun i => if hi : i < len then (each i hi).choose else Tr.mk 0 0 ⟨#[]⟩ 0 [] []), by rw [hl], ⟨by rw [hl]; exact hlc, hcm⟩, fun i t ht => ?_⟩
    rw [List.getElem?_map] at ht
    obtain ⟨i', hi', rfl⟩ := Option.map_eq_some_iff.1 ht
    have hil : i < len := by
      have := (List.getElem?_eq_some_iff.1 hi').1
      simpa using this
    rw [List.getElem?_range hil] at hi'
    obtain rfl := Option.some.inj hi'
    simp only [dif_pos hil]
    obtain ⟨k, n, s, x, ks, vs, A', c', h1, h2, h3⟩ := (each i hil).choose_spec
    exact ⟨a, k, n, s, x, ks, vs, A', c', rfl, trivial, h1, h1 ▸ h2, h3⟩
end

set_option maxRecDepth 100000 in
theorem open_values {H : Type} {enc : TypeId × Value → H} {W : World} {base : Nat} {v : Value} {d : DataW H} {ps : List MemPlace} (hval : Value.okWide Try.prog W .any base 25 v) (h : DataW.Trod enc Try.prog W 0 (fun _ => true) true 25 v d ps) :
    ∃ A c vs, v = .slice A (List.length vs) c ∧ (vs.length ≤ c ∧ c ≤ maxLen) ∧ VIn W (fun _ => True) vs A := by
  obtain ⟨A, n, c, rfl⟩ := okWide_slice Try.underlying25 hval
  obtain ⟨fuel, hf⟩ := h
  exact open_valS opt.types Try.underlying25 hf

end Go.Proofs.Ytbgffmiffmmohaa.tree

/-
  An own list of integers marked, with what it holds then, and read back.
  Conditions: those that each theorem names.
-/
namespace Go.Proofs.Ytbgffmiffmmohaa.tree
open Go.ChangeShapes Go.WideShapes Go.ChangeAt Go.RowKit
set_option linter.unusedVariables false

/-- The numbers from m on. -/
def FromI (m : Int) (n : Nat) (l : List Int) : Prop := ∀ i : Nat, i < n → l[i]? = some (m + i)

set_option maxHeartbeats 1600000 in
theorem markIntsX (A : Option Addr) (n c lo : Nat) (l : List Int) (w : World) (h : imem.OwnI w lo A n c l) (hn : n ≤ 1048576) (m : Int) (hm0 : 1 ≤ m) (hm1 : m ≤ 1000000000) :
    Calls Try.prog 15 #[.slice A n c, .int .i64 m] w (fun e w' => e = .returned (.int .i64 (m + n)) ∧ Fr (fun b => (Value.slice A n c).ownBlock = some b) w w' ∧ ∃ l2, imem.OwnI w' lo A n c l2 ∧ FromI m n l2) := by
  obtain ⟨W, HW⟩ : ∃ W : Int, Hid (m + n = W) := ⟨_, Lib.hid rfl⟩
  rw [HW.out]
  have HO := Lib.hid h
  clear h
  go_enter Try.func15, Try.ntmps15
  go_wp2_with (fail)
  go_loopg [1, 5] (n + 1) (fun gk lv i wr => ∃ (j : Nat) (q : Int) (l2 : List Int), i = .int .i64 j ∧ lv = .int .i64 q ∧ gk + j = n + 1 ∧ j ≤ n ∧ 1 ≤ q ∧ q ≤ 2000000000 ∧ Hid (q = m + j) ∧ Hid (imem.OwnI wr lo A n c l2) ∧ Hid (Fr (fun b => (Value.slice A n c).ownBlock = some b) w wr) ∧ Hid (FromI m j l2))
  case atStart => exact ⟨0, m, l, rfl, rfl, by omega, by omega, hm0, by omega, Lib.hid (by omega), HO, Lib.hid (Fr.refl _ _), Lib.hid (fun i hi => absurd hi (by omega))⟩
  case round =>
    clear HO
    obtain ⟨j, q, l2, rfl, rfl, hgj, hjn, hq0, hq1, HQ, HO, HF, HM⟩ := hrel
    by_cases hlt : j < n
    · obtain ⟨g, rfl, -, -, -⟩ := HO.out.head (by omega)
      obtain ⟨⟨v0, hv0⟩, hf0⟩ := HO.out.cellk hlt
      have HM2 : Hid (FromI m (j + 1) (l2.set j q)) := Lib.hid fun i hi => by
        by_cases e : i = j
        · subst e
          rw [List.getElem?_set_self (by rw [HO.out.len]; exact hlt), HQ.out]
        · rw [List.getElem?_set_ne (fun e2 => e e2.symm)]
          exact HM.out i (by omega)
      go_wp2_with (fail)
      go_roundg (n - j)
      case rel => exact ⟨j + 1, q + 1, _, by go_num, rfl, by omega, by omega, by omega, by have := HQ.out; omega, Lib.hid (by have := HQ.out; push_cast; omega), Lib.hid (HO.out.set j q).1, Lib.hid (HF.out.trans (Fr.set (S := fun b => (Value.slice (some ⟨g, 0, none⟩) n c).ownBlock = some b) (show (Value.slice (some ⟨g, 0, none⟩) n c).ownBlock = some g from rfl) _ _)), HM2⟩
      case measure => omega
    · obtain rfl : j = n := by omega
      have e : q = W := by rw [HQ.out, ← HW.out]
      subst e
      go_wp2_with (fail)
      go_ret
      exact ⟨rfl, HF.out, l2, HO.out, HM.out⟩

set_option maxHeartbeats 1600000 in
theorem heldInts (A : Option Addr) (n c : Nat) (l : List Int) (w : World) (h : imem.RdI w A n l) (hn : n ≤ 1048576) (m : Int) (he : FromI m n l) (hm0 : 1 ≤ m) (hm1 : m ≤ 1000000000) :
    Calls Try.prog 16 #[.slice A n c, .int .i64 m] w (fun e w' => e = .returned (.int .i64 (m + n)) ∧ Below w.heap.size w w') := by
  obtain ⟨W, HW⟩ : ∃ W : Int, Hid (m + n = W) := ⟨_, Lib.hid rfl⟩
  rw [HW.out]
  have HO := Lib.hid h
  have HE := Lib.hid he
  clear h he
  go_enter Try.func16, Try.ntmps16
  go_wp2_with (fail)
  go_loopg [1, 5] (n + 1) (fun gk lv i wr => ∃ (j : Nat) (q : Int), i = .int .i64 j ∧ lv = .int .i64 q ∧ gk + j = n + 1 ∧ j ≤ n ∧ 1 ≤ q ∧ q ≤ 2000000000 ∧ Hid (q = m + j) ∧ Hid (Below w.heap.size w wr))
  case atStart => exact ⟨0, m, rfl, rfl, by omega, by omega, hm0, by omega, Lib.hid (by omega), Lib.hid (Below.refl _ _)⟩
  case round =>
    obtain ⟨j, q, rfl, rfl, hgj, hjn, hq0, hq1, HQ, HB⟩ := hrel
    by_cases hlt : j < n
    · obtain ⟨a, v, rfl, hv, hc⟩ := (HO.out.below HB.out).at_ hlt
      obtain rfl : q = v := by
        have := HE.out j hlt
        rw [hv, ← HQ.out] at this
        exact (Option.some.inj this).symm
      clear hv
      go_wp2_with (fail)
      go_roundg (n - j)
      case rel => exact ⟨j + 1, q + 1, by go_num, rfl, by omega, by omega, by omega, by have := HQ.out; omega, Lib.hid (by have := HQ.out; push_cast; omega), HB⟩
      case measure => omega
    · obtain rfl : j = n := by omega
      have e : q = W := by rw [HQ.out, ← HW.out]
      subst e
      go_wp2_with (fail)
      go_ret
      exact ⟨rfl, HB.out⟩

end Go.Proofs.Ytbgffmiffmmohaa.tree

