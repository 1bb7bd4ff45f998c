/-
  What the texts behind this one use: 3 parts of one proof.
  Conditions: those that each theorem names.
-/
import Derived.Test.YtbgffmiffmmohaaGreatDoorHcSVals
import Derived.Test.YtbgffmiffmmohaaGreatDoorHcB2
import Derived.Test.YtbgffmiffmmohaaGreatDoorHcB4
import Derived.Test.YtbgffmiffmmohaaGreatDoorHcSCopyS
import Derived.Maps.AppendAt
import Derived.Deep.DeepCutAuto
import Derived.Deep.RegionWith
/-
  Values as a list of cells, five each; one more put in at a place.
  Conditions: those that each theorem names.
-/
namespace Go.Proofs.YtbgffmiffmmohaaGreatDoor.tree
open Go.ChangeShapes Go.WideShapes Go.ChangeAt Go.RowKit
set_option linter.unusedVariables false

/-- The cells xs are the values s. -/
def XV (w : World) (S : Nat → Prop) (s : List Tr) (xs : List Value) : Prop :=
  xs.length = s.length * 5 ∧ ∀ i t, s[i]? = some t → ∃ k n z x ks' vs' A' c', t = .mk k n z x ks' vs' ∧ TIn w S (.mk k n z x ks' vs') (vV k n z x A' vs'.length c') ∧ ∀ q, q < 5 → xs[i * 5 + q]? = (#[.int .i64 k, .int .i64 n, .string z, .int .i64 x, .slice A' vs'.length c'] : Array Value)[q]?
theorem XV.nil (w : World) (S : Nat → Prop) : XV w S [] [] := ⟨rfl, fun i t h => by simp at h⟩
theorem XV.stays {w w' : World} {S S' : Nat → Prop} {s : List Tr} {xs : List Value} (h : XV w S s xs) (hS : ∀ b, S b → S' b) (hb : ∀ b, S b → b < w.heap.size → w'.heap[b]? = w.heap[b]?) : XV w' S' s xs :=
  ⟨h.1, fun i t ht => by
    obtain ⟨k, n, z, x, ks', vs', A', c', e, hT, hc⟩ := h.2 i t ht
    exact ⟨k, n, z, x, ks', vs', A', c', e, hT.stays hS hb, hc⟩⟩
theorem XV.below {w w' : World} {S : Nat → Prop} {s : List Tr} {xs : List Value} (h : XV w S s xs) (hb : Below w.heap.size w w') : XV w' S s xs := h.stays (fun _ h => h) fun b _ hl => hb.block b hl
theorem XV.ins {w : World} {S : Nat → Prop} {s : List Tr} {xs : List Value} (h : XV w S s xs) {p : Nat} (hp : p ≤ s.length) {k n x : Int} {z : ByteArray} {ks' : List Ky} {vs' : List Tr} {A' : Option Addr} {c' : Nat} (hT : TIn w S (.mk k n z x ks' vs') (vV k n z x A' vs'.length c')) :
    XV w S (s.take p ++ .mk k n z x ks' vs' :: s.drop p) (xs.take (p * 5) ++ [.int .i64 k, .int .i64 n, .string z, .int .i64 x, .slice A' vs'.length c'] ++ xs.drop (p * 5)) := by
  obtain ⟨hl, hi⟩ := h
  refine ⟨by simp; omega, fun i t ht => ?_⟩
  have hlt : (xs.take (p * 5)).length = p * 5 := by rw [List.length_take]; omega
  have hls : (s.take p).length = p := by rw [List.length_take]; omega
  rcases Nat.lt_trichotomy i p with hlt1 | rfl | hgt
  · rw [List.getElem?_append_left (by omega), List.getElem?_take_of_lt hlt1] at ht
    obtain ⟨k, n, z, x, ks', vs', A', c', e, hT, hc⟩ := hi i t ht
    refine ⟨k, n, z, x, ks', vs', A', c', e, hT, fun q hq => ?_⟩
    rw [List.append_assoc, List.getElem?_append_left (by omega), List.getElem?_take_of_lt (by omega)]
    exact hc q hq
  · rw [List.getElem?_append_right (by omega), hls, Nat.sub_self, List.getElem?_cons_zero] at ht
    obtain rfl := Option.some.inj ht
    refine ⟨k, n, z, x, ks', vs', A', c', rfl, hT, fun q hq => ?_⟩
    rw [List.append_assoc, List.getElem?_append_right (by omega), hlt, Nat.add_sub_cancel_left]
    match q, hq with
    | 0, _ => rfl
    | 1, _ => rfl
    | 2, _ => rfl
    | 3, _ => rfl
    | 4, _ => rfl
  · obtain ⟨m, rfl⟩ : ∃ m, i = p + 1 + m := ⟨i - p - 1, by omega⟩
    rw [List.getElem?_append_right (by omega), hls, show p + 1 + m - p = m + 1 by omega, List.getElem?_cons_succ, List.getElem?_drop] at ht
    obtain ⟨k, n, z, x, ks', vs', A', c', e, hT, hc⟩ := hi _ t ht
    refine ⟨k, n, z, x, ks', vs', A', c', e, hT, fun q hq => ?_⟩
    rw [List.getElem?_append_right (by simp; omega), List.getElem?_drop]
    rw [← hc q hq]
    congr 1
    simp
    omega
theorem XV.at_ {w : World} {S : Nat → Prop} {s : List Tr} {xs : List Value} (h : XV w S s xs) {i : Nat} {t : Tr} (ht : s[i]? = some t) : ∃ k n z x ks' vs' A' c', t = .mk k n z x ks' vs' ∧ TIn w S t (vV k n z x A' vs'.length c') ∧ ∀ q, q < 5 → xs[i * 5 + q]? = (#[.int .i64 k, .int .i64 n, .string z, .int .i64 x, .slice A' vs'.length c'] : Array Value)[q]? := by
  obtain ⟨k, n, z, x, ks', vs', A', c', e, hT, hc⟩ := h.2 i t ht
  exact ⟨k, n, z, x, ks', vs', A', c', e, e ▸ hT, hc⟩
theorem XV.one {w : World} {S : Nat → Prop} {s : List Tr} {xs : List Value} (h : XV w S s xs) : ∀ u ∈ xs, u.oneCell' = true := fun u hu => by
  obtain ⟨j, hj, rfl⟩ := List.mem_iff_getElem.1 hu
  have hlen := h.1
  have hi : j / 5 < s.length := by omega
  obtain ⟨k, n, z, x, ks', vs', A', c', e, hT, hc⟩ := h.2 (j / 5) _ (List.getElem?_eq_getElem hi)
  have hq := hc (j % 5) (Nat.mod_lt _ (by omega))
  rw [show j / 5 * 5 + j % 5 = j by omega, List.getElem?_eq_getElem hj] at hq
  have h5 : j % 5 = 0 ∨ j % 5 = 1 ∨ j % 5 = 2 ∨ j % 5 = 3 ∨ j % 5 = 4 := by omega
  rcases h5 with h5 | h5 | h5 | h5 | h5 <;> rw [h5] at hq <;> simp at hq <;> rw [hq] <;> rfl
/-- The values at a row whose cells are xs. -/
theorem XV.vin {w : World} {S : Nat → Prop} {s : List Tr} {xs : List Value} (h : XV w S s xs) {a : Addr} (ha : S a.block) (hc : ∀ j u, xs[j]? = some u → w.cell? (a.add j) = some u) : VIn w S s (some a) := fun i t ht => by
  obtain ⟨k, n, z, x, ks', vs', A', c', rfl, hT, hq⟩ := h.2 i t ht
  have at_ : ∀ q u, q < 5 → (#[.int .i64 k, .int .i64 n, .string z, .int .i64 x, .slice A' vs'.length c'] : Array Value)[q]? = some u → w.cell? (a.add (i * 5 + q)) = some u := fun q u hq5 hu => hc _ _ ((hq q hq5).trans hu)
  have sp : ∀ j, j ≠ 0 → a.add (i * 5 + j) = ⟨(a.add (i * 5)).block, (a.add (i * 5)).off + j, none⟩ := fun j hj => by rw [← add_add', add_pos _ _ hj]
  refine ⟨a, k, n, z, x, ks', vs', A', c', rfl, ha, rfl, hT, ?_, ?_, ?_, ?_, ?_⟩
  · exact at_ 0 _ (by omega) rfl
  · rw [← sp 1 (by omega)]; exact at_ 1 _ (by omega) rfl
  · rw [← sp 2 (by omega)]; exact at_ 2 _ (by omega) rfl
  · rw [← sp 3 (by omega)]; exact at_ 3 _ (by omega) rfl
  · rw [← sp 4 (by omega)]; exact at_ 4 _ (by omega) rfl
theorem cnts_perm {l l' : List Tr} (h : l.Perm l') : cnts l = cnts l' := by
  induction h with
  | nil => rfl
  | cons a _ ih => rw [cnts, cnts, ih]
  | swap a b l => rw [cnts, cnts, cnts, cnts]; omega
  | trans _ _ ih1 ih2 => rw [ih1, ih2]

end Go.Proofs.YtbgffmiffmmohaaGreatDoor.tree

/-
  Values that a call appends one by one to a row of its own.
  Conditions: those that each theorem names.
-/
namespace Go.Proofs.YtbgffmiffmmohaaGreatDoor.tree
open Go.ChangeShapes Go.WideShapes Go.ChangeAt Go.RowKit
set_option linter.unusedVariables false

theorem iv_info : ∃ i, Tryz.prog.info? IV = some i ∧ (i.zero = some (.agg #[.int .i64 0, .int .i64 0, .string ⟨#[]⟩, .int .i64 0, .slice none 0 0]) ∧ i.size = 5 ∧ i.bytes = 64) := by
  have : (Tryz.prog.info? IV).map (fun i => (i.zero, i.size, i.bytes)) = some (some (.agg #[.int .i64 0, .int .i64 0, .string ⟨#[]⟩, .int .i64 0, .slice none 0 0]), 5, 64) := by kernel_rfl
  cases hq : Tryz.prog.info? IV with
  | none => rw [hq] at this; cases this
  | some i => rw [hq] at this; simp at this; exact ⟨i, rfl, this⟩
theorem five_one (k m : Int) (z : ByteArray) (x : Int) (A : Option Addr) (L c : Nat) : ∀ u ∈ [Value.int .i64 k, .int .i64 m, .string z, .int .i64 x, .slice A L c], u.oneCell' = true := by simp [Value.oneCell']
theorem five_new (w : World) (c0 c1 c2 c3 c4 : Value) (t : TypeId) : ∀ j u, [c0, c1, c2, c3, c4][j]? = some u → (w.alloc (.cells #[c0, c1, c2, c3, c4] t)).cell? ((⟨w.heap.size, 0, none⟩ : Addr).add j) = some u := by
  intro j u hj
  rw [Addr.add_lit, Nat.zero_add, cell_of_row _ _ j _ t _ (heap_alloc_new w _)]
  simpa using hj
theorem Fr.grown {S : Nat → Prop} {w w' : World} {row : Option Nat} (g : w.grownBy w' row) (hr : ∀ b, row = some b → S b) : Fr S w w' := ⟨g.os, g.tape, g.output, g.size, fun b hb hn => g.block b hb (fun e => hn (hr b e.symm))⟩

theorem VIn.lt' {w : World} {S : Nat → Prop} {vs : List Tr} {A : Option Addr} (h : VIn w S vs A) : VIn w (fun b => b < w.heap.size) vs A := fun i t ht => by
  obtain ⟨a, k, n, s, x, ks', vs', A', c', e, hSa, rfl, hT, hc⟩ := h i t ht
  refine ⟨a, k, n, s, x, ks', vs', A', c', e, ?_, rfl, hT.lt', hc⟩
  have := World.block_lt_of_cell? _ _ hc.c0
  rwa [mem.add_block] at this

/-- Values that a call appends one by one. -/
def VOwn (w : World) (lo : Nat) (v : Value) (xs : List Value) (vs : List Tr) : Prop :=
  w.ownsRow lo IV 5 v vs.length xs ∧ ∀ i, i < vs.length → ∃ k n s x ks' vs' A c, vs[i]? = some (.mk k n s x ks' vs') ∧ (∀ q, q < 5 → xs[i * 5 + q]? = (#[.int .i64 k, .int .i64 n, .string s, .int .i64 x, .slice A vs'.length c] : Array Value)[q]?) ∧ TIn w (SX lo v) (.mk k n s x ks' vs') (vV k n s x A vs'.length c)
theorem VOwn.row {w : World} {lo : Nat} {v : Value} {xs : List Value} {vs : List Tr} (h : VOwn w lo v xs vs) : w.ownsRow lo IV 5 v vs.length xs := h.1
theorem VOwn.lt {w : World} {lo : Nat} {v : Value} {xs : List Value} {vs : List Tr} (h : VOwn w lo v xs vs) : ∀ b, v.ownBlock = some b → lo ≤ b ∧ b < w.heap.size := World.ownsRow.lt h.1
theorem VOwn.below {w w' : World} {lo : Nat} {v : Value} {xs : List Value} {vs : List Tr} (h : VOwn w lo v xs vs) (hb : Below w.heap.size w w') : VOwn w' lo v xs vs := by
  obtain ⟨h1, h2⟩ := h
  refine ⟨World.ownsRow.kept h1 (mem.none_of_below hb) ownBlock_keep, fun i hi => ?_⟩
  obtain ⟨k, n, s, x, ks', vs', A, c, a2, a4, a5⟩ := h2 i hi
  exact ⟨k, n, s, x, ks', vs', A, c, a2, a4, a5.below' hb⟩
theorem VOwn.more {w w' : World} {lo : Nat} {v : Value} {xs : List Value} {vs : List Tr} (h : VOwn w lo v xs vs) {k n x : Int} {s : ByteArray} {ks' : List Ky} {vs' : List Tr} {A : Option Addr} {c : Nat} (ht : TIn w (SX lo v) (.mk k n s x ks' vs') (vV k n s x A vs'.length c)) {v' : Value}
    (ho : w'.ownsRow lo IV 5 v' (vs.length + 1) (xs ++ [.int .i64 k, .int .i64 n, .string s, .int .i64 x, .slice A vs'.length c])) (hg : w.grownBy w' v.ownBlock) (hat : v'.ownBlock = v.ownBlock ∨ v'.ownBlock = some w.heap.size) :
    VOwn w' lo v' (xs ++ [.int .i64 k, .int .i64 n, .string s, .int .i64 x, .slice A vs'.length c]) (vs ++ [.mk k n s x ks' vs']) := by
  obtain ⟨h1, h3⟩ := h
  have hxl : xs.length = vs.length * 5 := h1.1
  have st : ∀ {t : Tr} {u : Value}, TIn w (SX lo v) t u → TIn w' (SX lo v') t u := fun {t u} h => by
    have h' : TIn w (fun b => SX lo v b ∧ b < w.heap.size) t u := by
      induction h with
      | mk k n s x ks vs A cap C hk hl hm hcap hc ht ih =>
        refine .mk k n s x ks vs A cap C hk hl hm hcap (fun i hi => ?_) ih
        obtain ⟨a, ha, hS, hky, hs, hj⟩ := hc i hi
        refine ⟨a, ha, ⟨hS, ?_⟩, hky, hs, hj⟩
        have := World.block_lt_of_cell? _ _ hky.1
        rwa [mem.add_block] at this
    exact h'.stays (fun b ⟨⟨hb1, hb2⟩, hb3⟩ => ⟨hb1, fun e => by
      rcases hat with h | h
      · exact hb2 (h ▸ e)
      · rw [h] at e; injection e with e; omega⟩) (fun b ⟨⟨hb1, hb2⟩, hb3⟩ hlt => hg.block b hlt (fun e => hb2 e.symm))
  refine ⟨by rw [List.length_append]; exact ho, fun i hi => ?_⟩
  rw [List.length_append] at hi
  simp only [List.length_cons, List.length_nil] at hi
  by_cases e : i = vs.length
  · subst e
    refine ⟨k, n, s, x, ks', vs', A, c, by rw [List.getElem?_append_right (by omega)]; simp, fun q hq => ?_, st ht⟩
    rw [List.getElem?_append_right (by omega), hxl, Nat.add_sub_cancel_left]
    match q, hq with
    | 0, _ => rfl
    | 1, _ => rfl
    | 2, _ => rfl
    | 3, _ => rfl
    | 4, _ => rfl
  · obtain ⟨k1, n1, s1, x1, ks1, vs1, A1, c1, a2, a4, a5⟩ := h3 i (by omega)
    refine ⟨k1, n1, s1, x1, ks1, vs1, A1, c1, by rw [List.getElem?_append_left (by omega)]; exact a2, fun q hq => ?_, st a5⟩
    rw [List.getElem?_append_left (by omega)]
    exact a4 q hq
theorem VOwn.out {w : World} {lo : Nat} {v : Value} {xs : List Value} {vs : List Tr} (h : VOwn w lo v xs vs) : ∃ A c, v = .slice A vs.length c ∧ VIn w (fun _ => True) vs A := by
  obtain ⟨h1, h3⟩ := h
  rcases h1.2 with ⟨rfl, h0⟩ | ⟨g, cap, cur, rfl, hlo, hg, hnc, hcm, hsz, htk⟩
  · rw [h0]
    exact ⟨none, 0, rfl, fun i t ht => by have := (List.getElem?_eq_some_iff.1 ht).1; omega⟩
  · refine ⟨some ⟨g, 0, none⟩, cap, rfl, fun i t ht => ?_⟩
    have hi := (List.getElem?_eq_some_iff.1 ht).1
    obtain ⟨k, n, s, x, ks', vs', A, c, a2, a4, a5⟩ := h3 i hi
    rw [ht] at a2
    obtain rfl := Option.some.inj a2
    have at_ : ∀ q, q < 5 → w.cell? ⟨g, i * 5 + q, none⟩ = (#[.int .i64 k, .int .i64 n, .string s, .int .i64 x, .slice A vs'.length c] : Array Value)[q]? := fun q hq => by
      rw [cell_of_row w g _ cur IV _ hg, ← a4 q hq, ← htk, List.getElem?_take_of_lt (by omega), Array.getElem?_toList]
    refine ⟨⟨g, 0, none⟩, k, n, s, x, ks', vs', A, c, rfl, trivial, rfl, a5.stays (fun _ _ => trivial) (fun _ _ _ => rfl), ?_⟩
    rw [Addr.add_lit, Nat.zero_add]
    exact ⟨at_ 0 (by omega), at_ 1 (by omega), at_ 2 (by omega), at_ 3 (by omega), at_ 4 (by omega)⟩

end Go.Proofs.YtbgffmiffmmohaaGreatDoor.tree

/-
  The live values of a table, as a new row.
  Conditions: at most 2^20 slots.
-/
namespace Go.Proofs.YtbgffmiffmmohaaGreatDoor.tree
open Go.ChangeShapes Go.WideShapes Go.ChangeAt Go.RowKit
set_option linter.unusedVariables false

theorem TIn.bothv {w : World} {S : Nat → Prop} {t : Tr} {v : Value} (h : TIn w S t v) : TIn w (fun b => S b ∧ b < w.heap.size) t v := by
  induction h with
  | mk k n s x ks vs A cap C hk hl hm hcap hc ht ih =>
    refine .mk k n s x ks vs A cap C hk hl hm hcap (fun i hi => ?_) ih
    obtain ⟨a, ha, hS, hky, hs, hj⟩ := hc i hi
    refine ⟨a, ha, ⟨hS, ?_⟩, hky, hs, hj⟩
    have := World.block_lt_of_cell? _ _ hky.1
    rwa [mem.add_block] at this
/-- A row of the call's own whose values lie in memory below lo. -/
def LvO (w : World) (lo : Nat) (S : Nat → Prop) (v : Value) (xs : List Value) (vs : List Tr) : Prop := w.ownsRow lo IV 5 v vs.length xs ∧ XV w (fun b => S b ∧ b < lo) vs xs
theorem LvO.below {w w' : World} {lo : Nat} {S : Nat → Prop} {v : Value} {xs : List Value} {vs : List Tr} (h : LvO w lo S v xs vs) (hb : Below w.heap.size w w') : LvO w' lo S v xs vs :=
  ⟨World.ownsRow.kept h.1 (mem.none_of_below hb) ownBlock_keep, h.2.below hb⟩
theorem LvO.more {w w7 : World} {lo : Nat} {S : Nat → Prop} {v v' : Value} {xs : List Value} {vs : List Tr} (h : LvO w lo S v xs vs) {k n x : Int} {s : ByteArray} {ks' : List Ky} {vs' : List Tr} {A : Option Addr} {c : Nat}
    (hT : TIn w (fun b => S b ∧ b < lo) (.mk k n s x ks' vs') (vV k n s x A vs'.length c))
    (ho : w7.ownsRow lo IV 5 v' (vs.length + 1) (xs ++ [.int .i64 k, .int .i64 n, .string s, .int .i64 x, .slice A vs'.length c])) (hg : w.grownBy w7 v.ownBlock) :
    LvO w7 lo S v' (xs ++ [.int .i64 k, .int .i64 n, .string s, .int .i64 x, .slice A vs'.length c]) (vs ++ [.mk k n s x ks' vs']) := by
  refine ⟨by rw [List.length_append]; exact ho, ?_⟩
  have hx := h.2.ins (p := vs.length) (Nat.le_refl _) hT
  rw [List.take_length, List.drop_length, ← h.2.1, List.take_length, List.drop_length, List.append_nil] at hx
  exact hx.stays (fun b hb => hb) fun b hb hl => hg.block b hl (fun e => by have := (World.ownsRow.lt h.1 b e.symm).1; have hb' : b < lo := hb.2; omega)
theorem LvO.out {w : World} {lo : Nat} {S : Nat → Prop} {v : Value} {xs : List Value} {vs : List Tr} (h : LvO w lo S v xs vs) : ∃ A c, v = .slice A vs.length c ∧ vs.length ≤ maxLen ∧ VIn w (fun b => S b ∨ lo ≤ b) vs A := by
  obtain ⟨h1, h2⟩ := h
  rcases h1.2 with ⟨rfl, h0⟩ | ⟨g, cap, cur, rfl, hlo, hg, hnc, hcm, hsz, htk⟩
  · obtain rfl : vs = [] := List.length_eq_zero_iff.1 h0
    exact ⟨none, 0, rfl, by simp, fun i t ht => by simp at ht⟩
  · refine ⟨some ⟨g, 0, none⟩, cap, rfl, by omega, (h2.stays (S' := fun b => S b ∨ lo ≤ b) (fun _ hb => .inl hb.1) fun _ _ _ => rfl).vin (.inr hlo) fun j u hu => ?_⟩
    rw [Addr.add_lit, Nat.zero_add, cell_of_row w g _ cur IV _ hg]
    rw [← htk, List.getElem?_take] at hu
    split at hu
    · rw [Array.getElem?_toList] at hu; exact hu
    · cases hu

theorem grownB5v {w w1 w2 : World} {B : Nat} {row : Option Nat} (h : Below B w w1) (g : w1.grownBy w2 row) (hB : B ≤ w1.heap.size) (hk : ∀ b, row = some b → B ≤ b) : Below B w w2 :=
  ⟨g.os.trans h.os, g.tape.trans h.tape, g.output.trans h.output, Nat.le_trans h.size g.size, fun b hb => (g.block b (by omega) (fun e => by have := hk b e.symm; omega)).trans (h.block b hb)⟩
def LvQ (w : World) (S : Nat → Prop) (vs : List Tr) (e : Ending) (w' : World) : Prop := ∃ A c, e = .returned (.slice A vs.length c) ∧ vs.length ≤ maxLen ∧ VIn w' (fun b => S b ∨ w.heap.size ≤ b) vs A ∧ Below w.heap.size w w'

set_option maxRecDepth 100000 in
set_option maxHeartbeats 1600000 in
theorem liveValues_i {sl : List Sl} {b : Bool} {A : Option Addr} {n c : Nat} {B : Option Addr} {m d : Nat} {x k : Int} (w : World) {S : Nat → Prop} (hs : SIn w S sl B) (hm : sl.length = m) (hm2 : m ≤ 1048576) :
    Calls Tryz.prog 189 #[tbV b A n c B m d x k] w (LvQ w S (livV sl)) := by
  obtain ⟨P, HP⟩ : ∃ P, Hid (w.heap.size = P) := ⟨_, Lib.hid rfl⟩
  have HI := Lib.hid (show SIn w (fun b => S b ∧ b < P) sl B by
    have h := hs
    intro i t ht
    obtain ⟨a, k, n, s, x, ks, vs, A', c', e, hSa, hk, hl, hv, hT, hc⟩ := h i t ht
    refine ⟨a, k, n, s, x, ks, vs, A', c', e, ?_, hk, hl, hv, ?_, hc⟩
    · refine ⟨hSa, ?_⟩
      rw [← HP.out]
      have := World.block_lt_of_cell? _ _ hc.c0
      rwa [mem.add_block] at this
    · rw [← HP.out]; exact hT.bothv)
  have HM2 := Lib.hid hm
  obtain ⟨i0, hi, hz⟩ := iv_info
  have HII := Lib.hid hi
  have HZZ := Lib.hid hz
  clear hi hz hs
  go_enter Tryz.func189, Tryz.ntmps189
  go_upto_region 2 with (fail)
  generalize hw0 : (w.alloc (.cells #[.bool b, .slice A n c, .slice B m d, .int .i64 x, .int .i64 k] IT)).alloc (.cells #[] IV) = w0
  have a0 : w0.heap[w.heap.size]? = some (.cells #[.bool b, .slice A n c, .slice B m d, .int .i64 x, .int .i64 k] IT (0, 0)) := by rw [← hw0]; exact heap_alloc2_old w _ _
  have A0 : Hid (LvO w0 P S (.slice (some ⟨w.heap.size + 1, 0, none⟩) 0 0) [] []) := Lib.hid (by
    rw [← hw0]
    have := (World.ownsRow_made (base := P) (e := IV) (size := 5) (w.alloc (.cells #[.bool b, .slice A n c, .slice B m d, .int .i64 x, .int .i64 k] IT)) #[] 0 (by rw [← HP.out]; simp) (Nat.zero_le _) rfl)
    rw [show (w.alloc (.cells #[.bool b, .slice A n c, .slice B m d, .int .i64 x, .int .i64 k] IT)).heap.size = w.heap.size + 1 by simp] at this
    exact ⟨this, XV.nil _ _⟩)
  have HB0 : Hid (Below w.heap.size w w0) := Lib.hid (by rw [← hw0]; exact b2 w _ _)
  have r0 := (rowc a0).1 2
  simp at r0
  have hPZ : P < w0.heap.size := by rw [← hw0, ← HP.out]; simp; omega
  clear hw0 a0
  go_wp2_with (fail)
  go_loopg [3, 10] (m + 1) (fun gk r i wr => ∃ (j : Nat) (vs : List Tr) (xs : List Value), i = .int .i64 j ∧ gk + j = m + 1 ∧ j ≤ m ∧ vs.length ≤ j ∧ Hid (vs = livV (sl.take j)) ∧ Hid (LvO wr P S r xs vs) ∧ Hid (Below w.heap.size w wr))
  case atStart => exact ⟨0, [], [], rfl, by omega, by omega, by simp, Lib.hid rfl, A0, HB0⟩
  case round =>
    clear r0 A0 HB0
    obtain ⟨j, vs, xs, rfl, hgj, hjm, hvj, HV, HO, HB⟩ := hrel
    by_cases hlt : j < m
    · obtain ⟨t, htj⟩ : ∃ t, sl[j]? = some t := ⟨_, List.getElem?_eq_getElem (by omega)⟩
      obtain ⟨a, k1, n1, s1, x1, ks1, vs1, A1, c1, rfl, -, hyb, hlb, hv, hT, hcell⟩ := HI.out j t htj
      have hlv := liv_take htj
      have hc10 := hcell.stays (w' := wr) (fun hl => HB.out.block _ hl)
      obtain ⟨⟨yb, yn, ys⟩, tv, tb, tl⟩ := t
      simp only at hyb hlb hv hT hc10 hlv
      subst hv
      have HT := Lib.hid (hT.below' HB.out)
      have HLV := Lib.hid hlv
      obtain ⟨L1, HL1⟩ : ∃ L, Hid (vs1.length = L) := ⟨_, Lib.hid rfl⟩
      rw [HL1.out] at hc10 HT
      obtain ⟨p0, p1, p2, p3, p4, p5, p6, p7, p8, p9⟩ := hc10
      simp only at p0 p1 p2
      clear hyb hlb hT hcell hlv htj
      go_upto_region 5 with fail
      generalize hw1 : wr.alloc (.cells #[.bool yb, .int .i64 yn, .string ys, .int .i64 k1, .int .i64 n1, .string s1, .int .i64 x1, .slice A1 L1 c1, .bool tb, .int .i64 tl] 112) = w1
      have hb1 : Below wr.heap.size wr w1 := hw1 ▸ b1 wr _
      have h10 : w1.heap[wr.heap.size]? = some (.cells #[.bool yb, .int .i64 yn, .string ys, .int .i64 k1, .int .i64 n1, .string s1, .int .i64 x1, .slice A1 L1 c1, .bool tb, .int .i64 tl] 112 (0, 0)) := by rw [← hw1]; exact heap_alloc_new wr _
      have HB1 := Lib.hid (bs HB.out hb1)
      have HO1 := Lib.hid (HO.out.below hb1)
      have HT1 := Lib.hid (HT.out.below' hb1)
      have r10 := (rowc h10).1
      have z3 := r10 3; have z4 := r10 4; have z5 := r10 5; have z6 := r10 6; have z7 := r10 7; have z8 := r10 8
      simp at z3 z4 z5 z6 z7 z8
      clear hw1 hb1 h10 r10 HO HB HT p0 p1 p2 p3 p4 p5 p6 p7 p8 p9
      cases tb with
      | false =>
        have HV2 : Hid (vs = livV (sl.take (j + 1))) := Lib.hid (by
          have h := HLV.out
          simp at h
          unfold livV
          rw [h]
          exact HV.out)
        go_wp2_with (fail)
        go_roundg (m - j)
        case rel => exact ⟨j + 1, vs, xs, by go_num, by omega, by omega, by omega, HV2, HO1, HB1⟩
        case measure => omega
      | true =>
        have HV2 : Hid (vs ++ [.mk k1 n1 s1 x1 ks1 vs1] = livV (sl.take (j + 1))) := Lib.hid (by
          have h := HLV.out
          simp at h
          unfold livV
          rw [h, HV.out]
          simp [livV])
        go_wp2_with (first
          | (at_builtin; refine wpList_append_own_at _ rfl _ _ 92 rfl P IV i0 _ 5 64 Tryz.underlying92 HII.out HZZ.out.1 HZZ.out.2.1 HZZ.out.2.2 rfl (by decide) _ vs.length xs rfl (World.ownsRow.alloc HO1.out.1 _) ⟨w1.heap.size, 0, none⟩ 1 1 [.int .i64 k1, .int .i64 n1, .string s1, .int .i64 x1, .slice A1 L1 c1] rfl rfl (five_new _ _ _ _ _ _ _) (five_one _ _ _ _ _ _ _) (by unfold maxLen; omega) (by omega) (by have := HB1.out.size; have := HP.out; simp; omega) ?_
             intro v' w5 hown' hgrow' hnil hat'
             have HO5 := Lib.hid hown'
             have HG5 := Lib.hid hgrow'
             clear hown' hgrow' hnil hat')
          | fail)
        go_roundg (m - j)
        case rel =>
          refine ⟨j + 1, vs ++ [.mk k1 n1 s1 x1 ks1 vs1], xs ++ [.int .i64 k1, .int .i64 n1, .string s1, .int .i64 x1, .slice A1 vs1.length c1], by go_num, by omega, by omega, by simp; omega, HV2, Lib.hid ?_, Lib.hid ?_⟩
          · have h5 := HO5.out
            rw [← HL1.out] at h5
            have hT := HT1.out
            rw [← HL1.out] at hT
            exact (HO1.out.below (b1 w1 _)).more (hT.below' (b1 w1 _)) h5 HG5.out
          · exact grownB5v (HB1.out.alloc HB1.out.size _) HG5.out (by have := HB1.out.size; simp; omega) (fun b hb => by have := (World.ownsRow.lt HO1.out.1 b hb).1; rw [HP.out]; exact this)
        case measure => omega
    · obtain rfl : j = m := by omega
      have e : vs = livV sl := by rw [HV.out, ← HM2.out, List.take_length]
      have HO3 := Lib.hid (e ▸ HO.out)
      clear e HO HV
      go_wp2_with (fail)
      go_ret
      obtain ⟨A9, c9, e9, hl9, h9⟩ := HO3.out.out
      exact ⟨A9, c9, by rw [e9]; rfl, hl9, by rw [HP.out]; exact h9, HB.out⟩

end Go.Proofs.YtbgffmiffmmohaaGreatDoor.tree

