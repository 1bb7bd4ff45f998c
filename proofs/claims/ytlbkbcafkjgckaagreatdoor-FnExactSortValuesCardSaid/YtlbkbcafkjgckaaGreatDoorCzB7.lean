/-
  What the texts behind this one use: 9 parts of one proof.
  Conditions: those that each theorem names.
-/
import Derived.Test.YtlbkbcafkjgckaaGreatDoorCzB5
import Derived.Test.YtlbkbcafkjgckaaGreatDoorCzSVals
import Derived.Test.YtlbkbcafkjgckaaGreatDoorCzB2
import Derived.Test.YtlbkbcafkjgckaaGreatDoorCzSTreeCp
import Derived.Test.YtlbkbcafkjgckaaGreatDoorCzSCmpK
import Derived.Test.YtlbkbcafkjgckaaGreatDoorCzSMarks
import Derived.Test.YtlbkbcafkjgckaaGreatDoorCzB6
import Derived.Test.YtlbkbcafkjgckaaGreatDoorCzB3
import Derived.Test.YtlbkbcafkjgckaaGreatDoorCzSCopyS
import Derived.Test.YtlbkbcafkjgckaaGreatDoorCzSMarkA
/-
  Values as a list of cells, five each; one more put in at a place.
  Conditions: those that each theorem names.
-/
namespace Go.Proofs.YtlbkbcafkjgckaaGreatDoor.tree
open Go.ChangeShapes Go.WideShapes Go.ChangeAt Go.RowKit
set_option linter.unusedVariables false

/-- The cells xs are the values s. -/
def XV (w : World) (S : Nat → Prop) (s : List Tr) (xs : List Value) : Prop :=
  xs.length = s.length * 5 ∧ ∀ i t, s[i]? = some t → ∃ k n z x ks' vs' A' c', t = .mk k n z x ks' vs' ∧ TIn w S (.mk k n z x ks' vs') (vV k n z x A' vs'.length c') ∧ ∀ q, q < 5 → xs[i * 5 + q]? = (#[.int .i64 k, .int .i64 n, .string z, .int .i64 x, .slice A' vs'.length c'] : Array Value)[q]?
theorem XV.nil (w : World) (S : Nat → Prop) : XV w S [] [] := ⟨rfl, fun i t h => by simp at h⟩
theorem XV.stays {w w' : World} {S S' : Nat → Prop} {s : List Tr} {xs : List Value} (h : XV w S s xs) (hS : ∀ b, S b → S' b) (hb : ∀ b, S b → b < w.heap.size → w'.heap[b]? = w.heap[b]?) : XV w' S' s xs :=
  ⟨h.1, fun i t ht => by
    obtain ⟨k, n, z, x, ks', vs', A', c', e, hT, hc⟩ := h.2 i t ht
    exact ⟨k, n, z, x, ks', vs', A', c', e, hT.stays hS hb, hc⟩⟩
theorem XV.below {w w' : World} {S : Nat → Prop} {s : List Tr} {xs : List Value} (h : XV w S s xs) (hb : Below w.heap.size w w') : XV w' S s xs := h.stays (fun _ h => h) fun b _ hl => hb.block b hl
theorem XV.ins {w : World} {S : Nat → Prop} {s : List Tr} {xs : List Value} (h : XV w S s xs) {p : Nat} (hp : p ≤ s.length) {k n x : Int} {z : ByteArray} {ks' : List Ky} {vs' : List Tr} {A' : Option Addr} {c' : Nat} (hT : TIn w S (.mk k n z x ks' vs') (vV k n z x A' vs'.length c')) :
    XV w S (s.take p ++ .mk k n z x ks' vs' :: s.drop p) (xs.take (p * 5) ++ [.int .i64 k, .int .i64 n, .string z, .int .i64 x, .slice A' vs'.length c'] ++ xs.drop (p * 5)) := by
  obtain ⟨hl, hi⟩ := h
  refine ⟨by simp; omega, fun i t ht => ?_⟩
  have hlt : (xs.take (p * 5)).length = p * 5 := by rw [List.length_take]; omega
  have hls : (s.take p).length = p := by rw [List.length_take]; omega
  rcases Nat.lt_trichotomy i p with hlt1 | rfl | hgt
  · rw [List.getElem?_append_left (by omega), List.getElem?_take_of_lt hlt1] at ht
    obtain ⟨k, n, z, x, ks', vs', A', c', e, hT, hc⟩ := hi i t ht
    refine ⟨k, n, z, x, ks', vs', A', c', e, hT, fun q hq => ?_⟩
    rw [List.append_assoc, List.getElem?_append_left (by omega), List.getElem?_take_of_lt (by omega)]
    exact hc q hq
  · rw [List.getElem?_append_right (by omega), hls, Nat.sub_self, List.getElem?_cons_zero] at ht
    obtain rfl := Option.some.inj ht
    refine ⟨k, n, z, x, ks', vs', A', c', rfl, hT, fun q hq => ?_⟩
    rw [List.append_assoc, List.getElem?_append_right (by omega), hlt, Nat.add_sub_cancel_left]
    match q, hq with
    | 0, _ => rfl
    | 1, _ => rfl
    | 2, _ => rfl
    | 3, _ => rfl
    | 4, _ => rfl
  · obtain ⟨m, rfl⟩ : ∃ m, i = p + 1 + m := ⟨i - p - 1, by omega⟩
    rw [List.getElem?_append_right (by omega), hls, show p + 1 + m - p = m + 1 by omega, List.getElem?_cons_succ, List.getElem?_drop] at ht
    obtain ⟨k, n, z, x, ks', vs', A', c', e, hT, hc⟩ := hi _ t ht
    refine ⟨k, n, z, x, ks', vs', A', c', e, hT, fun q hq => ?_⟩
    rw [List.getElem?_append_right (by simp; omega), List.getElem?_drop]
    rw [← hc q hq]
    congr 1
    simp
    omega
theorem XV.at_ {w : World} {S : Nat → Prop} {s : List Tr} {xs : List Value} (h : XV w S s xs) {i : Nat} {t : Tr} (ht : s[i]? = some t) : ∃ k n z x ks' vs' A' c', t = .mk k n z x ks' vs' ∧ TIn w S t (vV k n z x A' vs'.length c') ∧ ∀ q, q < 5 → xs[i * 5 + q]? = (#[.int .i64 k, .int .i64 n, .string z, .int .i64 x, .slice A' vs'.length c'] : Array Value)[q]? := by
  obtain ⟨k, n, z, x, ks', vs', A', c', e, hT, hc⟩ := h.2 i t ht
  exact ⟨k, n, z, x, ks', vs', A', c', e, e ▸ hT, hc⟩
theorem XV.one {w : World} {S : Nat → Prop} {s : List Tr} {xs : List Value} (h : XV w S s xs) : ∀ u ∈ xs, u.oneCell' = true := fun u hu => by
  obtain ⟨j, hj, rfl⟩ := List.mem_iff_getElem.1 hu
  have hlen := h.1
  have hi : j / 5 < s.length := by omega
  obtain ⟨k, n, z, x, ks', vs', A', c', e, hT, hc⟩ := h.2 (j / 5) _ (List.getElem?_eq_getElem hi)
  have hq := hc (j % 5) (Nat.mod_lt _ (by omega))
  rw [show j / 5 * 5 + j % 5 = j by omega, List.getElem?_eq_getElem hj] at hq
  have h5 : j % 5 = 0 ∨ j % 5 = 1 ∨ j % 5 = 2 ∨ j % 5 = 3 ∨ j % 5 = 4 := by omega
  rcases h5 with h5 | h5 | h5 | h5 | h5 <;> rw [h5] at hq <;> simp at hq <;> rw [hq] <;> rfl
/-- The values at a row whose cells are xs. -/
theorem XV.vin {w : World} {S : Nat → Prop} {s : List Tr} {xs : List Value} (h : XV w S s xs) {a : Addr} (ha : S a.block) (hc : ∀ j u, xs[j]? = some u → w.cell? (a.add j) = some u) : VIn w S s (some a) := fun i t ht => by
  obtain ⟨k, n, z, x, ks', vs', A', c', rfl, hT, hq⟩ := h.2 i t ht
  have at_ : ∀ q u, q < 5 → (#[.int .i64 k, .int .i64 n, .string z, .int .i64 x, .slice A' vs'.length c'] : Array Value)[q]? = some u → w.cell? (a.add (i * 5 + q)) = some u := fun q u hq5 hu => hc _ _ ((hq q hq5).trans hu)
  have sp : ∀ j, j ≠ 0 → a.add (i * 5 + j) = ⟨(a.add (i * 5)).block, (a.add (i * 5)).off + j, none⟩ := fun j hj => by rw [← add_add', add_pos _ _ hj]
  refine ⟨a, k, n, z, x, ks', vs', A', c', rfl, ha, rfl, hT, ?_, ?_, ?_, ?_, ?_⟩
  · exact at_ 0 _ (by omega) rfl
  · rw [← sp 1 (by omega)]; exact at_ 1 _ (by omega) rfl
  · rw [← sp 2 (by omega)]; exact at_ 2 _ (by omega) rfl
  · rw [← sp 3 (by omega)]; exact at_ 3 _ (by omega) rfl
  · rw [← sp 4 (by omega)]; exact at_ 4 _ (by omega) rfl
theorem cnts_perm {l l' : List Tr} (h : l.Perm l') : cnts l = cnts l' := by
  induction h with
  | nil => rfl
  | cons a _ ih => rw [cnts, cnts, ih]
  | swap a b l => rw [cnts, cnts, cnts, cnts]; omega
  | trans _ _ ih1 ih2 => rw [ih1, ih2]

end Go.Proofs.YtlbkbcafkjgckaaGreatDoor.tree

/-
  Rows of values: five cells written at once; the first j values of a row.
  Conditions: those that each theorem names.
-/
namespace Go.Proofs.YtlbkbcafkjgckaaGreatDoor.tree
open Go.ChangeShapes Go.WideShapes Go.ChangeAt Go.RowKit
set_option linter.unusedVariables false

def set5 (arr : Array Value) (o : Nat) (c0 c1 c2 c3 c4 : Value) : Array Value := ((((arr.setIfInBounds o c0).setIfInBounds (o + 1) c1).setIfInBounds (o + 2) c2).setIfInBounds (o + 3) c3).setIfInBounds (o + 4) c4
theorem set5_size (arr : Array Value) (o : Nat) (c0 c1 c2 c3 c4 : Value) : (set5 arr o c0 c1 c2 c3 c4).size = arr.size := by simp [set5]
theorem set5_out (arr : Array Value) (o : Nat) (c0 c1 c2 c3 c4 : Value) (p : Nat) (h : p < o ∨ o + 5 ≤ p) : (set5 arr o c0 c1 c2 c3 c4)[p]? = arr[p]? := by
  unfold set5
  rw [Array.getElem?_setIfInBounds_ne (by omega), Array.getElem?_setIfInBounds_ne (by omega), Array.getElem?_setIfInBounds_ne (by omega), Array.getElem?_setIfInBounds_ne (by omega), Array.getElem?_setIfInBounds_ne (by omega)]
theorem set5_in (arr : Array Value) (o : Nat) (c0 c1 c2 c3 c4 : Value) (h : o + 5 ≤ arr.size) (q : Nat) (hq : q < 5) : (set5 arr o c0 c1 c2 c3 c4)[o + q]? = (#[c0, c1, c2, c3, c4] : Array Value)[q]? := by
  unfold set5
  have hq' : q = 0 ∨ q = 1 ∨ q = 2 ∨ q = 3 ∨ q = 4 := by omega
  rcases hq' with rfl | rfl | rfl | rfl | rfl <;> simp [Array.getElem?_setIfInBounds] <;> omega
theorem set5_heap {W : World} {g : Nat} {arr : Array Value} {t : TypeId} (h : W.heap[g]? = some (.cells arr t (0, 0))) (o : Nat) (c0 c1 c2 c3 c4 : Value) :
    (((((W.setCell ⟨g, o, none⟩ c0).setCell ⟨g, o + 1, none⟩ c1).setCell ⟨g, o + 2, none⟩ c2).setCell ⟨g, o + 3, none⟩ c3).setCell ⟨g, o + 4, none⟩ c4).heap[g]? = some (.cells (set5 arr o c0 c1 c2 c3 c4) t (0, 0)) :=
  set_heap (set_heap (set_heap (set_heap (set_heap h _ _) _ _) _ _) _ _) _ _
theorem set5_other {W : World} {g k : Nat} (h : k ≠ g) (o : Nat) (c0 c1 c2 c3 c4 : Value) :
    (((((W.setCell ⟨g, o, none⟩ c0).setCell ⟨g, o + 1, none⟩ c1).setCell ⟨g, o + 2, none⟩ c2).setCell ⟨g, o + 3, none⟩ c3).setCell ⟨g, o + 4, none⟩ c4).heap[k]? = W.heap[k]? := by
  iterate 5 refine (set_other h).trans ?_
  rfl
theorem iv_info' : ∃ i, Tryz.prog.info? IV = some i ∧ (i.zero = some (.agg #[.int .i64 0, .int .i64 0, .string ⟨#[]⟩, .int .i64 0, .slice none 0 0]) ∧ i.size = 5 ∧ i.bytes = 64) := by
  have : (Tryz.prog.info? IV).map (fun i => (i.zero, i.size, i.bytes)) = some (some (.agg #[.int .i64 0, .int .i64 0, .string ⟨#[]⟩, .int .i64 0, .slice none 0 0]), 5, 64) := by kernel_rfl
  cases hq : Tryz.prog.info? IV with
  | none => rw [hq] at this; cases this
  | some i => rw [hq] at this; simp at this; exact ⟨i, rfl, this⟩
/-- The first j values of a row. -/
def V5 (w : World) (lo : Nat) (vs : List Tr) (arr : Array Value) (j : Nat) : Prop :=
  ∀ i, i < j → ∃ k n s x ks' vs' A' c', vs[i]? = some (.mk k n s x ks' vs') ∧ TIn w (Nw lo w) (.mk k n s x ks' vs') (vV k n s x A' vs'.length c') ∧ ∀ q, q < 5 → arr[i * 5 + q]? = (#[.int .i64 k, .int .i64 n, .string s, .int .i64 x, .slice A' vs'.length c'] : Array Value)[q]?
theorem V5.keep {w w' : World} {lo : Nat} {vs : List Tr} {arr : Array Value} {j : Nat} (h : V5 w lo vs arr j) (hb : ∀ b, lo ≤ b → b < w.heap.size → w'.heap[b]? = w.heap[b]?) : V5 w' lo vs arr j := fun i hi => by
  obtain ⟨k, n, s, x, ks', vs', A', c', e1, e2, e3⟩ := h i hi
  exact ⟨k, n, s, x, ks', vs', A', c', e1, e2.nw (Nat.le_refl _) fun b hb' hlt => hb b hb' hlt, e3⟩
theorem V5.more {w : World} {lo : Nat} {vs : List Tr} {arr : Array Value} {j : Nat} (h : V5 w lo vs arr j) (hs : j * 5 + 5 ≤ arr.size) {k n x : Int} {s : ByteArray} {ks' : List Ky} {vs' : List Tr} {A' : Option Addr} {c' : Nat} (hv : vs[j]? = some (.mk k n s x ks' vs')) (hT : TIn w (Nw lo w) (.mk k n s x ks' vs') (vV k n s x A' vs'.length c')) :
    V5 w lo vs (set5 arr (j * 5) (.int .i64 k) (.int .i64 n) (.string s) (.int .i64 x) (.slice A' vs'.length c')) (j + 1) := by
  intro i hi
  by_cases e : i = j
  · subst e
    exact ⟨k, n, s, x, ks', vs', A', c', hv, hT, fun q hq => set5_in _ _ _ _ _ _ _ hs q hq⟩
  · obtain ⟨k2, n2, s2, x2, ks2, vs2, A2, c2, e1, e2, e3⟩ := h i (by omega)
    exact ⟨k2, n2, s2, x2, ks2, vs2, A2, c2, e1, e2, fun q hq => by rw [set5_out _ _ _ _ _ _ _ _ (by omega)]; exact e3 q hq⟩
theorem V5.vin {w : World} {lo g : Nat} {vs : List Tr} {arr : Array Value} (h : V5 w lo vs arr vs.length) (hg : w.heap[g]? = some (.cells arr IV (0, 0))) (hlo : g ≤ lo) : VIn w (Nw g w) vs (some ⟨g, 0, none⟩) := fun i t ht => by
  obtain ⟨k, n, s, x, ks', vs', A', c', e1, e2, e3⟩ := h i (List.getElem?_eq_some_iff.1 ht).1
  rw [ht] at e1
  obtain rfl := Option.some.inj e1
  have at_ : ∀ q, q < 5 → w.cell? ⟨g, i * 5 + q, none⟩ = (#[.int .i64 k, .int .i64 n, .string s, .int .i64 x, .slice A' vs'.length c'] : Array Value)[q]? := fun q hq => by rw [cell_of_row w g _ arr IV _ hg]; exact e3 q hq
  refine ⟨_, k, n, s, x, ks', vs', A', c', rfl, ⟨Nat.le_refl _, _, _, hg⟩, rfl, e2.stays (fun b hb => ⟨Nat.le_trans hlo hb.1, hb.2⟩) (fun _ _ _ => rfl), ?_⟩
  rw [Addr.add_lit, Nat.zero_add]
  exact ⟨at_ 0 (by omega), at_ 1 (by omega), at_ 2 (by omega), at_ 3 (by omega), at_ 4 (by omega)⟩
end Go.Proofs.YtlbkbcafkjgckaaGreatDoor.tree

/-
  Two arrays of which the comparison begins.
  Conditions: none.
-/
namespace Go.Proofs.YtlbkbcafkjgckaaGreatDoor.tree
open Go.ChangeShapes Go.WideShapes Go.ChangeAt Go.RowKit
set_option linter.unusedVariables false

def NmQ (w : World) (A : Option Addr) (L c : Nat) (A' : Option Addr) (L' c' : Nat) (e : Ending) (w' : World) : Prop :=
  ∃ b, e = .returned (.agg #[.slice A L c, .slice A' L' c', .int .i64 0, .map (some b)]) ∧ w.heap.size ≤ b ∧ raw.Holds w' GK b (fun _ => none) ∧ Below w.heap.size w w'
set_option maxHeartbeats 1000000 in
theorem newMatching (k n : Int) (s : ByteArray) (x : Int) (A : Option Addr) (L c : Nat) (k' n' : Int) (s' : ByteArray) (x' : Int) (A' : Option Addr) (L' c' : Nat) (w : World) :
    Calls Tryz.prog 60 #[vV k n s x A L c, vV k' n' s' x' A' L' c'] w (NmQ w A L c A' L' c') := by
  have hmm := @run_makeMap Tryz.prog
  go_enter Tryz.func60, Tryz.ntmps60
  go_wp2_with (fail)
  obtain ⟨_, _, _, az, ab⟩ := al3 w #[.int .i64 k, .int .i64 n, .string s, .int .i64 x, .slice A L c] #[.int .i64 k', .int .i64 n', .string s', .int .i64 x', .slice A' L' c'] #[.slice A L c, .slice A' L' c', .int .i64 0, .map (some (w.heap.size + 1 + 1 + 1))] IV IV MG
  have hmd := raw.Holds.made (((w.alloc (.cells #[.int .i64 k, .int .i64 n, .string s, .int .i64 x, .slice A L c] IV)).alloc (.cells #[.int .i64 k', .int .i64 n', .string s', .int .i64 x', .slice A' L' c'] IV)).alloc (.cells #[.slice A L c, .slice A' L' c', .int .i64 0, .map (some (w.heap.size + 1 + 1 + 1))] MG)) GK
  rw [az] at hmd
  refine bodyPost_ret (v := .agg #[.slice A L c, .slice A' L' c', .int .i64 0, .map (some (w.heap.size + 1 + 1 + 1))]) (by simp [results, Tryz.results60, go_sem]) rfl ⟨_, rfl, by omega, hmd, bs ab (b1 _ _)⟩

end Go.Proofs.YtlbkbcafkjgckaaGreatDoor.tree

/-
  Values in a row of the call's own, whose lists hang each apart; the laws' marks put into them.
  Conditions: those that each theorem names.
-/
namespace Go.Proofs.YtlbkbcafkjgckaaGreatDoor.tree
open Go.ChangeShapes Go.WideShapes Go.ChangeAt Go.RowKit
set_option linter.unusedVariables false

def At5r (arr : Array Value) (i : Nat) (k n : Int) (s : ByteArray) (x : Int) (A : Option Addr) (L c : Nat) : Prop := ∀ q, q < 5 → arr[i * 5 + q]? = (#[.int .i64 k, .int .i64 n, .string s, .int .i64 x, .slice A L c] : Array Value)[q]?

/-- A value in a row of block g, its lists apart. -/
def VPt (w : World) (par : Nat → Nat × Nat) (h lo hi g : Nat) (cur : Array Value) (i : Nat) (t : Tr) : Prop :=
  ∃ k n s x ks' vs' A c, t = .mk k n s x ks' vs' ∧ At5r cur i k n s x A vs'.length c ∧ TPar w par (h, i) t (vV k n s x A vs'.length c)
/-- Values in a row of block g, their lists apart. -/
structure VBlk (w : World) (par : Nat → Nat × Nat) (h lo hi g c : Nat) (vs : List Tr) : Prop where
  lo_le : lo ≤ g
  len : vs.length ≤ c ∧ c ≤ maxLen
  blk : ∃ cur, w.heap[g]? = some (.cells cur IV (0, 0)) ∧ cur.size = c * 5 ∧ ∀ i t, vs[i]? = some t → VPt w par h lo hi g cur i t
  hang : ∀ i, i < vs.length → ∀ b, Hang par (h, i) b → Rg lo hi b ∧ b ≠ g
def VRow (w : World) (par : Nat → Nat × Nat) (h lo hi : Nat) (v : Value) (vs : List Tr) : Prop :=
  (∃ A c, v = .slice A 0 c ∧ vs = [] ∧ ∀ b, v.ownBlock = some b → lo ≤ b ∧ b < w.heap.size) ∨ ∃ g c, v = .slice (some ⟨g, 0, none⟩) vs.length c ∧ VBlk w par h lo hi g c vs

theorem VBlk.keep {w w' : World} {par : Nat → Nat × Nat} {h lo hi g c : Nat} {vs : List Tr} (hv : VBlk w par h lo hi g c vs) (hs : ∀ b, (b = g ∨ Rg lo hi b) → b < w.heap.size → w'.heap[b]? = w.heap[b]?) : VBlk w' par h lo hi g c vs := by
  obtain ⟨cur, hg, hsz, hi'⟩ := hv.blk
  refine ⟨hv.lo_le, hv.len, ⟨cur, (hs g (.inl rfl) (Array.getElem?_eq_some_iff.1 hg).1).trans hg, hsz, fun i t ht => ?_⟩, hv.hang⟩
  obtain ⟨k, n, s, x, ks', vs', A, c', e, hat, hT⟩ := hi' i t ht
  exact ⟨k, n, s, x, ks', vs', A, c', e, hat, hT.keep fun b hb hl => hs b (.inr (hv.hang i (List.getElem?_eq_some_iff.1 ht).1 b hb).1) hl⟩
theorem VRow.keep {w w' : World} {par : Nat → Nat × Nat} {h lo hi : Nat} {v : Value} {vs : List Tr} (hv : VRow w par h lo hi v vs) (hz : w.heap.size ≤ w'.heap.size) (hs : ∀ b, (v.ownBlock = some b ∨ Rg lo hi b) → b < w.heap.size → w'.heap[b]? = w.heap[b]?) : VRow w' par h lo hi v vs := by
  rcases hv with ⟨A, c, rfl, rfl, hb⟩ | ⟨g, c, rfl, hb⟩
  · exact .inl ⟨A, c, rfl, rfl, fun b h => ⟨(hb b h).1, Nat.lt_of_lt_of_le (hb b h).2 hz⟩⟩
  · exact .inr ⟨g, c, rfl, hb.keep fun b hb' hl => hs b (hb'.imp (fun e => by rw [e]; rfl) id) hl⟩
theorem VRow.below {w w' : World} {par : Nat → Nat × Nat} {h lo hi : Nat} {v : Value} {vs : List Tr} (hv : VRow w par h lo hi v vs) (hb : Below w.heap.size w w') : VRow w' par h lo hi v vs := hv.keep hb.size fun b _ hl => hb.block b hl
theorem VRow.own {w : World} {par : Nat → Nat × Nat} {h lo hi : Nat} {v : Value} {vs : List Tr} (hv : VRow w par h lo hi v vs) : ∀ b, v.ownBlock = some b → lo ≤ b ∧ b < w.heap.size := by
  rcases hv with ⟨A, c, rfl, rfl, hb⟩ | ⟨g, c, rfl, hb⟩
  · exact hb
  · intro b e
    obtain ⟨cur, hg, -⟩ := hb.blk
    simp [Value.ownBlock] at e
    subst e
    exact ⟨hb.lo_le, (Array.getElem?_eq_some_iff.1 hg).1⟩
theorem VBlk.vin {w : World} {par : Nat → Nat × Nat} {h lo hi g c : Nat} {vs : List Tr} (hv : VBlk w par h lo hi g c vs) : VIn w (fun _ => True) vs (some ⟨g, 0, none⟩) := fun i t ht => by
  obtain ⟨cur, hg, -, hi'⟩ := hv.blk
  obtain ⟨k, n, s, x, ks', vs', A, c', e, hat, hT⟩ := hi' i t ht
  have at_ : ∀ q, q < 5 → w.cell? ⟨g, i * 5 + q, none⟩ = (#[.int .i64 k, .int .i64 n, .string s, .int .i64 x, .slice A vs'.length c'] : Array Value)[q]? := fun q hq => by rw [cell_of_row w g _ cur IV _ hg]; exact hat q hq
  refine ⟨⟨g, 0, none⟩, k, n, s, x, ks', vs', A, c', rfl, trivial, e, hT.tin.stays (fun _ _ => trivial) (fun _ _ _ => rfl), ?_⟩
  rw [Addr.add_lit, Nat.zero_add]
  exact ⟨at_ 0 (by omega), at_ 1 (by omega), at_ 2 (by omega), at_ 3 (by omega), at_ 4 (by omega)⟩
theorem VRow.out {w : World} {par : Nat → Nat × Nat} {h lo hi : Nat} {v : Value} {vs : List Tr} (hv : VRow w par h lo hi v vs) : ∃ A c, v = .slice A vs.length c ∧ VIn w (fun _ => True) vs A := by
  rcases hv with ⟨A, c, rfl, rfl, hb⟩ | ⟨g, c, rfl, hb⟩
  · exact ⟨A, c, rfl, fun i t ht => by simp at ht⟩
  · exact ⟨_, c, rfl, hb.vin⟩

theorem VRow.vin {w : World} {par : Nat → Nat × Nat} {h lo hi n c : Nat} {A : Option Addr} {vs : List Tr} (hv : VRow w par h lo hi (.slice A n c) vs) : VIn w (fun _ => True) vs A := by
  obtain ⟨A', c', e, h'⟩ := hv.out
  injection e with e1 e2 e3
  subst e1
  exact h'

def set4 (arr : Array Value) (o : Nat) (c0 c1 c2 c3 : Value) : Array Value := (((arr.setIfInBounds o c0).setIfInBounds (o + 1) c1).setIfInBounds (o + 2) c2).setIfInBounds (o + 3) c3
theorem set4_size (arr : Array Value) (o : Nat) (c0 c1 c2 c3 : Value) : (set4 arr o c0 c1 c2 c3).size = arr.size := by simp [set4]
theorem set4_out (arr : Array Value) (o : Nat) (c0 c1 c2 c3 : Value) (p : Nat) (h : p < o ∨ o + 4 ≤ p) : (set4 arr o c0 c1 c2 c3)[p]? = arr[p]? := by
  unfold set4
  iterate 4 rw [Array.getElem?_setIfInBounds_ne (by omega)]
theorem set4_in (arr : Array Value) (o : Nat) (c0 c1 c2 c3 : Value) (h : o + 4 ≤ arr.size) (q : Nat) (hq : q < 4) : (set4 arr o c0 c1 c2 c3)[o + q]? = (#[c0, c1, c2, c3] : Array Value)[q]? := by
  unfold set4
  match q, hq with
  | 0, _ => iterate 3 rw [Array.getElem?_setIfInBounds_ne (by omega)]
            rw [Nat.add_zero, Array.getElem?_setIfInBounds_self_of_lt (by omega)]; rfl
  | 1, _ => iterate 2 rw [Array.getElem?_setIfInBounds_ne (by omega)]
            rw [Array.getElem?_setIfInBounds_self_of_lt (by simp; omega)]; rfl
  | 2, _ => rw [Array.getElem?_setIfInBounds_ne (by omega), Array.getElem?_setIfInBounds_self_of_lt (by simp; omega)]; rfl
  | 3, _ => rw [Array.getElem?_setIfInBounds_self_of_lt (by simp; omega)]; rfl

/-- The first j values have marks. -/
structure VMk (w : World) (par : Nat → Nat × Nat) (h lo hi g c : Nat) (vs : List Tr) (m : Int) (j : Nat) : Prop where
  blk : ∃ cur, w.heap[g]? = some (.cells cur IV (0, 0)) ∧ cur.size = c * 5 ∧ ∀ i t, vs[i]? = some t → if i < j then VPt w par h lo hi g cur i (mkT4 (m + 7 * cnts (vs.take i) - 3 * i) t) else VPt w par h lo hi g cur i t
theorem VPt.keep {w w' : World} {par : Nat → Nat × Nat} {h lo hi g i : Nat} {cur cur' : Array Value} {t : Tr} (hv : VPt w par h lo hi g cur i t) (hc : ∀ q, q < 5 → cur'[i * 5 + q]? = cur[i * 5 + q]?) (hs : ∀ b, Hang par (h, i) b → b < w.heap.size → w'.heap[b]? = w.heap[b]?) : VPt w' par h lo hi g cur' i t := by
  obtain ⟨k, n, s, x, ks', vs', A, c', e, hat, hT⟩ := hv
  exact ⟨k, n, s, x, ks', vs', A, c', e, fun q hq => (hc q hq).trans (hat q hq), hT.keep hs⟩

end Go.Proofs.YtlbkbcafkjgckaaGreatDoor.tree

/-
  Values that a call appends one by one to a row of its own.
  Conditions: those that each theorem names.
-/
namespace Go.Proofs.YtlbkbcafkjgckaaGreatDoor.tree
open Go.ChangeShapes Go.WideShapes Go.ChangeAt Go.RowKit
set_option linter.unusedVariables false

theorem iv_info : ∃ i, Tryz.prog.info? IV = some i ∧ (i.zero = some (.agg #[.int .i64 0, .int .i64 0, .string ⟨#[]⟩, .int .i64 0, .slice none 0 0]) ∧ i.size = 5 ∧ i.bytes = 64) := by
  have : (Tryz.prog.info? IV).map (fun i => (i.zero, i.size, i.bytes)) = some (some (.agg #[.int .i64 0, .int .i64 0, .string ⟨#[]⟩, .int .i64 0, .slice none 0 0]), 5, 64) := by kernel_rfl
  cases hq : Tryz.prog.info? IV with
  | none => rw [hq] at this; cases this
  | some i => rw [hq] at this; simp at this; exact ⟨i, rfl, this⟩
theorem five_one (k m : Int) (z : ByteArray) (x : Int) (A : Option Addr) (L c : Nat) : ∀ u ∈ [Value.int .i64 k, .int .i64 m, .string z, .int .i64 x, .slice A L c], u.oneCell' = true := by simp [Value.oneCell']
theorem five_new (w : World) (c0 c1 c2 c3 c4 : Value) (t : TypeId) : ∀ j u, [c0, c1, c2, c3, c4][j]? = some u → (w.alloc (.cells #[c0, c1, c2, c3, c4] t)).cell? ((⟨w.heap.size, 0, none⟩ : Addr).add j) = some u := by
  intro j u hj
  rw [Addr.add_lit, Nat.zero_add, cell_of_row _ _ j _ t _ (heap_alloc_new w _)]
  simpa using hj
theorem Fr.grown {S : Nat → Prop} {w w' : World} {row : Option Nat} (g : w.grownBy w' row) (hr : ∀ b, row = some b → S b) : Fr S w w' := ⟨g.os, g.tape, g.output, g.size, fun b hb hn => g.block b hb (fun e => hn (hr b e.symm))⟩

theorem VIn.lt' {w : World} {S : Nat → Prop} {vs : List Tr} {A : Option Addr} (h : VIn w S vs A) : VIn w (fun b => b < w.heap.size) vs A := fun i t ht => by
  obtain ⟨a, k, n, s, x, ks', vs', A', c', e, hSa, rfl, hT, hc⟩ := h i t ht
  refine ⟨a, k, n, s, x, ks', vs', A', c', e, ?_, rfl, hT.lt', hc⟩
  have := World.block_lt_of_cell? _ _ hc.c0
  rwa [mem.add_block] at this

/-- Values that a call appends one by one. -/
def VOwn (w : World) (lo : Nat) (v : Value) (xs : List Value) (vs : List Tr) : Prop :=
  w.ownsRow lo IV 5 v vs.length xs ∧ ∀ i, i < vs.length → ∃ k n s x ks' vs' A c, vs[i]? = some (.mk k n s x ks' vs') ∧ (∀ q, q < 5 → xs[i * 5 + q]? = (#[.int .i64 k, .int .i64 n, .string s, .int .i64 x, .slice A vs'.length c] : Array Value)[q]?) ∧ TIn w (SX lo v) (.mk k n s x ks' vs') (vV k n s x A vs'.length c)
theorem VOwn.row {w : World} {lo : Nat} {v : Value} {xs : List Value} {vs : List Tr} (h : VOwn w lo v xs vs) : w.ownsRow lo IV 5 v vs.length xs := h.1
theorem VOwn.lt {w : World} {lo : Nat} {v : Value} {xs : List Value} {vs : List Tr} (h : VOwn w lo v xs vs) : ∀ b, v.ownBlock = some b → lo ≤ b ∧ b < w.heap.size := World.ownsRow.lt h.1
theorem VOwn.below {w w' : World} {lo : Nat} {v : Value} {xs : List Value} {vs : List Tr} (h : VOwn w lo v xs vs) (hb : Below w.heap.size w w') : VOwn w' lo v xs vs := by
  obtain ⟨h1, h2⟩ := h
  refine ⟨World.ownsRow.kept h1 (mem.none_of_below hb) ownBlock_keep, fun i hi => ?_⟩
  obtain ⟨k, n, s, x, ks', vs', A, c, a2, a4, a5⟩ := h2 i hi
  exact ⟨k, n, s, x, ks', vs', A, c, a2, a4, a5.below' hb⟩
theorem VOwn.more {w w' : World} {lo : Nat} {v : Value} {xs : List Value} {vs : List Tr} (h : VOwn w lo v xs vs) {k n x : Int} {s : ByteArray} {ks' : List Ky} {vs' : List Tr} {A : Option Addr} {c : Nat} (ht : TIn w (SX lo v) (.mk k n s x ks' vs') (vV k n s x A vs'.length c)) {v' : Value}
    (ho : w'.ownsRow lo IV 5 v' (vs.length + 1) (xs ++ [.int .i64 k, .int .i64 n, .string s, .int .i64 x, .slice A vs'.length c])) (hg : w.grownBy w' v.ownBlock) (hat : v'.ownBlock = v.ownBlock ∨ v'.ownBlock = some w.heap.size) :
    VOwn w' lo v' (xs ++ [.int .i64 k, .int .i64 n, .string s, .int .i64 x, .slice A vs'.length c]) (vs ++ [.mk k n s x ks' vs']) := by
  obtain ⟨h1, h3⟩ := h
  have hxl : xs.length = vs.length * 5 := h1.1
  have st : ∀ {t : Tr} {u : Value}, TIn w (SX lo v) t u → TIn w' (SX lo v') t u := fun {t u} h => by
    have h' : TIn w (fun b => SX lo v b ∧ b < w.heap.size) t u := by
      induction h with
      | mk k n s x ks vs A cap C hk hl hm hcap hc ht ih =>
        refine .mk k n s x ks vs A cap C hk hl hm hcap (fun i hi => ?_) ih
        obtain ⟨a, ha, hS, hky, hs, hj⟩ := hc i hi
        refine ⟨a, ha, ⟨hS, ?_⟩, hky, hs, hj⟩
        have := World.block_lt_of_cell? _ _ hky.1
        rwa [mem.add_block] at this
    exact h'.stays (fun b ⟨⟨hb1, hb2⟩, hb3⟩ => ⟨hb1, fun e => by
      rcases hat with h | h
      · exact hb2 (h ▸ e)
      · rw [h] at e; injection e with e; omega⟩) (fun b ⟨⟨hb1, hb2⟩, hb3⟩ hlt => hg.block b hlt (fun e => hb2 e.symm))
  refine ⟨by rw [List.length_append]; exact ho, fun i hi => ?_⟩
  rw [List.length_append] at hi
  simp only [List.length_cons, List.length_nil] at hi
  by_cases e : i = vs.length
  · subst e
    refine ⟨k, n, s, x, ks', vs', A, c, by rw [List.getElem?_append_right (by omega)]; simp, fun q hq => ?_, st ht⟩
    rw [List.getElem?_append_right (by omega), hxl, Nat.add_sub_cancel_left]
    match q, hq with
    | 0, _ => rfl
    | 1, _ => rfl
    | 2, _ => rfl
    | 3, _ => rfl
    | 4, _ => rfl
  · obtain ⟨k1, n1, s1, x1, ks1, vs1, A1, c1, a2, a4, a5⟩ := h3 i (by omega)
    refine ⟨k1, n1, s1, x1, ks1, vs1, A1, c1, by rw [List.getElem?_append_left (by omega)]; exact a2, fun q hq => ?_, st a5⟩
    rw [List.getElem?_append_left (by omega)]
    exact a4 q hq
theorem VOwn.out {w : World} {lo : Nat} {v : Value} {xs : List Value} {vs : List Tr} (h : VOwn w lo v xs vs) : ∃ A c, v = .slice A vs.length c ∧ VIn w (fun _ => True) vs A := by
  obtain ⟨h1, h3⟩ := h
  rcases h1.2 with ⟨rfl, h0⟩ | ⟨g, cap, cur, rfl, hlo, hg, hnc, hcm, hsz, htk⟩
  · rw [h0]
    exact ⟨none, 0, rfl, fun i t ht => by have := (List.getElem?_eq_some_iff.1 ht).1; omega⟩
  · refine ⟨some ⟨g, 0, none⟩, cap, rfl, fun i t ht => ?_⟩
    have hi := (List.getElem?_eq_some_iff.1 ht).1
    obtain ⟨k, n, s, x, ks', vs', A, c, a2, a4, a5⟩ := h3 i hi
    rw [ht] at a2
    obtain rfl := Option.some.inj a2
    have at_ : ∀ q, q < 5 → w.cell? ⟨g, i * 5 + q, none⟩ = (#[.int .i64 k, .int .i64 n, .string s, .int .i64 x, .slice A vs'.length c] : Array Value)[q]? := fun q hq => by
      rw [cell_of_row w g _ cur IV _ hg, ← a4 q hq, ← htk, List.getElem?_take_of_lt (by omega), Array.getElem?_toList]
    refine ⟨⟨g, 0, none⟩, k, n, s, x, ks', vs', A, c, rfl, trivial, rfl, a5.stays (fun _ _ => trivial) (fun _ _ _ => rfl), ?_⟩
    rw [Addr.add_lit, Nat.zero_add]
    exact ⟨at_ 0 (by omega), at_ 1 (by omega), at_ 2 (by omega), at_ 3 (by omega), at_ 4 (by omega)⟩

end Go.Proofs.YtlbkbcafkjgckaaGreatDoor.tree

/-
  Copies of the values of a list (l5All of the model).
  Conditions: at most 2^20 and two values of at most 10^9 values each.
-/
namespace Go.Proofs.YtlbkbcafkjgckaaGreatDoor.tree
open Go.ChangeShapes Go.WideShapes Go.ChangeAt Go.RowKit
set_option linter.unusedVariables false

def VaQ (w : World) (vs : List Tr) (e : Ending) (w' : World) : Prop := ∃ A c, e = .returned (.slice A vs.length c) ∧ VIn w' (fun b => b < w'.heap.size) vs A ∧ Below w.heap.size w w'

theorem grownB5 {w w1 w2 : World} {B : Nat} {row : Option Nat} (h : Below B w w1) (g : w1.grownBy w2 row) (hB : B ≤ w1.heap.size) (hk : ∀ b, row = some b → B ≤ b) : Below B w w2 :=
  ⟨g.os.trans h.os, g.tape.trans h.tape, g.output.trans h.output, Nat.le_trans h.size g.size, fun b hb => (g.block b (by omega) (fun e => by have := hk b e.symm; omega)).trans (h.block b hb)⟩

set_option maxRecDepth 100000 in
set_option maxHeartbeats 1600000 in
theorem l5All_s (vs : List Tr) (A : Option Addr) (c : Nat) (w : World) (S : Nat → Prop) (h : VIn w S vs A) (hm : vs.length ≤ 1048578) (hN : ∀ t ∈ vs, cnt t ≤ 1000000000) : Calls Tryz.prog 13 #[.slice A vs.length c] w (VaQ w vs) := by
  obtain ⟨L, HL⟩ : ∃ L, Hid (L = vs.length) := ⟨_, Lib.hid rfl⟩
  unfold VaQ
  rw [← HL.out] at hm ⊢
  have HI := Lib.hid h
  have HN := Lib.hid hN
  clear h hN
  have A0 : Hid (VOwn (w.alloc (.cells #[] IV)) w.heap.size (.slice (some ⟨w.heap.size, 0, none⟩) 0 0) [] []) := Lib.hid (by
    have := (World.ownsRow_made (base := w.heap.size) (e := IV) (size := 5) w #[] 0 (by simp) (Nat.zero_le _) rfl)
    exact ⟨this, fun i hi => absurd hi (by simp)⟩)
  obtain ⟨i0, hi, hz⟩ := iv_info
  have HII := Lib.hid hi
  have HZZ := Lib.hid hz
  clear hi hz
  go_enter Tryz.func13, Tryz.ntmps13
  go_wp2_with (fail)
  go_loopg [3, 4] (L + 1) (fun gk r i wr => ∃ (j : Nat) (xs : List Value), i = .int .i64 j ∧ gk + j = L + 1 ∧ j ≤ L ∧ Hid (VOwn wr w.heap.size r xs (vs.take j)) ∧ Below w.heap.size w wr)
  case atStart => exact ⟨0, [], rfl, by omega, by omega, A0, b1 _ _⟩
  case round =>
    obtain ⟨j, xs, rfl, hgj, hjL, HO, hb⟩ := hrel
    have HB := Lib.hid hb
    clear hb
    by_cases hlt : j < L
    · obtain ⟨t, ht⟩ : ∃ t, vs[j]? = some t := ⟨_, List.getElem?_eq_getElem (by rw [← HL.out]; exact hlt)⟩
      obtain ⟨a, k1, n1, s1, x1, ks1, vs1, A1, c1, rfl, hS, rfl, hT, hcell⟩ := HI.out.below HB.out j t ht
      have HVS := Lib.hid ht
      have CP := fun w' (h : TIn w' S _ (vV k1 n1 s1 x1 A1 vs1.length c1)) => l5Copy (.mk k1 n1 s1 x1 ks1 vs1) (HN.out _ (List.mem_of_getElem? ht)) w' S _ h
      obtain ⟨L1, HL1⟩ : ∃ L1, Hid (L1 = vs1.length) := ⟨_, Lib.hid rfl⟩
      rw [← HL1.out] at hcell hT CP
      obtain ⟨p3, p4, p5, p6, p7⟩ := hcell
      have HTT := Lib.hid hT
      have HCP := Lib.hid CP
      have HLJ : Hid ((vs.take j).length = j) := Lib.hid (by rw [List.length_take, ← HL.out]; omega)
      clear hT ht hS CP
      go_wp2_with (fail)
      refine (HCP.out _ HTT.out).mono ?_
      rintro e w1 ⟨u, rfl, hu, hb1⟩
      obtain ⟨A2, c2, rfl, -, -⟩ := hu.out
      have HO1 := Lib.hid (HO.out.below hb1)
      have hsz := HB.out.size
      have HU : Hid (TIn w1 (SX w.heap.size u3) (.mk k1 n1 s1 x1 ks1 vs1) (vV k1 n1 s1 x1 A2 vs1.length c2)) := Lib.hid (hu.stays (fun b hb => by
        have hb' : wr.heap.size ≤ b := hb
        exact ⟨by omega, fun e => by have := (VOwn.lt HO.out b e).2; omega⟩) (fun _ _ _ => rfl))
      have HB1 := Lib.hid (bs HB.out hb1)
      rw [← HL1.out]
      clear hu hb1 p3 p4 p5 p6 p7
      go_wp2_with (first
        | (at_builtin; refine wpList_append_own_at _ rfl _ _ 24 rfl w.heap.size IV i0 _ 5 64 Tryz.underlying24 HII.out HZZ.out.1 HZZ.out.2.1 HZZ.out.2.2 rfl (by decide) _ (vs.take j).length xs rfl (World.ownsRow.alloc HO1.out.row _) ⟨w1.heap.size, 0, none⟩ 1 1 [.int .i64 k1, .int .i64 n1, .string s1, .int .i64 x1, .slice A2 L1 c2] rfl rfl (five_new _ _ _ _ _ _ _) (five_one _ _ _ _ _ _ _) (by rw [HLJ.out]; unfold maxLen; omega) (by rw [HLJ.out]; omega) (by have := HB1.out.size; simp; omega) ?_
           intro v' w5 hown' hgrow' hnil hat'
           have HO5 := Lib.hid hown'
           have HG5 := Lib.hid hgrow'
           have HA5 := Lib.hid hat'
           clear hown' hgrow' hnil hat')
        | fail)
      go_roundg (L - j)
      case rel =>
        refine ⟨j + 1, xs ++ [.int .i64 k1, .int .i64 n1, .string s1, .int .i64 x1, .slice A2 vs1.length c2], by go_num, by omega, by omega, Lib.hid ?_, ?_⟩
        · have e : vs.take (j + 1) = vs.take j ++ [.mk k1 n1 s1 x1 ks1 vs1] := by rw [List.take_add_one, HVS.out]; rfl
          rw [e]
          have h5 := HO5.out
          rw [HL1.out] at h5
          exact (HO1.out.below (b1 w1 _)).more (HU.out.below' (b1 w1 _)) h5 HG5.out HA5.out
        · exact grownB5 (HB1.out.alloc HB1.out.size _) HG5.out (by have := HB1.out.size; simp; omega) (fun b hb => (VOwn.lt HO1.out b hb).1)
      case measure => omega
    · obtain rfl : j = L := by omega
      have e : vs.take j = vs := by rw [HL.out, List.take_length]
      have HO3 := Lib.hid (e ▸ HO.out)
      clear e HO
      go_wp2_with (fail)
      go_ret
      obtain ⟨A9, c9, e9, h9⟩ := HO3.out.out
      exact ⟨A9, c9, by rw [e9, HL.out]; rfl, h9.lt', HB.out⟩

end Go.Proofs.YtlbkbcafkjgckaaGreatDoor.tree

/-
  How a list of values that came in is opened.
  Conditions: those that each theorem names.
-/
namespace Go.Proofs.YtlbkbcafkjgckaaGreatDoor.tree
open Go.ChangeShapes Go.WideShapes Go.ChangeAt Go.RowKit mem
set_option linter.unusedVariables false

section
variable {H : Type} {enc : TypeId × Value → H} {P : Program} {w : World} {base : Nat} {spare : Nat → Bool} {held : Bool}
theorem open_valS {tV tE tK tS tSS : TypeId} (T : Types P tV tE tK tS) (hSS : P.underlying tSS = some (.slice tV)) {fuel : Nat} {c0 : Value} {x : DataW H × List MemPlace} (h : DataW.trod enc P w base spare held fuel tSS [c0] = some x) :
    ∃ A c vs, c0 = .slice A (List.length vs) c ∧ (vs.length ≤ c ∧ c ≤ maxLen) ∧ VIn w (fun _ => True) vs A := by
  rcases DataW.trod_slice hSS h with ⟨hc4, _⟩ | ⟨a, len, cap, elems, rest, m, hfm, hc4, _, hbs, hlc, hcm, hel, hat, _⟩
  · simp at hc4
    subst hc4
    exact ⟨none, 0, [], rfl, ⟨Nat.le_refl _, Nat.zero_le _⟩, fun i t ht => by simp at ht⟩
  · simp at hc4
    subst hc4
    have each : ∀ i, i < len → ∃ t : Tr, ∃ k n s x ks vs A' c', t = .mk k n s x ks vs ∧ TIn w (fun _ => True) t (vV k n s x A' vs.length c') ∧ At5 w (a.add (i * 5)) k n s x A' vs.length c' := by
      intro i hi
      have hi2 := hat i hi
      rw [List.getElem?_eq_getElem (by omega)] at hi2
      obtain ⟨cs', hcs, htr⟩ := Option.bind_eq_some_iff.1 hi2
      rw [T.cV] at hcs
      obtain ⟨_, hcl, hcat⟩ := World.cells?_some hcs
      match cs', hcl with
      | [d3, d4, d5, d6, d7], _ =>
        obtain ⟨t, ht⟩ := open_tree T _ _ _ htr
        obtain ⟨k, n, s, x, ks, vs⟩ := t
        obtain ⟨A', c', e, -, -⟩ := ht.out
        have e' : d3 = .int .i64 k ∧ d4 = .int .i64 n ∧ d5 = .string s ∧ d6 = .int .i64 x ∧ d7 = .slice A' vs.length c' := by simpa using e
        obtain ⟨rfl, rfl, rfl, rfl, rfl⟩ := e'
        have at' : ∀ j, j < 5 → w.cell? (a.add (i * 5 + j)) = ([.int .i64 k, .int .i64 n, .string s, .int .i64 x, .slice A' vs.length c'] : List Value)[j]? := fun j hj => by
          have := hcat j hj
          rwa [add_add'] at this
        have sp : ∀ j, j ≠ 0 → a.add (i * 5 + j) = ⟨(a.add (i * 5)).block, (a.add (i * 5)).off + j, none⟩ := fun j hj => by rw [← add_add', add_pos _ _ hj]
        have at2 : ∀ j, j ≠ 0 → j < 5 → w.cell? ⟨(a.add (i * 5)).block, (a.add (i * 5)).off + j, none⟩ = _ := fun j h0 hj => (congrArg w.cell? (sp j h0)).symm.trans (at' j hj)
        exact ⟨.mk k n s x ks vs, k, n, s, x, ks, vs, A', c', rfl, ht, ⟨at' 0 (by omega), at2 1 (by omega) (by omega), at2 2 (by omega) (by omega), at2 3 (by omega) (by omega), at2 4 (by omega) (by omega)⟩⟩
    have hl : ((List.range len).map (fun i => if hi : i < len then (each i hi).choose else Tr.mk 0 0 ⟨#[]⟩ 0 [] [])).length = len := by simp
    refine ⟨some a, cap, (List.range len).map (fun i => if hi : i < len then (each i hi).choose else Tr.mk 0 0 ⟨#[]⟩ 0 [] []), by rw [hl], ⟨by rw [hl]; exact hlc, hcm⟩, fun i t ht => ?_⟩
    rw [List.getElem?_map] at ht
    obtain ⟨i', hi', rfl⟩ := Option.map_eq_some_iff.1 ht
    have hil : i < len := by
      have := (List.getElem?_eq_some_iff.1 hi').1
      simpa using this
    rw [List.getElem?_range hil] at hi'
    obtain rfl := Option.some.inj hi'
    simp only [dif_pos hil]
    obtain ⟨k, n, s, x, ks, vs, A', c', h1, h2, h3⟩ := (each i hil).choose_spec
    exact ⟨a, k, n, s, x, ks, vs, A', c', rfl, trivial, h1, h1 ▸ h2, h3⟩
end

set_option maxRecDepth 100000 in
theorem open_values {H : Type} {enc : TypeId × Value → H} {W : World} {base : Nat} {v : Value} {d : DataW H} {ps : List MemPlace} (hval : Value.okWide Tryz.prog W .any base 22 v) (h : DataW.Trod enc Tryz.prog W 0 (fun _ => true) true 22 v d ps) :
    ∃ A c vs, v = .slice A (List.length vs) c ∧ (vs.length ≤ c ∧ c ≤ maxLen) ∧ VIn W (fun _ => True) vs A := by
  obtain ⟨A, n, c, rfl⟩ := okWide_slice Tryz.underlying22 hval
  obtain ⟨fuel, hf⟩ := h
  exact open_valS opt.types Tryz.underlying22 hf

end Go.Proofs.YtlbkbcafkjgckaaGreatDoor.tree

/-
  The laws' marks, put into a list of values that the law has made.
  Conditions: those that each theorem names.
-/
namespace Go.Proofs.YtlbkbcafkjgckaaGreatDoor.tree
open Go.ChangeShapes Go.WideShapes Go.ChangeAt Go.RowKit
set_option linter.unusedVariables false

section
variable {S : Nat → Prop} {w w' : World}
theorem At5.sim {g o : Nat} {k n x : Int} {s : ByteArray} {A : Option Addr} {L c : Nat} (h : At5 w ⟨g, o, none⟩ k n s x A L c) (hs : Sims S w w') (hg : S g) (hk : I64 k ∧ I64 n ∧ I64 x ∧ s.size ≤ maxLen) :
    ∃ k' n' s' x', At5 w' ⟨g, o, none⟩ k' n' s' x' A L c ∧ (I64 k' ∧ I64 n' ∧ I64 x' ∧ s'.size ≤ maxLen) := by
  obtain ⟨u3, q3, s3⟩ := hs.cell _ _ hg h.c0
  obtain ⟨n3, rfl, h3⟩ := s3.int hk.1
  obtain ⟨u4, q4, s4⟩ := hs.cell _ _ hg h.c1
  obtain ⟨n4, rfl, h4⟩ := s4.int hk.2.1
  obtain ⟨u5, q5, s5⟩ := hs.cell _ _ hg h.c2
  obtain ⟨z5, rfl, h5⟩ := s5.text hk.2.2.2
  obtain ⟨u6, q6, s6⟩ := hs.cell _ _ hg h.c3
  obtain ⟨n6, rfl, h6⟩ := s6.int hk.2.2.1
  obtain ⟨u7, q7, s7⟩ := hs.cell _ _ hg h.c4
  obtain rfl := s7.slice
  exact ⟨n3, n4, z5, n6, ⟨q3, q4, q5, q6, q7⟩, h3, h4, h6, h5⟩
theorem spot_none {w : World} {p : Addr} {u : Value} (h : w.cell? p = some u) : p.spot = none := by
  unfold World.cell? at h
  split at h
  · cases hs : p.spot with
    | none => rfl
    | some z => rw [hs] at h; simp at h
  · cases h
theorem VIn.sim {vs : List Tr} {A : Option Addr} (h : VIn w S vs A) (hs : Sims S w w') : ∃ vs', nrms vs' = nrms vs ∧ VIn w' S vs' A := by
  have each : ∀ i, ∃ t' : Tr, ∀ t, vs[i]? = some t → nrm t' = nrm t ∧ ∃ a k n s x ks' vs' A' c', A = some a ∧ S a.block ∧ t' = .mk k n s x ks' vs' ∧ TIn w' S t' (vV k n s x A' vs'.length c') ∧ At5 w' (a.add (i * 5)) k n s x A' vs'.length c' := by
    intro i
    cases hi : vs[i]? with
    | none => exact ⟨.mk 0 0 ⟨#[]⟩ 0 [] [], fun t ht => by cases ht⟩
    | some t =>
      obtain ⟨a, k, n, s, x, ks', vs', A', c', rfl, hSa, rfl, hT, hc⟩ := h i t hi
      obtain ⟨t2, hn, hT2⟩ := hT.sim hs
      obtain ⟨k2, n2, s2, x2, ks2, vs2⟩ := t2
      obtain ⟨A2, c2, e2, hk2, -⟩ := hT2.out
      obtain ⟨rfl, rfl, rfl, rfl, rfl, hl, rfl⟩ : k = k2 ∧ n = n2 ∧ s = s2 ∧ x = x2 ∧ A' = A2 ∧ vs'.length = vs2.length ∧ c' = c2 := by simpa using e2
      obtain ⟨_, _, _, hk, -⟩ := hT.out
      have hsp := spot_none hc.c0
      obtain ⟨gb, go, sp, hadd⟩ : ∃ gb go sp, a.add (i * 5) = ⟨gb, go, sp⟩ := ⟨_, _, _, rfl⟩
      rw [hadd] at hsp
      simp only at hsp
      subst hsp
      have hSg : S gb := by have := mem.add_block a (i * 5); rw [hadd] at this; simp only at this; rw [this]; exact hSa
      rw [hadd] at hc
      obtain ⟨k3, n3, s3, x3, hc3, hk3⟩ := hc.sim hs hSg hk
      rw [hl] at hc3 hT2
      refine ⟨.mk k3 n3 s3 x3 ks2 vs2, fun t ht => ?_⟩
      obtain rfl := Option.some.inj ht
      refine ⟨by rw [← hn, nrm_mk, nrm_mk], a, k3, n3, s3, x3, ks2, vs2, A', c', rfl, hSa, rfl, TIn.head hT2 hk3, ?_⟩
      rw [hadd]
      exact hc3
  refine ⟨(List.range vs.length).map fun i => (each i).choose, ?_, fun i t ht => ?_⟩
  · rw [nrms_map, nrms_map, List.map_map]
    apply List.ext_getElem
    · simp
    · intro i h1 h2
      simp only [List.getElem_map, List.getElem_range, Function.comp]
      exact ((each i).choose_spec _ (List.getElem?_eq_getElem (by simpa using h2))).1
  · rw [List.getElem?_map] at ht
    obtain ⟨i', hi', rfl⟩ := Option.map_eq_some_iff.1 ht
    have hil : i < vs.length := by
      have := (List.getElem?_eq_some_iff.1 hi').1
      simpa using this
    rw [List.getElem?_range hil] at hi'
    obtain rfl := Option.some.inj hi'
    exact ((each i).choose_spec _ (List.getElem?_eq_getElem hil)).2
end

set_option maxHeartbeats 2000000 in
set_option maxRecDepth 100000 in
theorem markValsS (vs : List Tr) (m : Int) (hm0 : 1 ≤ m) (hm1 : m + 7 * cnts vs ≤ 100000000000) (w : World) (S : Nat → Prop) (A : Option Addr) (c : Nat) (h : VIn w S vs A) (hm : vs.length ≤ maxLen) (hpl : ∀ b, S b → Plain w b) :
    Calls Tryz.prog 9 #[.slice A vs.length c, .int .i64 m] w (fun e w' => ∃ q, e = .returned (.int .i64 q) ∧ m ≤ q ∧ q ≤ m + 7 * cnts vs ∧ Sims S w w') := by
  obtain ⟨L, HL⟩ : ∃ L, Hid (L = vs.length) := ⟨_, Lib.hid rfl⟩
  rw [← HL.out] at hm ⊢
  unfold maxLen at hm
  have HV := Lib.hid h
  have HPL := Lib.hid hpl
  have HM1 := Lib.hid hm1
  obtain ⟨W, HW⟩ : ∃ W : Int, Hid (m + 7 * cnts vs = W) := ⟨_, Lib.hid rfl⟩
  rw [HW.out] at hm1 ⊢
  clear h hpl
  go_enter Tryz.func9, Tryz.ntmps9
  go_wp2_with (fail)
  go_loopg [1, 5] (L + 1) (fun gk l i wr => ∃ (j : Nat) (q : Int), i = .int .i64 j ∧ l = .int .i64 q ∧ gk + j = L + 1 ∧ j ≤ L ∧ m ≤ q ∧ q ≤ 100000000000 ∧ Hid (q ≤ m + 7 * cnts (vs.take j)) ∧ Hid (Sims S w wr))
  case atStart => exact ⟨0, m, rfl, rfl, by omega, by omega, by omega, by have := HM1.out; omega, Lib.hid (by omega), Lib.hid (Sims.refl _ _)⟩
  case round =>
    obtain ⟨j, q, rfl, rfl, hgj, hjL, hq0, hq1, HQ, HFR⟩ := hrel
    by_cases hlt : j < L
    · obtain ⟨vs2, hn2, hv2⟩ := HV.out.sim HFR.out
      have hl2 := nrms_len hn2
      obtain ⟨t, ht⟩ : ∃ t, vs[j]? = some t := ⟨_, List.getElem?_eq_getElem (by rw [← HL.out]; exact hlt)⟩
      obtain ⟨t2, ht2⟩ : ∃ t, vs2[j]? = some t := ⟨_, List.getElem?_eq_getElem (by rw [hl2, ← HL.out]; exact hlt)⟩
      have hnt := nrms_get hn2 ht ht2
      obtain ⟨a, k1, n1, s1, x1, ks1, vs1, A1, c1, rfl, hS, rfl, hT, hcell⟩ := hv2 j _ ht2
      obtain ⟨_, _, e1, hkb, hin⟩ := hT.out
      obtain ⟨kt, nt, st, xt, kst, vst⟩ := t
      have hni := nrm_items hnt
      have hli := nrms_len hni
      have hcl := cnts_lt ht
      rw [cnt_mk'] at hcl
      have hq7 : q + 4 + 7 * cnts vst ≤ 100000000000 := by have h1 := HQ.out; have h2 := HM1.out; omega
      obtain ⟨Q, HQ2⟩ : ∃ Q : Int, Hid (q + 4 + 7 * cnts vst = Q) := ⟨_, Lib.hid rfl⟩
      obtain ⟨L1, HL1⟩ : ∃ L1, Hid (L1 = vst.length) := ⟨_, Lib.hid rfl⟩
      rw [HQ2.out] at hq7
      have hQ0 : m ≤ Q := by rw [← HQ2.out]; omega
      have hin' : IsIn wr S ks1 vs1 A1 := by
        obtain ⟨-, -, -, -, rfl, -, -⟩ : k1 = k1 ∧ n1 = n1 ∧ s1 = s1 ∧ x1 = x1 ∧ A1 = _ ∧ vs1.length = vs1.length ∧ c1 = _ := by simpa using e1
        exact hin
      have IHJ : Hid (∀ z, z = q + 4 → ∀ w', Sims S wr w' → Calls Tryz.prog 21 #[.slice A1 L1 c1, .int .i64 z] w' (MyQ w' S Q)) := Lib.hid (fun z hz w' hw' => by
        subst hz
        obtain ⟨ks3, vs3, hn4, hin4⟩ := hin'.sim hw'
        have := markAny (.mk kt nt st xt kst vst) kt nt st xt kst vst rfl (q + 4) (by omega) (by rw [HQ2.out]; exact hq7) w' S A1 c1 ks3 vs3 (hn4.trans hni) hin4 (fun b hb => (HFR.out.trans hw').plain b hb (HPL.out b hb))
        rw [HQ2.out] at this
        rw [HL1.out]
        exact this)
      have HQ3 : Hid (Q ≤ m + 7 * cnts (vs.take (j + 1))) := Lib.hid (by have := HQ.out; rw [cnts_take ht, cnt_mk', ← HQ2.out]; push_cast; omega)
      have MT2 := markText (q + 2) (by omega) (by omega)
      have z2 := mtx_size (q + 2)
      obtain ⟨u2, HU2⟩ : ∃ u, Hid (mtx (q + 2) = u) := ⟨_, Lib.hid rfl⟩
      unfold MtQ at MT2
      rw [HU2.out] at MT2 z2
      rw [show q + 2 = q + 1 + 1 by omega] at MT2
      rw [hli, ← HL1.out] at hcell
      have hsp := spot_none hcell.c0
      obtain ⟨gb, go, sp, hadd⟩ : ∃ gb go sp, a.add (j * 5) = ⟨gb, go, sp⟩ := ⟨_, _, _, rfl⟩
      rw [hadd] at hsp
      simp only at hsp
      subst hsp
      have hSg : S gb := by have := mem.add_block a (j * 5); rw [hadd] at this; simp only at this; rw [this]; exact hS
      rw [hadd] at hcell
      have hpg : Plain wr gb := HFR.out.plain gb hSg (HPL.out gb hSg)
      have HPG := Lib.hid hpg
      have HSG := Lib.hid hSg
      have HC := Lib.hid hcell
      have HKB := Lib.hid hkb
      have f := frozen_plain hpg
      obtain ⟨p0, p1, p2, p3, p4⟩ := hcell
      clear hv2 hn2 hl2 ht2 hT hkb hin hin' hnt hni hli hcl ht hpg hSg hS e1
      go_wp2_with (fail)
      refine (MT2 _).mono ?_
      rintro e w1 ⟨rfl, hb1⟩
      have hs1 : Sims S wr w1 := ((Sims.set HSG.out (v := .int .i64 q) HC.out.c0 (.inr (.inr (.inl ⟨_, _, rfl, rfl, by unfold I64; omega⟩)))).trans (Sims.set HSG.out (u := .int .i64 n1) (v := .int .i64 (q + 1)) ((World.cell?_setCell_other _ _ _ _ (by simp)).trans HC.out.c1) (.inr (.inr (.inl ⟨_, _, rfl, rfl, by unfold I64; omega⟩))))).trans (Sims.of hb1)
      have HS1 := Lib.hid hs1
      obtain ⟨k2, n2, s2, x2, hc1, hkb1⟩ := HC.out.sim hs1 HSG.out HKB.out
      have HC1 := Lib.hid hc1
      have f1 := frozen_plain (hs1.plain gb HSG.out HPG.out)
      clear hb1 hs1 f p0 p1 p2 p3 p4 hkb1
      obtain ⟨p0, p1, p2, p3, p4⟩ := hc1
      go_wp2_with (fail)
      have HS3 : Hid (∀ v6, v6 = q + 3 → Sims S wr ((w1.setCell ⟨gb, go + 2, none⟩ (.string u2)).setCell ⟨gb, go + 3, none⟩ (.int .i64 v6))) := Lib.hid fun v6 h6 => (HS1.out.trans (Sims.set HSG.out (u := .string s2) HC1.out.c2 (.inr (.inr (.inr ⟨_, _, rfl, rfl, by unfold maxLen; omega⟩))))).trans (Sims.set HSG.out (u := .int .i64 x2) ((World.cell?_setCell_other _ _ _ _ (by simp)).trans HC1.out.c3) (.inr (.inr (.inl ⟨_, _, rfl, rfl, by unfold I64; omega⟩))))
      refine (IHJ.out _ (by omega) _ (HS3.out _ (by omega))).mono ?_
      rintro e w4 ⟨rfl, hs4⟩
      have HS4 := Lib.hid ((HS3.out _ (by omega)).trans hs4)
      clear f1 p0 p1 p2 p3 p4 hs4
      go_wp2_with (fail)
      go_roundg (L - j)
      case rel => exact ⟨j + 1, Q, by go_num, rfl, by omega, by omega, hQ0, hq7, HQ3, Lib.hid (HFR.out.trans HS4.out)⟩
      case measure => omega
    · obtain rfl : j = L := by omega
      have e : q ≤ W := by have := HQ.out; rw [HL.out, List.take_length] at this; rw [← HW.out]; exact this
      go_wp2_with (fail)
      go_ret
      exact ⟨q, rfl, hq0, e, HFR.out⟩

end Go.Proofs.YtlbkbcafkjgckaaGreatDoor.tree

/-
  The laws' marks put into values in a row whose lists hang each apart.
  Conditions: those that each theorem names.
-/
namespace Go.Proofs.YtlbkbcafkjgckaaGreatDoor.tree
open Go.ChangeShapes Go.WideShapes Go.ChangeAt Go.RowKit
set_option linter.unusedVariables false

theorem VMk.step {wr w3 : World} {par : Nat → Nat × Nat} {h lo hi g c j : Nat} {vs vs1 : List Tr} {m q : Int} {k1 n1 x1 : Int} {s1 : ByteArray} {ks1 : List Ky} {A1 : Option Addr} {c1 : Nat} (hv : VMk wr par h lo hi g c vs m j) (hjc : j < c) (ht : vs[j]? = some (.mk k1 n1 s1 x1 ks1 vs1))
    (hh : ∀ i, i < vs.length → ∀ b, Hang par (h, i) b → b ≠ g) (hq : q = m + 7 * cnts (vs.take j) - 3 * j) (hq0 : 1 ≤ q) (hq1 : q ≤ 1000000000000)
    (hg : ∀ cur, wr.heap[g]? = some (.cells cur IV (0, 0)) → cur[j * 5 + 4]? = some (.slice A1 vs1.length c1) ∧ w3.heap[g]? = some (.cells (set4 cur (j * 5) (.int .i64 q) (.int .i64 (q + 1)) (.string (mtx (q + 2))) (.int .i64 (q + 3))) IV (0, 0)))
    (ho : ∀ b, b ≠ g → b < wr.heap.size → ¬ Hang par (h, j) b → w3.heap[b]? = wr.heap[b]?)
    (htp : TPar w3 par (h, j) (.mk q (q + 1) (mtx (q + 2)) (q + 3) (mkK (q + 4) vs1) (mkV (q + 4) vs1)) (vV q (q + 1) (mtx (q + 2)) (q + 3) A1 vs1.length c1)) : VMk w3 par h lo hi g c vs m (j + 1) := by
  obtain ⟨cur, hg0, hs, hi'⟩ := hv.blk
  obtain ⟨hsl, hg3⟩ := hg cur hg0
  refine ⟨_, hg3, by rw [set4_size, hs], fun i t hit => ?_⟩
  have hil := (List.getElem?_eq_some_iff.1 hit).1
  have := hi' i t hit
  by_cases e : i = j
  · subst e
    rw [ht] at hit
    obtain rfl := Option.some.inj hit
    rw [if_pos (by omega), ← hq, mkT4]
    refine ⟨q, q + 1, mtx (q + 2), q + 3, mkK (q + 4) vs1, mkV (q + 4) vs1, A1, c1, rfl, fun p hp => ?_, by rw [mkV_len]; exact htp⟩
    rw [mkV_len]
    by_cases hp4 : p < 4
    · rw [set4_in _ _ _ _ _ _ (by omega) p hp4]
      match p, hp4 with
      | 0, _ => rfl
      | 1, _ => rfl
      | 2, _ => rfl
      | 3, _ => rfl
    · obtain rfl : p = 4 := by omega
      rw [set4_out _ _ _ _ _ _ _ (by omega), hsl]
      rfl
  · have kp : ∀ t', VPt wr par h lo hi g cur i t' → VPt w3 par h lo hi g (set4 cur (j * 5) (.int .i64 q) (.int .i64 (q + 1)) (.string (mtx (q + 2))) (.int .i64 (q + 3))) i t' := fun t' hp =>
      hp.keep (fun p hp5 => set4_out _ _ _ _ _ _ _ (by omega)) (fun b hb hl => ho b (hh i hil b hb) hl fun hb' => e (hb.disj hb'))
    by_cases hlt : i < j
    · rw [if_pos hlt] at this
      rw [if_pos (by omega)]
      exact kp _ this
    · rw [if_neg hlt] at this
      rw [if_neg (by omega)]
      exact kp _ this

def MvQ (w : World) (par : Nat → Nat × Nat) (h lo hi : Nat) (v : Value) (m W : Int) (vs : List Tr) (e : Ending) (w' : World) : Prop := e = .returned (.int .i64 W) ∧ VRow w' par h lo hi v (mkW m vs) ∧ Fr (fun b => v.ownBlock = some b ∨ Rg lo hi b) w w'

set_option maxRecDepth 100000 in
set_option maxHeartbeats 2000000 in
theorem markValueS (vs : List Tr) (m : Int) (hm0 : 1 ≤ m) (hm1 : m + 7 * cnts vs ≤ 100000000000) (hm : vs.length ≤ 1000000000) (w : World) (par : Nat → Nat × Nat) (h lo hi : Nat) (v : Value) (hv : VRow w par h lo hi v vs) :
    Calls Tryz.prog 9 #[v, .int .i64 m] w (MvQ w par h lo hi v m (m + 7 * cnts vs - 3 * vs.length) vs) := by
  rcases hv with ⟨A, c, rfl, rfl, hb⟩ | ⟨g, c, rfl, hb⟩
  · have e0 : m + 7 * (cnts [] : Int) - 3 * (([] : List Tr).length : Int) = m := by rw [cnts_nil]; simp
    rw [e0]
    have HB := Lib.hid hb
    clear hb
    go_enter Tryz.func9, Tryz.ntmps9
    go_wp2_with (fail)
    go_loopg [1, 5] 1 (fun gk l i wr => l = .int .i64 m ∧ i = .int .i64 0 ∧ gk = 1 ∧ w = wr)
    case atStart => exact ⟨rfl, rfl, rfl, rfl⟩
    case round =>
      obtain ⟨rfl, rfl, rfl, rfl⟩ := hrel
      go_wp2_with (fail)
      go_ret
      exact ⟨rfl, .inl ⟨A, c, rfl, rfl, HB.out⟩, Fr.refl _ _⟩
  · obtain ⟨L, HL⟩ : ∃ L, Hid (L = vs.length) := ⟨_, Lib.hid rfl⟩
    have HV := Lib.hid hb
    have HM1 := Lib.hid hm1
    have HMK : Hid (VMk w par h lo hi g c vs m 0) := Lib.hid (by
      obtain ⟨cur, hg, hs, hi'⟩ := hb.blk
      exact ⟨cur, hg, hs, fun i t ht => by rw [if_neg (by omega)]; exact hi' i t ht⟩)
    have HHG : Hid (∀ i, i < vs.length → ∀ b, Hang par (h, i) b → Rg lo hi b ∧ b ≠ g) := Lib.hid hb.hang
    have hLc : L ≤ c := by rw [HL.out]; exact hb.len.1
    obtain ⟨W, HW⟩ : ∃ W : Int, Hid (m + 7 * cnts vs - 3 * (L : Int) = W) := ⟨_, Lib.hid rfl⟩
    rw [← HL.out] at hm ⊢
    rw [HW.out]
    clear hm1 hb
    go_enter Tryz.func9, Tryz.ntmps9
    go_wp2_with (fail)
    go_loopg [1, 5] (L + 1) (fun gk l i wr => ∃ (j : Nat) (q : Int), i = .int .i64 j ∧ l = .int .i64 q ∧ gk + j = L + 1 ∧ j ≤ L ∧ 1 ≤ q ∧ q ≤ 100000000000 ∧ Hid (q = m + 7 * cnts (vs.take j) - 3 * j) ∧ Hid (VMk wr par h lo hi g c vs m j) ∧ Hid (Fr (fun b => b = g ∨ Rg lo hi b) w wr))
    case atStart => exact ⟨0, m, rfl, rfl, by omega, by omega, hm0, by have := HM1.out; omega, Lib.hid (by simp [cnts_nil]), HMK, Lib.hid (Fr.refl _ _)⟩
    case round =>
      obtain ⟨j, q, rfl, rfl, hgj, hjL, hq0, hq1, HQ, HK, HF⟩ := hrel
      by_cases hlt : j < L
      · obtain ⟨t, ht⟩ : ∃ t, vs[j]? = some t := ⟨_, List.getElem?_eq_getElem (by rw [← HL.out]; exact hlt)⟩
        obtain ⟨cur, hg1, hs1, hi1⟩ := HK.out.blk
        have hp := hi1 j t ht
        rw [if_neg (by omega)] at hp
        obtain ⟨k1, n1, s1, x1, ks1, vs1, A1, c1, rfl, hat, hT⟩ := hp
        have hcl := cnts_lt ht
        rw [cnt_mk'] at hcl
        have hjj : j ≤ cnts (vs.take j) := by
          have := cnts_len (vs.take j)
          rw [List.length_take] at this
          have h2 := HL.out
          omega
        have hq4 : q + 4 + 7 * cnts vs1 ≤ 100000000000 := by have h1 := HQ.out; have h2 := HM1.out; omega
        have MI := markItems (.mk k1 n1 s1 x1 ks1 vs1) k1 n1 s1 x1 ks1 vs1 rfl k1 n1 s1 x1 ks1 (q + 4) (by omega) hq4
        obtain ⟨Q, HQ2⟩ : ∃ Q : Int, Hid (q + 4 + 7 * cnts vs1 = Q) := ⟨_, Lib.hid rfl⟩
        obtain ⟨L1, HL1⟩ : ∃ L1, Hid (L1 = vs1.length) := ⟨_, Lib.hid rfl⟩
        rw [HQ2.out] at MI hq4
        have hQ0 : 1 ≤ Q := by rw [← HQ2.out]; omega
        have HQ3 : Hid (Q = m + 7 * cnts (vs.take (j + 1)) - 3 * ((j + 1 : Nat) : Int)) := Lib.hid (by rw [cnts_take ht, cnt_mk', ← HQ2.out, HQ.out]; push_cast; omega)
        have MT2 := markText (q + 2) (by omega) (by omega)
        have z2' := mtx_size (q + 2)
        obtain ⟨u2, HU2⟩ : ∃ u, Hid (mtx (q + 2) = u) := ⟨_, Lib.hid rfl⟩
        unfold MtQ at MT2
        rw [HU2.out] at MT2 z2'
        rw [show q + 2 = q + 1 + 1 by omega] at MT2
        obtain ⟨r, f⟩ := rowc hg1
        have p0 := (r _).trans (hat 0 (by omega))
        have p1 := (r _).trans (hat 1 (by omega))
        rw [Nat.add_zero] at p0
        simp only [List.getElem?_toArray, List.getElem?_cons_zero, List.getElem?_cons_succ] at p0 p1
        have HTT := Lib.hid hT
        have HAT := Lib.hid hat
        have HG1 := Lib.hid hg1
        have HMI := Lib.hid MI
        have HTJ := Lib.hid ht
        have hjl : Hid (j < vs.length) := Lib.hid (by rw [← HL.out]; exact hlt)
        clear r hs1 hi1 hat hT hg1 MI hcl hjj ht
        go_wp2_with (fail)
        refine (MT2 _).mono ?_
        rintro e w1 ⟨rfl, hb1⟩
        have hg2 := carry hb1 (set_heap (set_heap HG1.out (j * 5) (.int .i64 q)) (j * 5 + 1) (.int .i64 (q + 1)))
        obtain ⟨r, f1⟩ := rowc hg2
        have y : ∀ p, 2 ≤ p → p < 5 → w1.cell? ⟨g, j * 5 + p, none⟩ = (#[.int .i64 k1, .int .i64 n1, .string s1, .int .i64 x1, .slice A1 vs1.length c1] : Array Value)[p]? := fun p h2 h5 => by
          rw [r, Array.getElem?_setIfInBounds_ne (by omega), Array.getElem?_setIfInBounds_ne (by omega)]
          exact HAT.out p h5
        have p2 := y 2 (by omega) (by omega)
        have p3 := y 3 (by omega) (by omega)
        have p4 := y 4 (by omega) (by omega)
        rw [← HL1.out] at p4
        simp only [List.getElem?_toArray, List.getElem?_cons_zero, List.getElem?_cons_succ] at p2 p3 p4
        obtain ⟨w2, HW2⟩ : ∃ w2, Hid (w2 = (w1.setCell ⟨g, j * 5 + 2, none⟩ (.string u2)).setCell ⟨g, j * 5 + 3, none⟩ (.int .i64 (q + 1 + 1 + 1))) := ⟨_, Lib.hid rfl⟩
        have hg3 : w2.heap[g]? = some (.cells (set4 cur (j * 5) (.int .i64 q) (.int .i64 (q + 1)) (.string u2) (.int .i64 (q + 1 + 1 + 1))) IV (0, 0)) := by rw [HW2.out]; exact set_heap (set_heap hg2 (j * 5 + 2) _) (j * 5 + 3) _
        have ho2 : ∀ b, b ≠ g → b < wr.heap.size → w2.heap[b]? = wr.heap[b]? := fun b hb hl => by
          rw [HW2.out, set_other hb, set_other hb, hb1.block b (by rw [set_size, set_size]; exact hl), set_other hb, set_other hb]
        have hz2 : wr.heap.size ≤ w2.heap.size := by rw [HW2.out, set_size, set_size]; have := hb1.size; rwa [set_size, set_size] at this
        have F2 : Fr (fun b => b = g ∨ Rg lo hi b) wr w2 := by
          rw [HW2.out]
          exact (((Fr.set (w := wr) (S := fun b => b = g ∨ Rg lo hi b) (.inl rfl) _ _).trans (Fr.set (S := fun b => b = g ∨ Rg lo hi b) (.inl rfl) _ _)).trans ((Fr.of hb1).trans ((Fr.set (S := fun b => b = g ∨ Rg lo hi b) (.inl rfl) _ _).trans (Fr.set (S := fun b => b = g ∨ Rg lo hi b) (.inl rfl) _ _))))
        have hT2 := HTT.out.keep (w' := w2) fun b hb hl => ho2 b (HHG.out j hjl.out b hb).2 hl
        have M2 := HMI.out w2 par (h, j) A1 c1 hT2
        unfold MkQ at M2
        rw [← HL1.out, show q + 4 = q + 1 + 1 + 1 + 1 by omega] at M2
        have HG3 := Lib.hid hg3
        have HO2 := Lib.hid ho2
        have HZ2 := Lib.hid hz2
        have HF2 := Lib.hid F2
        clear r y hg2 hb1 hg3 ho2 hz2 F2 hT2 p0 p1
        go_wp2_with (fail)
        rw [← HW2.out]
        refine M2.mono ?_
        rintro e w3 ⟨rfl, ht3, hf3⟩
        have HT3 := Lib.hid ht3
        have HF3 := Lib.hid hf3
        clear ht3 hf3 M2 p2 p3 p4
        go_wp2_with (fail)
        go_roundg (L - j)
        case rel =>
          refine ⟨j + 1, Q, by go_num, rfl, by omega, by omega, hQ0, hq4, HQ3, Lib.hid (HK.out.step (q := q) (A1 := A1) (c1 := c1) (by omega) HTJ.out (fun i hi b hb => (HHG.out i hi b hb).2) HQ.out hq0 (by omega) (fun cur2 hcur2 => ?_) (fun b hb hl hn => ?_) ?_), Lib.hid ?_⟩
          · rw [HG1.out] at hcur2
            obtain rfl : cur = cur2 := by simpa using hcur2
            refine ⟨?_, ?_⟩
            · have := HAT.out 4 (by omega)
              simpa using this
            · have hgl : g < w2.heap.size := (Array.getElem?_eq_some_iff.1 HG3.out).1
              rw [HF3.out.block g hgl (fun hh => (HHG.out j hjl.out g hh).2 rfl), HG3.out, HU2.out, show q + 3 = q + 1 + 1 + 1 by omega]
          · exact (HF3.out.block b (Nat.lt_of_lt_of_le hl HZ2.out) hn).trans (HO2.out b hb hl)
          · have h3 := HT3.out
            rw [HL1.out, show q + 1 + 1 + 1 + 1 = q + 4 by omega] at h3
            have h4 := TPar.head (k' := q) (n' := q + 1) (s' := mtx (q + 2)) (x' := q + 3) (L := vs1.length) h3 ⟨by unfold I64; omega, by unfold I64; omega, by unfold I64; omega, by rw [HU2.out]; unfold maxLen; omega⟩
            exact h4
          · exact HF.out.trans (HF2.out.trans (HF3.out.mono fun b hb => .inr (HHG.out j hjl.out b hb).1))
        case measure => omega
      · obtain rfl : j = L := by omega
        have e : q = W := by rw [HQ.out, ← HW.out, HL.out, List.take_length]
        subst e
        go_wp2_with (fail)
        go_ret
        refine ⟨rfl, .inr ⟨g, c, by rw [mkW_len, HL.out], ⟨HV.out.lo_le, by rw [mkW_len]; exact HV.out.len, ?_, fun i hi b hb => HV.out.hang i (by rw [mkW_len] at hi; exact hi) b hb⟩⟩, HF.out.mono fun b hb => hb.imp (fun e => by rw [e]; rfl) id⟩
        obtain ⟨cur, hg1, hs1, hi1⟩ := HK.out.blk
        refine ⟨cur, hg1, hs1, fun i t ht => ?_⟩
        have hil := (List.getElem?_eq_some_iff.1 ht).1
        rw [mkW_len] at hil
        obtain ⟨t0, ht0⟩ : ∃ t0, vs[i]? = some t0 := ⟨_, List.getElem?_eq_getElem hil⟩
        have := hi1 i t0 ht0
        rw [if_pos (by rw [HL.out]; exact hil)] at this
        rw [mkW_get m vs i t0 ht0] at ht
        obtain rfl := Option.some.inj ht
        exact this

end Go.Proofs.YtlbkbcafkjgckaaGreatDoor.tree

