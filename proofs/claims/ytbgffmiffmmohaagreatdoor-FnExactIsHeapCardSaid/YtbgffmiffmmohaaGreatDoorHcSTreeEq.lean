/-
  The laws' tests of equality: two values that read as one tree are equal.
  Conditions: those that each theorem names.
-/
import Derived.Test.YtbgffmiffmmohaaGreatDoorHcB1
import Derived.Deep.RegionWith
import Derived.Deep.LoopGhost
namespace Go.Proofs.YtbgffmiffmmohaaGreatDoor.tree
open Go.ChangeShapes Go.WideShapes Go.ChangeAt Go.RowKit
set_option linter.unusedVariables false

/-- A value and an item, written out. -/
abbrev vV (k n : Int) (s : ByteArray) (x : Int) (A : Option Addr) (L c : Nat) : Value := .agg #[.int .i64 k, .int .i64 n, .string s, .int .i64 x, .slice A L c]
abbrev eV (y : Ky) (k n : Int) (s : ByteArray) (x : Int) (A : Option Addr) (L c : Nat) : Value := .agg #[.bool y.text, .int .i64 y.num, .string y.str, .int .i64 k, .int .i64 n, .string s, .int .i64 x, .slice A L c]

def TrueQ (w : World) (e : Ending) (w' : World) : Prop := e = .returned (.bool true) ∧ Below w.heap.size w w'

theorem eqKey (k : Ky) (w : World) : Calls Tryz.prog 112 #[kyV k, kyV k] w (TrueQ w) := by
  obtain ⟨b, n, s⟩ := k
  unfold kyV
  go_enter Tryz.func112, Tryz.ntmps112
  go_wp2
  go_ret
  exact ⟨rfl, ((Below.refl w.heap.size w).alloc (Nat.le_refl _) _).alloc (by simp) _⟩

theorem bcell {W w1 : World} (hb : Below W.heap.size W w1) : (∀ b o, b < W.heap.size → w1.cell? ⟨b, o, none⟩ = W.cell? ⟨b, o, none⟩) ∧ (∀ b o, b < W.heap.size → w1.frozen? ⟨b, o, none⟩ = W.frozen? ⟨b, o, none⟩) :=
  ⟨fun b o h => hb.cell (p := ⟨b, o, none⟩) h, fun b o h => hb.frozen (p := ⟨b, o, none⟩) h⟩

/-- One behind the other. -/
theorem bs {w a b : World} (h : Below w.heap.size w a) (k : Below a.heap.size a b) : Below w.heap.size w b := h.trans (k.mono h.size)
theorem b1 (w : World) (o : Obj) : Below w.heap.size w (w.alloc o) := (Below.refl w.heap.size w).alloc (Nat.le_refl _) _
theorem b2 (w : World) (o o' : Obj) : Below w.heap.size w ((w.alloc o).alloc o') := (b1 w o).alloc (by simp) _

theorem b3 (w : World) (o o' o2 : Obj) : Below w.heap.size w (((w.alloc o).alloc o').alloc o2) := (b2 w o o').alloc (by simp; omega) _

/-- What a block's cells say, for the walk. -/
theorem rowc {w : World} {g : Nat} {cs : Array Value} {t : TypeId} (h : w.heap[g]? = some (.cells cs t (0, 0))) : (∀ j, w.cell? ⟨g, j, none⟩ = cs[j]?) ∧ (∀ j, w.frozen? ⟨g, j, none⟩ = false) :=
  ⟨fun j => cell_of_row w g j cs t _ h, fun j => frozen_of_row w g j cs t h⟩

theorem keepAlloc {w : World} {g : Nat} {o o' : Obj} (h : w.heap[g]? = some o) : (w.alloc o').heap[g]? = some o :=
  (Below.heap_alloc w o' g (Array.getElem?_eq_some_iff.1 h).1).trans h
theorem carry {W w1 : World} {g : Nat} {o : Obj} (hb : Below W.heap.size W w1) (h : W.heap[g]? = some o) : w1.heap[g]? = some o :=
  (hb.block g (Array.getElem?_eq_some_iff.1 h).1).trans h

/-- The laws' test says yes to two values that read alike. -/
def EqV (t : Tr) : Prop := ∀ (w : World) (S S' : Nat → Prop) (v v' : Value), TIn w S t v → TIn w S' t v' → Calls Tryz.prog 33 #[v, v'] w (TrueQ w)

theorem eqEntry (y : Ky) (k n : Int) (s : ByteArray) (x : Int) (A A' : Option Addr) (L c c' : Nat) (w : World)
    (ih : ∀ w' : World, Below w.heap.size w w' → Calls Tryz.prog 33 #[vV k n s x A L c, vV k n s x A' L c'] w' (TrueQ w')) :
    Calls Tryz.prog 179 #[eV y k n s x A L c, eV y k n s x A' L c'] w (TrueQ w) := by
  obtain ⟨b, m, ys⟩ := y
  unfold eV
  go_enter Tryz.func179, Tryz.ntmps179
  go_wp2_with (fail)
  refine (eqKey ⟨b, m, ys⟩ _).mono ?_
  rintro e w1 ⟨rfl, hb1⟩
  obtain ⟨hc, hf⟩ := bcell hb1
  have HB := Lib.hid hb1
  clear hb1
  go_wp2_with (fail)
  refine (ih _ (bs (b2 _ _ _) HB.out)).mono ?_
  rintro e w2 ⟨rfl, hb2⟩
  have HB2 := Lib.hid hb2
  clear hb2
  go_wp2_with (fail)
  go_ret
  exact ⟨rfl, bs (bs (b2 _ _ _) HB.out) HB2.out⟩

/-- The eight cells of an item at q. -/
structure At8 (w : World) (q : Addr) (y : Ky) (k n : Int) (s : ByteArray) (x : Int) (A : Option Addr) (L c : Nat) : Prop where
  c0 : w.cell? q = some (.bool y.text)
  c1 : w.cell? ⟨q.block, q.off + 1, none⟩ = some (.int .i64 y.num)
  c2 : w.cell? ⟨q.block, q.off + 2, none⟩ = some (.string y.str)
  c3 : w.cell? ⟨q.block, q.off + 3, none⟩ = some (.int .i64 k)
  c4 : w.cell? ⟨q.block, q.off + 4, none⟩ = some (.int .i64 n)
  c5 : w.cell? ⟨q.block, q.off + 5, none⟩ = some (.string s)
  c6 : w.cell? ⟨q.block, q.off + 6, none⟩ = some (.int .i64 x)
  c7 : w.cell? ⟨q.block, q.off + 7, none⟩ = some (.slice A L c)

theorem add_pos (q : Addr) (j : Nat) (h : j ≠ 0) : q.add j = ⟨q.block, q.off + j, none⟩ := by unfold Addr.add; rw [if_neg h]

/-- An item of a list of items, as it lies: its address, its eight cells. -/
theorem IsIn.item {w : World} {S : Nat → Prop} {ks : List Ky} {vs : List Tr} {A : Option Addr} (h : IsIn w S ks vs A) {i : Nat} (hi : i < vs.length) :
    ∃ (a : Addr) (y : Ky) (k n : Int) (s : ByteArray) (x : Int) (ks' : List Ky) (vs' : List Tr) (A' : Option Addr) (c' : Nat), A = some a ∧ S a.block ∧ ks[i]? = some y ∧ vs[i]? = some (.mk k n s x ks' vs') ∧ TIn w S (.mk k n s x ks' vs') (vV k n s x A' vs'.length c') ∧
      (I64 y.num ∧ y.str.size ≤ maxLen) ∧ (I64 k ∧ I64 n ∧ I64 x ∧ s.size ≤ maxLen) ∧ IsIn w S ks' vs' A' ∧ At8 w (a.add (i * 8)) y k n s x A' vs'.length c' := by
  obtain ⟨hl, hm, C, hc, ht⟩ := h
  obtain ⟨a, ha, hSa, ⟨h0, h1, h2, h3, h4⟩, hs, hj⟩ := hc i hi
  have hti := ht i hi
  generalize hv : vs[i] = t at hti
  obtain ⟨k, n, s, x, ks', vs'⟩ := t
  obtain ⟨A', c', he, hk, hin⟩ := hti.out
  have hC : C i = #[.int .i64 k, .int .i64 n, .string s, .int .i64 x, .slice A' vs'.length c'] := by injection he
  have e8 : a.add (8 * i) = a.add (i * 8) := by rw [Nat.mul_comm]
  have sp : ∀ j, j ≠ 0 → a.add (8 * i + j) = ⟨(a.add (i * 8)).block, (a.add (i * 8)).off + j, none⟩ := fun j hj => by rw [← add_add', e8, add_pos _ _ hj]
  refine ⟨a, ks[i]'(hl ▸ hi), k, n, s, x, ks', vs', A', c', ha, hSa, List.getElem?_eq_getElem _, by rw [List.getElem?_eq_getElem hi, hv], by rw [he] at hti; exact hti, ⟨h3, h4⟩, hk, hin, ?_⟩
  exact { c0 := e8 ▸ h0, c1 := sp 1 (by omega) ▸ h1, c2 := sp 2 (by omega) ▸ h2, c3 := sp 3 (by omega) ▸ (by have := hj 0 (by omega); rw [hC] at this; exact this), c4 := sp 4 (by omega) ▸ (by have := hj 1 (by omega); rw [hC] at this; exact this), c5 := sp 5 (by omega) ▸ (by have := hj 2 (by omega); rw [hC] at this; exact this), c6 := sp 6 (by omega) ▸ (by have := hj 3 (by omega); rw [hC] at this; exact this), c7 := sp 7 (by omega) ▸ (by have := hj 4 (by omega); rw [hC] at this; exact this) }

theorem eqItems (ks : List Ky) (vs : List Tr) (ih : ∀ t ∈ vs, EqV t) (A A' : Option Addr) (c c' : Nat) (w : World) (S S' : Nat → Prop) (h : IsIn w S ks vs A) (h' : IsIn w S' ks vs A') :
    Calls Tryz.prog 99 #[.slice A vs.length c, .slice A' vs.length c'] w (TrueQ w) := by
  obtain ⟨L, HL⟩ : ∃ L, Hid (L = vs.length) := ⟨_, Lib.hid rfl⟩
  have hm : L ≤ maxLen := by rw [HL.out]; exact h.2.1
  unfold maxLen at hm
  rw [← HL.out]
  go_enter Tryz.func99, Tryz.ntmps99
  go_wp2_with (fail)
  go_loopg [5] (L + 1) (fun gk i wr => ∃ j : Nat, i = .int .i64 j ∧ gk + j = L + 1 ∧ j ≤ L ∧ Below w.heap.size w wr)
  case atStart => exact ⟨0, rfl, by omega, by omega, Below.refl _ _⟩
  case round =>
    obtain ⟨j, rfl, hgj, hjL, hb⟩ := hrel
    have HB := Lib.hid hb
    clear hb
    by_cases hlt : j < L
    · obtain ⟨a, y, k, n, s, x, ks', vs', A1, c1, rfl, hS, hky, hvs, ht, hyb, hkb, hin, hcell⟩ := (h.below HB.out).item (i := j) (by rw [← HL.out]; exact hlt)
      obtain ⟨a', y', k', n', s', x', ks2, vs2, A2, c2, rfl, hS', hky', hvs', ht', _, _, _, hcell'⟩ := (h'.below HB.out).item (i := j) (by rw [← HL.out]; exact hlt)
      rw [hky] at hky'
      obtain rfl := Option.some.inj hky'
      rw [hvs] at hvs'
      obtain ⟨rfl, rfl, rfl, rfl, rfl, rfl⟩ : k = k' ∧ n = n' ∧ s = s' ∧ x = x' ∧ ks' = ks2 ∧ vs' = vs2 := by simpa using hvs'
      have ihj : ∀ w', Below wr.heap.size wr w' → Calls Tryz.prog 33 #[vV k n s x A1 vs'.length c1, vV k n s x A2 vs'.length c2] w' (TrueQ w') := fun w' hb' => ih _ (List.mem_of_getElem? hvs) w' S S' _ _ (ht.below' hb') (ht'.below' hb')
      clear hky' hvs' hky hvs ht ht' hin hyb hkb hS hS'
      obtain ⟨p0, p1, p2, p3, p4, p5, p6, p7⟩ := hcell
      obtain ⟨q0, q1, q2, q3, q4, q5, q6, q7⟩ := hcell'
      go_wp2_with (fail)
      go_region_with ((go_at_call 179; refine (eqEntry y k n s x A1 A2 vs'.length c1 c2 _ ?_).mono ?_; exact fun w' hb' => ihj w' (((Below.refl wr.heap.size wr).drew).trans hb'); rintro e w1 ⟨rfl, hb1⟩; have HB1 := Lib.hid hb1; clear hb1))
      all_goals
        go_wp2_with (fail)
        go_roundg (L - j)
        case rel => exact ⟨j + 1, by go_num, by omega, by omega, bs (bs HB.out ((Below.refl _ _).drew)) HB1.out⟩
        case measure => omega
    · go_wp2_with (fail)
      go_ret
      exact ⟨rfl, HB.out⟩

theorem eqV : ∀ t, EqV t := Tr.ind fun k n s x ks vs ih w S S' v v' h h' => by
  obtain ⟨A, c, rfl, hk, hin⟩ := h.out
  obtain ⟨A', c', rfl, -, hin'⟩ := h'.out
  clear h h'
  go_enter Tryz.func33, Tryz.ntmps33
  go_wp2_with (fail)
  refine (eqItems ks vs ih A A' c c' _ S S' (hin.below (b2 _ _ _)) (hin'.below (b2 _ _ _))).mono ?_
  rintro e w1 ⟨rfl, hb1⟩
  have HB1 := Lib.hid hb1
  clear hb1
  go_wp2_with (fail)
  go_ret
  exact ⟨rfl, bs (b2 _ _ _) HB1.out⟩

end Go.Proofs.YtbgffmiffmmohaaGreatDoor.tree

