/-
  What the texts behind this one use: 12 parts of one proof.
  Conditions: those that each theorem names.
-/
import Derived.Test.YtdglmnmalfpipaaGreatDoorVB2
import Derived.Test.YtdglmnmalfpipaaGreatDoorVSTreeEq
import Derived.Test.YtdglmnmalfpipaaGreatDoorVB4
import Derived.Test.YtdglmnmalfpipaaGreatDoorVB1
import Derived.Test.YtdglmnmalfpipaaGreatDoorShelf
import Derived.Laws.CopyOwn
import Derived.Deep.DeepCutAuto
import Derived.Deep.LoopGhost
import Derived.BigQuiet
import Derived.Deep.RegionWith
import Derived.Deep.RegionHeld3
import Derived.Laws.CopyRow
import Derived.Laws.OwnMore
import Derived.ArgAppend
import Derived.Deep.QuietTactic
/-
  Tables: the slots of a table that came in, as a list; how they lie in memory.
  Conditions: those that each theorem names.
-/
namespace Go.Proofs.YtdglmnmalfpipaaGreatDoor.tree
open Go.ChangeShapes Go.WideShapes Go.ChangeAt Go.RowKit Go.Deep
set_option linter.unusedVariables false

structure Sl where
  key : Ky
  val : Tr
  live : Bool
  link : Int

/-- The ten cells of a slot at q. -/
structure At10 (w : World) (q : Addr) (y : Ky) (k n : Int) (s : ByteArray) (x : Int) (A : Option Addr) (L c : Nat) (b : Bool) (l : Int) : Prop where
  c0 : w.cell? q = some (.bool y.text)
  c1 : w.cell? ⟨q.block, q.off + 1, none⟩ = some (.int .i64 y.num)
  c2 : w.cell? ⟨q.block, q.off + 2, none⟩ = some (.string y.str)
  c3 : w.cell? ⟨q.block, q.off + 3, none⟩ = some (.int .i64 k)
  c4 : w.cell? ⟨q.block, q.off + 4, none⟩ = some (.int .i64 n)
  c5 : w.cell? ⟨q.block, q.off + 5, none⟩ = some (.string s)
  c6 : w.cell? ⟨q.block, q.off + 6, none⟩ = some (.int .i64 x)
  c7 : w.cell? ⟨q.block, q.off + 7, none⟩ = some (.slice A L c)
  c8 : w.cell? ⟨q.block, q.off + 8, none⟩ = some (.bool b)
  c9 : w.cell? ⟨q.block, q.off + 9, none⟩ = some (.int .i64 l)
theorem At10.stays {w w' : World} {q : Addr} {y : Ky} {k n x l : Int} {s : ByteArray} {A : Option Addr} {L c : Nat} {b : Bool} (hb : q.block < w.heap.size → w'.heap[q.block]? = w.heap[q.block]?) (h : At10 w q y k n s x A L c b l) : At10 w' q y k n s x A L c b l :=
  ⟨cell_stays hb h.c0, cell_stays hb h.c1, cell_stays hb h.c2, cell_stays hb h.c3, cell_stays hb h.c4, cell_stays hb h.c5, cell_stays hb h.c6, cell_stays hb h.c7, cell_stays hb h.c8, cell_stays hb h.c9⟩

/-- The slots at A. -/
def SIn (w : World) (S : Nat → Prop) (sl : List Sl) (A : Option Addr) : Prop :=
  ∀ i t, sl[i]? = some t → ∃ a k n s x ks vs A' c', A = some a ∧ S a.block ∧ (I64 t.key.num ∧ t.key.str.size ≤ maxLen) ∧ I64 t.link ∧ t.val = .mk k n s x ks vs ∧ TIn w S t.val (vV k n s x A' vs.length c') ∧ At10 w (a.add (i * 10)) t.key k n s x A' vs.length c' t.live t.link
theorem SIn.stays {w w' : World} {S S' : Nat → Prop} (hS : ∀ b, S b → S' b) (hb : ∀ b, S b → b < w.heap.size → w'.heap[b]? = w.heap[b]?) {sl : List Sl} {A : Option Addr} (h : SIn w S sl A) : SIn w' S' sl A := fun i t ht => by
  obtain ⟨a, k, n, s, x, ks, vs, A', c', e, hSa, hk, hl, hv, hT, hc⟩ := h i t ht
  exact ⟨a, k, n, s, x, ks, vs, A', c', e, hS _ hSa, hk, hl, hv, hT.stays hS hb, hc.stays (fun hlt => hb _ (by rw [mem.add_block]; exact hSa) hlt)⟩
theorem SIn.below {w w' : World} (hb : Below w.heap.size w w') {S : Nat → Prop} {sl : List Sl} {A : Option Addr} (h : SIn w S sl A) : SIn w' S sl A := h.stays (fun _ h => h) (fun b _ hlt => hb.block b hlt)

section
variable {H : Type} {enc : TypeId × Value → H} {P : Program} {w : World} {base : Nat} {spare : Nat → Bool} {held : Bool}
structure TypesS (P : Program) (tSS tSl tK tV : TypeId) : Prop where
  slots : P.underlying tSS = some (.slice tSl)
  slot : ∃ g0 g1 g2 g3 : Field, P.underlying tSl = some (.struct #[g0, g1, g2, g3]) ∧ g0.type = tK ∧ g1.type = tV ∧ P.underlying g2.type = some .bool ∧ P.underlying g3.type = some (.int .i64) ∧ g0.offset = 0 ∧ g1.offset = 3 ∧ g2.offset = 8 ∧ g3.offset = 9 ∧ P.cellsOf g2.type = 1 ∧ P.cellsOf g3.type = 1
  cS : P.cellsOf tSl = 10

theorem open_slots {tV tE tK tS tSS tSl : TypeId} (T : Types P tV tE tK tS) (TS : TypesS P tSS tSl tK tV) {fuel : Nat} {c0 : Value} {x : DataW H × List MemPlace} (h : DataW.trod enc P w base spare held fuel tSS [c0] = some x) :
    ∃ A n c sl, c0 = .slice A n c ∧ List.length sl = n ∧ (n ≤ c ∧ c ≤ maxLen) ∧ SIn w (fun _ => True) sl A := by
  rcases DataW.trod_slice TS.slots h with ⟨hc4, _⟩ | ⟨a, len, cap, elems, rest, m, hfm, hc4, _, hbs, hlc, hcm, hel, hat, _⟩
  · simp at hc4
    subst hc4
    exact ⟨none, 0, 0, [], rfl, rfl, ⟨Nat.le_refl _, Nat.zero_le _⟩, fun i t ht => by simp at ht⟩
  · simp at hc4
    subst hc4
    have each : ∀ i, i < len → ∃ t : Sl, ∃ k n s x ks vs A' c', (I64 t.key.num ∧ t.key.str.size ≤ maxLen) ∧ I64 t.link ∧ t.val = .mk k n s x ks vs ∧ TIn w (fun _ => True) t.val (vV k n s x A' vs.length c') ∧ At10 w (a.add (i * 10)) t.key k n s x A' vs.length c' t.live t.link := by
      intro i hi
      have hi2 := hat i hi
      rw [List.getElem?_eq_getElem (by omega)] at hi2
      obtain ⟨cs', hcs, htr⟩ := Option.bind_eq_some_iff.1 hi2
      rw [TS.cS] at hcs
      obtain ⟨_, hcl, hcat⟩ := World.cells?_some hcs
      obtain ⟨g0, g1, g2, g3, hue, hg0, hg1, hg2, hg3, q0, q1, q2, q3, z2, z3⟩ := TS.slot
      obtain ⟨ys, n2, hn2, hy, hl2, hyl, hall2⟩ := DataW.trod_struct hue htr
      have hyl4 : ys.length = 4 := hyl
      match cs', hcl with
      | [d0, d1, d2, d3, d4, d5, d6, d7, d8, d9], _ =>
        have r0 := hall2 0 g0 rfl
        have r1 := hall2 1 g1 rfl
        have r2 := hall2 2 g2 rfl
        have r3 := hall2 3 g3 rfl
        rw [hg0, q0, T.cK] at r0
        rw [hg1, q1, T.cV] at r1
        rw [q2, z2] at r2
        rw [q3, z3] at r3
        obtain ⟨y, hk3, hkn, hks⟩ := open_key T (r0.trans (List.getElem?_eq_getElem (by omega)))
        obtain ⟨t, ht⟩ := open_tree T n2 _ _ (r1.trans (List.getElem?_eq_getElem (by omega)))
        obtain ⟨b, hb, _⟩ := DataW.trod_bool hg2 (r2.trans (List.getElem?_eq_getElem (by omega)))
        obtain ⟨l, hlk, _, hlw⟩ := DataW.trod_int hg3 (r3.trans (List.getElem?_eq_getElem (by omega)))
        simp at hk3 hb hlk
        obtain ⟨rfl, rfl, rfl⟩ := hk3
        subst hb hlk
        obtain ⟨k, n, s, x, ks, vs⟩ := t
        obtain ⟨A', c', e, -, -⟩ := ht.out
        have e' : d3 = .int .i64 k ∧ d4 = .int .i64 n ∧ d5 = .string s ∧ d6 = .int .i64 x ∧ d7 = .slice A' vs.length c' := by simpa using e
        obtain ⟨rfl, rfl, rfl, rfl, rfl⟩ := e'
        have at' : ∀ j, j < 10 → w.cell? (a.add (i * 10 + j)) = ([.bool y.text, .int .i64 y.num, .string y.str, .int .i64 k, .int .i64 n, .string s, .int .i64 x, .slice A' vs.length c', .bool b, .int .i64 l] : List Value)[j]? := fun j hj => by
          have := hcat j hj
          rwa [add_add'] at this
        have sp : ∀ j, j ≠ 0 → a.add (i * 10 + j) = ⟨(a.add (i * 10)).block, (a.add (i * 10)).off + j, none⟩ := fun j hj => by rw [← add_add', add_pos _ _ hj]
        have at2 : ∀ j, j ≠ 0 → j < 10 → w.cell? ⟨(a.add (i * 10)).block, (a.add (i * 10)).off + j, none⟩ = _ := fun j h0 hj => (congrArg w.cell? (sp j h0)).symm.trans (at' j hj)
        exact ⟨⟨y, .mk k n s x ks vs, b, l⟩, k, n, s, x, ks, vs, A', c', ⟨hkn, hks⟩, wf_i64 hlw, rfl, ht, ⟨at' 0 (by omega), at2 1 (by omega) (by omega), at2 2 (by omega) (by omega), at2 3 (by omega) (by omega), at2 4 (by omega) (by omega), at2 5 (by omega) (by omega), at2 6 (by omega) (by omega), at2 7 (by omega) (by omega), at2 8 (by omega) (by omega), at2 9 (by omega) (by omega)⟩⟩
    refine ⟨some a, len, cap, (List.range len).map (fun i => if hi : i < len then (each i hi).choose else ⟨⟨false, 0, ⟨#[]⟩⟩, .mk 0 0 ⟨#[]⟩ 0 [] [], false, 0⟩), rfl, by simp, ⟨hlc, hcm⟩, fun i t ht => ?_⟩
    rw [List.getElem?_map] at ht
    obtain ⟨i', hi', rfl⟩ := Option.map_eq_some_iff.1 ht
    have hil : i < len := by
      have := (List.getElem?_eq_some_iff.1 hi').1
      simpa using this
    rw [List.getElem?_range hil] at hi'
    obtain rfl := Option.some.inj hi'
    simp only [dif_pos hil]
    obtain ⟨k, n, s, x, ks, vs, A', c', h⟩ := (each i hil).choose_spec
    exact ⟨a, k, n, s, x, ks, vs, A', c', rfl, trivial, h⟩

structure TypesT (P : Program) (tT tI tE tSS : TypeId) : Prop where
  table : ∃ f0 f1 f2 f3 f4 : Field, P.underlying tT = some (.struct #[f0, f1, f2, f3, f4]) ∧ P.underlying f0.type = some .bool ∧ f1.type = tI ∧ f2.type = tSS ∧ P.underlying f3.type = some (.int .i64) ∧ P.underlying f4.type = some (.int .i64) ∧ oneCellFields P #[f0, f1, f2, f3, f4] = true
  heads : P.underlying tI = some (.slice tE)
  elem : P.underlying tE = some (.int .i64)
  cE : P.cellsOf tE = 1
  cT : P.cellsOf tT = 5
end

/-- A table, written out. -/
abbrev tbV (b : Bool) (A : Option Addr) (n c : Nat) (B : Option Addr) (m d : Nat) (x k : Int) : Value := .agg #[.bool b, .slice A n c, .slice B m d, .int .i64 x, .int .i64 k]
/-- A table that reads as its heads and slots. -/
structure TbIn (w : World) (S : Nat → Prop) (l : List Int) (sl : List Sl) (A : Option Addr) (n c : Nat) (B : Option Addr) (m d : Nat) (x k : Int) : Prop where
  heads : imem.RdI w A n l
  hn : n ≤ maxLen
  len : sl.length = m
  cap : m ≤ d ∧ d ≤ maxLen
  slots : SIn w S sl B
  next : I64 x
  count : I64 k

section
variable {H : Type} {enc : TypeId × Value → H} {P : Program} {w : World}
theorem open_tab {tV tE tK tS tSS tSl tT tI tIE : TypeId} (T : Types P tV tE tK tS) (TS : TypesS P tSS tSl tK tV) (TT : TypesT P tT tI tIE tSS) {fuel : Nat} {cs : List Value} {x : DataW H × List MemPlace} (h : DataW.trod enc P w 0 (fun _ => true) true fuel tT cs = some x) :
    ∃ b A n c B m d nx ct l sl, Value.agg cs.toArray = tbV b A n c B m d nx ct ∧ TbIn w (fun _ => True) l sl A n c B m d nx ct := by
  obtain ⟨f0, f1, f2, f3, f4, hu, h0, h1, h2, h3, h4, hone⟩ := TT.table
  obtain ⟨xs, n, hn, hx, hl, hxl, hall⟩ := DataW.trod_struct hu h
  rw [TT.cT] at hl
  match cs, hl with
  | [c0, c1, c2, c3, c4], _ =>
    obtain ⟨o0, k0⟩ := hone_of hone 0 f0 rfl
    obtain ⟨o1, k1⟩ := hone_of hone 1 f1 rfl
    obtain ⟨o2, k2⟩ := hone_of hone 2 f2 rfl
    obtain ⟨o3, k3⟩ := hone_of hone 3 f3 rfl
    obtain ⟨o4, k4⟩ := hone_of hone 4 f4 rfl
    have hxl5 : xs.length = 5 := hxl
    have e0 := hall 0 f0 rfl
    have e1 := hall 1 f1 rfl
    have e2 := hall 2 f2 rfl
    have e3 := hall 3 f3 rfl
    have e4 := hall 4 f4 rfl
    rw [one_of k0 o0 (by simp)] at e0
    rw [one_of k1 o1 (by simp)] at e1
    rw [one_of k2 o2 (by simp)] at e2
    rw [one_of k3 o3 (by simp)] at e3
    rw [one_of k4 o4 (by simp)] at e4
    obtain ⟨b, hb, _⟩ := DataW.trod_bool h0 (e0.trans (List.getElem?_eq_getElem (by omega)))
    obtain ⟨nx, hnx, _, hw3⟩ := DataW.trod_int h3 (e3.trans (List.getElem?_eq_getElem (by omega)))
    obtain ⟨ct, hct, _, hw4⟩ := DataW.trod_int h4 (e4.trans (List.getElem?_eq_getElem (by omega)))
    rw [h2] at e2
    obtain ⟨B, m, d, sl, hB, hsl, hcap, hS⟩ := open_slots T TS (e2.trans (List.getElem?_eq_getElem (by omega)))
    rw [h1] at e1
    simp at hb hnx hct hB
    subst hb hnx hct hB
    rcases open_ints TT.heads TT.elem TT.cE (e1.trans (List.getElem?_eq_getElem (by omega))) with ⟨hc1, _⟩ | ⟨a, len, cap, zs, hc1, _, hlc, hm, hz, _, hcell, hwz⟩
    · simp at hc1
      subst hc1
      exact ⟨b, none, 0, 0, B, m, d, nx, ct, [], sl, rfl, ⟨⟨rfl, fun hn => absurd hn (by omega)⟩, Nat.zero_le _, hsl, hcap, hS, wf_i64 hw3, wf_i64 hw4⟩⟩
    · simp at hc1
      subst hc1
      simp only [if_true] at hz
      refine ⟨b, some a, len, cap, B, m, d, nx, ct, zs.take len, sl, rfl, ⟨⟨by rw [List.length_take]; omega, fun hn => ⟨a, rfl, fun j x hx => ?_⟩⟩, by omega, hsl, hcap, hS, wf_i64 hw3, wf_i64 hw4⟩⟩
      have hj : j < len := by
        have := (List.getElem?_eq_some_iff.1 hx).1
        rw [List.length_take] at this
        omega
      rw [List.getElem?_take, if_pos hj] at hx
      have hcj := hcell j (by omega)
      rw [hcj]
      simp [List.getD, hx]
end

abbrev LT : TypeId := 68
theorem typesS : TypesS Tryz.prog 66 194 LK LV where
  slots := Tryz.underlying66
  slot := ⟨_, _, _, _, Tryz.underlying194, by kernel_rfl, by kernel_rfl, by kernel_rfl, by kernel_rfl, by kernel_rfl, by kernel_rfl, by kernel_rfl, by kernel_rfl, by kernel_rfl, by kernel_rfl⟩
  cS := by kernel_rfl
theorem typesT : TypesT Tryz.prog LT 24 3 66 where
  table := ⟨_, _, _, _, _, Tryz.underlying68, by kernel_rfl, by kernel_rfl, by kernel_rfl, by kernel_rfl, by kernel_rfl, by kernel_rfl⟩
  heads := Tryz.underlying24
  elem := Tryz.underlying3
  cE := by kernel_rfl
  cT := by kernel_rfl

set_option maxRecDepth 100000 in
theorem open_table {H : Type} {enc : TypeId × Value → H} {W : World} {base : Nat} {v : Value} {d : DataW H} {ps : List MemPlace} (hval : Value.okWide Tryz.prog W .any base LT v) (h : DataW.Trod enc Tryz.prog W 0 (fun _ => true) true LT v d ps) :
    ∃ b A n c B m d nx ct l sl, v = tbV b A n c B m d nx ct ∧ TbIn W (fun _ => True) l sl A n c B m d nx ct := by
  obtain ⟨cs, rfl, hsz⟩ := okWide_struct Tryz.underlying68 hval
  obtain ⟨fuel, hf⟩ := h
  exact open_tab opt.types typesS typesT hf

end Go.Proofs.YtdglmnmalfpipaaGreatDoor.tree

/-
  The live slots of a table, as lists.
  Conditions: none.
-/
namespace Go.Proofs.YtdglmnmalfpipaaGreatDoor.tree
open Go.ChangeShapes Go.WideShapes Go.ChangeAt Go.RowKit
set_option linter.unusedVariables false

abbrev IT : TypeId := 27
/-- The live slots. -/
def liv (sl : List Sl) : List Sl := sl.filter (fun t => t.live)
def livK (sl : List Sl) : List Ky := (liv sl).map (fun t => t.key)
def livV (sl : List Sl) : List Tr := (liv sl).map (fun t => t.val)
/-- The array that a table stands for. -/
def tvT (x : Int) (sl : List Sl) : Tr := .mk 4 0 ⟨#[]⟩ x (livK sl) (livV sl)
theorem liv_take {sl : List Sl} {j : Nat} {t : Sl} (h : sl[j]? = some t) : liv (sl.take (j + 1)) = liv (sl.take j) ++ (if t.live then [t] else []) := by
  unfold liv
  rw [List.take_add_one, h, List.filter_append]
  cases ht : t.live <;> simp [ht]
theorem liv_len (sl : List Sl) : (liv sl).length ≤ sl.length := List.length_filter_le _ _


end Go.Proofs.YtdglmnmalfpipaaGreatDoor.tree

/-
  The laws' size of a table.
  Conditions: those that each theorem names.
-/
namespace Go.Proofs.YtdglmnmalfpipaaGreatDoor.tree
open Go.ChangeShapes Go.WideShapes Go.ChangeAt Go.RowKit
set_option linter.unusedVariables false

/-- Letters and items of slots. -/
def totS : List Sl → Nat
  | [] => 0
  | t :: sl => t.key.str.size + tot t.val + totS sl
theorem totS_drop {sl : List Sl} {j : Nat} {t : Sl} (h : sl[j]? = some t) : totS (sl.drop j) = t.key.str.size + tot t.val + totS (sl.drop (j + 1)) := by
  obtain ⟨hj, rfl⟩ := List.getElem?_eq_some_iff.1 h
  rw [List.drop_eq_getElem_cons hj, totS]
/-- The ten cells of a slot. -/
abbrev sV (y : Ky) (k n : Int) (s : ByteArray) (x : Int) (A : Option Addr) (L c : Nat) (b : Bool) (l : Int) : Value := .agg #[.bool y.text, .int .i64 y.num, .string y.str, .int .i64 k, .int .i64 n, .string s, .int .i64 x, .slice A L c, .bool b, .int .i64 l]

theorem szSlot (y : Ky) (hy : y.str.size ≤ maxLen) (k n : Int) (s : ByteArray) (x : Int) (A : Option Addr) (L c : Nat) (b : Bool) (l : Int) (T : Nat) (left : Int) (h0 : 0 ≤ left) (h1 : left ≤ 1048576) (w : World)
    (ih : ∀ (w' : World) (left' : Int), Below w.heap.size w w' → 0 ≤ left' → left' ≤ 1048576 → Calls Tryz.prog 41 #[vV k n s x A L c, .int .i64 left'] w' (SzQ left' T w')) :
    Calls Tryz.prog 176 #[sV y k n s x A L c b l, .int .i64 left] w (SzQ left (y.str.size + T) w) := by
  obtain ⟨yb, m, ys⟩ := y
  have K := szKey ⟨yb, m, ys⟩ hy left h0 h1
  show Calls _ _ _ _ (SzQ left (ys.size + T) w)
  replace K : ∀ w, Calls Tryz.prog 40 #[kyV ⟨yb, m, ys⟩, .int .i64 left] w (SzQ left ys.size w) := K
  unfold sV
  go_enter Tryz.func176, Tryz.ntmps176
  go_wp2_with (fail)
  refine (K _).mono ?_
  rintro e w1 ⟨r, rfl, ⟨hr1, hr2, hr3⟩, hb1⟩
  obtain ⟨hc, hf⟩ := bcell hb1
  have HB := Lib.hid hb1
  have HR := Lib.hid hr3
  clear hb1 hr3
  by_cases hr : r < 0
  · go_wp2_with (fail)
    go_ret
    exact ⟨-1, rfl, ⟨by omega, by omega, fun h => by omega⟩, bs (b1 _ _) HB.out⟩
  · have hr0 : 0 ≤ r := by omega
    go_wp2_with (fail)
    refine (ih _ r (bs (b1 _ _) HB.out) hr0 (by omega)).mono ?_
    rintro e w2 ⟨r2, rfl, ⟨hs1, hs2, hs3⟩, hb2⟩
    have HB2 := Lib.hid hb2
    have HR2 := Lib.hid hs3
    clear hb2 hs3
    by_cases hq : r2 < 0
    · go_wp2_with (fail)
      go_ret
      exact ⟨-1, rfl, ⟨by omega, by omega, fun h => by omega⟩, bs (bs (b1 _ _) HB.out) HB2.out⟩
    · have hq0 : 0 ≤ r2 := by omega
      go_wp2_with (fail)
      go_ret
      refine ⟨r2, rfl, ⟨by omega, by omega, fun h => ?_⟩, bs (bs (b1 _ _) HB.out) HB2.out⟩
      have a1 := HR.out hr0
      have a2 := HR2.out h
      omega

theorem szSlots (sl : List Sl) (hm : sl.length ≤ maxLen) (A : Option Addr) (c : Nat) (w : World) (S : Nat → Prop) (h : SIn w S sl A) (left : Int) (h0 : 0 ≤ left) (h1 : left ≤ 1048576) :
    Calls Tryz.prog 110 #[.slice A sl.length c, .int .i64 left] w (SzQ left (sl.length + totS sl) w) := by
  obtain ⟨L, HL⟩ : ∃ L, Hid (L = sl.length) := ⟨_, Lib.hid rfl⟩
  rw [← HL.out] at hm ⊢
  unfold maxLen at hm
  by_cases hlt : left - L < 0
  · go_enter Tryz.func110, Tryz.ntmps110
    go_wp2_with (fail)
    go_ret
    exact ⟨-1, rfl, ⟨by omega, by omega, fun h => by omega⟩, Below.refl _ _⟩
  have hge : ¬ (left < L) := by omega
  have HH := Lib.hid h
  clear hlt h
  go_enter Tryz.func110, Tryz.ntmps110
  go_wp2_with (fail)
  go_loopg [1, 5] (L + 1) (fun gk l i wr => ∃ (j : Nat) (r : Int), l = .int .i64 r ∧ i = .int .i64 j ∧ gk + j = L + 1 ∧ j ≤ L ∧ 0 ≤ r ∧ r ≤ left ∧ Hid (r + totS sl = left - L + totS (sl.drop j)) ∧ Below w.heap.size w wr)
  case atStart => exact ⟨0, left - L, rfl, rfl, by omega, by omega, by omega, by omega, Lib.hid (by simp), Below.refl _ _⟩
  case round =>
    obtain ⟨j, r, rfl, rfl, hgj, hjL, hr0, hr1, HR, hb⟩ := hrel
    have HB := Lib.hid hb
    clear hb
    by_cases hlt : j < L
    · obtain ⟨t, ht⟩ : ∃ t, sl[j]? = some t := ⟨_, List.getElem?_eq_getElem (by rw [← HL.out]; exact hlt)⟩
      obtain ⟨a, k, n, s, x, ks', vs', A1, c1, rfl, -, hk, hl, hv, hT, hcell⟩ := HH.out.below HB.out j t ht
      have HT := Lib.hid (totS_drop ht)
      obtain ⟨y, tv, lb, ll⟩ := t
      simp only at hk hl hv hT hcell HT
      subst hv
      have hys := hk.2
      have ihj : ∀ (w' : World) (left' : Int), Below wr.heap.size wr w' → 0 ≤ left' → left' ≤ 1048576 → Calls Tryz.prog 41 #[vV k n s x A1 vs'.length c1, .int .i64 left'] w' (SzQ left' (tot (.mk k n s x ks' vs')) w') := fun w' l' hb' a0 a1 => szV _ w' S _ (hT.below' hb') l' a0 a1
      clear ht hT hk hl
      obtain ⟨p0, p1, p2, p3, p4, p5, p6, p7, p8, p9⟩ := hcell
      go_wp2_with (fail)
      refine (szSlot y hys k n s x A1 vs'.length c1 lb ll _ r hr0 (by omega) _ ihj).mono ?_
      rintro e w1 ⟨r2, rfl, ⟨hs1, hs2, hs3⟩, hb1⟩
      have HB1 := Lib.hid hb1
      have HR2 := Lib.hid hs3
      clear hb1 hs3
      by_cases hq : r2 < 0
      · go_wp2_with (fail)
        go_ret
        exact ⟨-1, rfl, ⟨by omega, by omega, fun h => by omega⟩, bs HB.out HB1.out⟩
      · have hq0 : 0 ≤ r2 := by omega
        go_wp2_with (fail)
        go_roundg (L - j)
        case rel =>
          refine ⟨j + 1, r2, rfl, by go_num, by omega, by omega, hq0, by omega, Lib.hid ?_, bs HB.out HB1.out⟩
          have a1 := HR.out
          have a2 := HR2.out hq0
          have a3 := HT.out
          omega
        case measure => omega
    · go_wp2_with (fail)
      go_ret
      refine ⟨r, rfl, ⟨by omega, by omega, fun _ => ?_⟩, HB.out⟩
      have a1 := HR.out
      have e : totS (sl.drop j) = 0 := by
        rw [show sl.drop j = [] from List.drop_eq_nil_of_le (by rw [← HL.out]; omega)]
        rfl
      rw [e] at a1
      push_cast
      omega

theorem szInts (A : Option Addr) (n c : Nat) (hn : n ≤ maxLen) (w : World) (left : Int) (h0 : 0 ≤ left) (h1 : left ≤ 1048576) :
    Calls Tryz.prog 109 #[.slice A n c, .int .i64 left] w (SzQ left n w) := by
  unfold maxLen at hn
  by_cases hlt : left - n < 0
  · go_enter Tryz.func109, Tryz.ntmps109
    go_wp2_with (fail)
    go_ret
    exact ⟨-1, rfl, ⟨by omega, by omega, fun h => by omega⟩, Below.refl _ _⟩
  · have hge : ¬ (left < n) := by omega
    go_enter Tryz.func109, Tryz.ntmps109
    go_wp2_with (fail)
    go_ret
    exact ⟨left - n, rfl, ⟨by omega, by omega, fun h => by omega⟩, Below.refl _ _⟩

/-- The laws' size of a table. -/
theorem szTable {l : List Int} {sl : List Sl} {b : Bool} {A : Option Addr} {n c : Nat} {B : Option Addr} {m d : Nat} {x k : Int} {w : World} {S : Nat → Prop} (h : TbIn w S l sl A n c B m d x k) (left : Int) (h0 : 0 ≤ left) (h1 : left ≤ 1048576) (w' : World) (hb : Below w.heap.size w w') :
    Calls Tryz.prog 39 #[tbV b A n c B m d x k, .int .i64 left] w' (SzQ left (n + (m + totS sl)) w') := by
  obtain ⟨-, hn, rfl, hcap, hS, -, -⟩ := h
  have Z1 := fun w => szInts A n c hn w left h0 h1
  have Z2 := fun w'' (hb : Below w.heap.size w w'') r h0 h1 => szSlots sl (Nat.le_trans hcap.1 hcap.2) B d w'' S (hS.below hb) r h0 h1
  obtain ⟨m, HM⟩ : ∃ m, Hid (sl.length = m) := ⟨_, Lib.hid rfl⟩
  obtain ⟨T, HT⟩ : ∃ T, Hid (m + totS sl = T) := ⟨_, Lib.hid rfl⟩
  rw [HM.out, HT.out] at Z2 ⊢
  have HZ2 := Lib.hid Z2
  have HB0 := Lib.hid hb
  clear Z2 hcap hS hb hn
  go_enter Tryz.func39, Tryz.ntmps39
  go_wp2_with (fail)
  refine (Z1 _).mono ?_
  rintro e w1 ⟨r, rfl, ⟨hr1, hr2, hr3⟩, hb1⟩
  obtain ⟨hc, hf⟩ := bcell hb1
  have HB := Lib.hid (bs (b1 w' _) hb1)
  have HR := Lib.hid hr3
  clear hb1 hr3
  by_cases hr : r < 0
  · go_wp2_with (fail)
    go_ret
    exact ⟨-1, rfl, ⟨by omega, by omega, fun h => by omega⟩, HB.out⟩
  · have hr0 : 0 ≤ r := by omega
    go_wp2_with (fail)
    refine (HZ2.out _ (bs HB0.out HB.out) r hr0 (by omega)).mono ?_
    rintro e w2 ⟨r2, rfl, ⟨hs1, hs2, hs3⟩, hb2⟩
    have HB2 := Lib.hid (bs HB.out hb2)
    have HR2 := Lib.hid hs3
    clear hb2 hs3
    by_cases hq : r2 < 0
    · go_wp2_with (fail)
      go_ret
      exact ⟨-1, rfl, ⟨by omega, by omega, fun h => by omega⟩, HB2.out⟩
    · have hq0 : 0 ≤ r2 := by omega
      go_wp2_with (fail)
      go_ret
      refine ⟨r2, rfl, ⟨by omega, by omega, fun h => ?_⟩, HB2.out⟩
      have a1 := HR.out hr0
      have a2 := HR2.out h
      omega

end Go.Proofs.YtdglmnmalfpipaaGreatDoor.tree

/-
  The laws' comparison of two tables that read alike.
  Conditions: those that each theorem names.
-/
namespace Go.Proofs.YtdglmnmalfpipaaGreatDoor.tree
open Go.ChangeShapes Go.WideShapes Go.ChangeAt Go.RowKit
set_option linter.unusedVariables false

theorem eqSlot (y : Ky) (k n : Int) (s : ByteArray) (x : Int) (A A' : Option Addr) (L c c' : Nat) (b : Bool) (l : Int) (w : World)
    (ih : ∀ w' : World, Below w.heap.size w w' → Calls Tryz.prog 47 #[vV k n s x A L c, vV k n s x A' L c'] w' (TrueQ w')) :
    Calls Tryz.prog 182 #[sV y k n s x A L c b l, sV y k n s x A' L c' b l] w (TrueQ w) := by
  obtain ⟨yb, m, ys⟩ := y
  unfold sV
  go_enter Tryz.func182, Tryz.ntmps182
  go_wp2_with (fail)
  refine (eqKey ⟨yb, m, ys⟩ _).mono ?_
  rintro e w1 ⟨rfl, hb1⟩
  obtain ⟨hc, hf⟩ := bcell hb1
  have HB := Lib.hid hb1
  clear hb1
  go_wp2_with (fail)
  refine (ih _ (bs (b2 _ _ _) HB.out)).mono ?_
  rintro e w2 ⟨rfl, hb2⟩
  obtain ⟨hc2, hf2⟩ := bcell (bs HB.out hb2)
  have HB2 := Lib.hid hb2
  clear hb2 hc hf
  go_wp2_with (fail)
  go_ret
  exact ⟨rfl, bs (bs (b2 _ _ _) HB.out) HB2.out⟩

set_option maxRecDepth 100000 in
theorem eqSlots (sl : List Sl) (hm : sl.length ≤ maxLen) (A A' : Option Addr) (c c' : Nat) (w : World) (S S' : Nat → Prop) (h : SIn w S sl A) (h' : SIn w S' sl A') :
    Calls Tryz.prog 118 #[.slice A sl.length c, .slice A' sl.length c'] w (TrueQ w) := by
  obtain ⟨L, HL⟩ : ∃ L, Hid (L = sl.length) := ⟨_, Lib.hid rfl⟩
  rw [← HL.out] at hm ⊢
  unfold maxLen at hm
  have HA := Lib.hid h
  have HA' := Lib.hid h'
  clear h h'
  go_enter Tryz.func118, Tryz.ntmps118
  go_wp2_with (fail)
  go_loopg [5] (L + 1) (fun gk i wr => ∃ j : Nat, i = .int .i64 j ∧ gk + j = L + 1 ∧ j ≤ L ∧ Below w.heap.size w wr)
  case atStart => exact ⟨0, rfl, by omega, by omega, Below.refl _ _⟩
  case round =>
    obtain ⟨j, rfl, hgj, hjL, hb⟩ := hrel
    have HB := Lib.hid hb
    clear hb
    by_cases hlt : j < L
    · obtain ⟨t, ht⟩ : ∃ t, sl[j]? = some t := ⟨_, List.getElem?_eq_getElem (by rw [← HL.out]; exact hlt)⟩
      obtain ⟨a, k, n, s, x, ks', vs', A1, c1, rfl, -, hk, hl, hv, hT, hcell⟩ := HA.out.below HB.out j t ht
      obtain ⟨a', k', n', s', x', ks2, vs2, A2, c2, rfl, -, -, -, hv', hT', hcell'⟩ := HA'.out.below HB.out j t ht
      obtain ⟨y, tv, lb, ll⟩ := t
      simp only at hk hl hv hT hcell hv' hT' hcell'
      subst hv
      obtain ⟨rfl, rfl, rfl, rfl, rfl, rfl⟩ : k = k' ∧ n = n' ∧ s = s' ∧ x = x' ∧ ks' = ks2 ∧ vs' = vs2 := by simpa using hv'
      have ihj : ∀ w', Below wr.heap.size wr w' → Calls Tryz.prog 47 #[vV k n s x A1 vs'.length c1, vV k n s x A2 vs'.length c2] w' (TrueQ w') := fun w' hb' => eqV _ w' S S' _ _ (hT.below' hb') (hT'.below' hb')
      clear ht hT hT' hv' hk hl
      obtain ⟨p0, p1, p2, p3, p4, p5, p6, p7, p8, p9⟩ := hcell
      obtain ⟨q0, q1, q2, q3, q4, q5, q6, q7, q8, q9⟩ := hcell'
      go_wp2_with (fail)
      go_region_with ((go_at_call 182; refine (eqSlot y k n s x A1 A2 vs'.length c1 c2 lb ll _ ?_).mono ?_; exact fun w' hb' => ihj w' (((Below.refl wr.heap.size wr).drew).trans hb'); rintro e w1 ⟨rfl, hb1⟩; have HB1 := Lib.hid hb1; clear hb1))
      all_goals
        go_wp2_with (fail)
        go_roundg (L - j)
        case rel => exact ⟨j + 1, by go_num, by omega, by omega, bs (bs HB.out ((Below.refl _ _).drew)) HB1.out⟩
        case measure => omega
    · go_wp2_with (fail)
      go_ret
      exact ⟨rfl, HB.out⟩

/-- Two tables that read alike are equal. -/
theorem eqTable {l : List Int} {sl : List Sl} {b : Bool} {A A' : Option Addr} {n c c' : Nat} {B B' : Option Addr} {m d d' : Nat} {x k : Int} {w : World} {S S' : Nat → Prop} (h : TbIn w S l sl A n c B m d x k) (h' : TbIn w S' l sl A' n c' B' m d' x k) (hn : n ≤ 17592186044416) :
    Calls Tryz.prog 46 #[tbV b A n c B m d x k, tbV b A' n c' B' m d' x k] w (TrueQ w) := by
  obtain ⟨hh, -, rfl, hcap, hS, -, -⟩ := h
  obtain ⟨hh', -, -, hcap', hS', -, -⟩ := h'
  have Z1 := fun w' (hb : Below w.heap.size w w') => ints.eqInts A A' n c c' l hn w' (hh.below hb) (hh'.below hb)
  have Z2 := fun w' (hb : Below w.heap.size w w') => eqSlots sl (Nat.le_trans hcap.1 hcap.2) B B' d d' w' S S' (hS.below hb) (hS'.below hb)
  obtain ⟨m, HM⟩ : ∃ m, Hid (sl.length = m) := ⟨_, Lib.hid rfl⟩
  rw [HM.out] at Z2 ⊢
  have HZ1 := Lib.hid Z1
  have HZ2 := Lib.hid Z2
  clear Z1 Z2 hh hh' hcap hcap' hS hS' hn
  go_enter Tryz.func46, Tryz.ntmps46
  go_wp2_with (fail)
  refine (HZ1.out _ (b2 _ _ _)).mono ?_
  rintro e w1 ⟨rfl, hg1⟩
  have hb1 := mem.below_of_none hg1
  obtain ⟨hc, hf⟩ := bcell hb1
  have HB := Lib.hid (bs (b2 w _ _) hb1)
  clear hg1
  have HB1 := Lib.hid hb1
  clear hb1
  go_wp2_with (fail)
  refine (HZ2.out _ HB.out).mono ?_
  rintro e w2 ⟨rfl, hb2⟩
  obtain ⟨hc2, hf2⟩ := bcell (bs HB1.out hb2)
  have HB2 := Lib.hid (bs HB.out hb2)
  clear hb2 hc hf
  go_wp2_with (fail)
  go_ret
  exact ⟨rfl, HB2.out⟩

end Go.Proofs.YtdglmnmalfpipaaGreatDoor.tree

/-
  The digest of a key, of the project and of the model.
  Conditions: the key's text has at most 2^47 bytes.
-/
namespace Go.Proofs.YtdglmnmalfpipaaGreatDoor.tree
open Go.ChangeShapes Go.WideShapes Go.ChangeAt Go.RowKit
set_option linter.unusedVariables false

/-- The digest of a key. -/
def kh (y : Ky) : Int := if y.text then dig.fold 11 (mem.txt y.str) else y.num % 2147483647
theorem kh_in (y : Ky) : 0 ≤ kh y ∧ kh y ≤ 2147483646 := by
  unfold kh
  split
  · exact dig.fold_in dig.in11 _
  · omega
def KhQ (w : World) (x : Int) (e : Ending) (w' : World) : Prop := e = .returned (.int .i64 x) ∧ Below w.heap.size w w'

theorem keyHash_i (y : Ky) (hs : y.str.size ≤ 140737488355328) (w : World) : Calls Tryz.prog 222 #[kyV y] w (KhQ w (kh y)) := by
  obtain ⟨b, n, s⟩ := y
  replace hs : s.size ≤ 140737488355328 := hs
  have HT := hsh.implText s hs
  have HM := hsh.implMod31 n
  unfold kyV
  cases b
  · obtain ⟨q, HQ⟩ : ∃ q, Hid (n % 2147483647 = q) := ⟨_, Lib.hid rfl⟩
    rw [show kh ⟨false, n, s⟩ = q from HQ.out]
    rw [HQ.out] at HM
    go_enter Tryz.func222, Tryz.ntmps222
    go_wp2_with (fail)
    refine (HM _).mono ?_
    rintro e w1 ⟨rfl, rfl⟩
    go_wp2_with (fail)
    go_ret
    exact ⟨rfl, b1 _ _⟩
  · obtain ⟨q, HQ⟩ : ∃ q, Hid (dig.fold 11 (mem.txt s) = q) := ⟨_, Lib.hid rfl⟩
    rw [show kh ⟨true, n, s⟩ = q from HQ.out]
    rw [HQ.out] at HT
    go_enter Tryz.func222, Tryz.ntmps222
    go_wp2_with (fail)
    refine (HT _).mono ?_
    rintro e w1 ⟨rfl, hb⟩
    have HB := Lib.hid (bs (b1 w _) hb)
    clear hb
    go_wp2_with (fail)
    go_ret
    exact ⟨rfl, HB.out⟩

theorem keyHash_s (y : Ky) (hs : y.str.size ≤ 140737488355328) (w : World) : Calls Tryz.prog 67 #[kyV y] w (KhQ w (kh y)) := by
  obtain ⟨b, n, s⟩ := y
  replace hs : s.size ≤ 140737488355328 := hs
  have HT := hsh.specText s hs
  have HM := hsh.specMod31 n
  unfold kyV
  cases b
  · obtain ⟨q, HQ⟩ : ∃ q, Hid (n % 2147483647 = q) := ⟨_, Lib.hid rfl⟩
    rw [show kh ⟨false, n, s⟩ = q from HQ.out]
    rw [HQ.out] at HM
    go_enter Tryz.func67, Tryz.ntmps67
    go_wp2_with (fail)
    refine (HM _).mono ?_
    rintro e w1 ⟨rfl, rfl⟩
    go_wp2_with (fail)
    go_ret
    exact ⟨rfl, b1 _ _⟩
  · obtain ⟨q, HQ⟩ : ∃ q, Hid (dig.fold 11 (mem.txt s) = q) := ⟨_, Lib.hid rfl⟩
    rw [show kh ⟨true, n, s⟩ = q from HQ.out]
    rw [HQ.out] at HT
    go_enter Tryz.func67, Tryz.ntmps67
    go_wp2_with (fail)
    refine (HT _).mono ?_
    rintro e w1 ⟨rfl, rfl⟩
    go_wp2_with (fail)
    go_ret
    exact ⟨rfl, b1 _ _⟩

end Go.Proofs.YtdglmnmalfpipaaGreatDoor.tree

/-
  What makes a table sound, as a matter of lists; where a key's live slot is.
  Conditions: none.
-/
namespace Go.Proofs.YtdglmnmalfpipaaGreatDoor.tree
open Go.ChangeShapes Go.WideShapes Go.ChangeAt Go.RowKit
set_option linter.unusedVariables false

/-- The bucket of a key among n. -/
def bk (n : Nat) (y : Ky) : Nat := (kh y % (n : Int)).toNat
theorem bk_lt {n : Nat} (h : 0 < n) (y : Ky) : bk n y < n := by
  unfold bk
  have h1 := Int.emod_nonneg (kh y) (show (n : Int) ≠ 0 by omega)
  have h2 := Int.emod_lt_of_pos (kh y) (show (0 : Int) < n by omega)
  omega
theorem bk_int {n : Nat} (h : 0 < n) (y : Ky) : kh y % (n : Int) = (bk n y : Int) := by
  unfold bk
  have h1 := Int.emod_nonneg (kh y) (show (n : Int) ≠ 0 by omega)
  omega
/-- The heads of the chains after the first j slots. -/
def hs (n : Nat) (sl : List Sl) : Nat → List Int
  | 0 => List.replicate n (-1)
  | j + 1 => match sl[j]? with
    | some t => (hs n sl j).set (bk n t.key) j
    | none => hs n sl j
theorem hs_succ {n : Nat} {sl : List Sl} {j : Nat} {t : Sl} (h : sl[j]? = some t) : hs n sl (j + 1) = (hs n sl j).set (bk n t.key) j := by simp [hs, h]
theorem hs_len (n : Nat) (sl : List Sl) (j : Nat) : (hs n sl j).length = n := by
  induction j with
  | zero => simp [hs]
  | succ j ih =>
    rw [hs]
    split
    · rw [List.length_set]; exact ih
    · exact ih
/-- The last slot of a bucket among the first j. -/
def last (n : Nat) (sl : List Sl) (b : Nat) : Nat → Int
  | 0 => -1
  | j + 1 => match sl[j]? with
    | some t => if bk n t.key = b then j else last n sl b j
    | none => last n sl b j
theorem hs_get {n : Nat} {sl : List Sl} {b : Nat} (h : b < n) : ∀ j, (hs n sl j)[b]? = some (last n sl b j)
  | 0 => by simp [hs, last, h]
  | j + 1 => by
    have ih := hs_get (sl := sl) h j
    rw [hs, last]
    cases hj : sl[j]? with
    | none => exact ih
    | some t =>
      simp only
      by_cases e : bk n t.key = b
      · subst e
        rw [if_pos rfl, List.getElem?_set_self (by rw [hs_len]; exact h)]
      · rw [if_neg e, List.getElem?_set_ne e]
        exact ih
/-- The slot to which the slot j of a key is linked. -/
def lk (n : Nat) (sl : List Sl) (j : Nat) (y : Ky) : Int := ((hs n sl j)[bk n y]?).getD (-1)
theorem lk_zero (sl : List Sl) (j : Nat) (y : Ky) : lk 0 sl j y = -1 := by
  unfold lk
  rw [List.getElem?_eq_none (by rw [hs_len]; exact Nat.zero_le _)]
  rfl
theorem lk_pos {n : Nat} (h : 0 < n) (sl : List Sl) (j : Nat) (y : Ky) : lk n sl j y = last n sl (bk n y) j := by
  unfold lk
  rw [hs_get (bk_lt h y)]
  rfl
theorem last_bd (n : Nat) (sl : List Sl) (b : Nat) : ∀ j, -1 ≤ last n sl b j ∧ last n sl b j < j
  | 0 => by simp [last]
  | j + 1 => by
    have ih := last_bd n sl b j
    rw [last]
    split
    · split
      · omega
      · omega
    · omega

/-- The live slot of a key among the first j; -1 if there is none. -/
def fd (sl : List Sl) (y : Ky) : Nat → Int
  | 0 => -1
  | j + 1 => match sl[j]? with
    | some t => if t.live = true ∧ t.key = y then j else fd sl y j
    | none => fd sl y j
theorem fd_succ {sl : List Sl} {y : Ky} {j : Nat} {t : Sl} (h : sl[j]? = some t) : fd sl y (j + 1) = if t.live = true ∧ t.key = y then (j : Int) else fd sl y j := by simp [fd, h]
theorem fd_bd (sl : List Sl) (y : Ky) : ∀ j, -1 ≤ fd sl y j ∧ fd sl y j < j
  | 0 => by simp [fd]
  | j + 1 => by
    have ih := fd_bd sl y j
    rw [fd]
    split
    · split
      · omega
      · omega
    · omega
/-- Where the last slot of the key's bucket is, the search goes on. -/
theorem last_fd {n : Nat} {sl : List Sl} {y : Ky} {b : Nat} (hb : bk n y = b) : ∀ J, J ≤ sl.length → (last n sl b J = -1 ∧ fd sl y J = -1) ∨ ∃ i t, i < J ∧ last n sl b J = (i : Int) ∧ sl[i]? = some t ∧ bk n t.key = b ∧ fd sl y J = fd sl y (i + 1)
  | 0, _ => .inl ⟨rfl, rfl⟩
  | J + 1, h => by
    obtain ⟨tJ, ht⟩ : ∃ t, sl[J]? = some t := ⟨_, List.getElem?_eq_getElem (by omega)⟩
    rcases last_fd (sl := sl) hb J (by omega) with ih | ih
    all_goals
      by_cases e : bk n tJ.key = b
      · exact .inr ⟨J, _, Nat.lt_succ_self _, by simp [last, ht, e], ht, e, rfl⟩
      · have e2 : ¬ (tJ.live = true ∧ tJ.key = y) := fun h2 => e (by rw [h2.2]; exact hb)
        have e3 : fd sl y (J + 1) = fd sl y J := by rw [fd_succ ht, if_neg e2]
        have e4 : last n sl b (J + 1) = last n sl b J := by simp [last, ht, e]
        rw [e3, e4]
        first
          | exact .inl ih
          | (obtain ⟨i, t, h1, h2⟩ := ih; exact .inr ⟨i, t, Nat.lt_succ_of_lt h1, h2⟩)

/-- The value of a slot that is free. -/
def zeroT : Tr → Prop
  | .mk k n s x ks vs => k = 0 ∧ n = 0 ∧ s.size = 0 ∧ x = 0 ∧ vs.length = 0
def soundS (x : Int) (sl : List Sl) (j : Nat) (t : Sl) : Prop := (keyB t.key && (t.key.text || decide (t.key.num < x))) = true ∧ (t.live = true → t.key ∉ livK (sl.take j)) ∧ (t.live = false → zeroT t.val)
/-- The key of the slot i of a packed table. -/
def ixK (i : Nat) : Ky := ⟨false, i, ⟨#[]⟩⟩
def linkS (b : Bool) (n : Nat) (sl : List Sl) (j : Nat) (t : Sl) : Prop := (b = true ∨ t.key = ixK j) ∧ t.link = lk n sl j t.key
def p2 (n : Nat) : Prop := n = 8 ∨ n = 16 ∨ n = 32 ∨ n = 64 ∨ n = 128 ∨ n = 256 ∨ n = 512 ∨ n = 1024
def sizeP (b : Bool) (n m : Nat) (x : Int) : Prop := (b = true → p2 n ∧ m ≤ n) ∧ (b = false → n = 0 ∧ (m : Int) ≤ x ∧ m ≤ 1024)
def rowS (x : Int) (sl : List Sl) : Prop := ∀ j t, sl[j]? = some t → soundS x sl j t
def rowL (b : Bool) (n : Nat) (sl : List Sl) : Prop := ∀ j t, sl[j]? = some t → linkS b n sl j t
/-- A table is sound. -/
def tabOk (b : Bool) (l : List Int) (sl : List Sl) (x k : Int) : Prop :=
  (0 ≤ x ∧ x ≤ 1000000001) ∧ sizeP b l.length sl.length x ∧ (rowS x sl ∧ ((livK sl).length : Int) = k) ∧ (rowL b l.length sl ∧ hs l.length sl sl.length = l)
theorem tabOk.len {b : Bool} {l : List Int} {sl : List Sl} {x k : Int} (h : tabOk b l sl x k) : sl.length ≤ 1024 ∧ l.length ≤ 1024 := by
  obtain ⟨-, ⟨h1, h2⟩, -⟩ := h
  cases b with
  | true => obtain ⟨h3, h4⟩ := h1 rfl; unfold p2 at h3; omega
  | false => obtain ⟨h3, h4, h5⟩ := h2 rfl; omega

theorem livK_take {sl : List Sl} {j : Nat} {t : Sl} (h : sl[j]? = some t) : livK (sl.take (j + 1)) = livK (sl.take j) ++ (if t.live then [t.key] else []) := by
  unfold livK
  rw [liv_take h, List.map_append]
  cases t.live <;> simp
theorem livK_len (sl : List Sl) : (livK sl).length ≤ sl.length := by
  unfold livK
  rw [List.length_map]
  exact liv_len sl
theorem mem_livK {sl : List Sl} {y : Ky} : y ∈ livK sl ↔ ∃ (i : Nat) (t : Sl), sl[i]? = some t ∧ t.live = true ∧ t.key = y := by
  unfold livK liv
  simp only [List.mem_map, List.mem_filter]
  constructor
  · rintro ⟨t, ⟨h1, h2⟩, h3⟩
    obtain ⟨i, hi⟩ := List.mem_iff_getElem?.1 h1
    exact ⟨i, t, hi, h2, h3⟩
  · rintro ⟨i, t, h1, h2, h3⟩
    exact ⟨t, ⟨List.mem_of_getElem? h1, h2⟩, h3⟩
/-- Keys that are their places do not stand twice. -/
theorem packed_new {sl : List Sl} {j : Nat} (h : ∀ i t, i < j → sl[i]? = some t → t.key = ixK i) : ixK j ∉ livK (sl.take j) := fun hm => by
  obtain ⟨i, t, h1, -, h3⟩ := mem_livK.1 hm
  have hi : i < j := by
    have := (List.getElem?_eq_some_iff.1 h1).1
    rw [List.length_take] at this
    omega
  rw [List.getElem?_take, if_pos hi] at h1
  have := h i t hi h1
  rw [h3] at this
  unfold ixK at this
  injection this with _ e _
  omega
theorem fd_packed {sl : List Sl} (h : ∀ i t, sl[i]? = some t → t.key = ixK i) (y : Ky) : ∀ J, J ≤ sl.length → fd sl y J = -1 ∨ ∃ i t, i < J ∧ sl[i]? = some t ∧ t.live = true ∧ t.key = y ∧ y = ixK i ∧ fd sl y J = i
  | 0, _ => .inl rfl
  | J + 1, hJ => by
    obtain ⟨tJ, ht⟩ : ∃ t, sl[J]? = some t := ⟨_, List.getElem?_eq_getElem (by omega)⟩
    rw [fd_succ ht]
    by_cases e : tJ.live = true ∧ tJ.key = y
    · rw [if_pos e]
      exact .inr ⟨J, _, Nat.lt_succ_self _, ht, e.1, e.2, by rw [← e.2]; exact h _ _ ht, rfl⟩
    · rw [if_neg e]
      rcases fd_packed h y J (by omega) with ih | ⟨i, t, h1, h2⟩
      · exact .inl ih
      · exact .inr ⟨i, t, by omega, h2⟩
/-- In a packed table the key's number is the place. -/
theorem fd_at {sl : List Sl} (h : ∀ i t, sl[i]? = some t → t.key = ixK i) {y : Ky} {i : Nat} {t : Sl} (ht : sl[i]? = some t) (hn : y.num = i) : fd sl y sl.length = if t.live = true ∧ t.key = y then (i : Int) else -1 := by
  have hi := (List.getElem?_eq_some_iff.1 ht).1
  rcases fd_packed h y sl.length (Nat.le_refl _) with h0 | ⟨i', t', h1, h2, h3, h4, h5, h6⟩
  · rw [h0]
    split
    · rename_i e
      exfalso
      have key : ∀ J, i < J → J ≤ sl.length → fd sl y J ≠ -1 := by
        intro J
        induction J with
        | zero => intro h; omega
        | succ J ih =>
          intro h1 h2
          obtain ⟨tJ, hs⟩ : ∃ t, sl[J]? = some t := ⟨_, List.getElem?_eq_getElem (by omega)⟩
          rw [fd_succ hs]
          split
          · omega
          · rename_i e2
            by_cases hJ : i = J
            · subst hJ
              rw [ht] at hs
              obtain rfl := Option.some.inj hs
              exact absurd e e2
            · exact ih (by omega) (by omega)
      exact key _ hi (Nat.le_refl _) h0
    · rfl
  · have : i' = i := by
      rw [h5] at hn
      unfold ixK at hn
      simp only at hn
      omega
    subst this
    rw [ht] at h2
    obtain rfl := Option.some.inj h2
    rw [if_pos ⟨h3, h4⟩, h6]
theorem fd_out {sl : List Sl} (h : ∀ i t, sl[i]? = some t → t.key = ixK i) {y : Ky} (hn : ¬ (0 ≤ y.num ∧ y.num ≤ (sl.length : Int) - 1)) : fd sl y sl.length = -1 := by
  rcases fd_packed h y sl.length (Nat.le_refl _) with h0 | ⟨i', t', h1, h2, h3, h4, h5, h6⟩
  · exact h0
  · exfalso
    apply hn
    rw [h5]
    unfold ixK
    simp
    omega

end Go.Proofs.YtdglmnmalfpipaaGreatDoor.tree

/-
  The sizes of a table's heads, and new heads, of the project.
  Conditions: those that each theorem names.
-/
namespace Go.Proofs.YtdglmnmalfpipaaGreatDoor.tree
open Go.ChangeShapes Go.WideShapes Go.ChangeAt Go.RowKit
set_option linter.unusedVariables false

def pcA (x : Int) : Int := IntKind.u64.wrap (bits BinOp.and IntKind.u64 (x / 2) 6148914691236517205 + bits BinOp.and IntKind.u64 x 6148914691236517205)
def pcB (x : Int) : Int := IntKind.u64.wrap (bits BinOp.and IntKind.u64 (x / 4) 3689348814741910323 + bits BinOp.and IntKind.u64 x 3689348814741910323)
def pcC (x : Int) : Int := bits BinOp.and IntKind.u64 (IntKind.u64.wrap (x / 16 + x)) 1085102592571150095
def pcD (x : Int) : Int := IntKind.u64.wrap (x + x / 256)
def pcE (x : Int) : Int := IntKind.u64.wrap (x + x / 65536)
def pcF (x : Int) : Int := IntKind.u64.wrap (x + x / 4294967296)
def pc (n : Nat) : Int := bits BinOp.and IntKind.i64 (wrap64 (pcF (pcE (pcD (pcC (pcB (pcA n))))))) 127
theorem ones64_i (n : Nat) (w : World) : Calls Tryz.prog 218 #[.int .u64 n] w fun e w' => e = .returned (.int .i64 (pc n)) ∧ w' = w := by
  go_enter Tryz.func218, Tryz.ntmps218
  go_wp2
  go_ret
  exact ⟨rfl, rfl⟩
theorem ones_i (n : Nat) (w : World) : Calls Tryz.prog 189 #[.int .u64 n] w fun e w' => e = .returned (.int .i64 (pc n)) ∧ w' = w := by
  obtain ⟨q, HQ⟩ : ∃ q, Hid (pc n = q) := ⟨_, Lib.hid rfl⟩
  have ON := ones64_i n
  rw [HQ.out] at ON ⊢
  go_enter Tryz.func189, Tryz.ntmps189
  go_wp2_with (fail)
  refine (ON _).mono ?_
  rintro e w1 ⟨rfl, rfl⟩
  go_wp2_with (fail)
  go_ret
  exact ⟨rfl, rfl⟩
def p2b (n : Nat) : Bool := [8, 16, 32, 64, 128, 256, 512, 1024].contains n
theorem p2b_iff (n : Nat) : p2b n = true ↔ p2 n := by simp [p2b, p2]
theorem pc_all : ((List.range 1025).all fun n => decide (n < 8) || (decide (pc n = 1) == p2b n)) = true := by kernel_rfl
theorem pc_p2 {n : Nat} (h0 : 8 ≤ n) (h1 : n ≤ 1024) : pc n = 1 ↔ p2 n := by
  have := List.all_eq_true.1 pc_all n (by simp; omega)
  rw [decide_eq_false (show ¬ n < 8 by omega), Bool.false_or, beq_iff_eq] at this
  rw [← p2b_iff, ← this, decide_eq_true_eq]
theorem and_all : ((List.range 1025).all fun n => decide (n < 8) || (decide (bits BinOp.and IntKind.i64 (n : Int) ((n : Int) - 1) = 0) == p2b n)) = true := by kernel_rfl
theorem and_p2 {n : Nat} (h0 : 8 ≤ n) (h1 : n ≤ 1024) : bits BinOp.and IntKind.i64 (n : Int) ((n : Int) - 1) = 0 ↔ p2 n := by
  have := List.all_eq_true.1 and_all n (by simp; omega)
  rw [decide_eq_false (show ¬ n < 8 by omega), Bool.false_or, beq_iff_eq] at this
  rw [← p2b_iff, ← this, decide_eq_true_eq]

def BoP (w : World) (p : Prop) (e : Ending) (w' : World) : Prop := ∃ q : Bool, e = .returned (.bool q) ∧ (q = true ↔ p) ∧ Below w.heap.size w w'
theorem BoP.of {w w' : World} {p : Prop} {q : Bool} (h : q = true ↔ p) (hb : Below w.heap.size w w') : BoP w p (.returned (.bool q)) w' := ⟨q, rfl, h, hb⟩

set_option maxHeartbeats 1000000 in
theorem rightSize_i (b : Bool) (A : Option Addr) (n c : Nat) (B : Option Addr) (m d : Nat) (x k : Int) (hn : n ≤ 1048576) (hm : m ≤ 1048576) (hx : 0 ≤ x) (w : World) :
    Calls Tryz.prog 134 #[tbV b A n c B m d x k] w (BoP w (sizeP b n m x)) := by
  cases b with
  | true =>
    obtain ⟨q, HQ⟩ : ∃ q, Hid (nums.inr n 8 1024 = q) := ⟨_, Lib.hid rfl⟩
    have IR := fun w => HQ.out ▸ nums.implInRange n 8 1024 w
    cases q with
    | false =>
      have HF : Hid (false = true ↔ sizeP true n m x) := Lib.hid ⟨fun h => (by cases h), fun h => by
        have h1 := (h.1 rfl).1
        have h2 := HQ.out
        unfold nums.inr at h2
        unfold p2 at h1
        simp at h2
        omega⟩
      go_enter Tryz.func134, Tryz.ntmps134
      go_wp2_with (fail)
      refine (IR _).mono ?_
      rintro e w1 ⟨rfl, rfl⟩
      go_wp2_with (fail)
      go_ret
      exact BoP.of HF.out (b1 _ _)
    | true =>
      have HN : Hid (8 ≤ n ∧ n ≤ 1024) := Lib.hid (by have h2 := HQ.out; unfold nums.inr at h2; simp at h2; omega)
      have ON := ones_i n
      obtain ⟨z, HZ⟩ : ∃ z, Hid (pc n = z) := ⟨_, Lib.hid rfl⟩
      rw [HZ.out] at ON
      have HP : Hid (z = 1 ↔ p2 n) := Lib.hid (HZ.out ▸ pc_p2 HN.out.1 HN.out.2)
      by_cases hz : z = 1
      · subst hz
        by_cases hmn : m ≤ n
        all_goals
          have HF : Hid (∀ q : Bool, q = decide (m ≤ n) → (q = true ↔ sizeP true n m x)) := Lib.hid (by
            rintro q rfl
            rw [decide_eq_true_eq]
            exact ⟨fun h => ⟨fun _ => ⟨HP.out.1 rfl, h⟩, fun h => by cases h⟩, fun h => (h.1 rfl).2⟩)
          go_enter Tryz.func134, Tryz.ntmps134
          go_wp2_with (fail)
          refine (IR _).mono ?_
          rintro e w1 ⟨rfl, rfl⟩
          go_wp2_with (fail)
          refine (ON _).mono ?_
          rintro e w1 ⟨rfl, rfl⟩
          go_wp2_with (fail)
          go_ret
          exact BoP.of (HF.out _ (by simp [hmn])) (b1 _ _)
      · have hz1 : (z == 1) = false := by simp [hz]
        have HF : Hid (false = true ↔ sizeP true n m x) := Lib.hid ⟨fun h => (by cases h), fun h => absurd (HP.out.2 (h.1 rfl).1) hz⟩
        clear hz
        go_enter Tryz.func134, Tryz.ntmps134
        go_wp2_with (fail)
        refine (IR _).mono ?_
        rintro e w1 ⟨rfl, rfl⟩
        go_wp2_with (fail)
        refine (ON _).mono ?_
        rintro e w1 ⟨rfl, rfl⟩
        go_wp2_with (fail)
        go_ret
        exact BoP.of HF.out (b1 _ _)
  | false =>
    by_cases h0 : n = 0
    · subst h0
      obtain ⟨z, HZ⟩ : ∃ z, Hid (nums.mn x 1024 = z) := ⟨_, Lib.hid rfl⟩
      have MI := fun w => HZ.out ▸ nums.implMin x 1024 w
      have HP : Hid ((m : Int) ≤ z ↔ sizeP false 0 m x) := Lib.hid (by
        rw [← HZ.out]
        unfold nums.mn
        constructor
        · intro h
          refine ⟨fun h => (by cases h), fun _ => ⟨rfl, ?_⟩⟩
          split at h <;> omega
        · intro h
          obtain ⟨-, h2, h3⟩ := h.2 rfl
          split <;> omega)
      by_cases hz : (m : Int) ≤ z
      all_goals
        go_enter Tryz.func134, Tryz.ntmps134
        go_wp2_with (fail)
        have e2 : (w.alloc (.cells #[.bool false, .slice A 0 c, .slice B m d, .int .i64 x, .int .i64 k] IT)).cell? ⟨w.heap.size, 2, none⟩ = some (.slice B m d) := (rowc (heap_alloc_new w _)).1 2
        have e3 : (w.alloc (.cells #[.bool false, .slice A 0 c, .slice B m d, .int .i64 x, .int .i64 k] IT)).cell? ⟨w.heap.size, 3, none⟩ = some (.int .i64 x) := (rowc (heap_alloc_new w _)).1 3
        go_region_held3 (fun w' => w'.cell? ⟨w.heap.size, 2, none⟩ = some (.slice B m d) ∧ w'.cell? ⟨w.heap.size, 3, none⟩ = some (.int .i64 x)) (first | go_keep | exact ⟨e2, e3⟩) (first | (go_at_call 190; refine (MI _).mono ?_; rintro e w1 ⟨rfl, rfl⟩))
        go_wp2_with (fail)
        go_ret
        exact BoP.of (by rw [← HP.out]; simp [hz]) (b1 _ _).drew
    · have HF : Hid (false = true ↔ sizeP false n m x) := Lib.hid ⟨fun h => (by cases h), fun h => absurd (h.2 rfl).1 h0⟩
      have h0' : ((n : Int) == 0) = false := by simp; omega
      clear h0
      go_enter Tryz.func134, Tryz.ntmps134
      go_wp2_with (fail)
      go_quiet ((fail))
      go_wp2_with (fail)
      go_ret
      exact BoP.of HF.out (bs (b1 _ _) (kbelow_drew _ _))

end Go.Proofs.YtdglmnmalfpipaaGreatDoor.tree

/-
  New heads, and a slot linked to its chain, of the project.
  Conditions: those that each theorem names.
-/
namespace Go.Proofs.YtdglmnmalfpipaaGreatDoor.tree
open Go.ChangeShapes Go.WideShapes Go.ChangeAt Go.RowKit
set_option linter.unusedVariables false

def rwK (K n : Nat) : Array Value := (List.replicate K (Value.int .i64 (-1)) ++ List.replicate (n - K) (Value.int .i64 0)).toArray
theorem rwK_size {K n : Nat} (h : K ≤ n) : (rwK K n).size = n := by simp [rwK]; omega
theorem rwK_next {K q n : Nat} (h : K + q ≤ n) : ((rwK K n).toList.take K ++ (List.replicate q (Value.int .i64 (-1)) ++ (rwK K n).toList.drop (K + q))).toArray = rwK (K + q) n := by
  unfold rwK
  congr 1
  rw [List.take_left' (by simp), List.drop_append, List.drop_eq_nil_of_le (by simp), List.nil_append, List.length_replicate, List.drop_replicate, ← List.append_assoc, List.replicate_append_replicate, show n - K - (K + q - K) = n - (K + q) by omega]
theorem rwK_get {K n j : Nat} {v : Value} (h : (List.replicate K (Value.int .i64 (-1)))[j]? = some v) : (rwK K n)[j]? = some v := by
  have hj := (List.getElem?_eq_some_iff.1 h).1
  rw [List.length_replicate] at hj
  unfold rwK
  rw [List.getElem?_toArray, List.getElem?_append_left (by simpa using hj)]
  exact h
theorem rwK_own {w : World} {lo g n : Nat} (hg : w.heap[g]? = some (.cells (rwK n n) 3 (0, 0))) (hl : lo ≤ g) (hn : n ≤ 1048576) : imem.OwnI w lo (some ⟨g, 0, none⟩) n n (List.replicate n (-1)) :=
  ⟨by simp, by simp [imem.ics], .inr ⟨g, n, _, rfl, hl, hg, Nat.le_refl _, by unfold maxLen; omega, by rw [rwK_size (Nat.le_refl _)]; omega, by simp [rwK, imem.ics]⟩⟩
theorem int_info : ∃ i, Tryz.prog.info? 3 = some i ∧ i.zero = some (.int .i64 0) ∧ i.size = 1 ∧ i.bytes = 8 := by
  have := imem.i64row
  cases h : Tryz.prog.info? 3 with
  | none => rw [h] at this; simp at this
  | some i => rw [h] at this; simp at this; exact ⟨i, rfl, this⟩

def NewQ (w : World) (n : Nat) (e : Ending) (w' : World) : Prop := ∃ g, e = .returned (.slice (some ⟨g, 0, none⟩) n n) ∧ w.heap.size ≤ g ∧ imem.OwnI w' w.heap.size (some ⟨g, 0, none⟩) n n (List.replicate n (-1)) ∧ Below w.heap.size w w'

set_option maxRecDepth 100000 in
set_option maxHeartbeats 2000000 in
theorem repeat_i (n : Nat) (hn : n ≤ 1048576) (g0 : Nat) (w : World) (h0 : w.cell? ⟨g0, 0, none⟩ = some (.int .i64 (-1))) :
    Calls Tryz.prog 195 #[.slice (some ⟨g0, 0, none⟩) 1 1, .int .i64 n] w (NewQ w n) := by
  obtain ⟨i0, hi, hz, hs, hby⟩ := int_info
  have hsz : (Tryz.prog.info? 3).map (·.size) = some 1 := by rw [hi]; exact congrArg some hs
  have MU := fun w => Tryz.bits_Mul 1 n (by omega) (by omega) w
  rw [Nat.one_mul, Nat.div_eq_of_lt (by omega), Nat.mod_eq_of_lt (by omega)] at MU
  have hmk := run_make (P := Tryz.prog) w 24 3 i0 _ Tryz.underlying24 hi hz .i64 .i64 n n (by omega) (Int.le_refl _) (by rw [hby]; omega) (by omega)
  rw [hs, Nat.mul_one] at hmk
  simp only [Int.toNat_natCast] at hmk
  rw [show madeCells (Value.int .i64 0).cells n = rwK 0 n by
    have := toList_madeCells_one (.int .i64 0) n
    rw [show (Value.int .i64 0).cells = #[.int .i64 0] from rfl]
    apply Array.toList_inj.1
    rw [this]
    simp [rwK]] at hmk
  have hse : ∀ w', (sizeOf (Tryz.prog.elem 24)).run Tryz.prog w' = .ok 1 w' := fun w' => by
    have : Tryz.prog.elem 24 = 3 := by kernel_rfl
    simp [sizeOf, typeInfo, this, hi, hs]
  have HSE := Lib.hid hse
  have HSZ := Lib.hid hsz
  clear hi hz hs hby hse hsz
  rcases Nat.eq_zero_or_pos n with hz | hp
  · subst hz
    have hc := run_copy_none (P := Tryz.prog) (w.alloc (.cells (rwK 0 0) 3)) 24 24 3 3 (some ⟨w.heap.size, 0, none⟩) (some ⟨g0, 0, none⟩) 0 0 1 1 Tryz.underlying24 HSZ.out (by decide)
    have hmk0 : (Instr.makeSlice 24 (.int .i64 0) (.int .i64 0)).run Tryz.prog w = .ok (.slice (some ⟨w.heap.size, 0, none⟩) 0 0) (w.alloc (.cells (rwK 0 0) 3)) := hmk
    clear hmk
    go_enter Tryz.func195, Tryz.ntmps195
    go_wp2_with (fail)
    refine (MU _).mono ?_
    rintro e w1 ⟨rfl, rfl⟩
    go_wp2_with (fail)
    go_loopg [8] 0 (fun gk s wr => s = .int .i64 0 ∧ wr = w1.alloc (.cells (rwK 0 0) 3))
    case atStart => exact ⟨rfl, rfl⟩
    case round =>
      obtain ⟨rfl, rfl⟩ := hrel
      go_wp2_with (fail)
      go_ret
      exact ⟨_, rfl, Nat.le_refl _, rwK_own (heap_alloc_new _ _) (Nat.le_refl _) (by omega), b1 _ _⟩
  · obtain ⟨row, HROW⟩ : ∃ r, Hid (r = rwK 0 n) := ⟨_, Lib.hid rfl⟩
    rw [← HROW.out] at hmk
    have hc := run_copy_row (P := Tryz.prog) (w.alloc (.cells row 3)) 24 24 3 3 w.heap.size 0 n n ⟨g0, 0, none⟩ 1 1 row 3 [.int .i64 (-1)] Tryz.underlying24 HSZ.out (heap_alloc_new _ _) (by show 1 = Nat.min 1 n; simp only [Nat.min_def]; split <;> omega)
      (fun j v hv => by
        cases j with
        | zero => simp at hv; subst hv; rw [show (⟨g0, 0, none⟩ : Addr).add 0 = ⟨g0, 0, none⟩ by unfold Addr.add; rw [if_pos rfl]]; exact cell_stays (fun hl => (b1 w _).block _ hl) h0
        | succ j => simp at hv) (by rw [HROW.out, rwK_size (Nat.zero_le _)]; simp; omega) (by simp [Value.oneCell'])
    rw [show (row.toList.take 0 ++ [Value.int .i64 (-1)] ++ row.toList.drop (0 + [Value.int .i64 (-1)].length)).toArray = rwK 1 n by
      have := rwK_next (K := 0) (q := 1) (n := n) (by omega)
      rw [HROW.out, List.append_assoc]
      exact this] at hc
    obtain ⟨w2, HW2⟩ : ∃ W, Hid (W = (w.alloc (.cells row 3)).setRow w.heap.size (rwK 1 n)) := ⟨_, Lib.hid rfl⟩
    rw [← HW2.out] at hc
    have HB2 : Hid (Below w.heap.size w w2) := Lib.hid (HW2.out ▸ below_setRow (b1 w _) (Nat.le_refl _) _)
    have HG2 : Hid (w2.heap[w.heap.size]? = some (.cells (rwK 1 n) 3 (0, 0))) := Lib.hid (HW2.out ▸ setRow_heap _ _ _ _ _ _ (heap_alloc_new _ _))
    clear h0
    go_enter Tryz.func195, Tryz.ntmps195
    go_wp2_with (fail)
    refine (MU _).mono ?_
    rintro e w1 ⟨rfl, rfl⟩
    go_wp2_with (fail)
    clear hc hmk
    have hlo := HB2.out.size
    obtain ⟨g, HG⟩ : ∃ g, Hid (w1.heap.size = g) := ⟨_, Lib.hid rfl⟩
    rw [HG.out] at HG2 HB2 hlo ⊢
    go_loopg [8] n (fun gk s wr => ∃ K : Nat, s = .int .i64 K ∧ n - K ≤ gk ∧ 1 ≤ K ∧ K ≤ n ∧ Hid (wr.heap[g]? = some (.cells (rwK K n) 3 (0, 0))) ∧ Hid (Below g w1 wr))
    case atStart => exact ⟨1, rfl, by omega, by omega, by omega, HG2, HB2⟩
    case round =>
      obtain ⟨K, rfl, hgk, hK1, hKn, HR, HB⟩ := hrel
      clear HG2 HB2 HW2 hlo
      by_cases hlt : K < n
      · obtain ⟨q, HQ⟩ : ∃ q, Hid (q = if K ≤ n - K then K else n - K) := ⟨_, Lib.hid rfl⟩
        have hq : 1 ≤ q ∧ K + q ≤ n := by rw [HQ.out]; split <;> omega
        have hs1 : ∀ w', (Instr.slice 24 (.slice (some ⟨g, 0, none⟩) n n) (some (.int .i64 K)) none none).run Tryz.prog w' = .ok (.slice (some ⟨g, K, none⟩) (n - K) (n - K)) w' := fun w' => by
          rw [run_slice_l (P := Tryz.prog) w' 24 _ n n (by kernel_rfl) .i64 (K : Int) (by omega) (by omega), HSE.out]
          simp [Result.andThen, sliced, show n ≠ K by omega, Addr.add_lit]
        have hs2 : ∀ w', (Instr.slice 24 (.slice (some ⟨g, 0, none⟩) n n) none (some (.int .i64 K)) none).run Tryz.prog w' = .ok (.slice (some ⟨g, 0, none⟩) K n) w' := fun w' => by
          rw [run_slice_h (P := Tryz.prog) w' 24 (some ⟨g, 0, none⟩) n n (by kernel_rfl) .i64 (K : Int) (by omega) (by omega), HSE.out]
          have h0 : (⟨g, 0, none⟩ : Addr).add 0 = ⟨g, 0, none⟩ := by unfold Addr.add; rw [if_pos rfl]
          simp [Result.andThen, sliced, h0]
        have hcp := run_copy_row (P := Tryz.prog) wr.drew 24 24 3 3 g K (n - K) (n - K) ⟨g, 0, none⟩ K n (rwK K n) 3 (List.replicate q (.int .i64 (-1))) Tryz.underlying24 HSZ.out HR.out (by rw [List.length_replicate, HQ.out]; simp only [Nat.min_def])
          (fun j v hv => by
            have hj := (List.getElem?_eq_some_iff.1 hv).1
            rw [List.length_replicate] at hj
            have hv2 : (List.replicate K (Value.int .i64 (-1)))[j]? = some v := by
              rw [List.getElem?_replicate, if_pos hj] at hv
              rw [List.getElem?_replicate, if_pos (by have := HQ.out; split at this <;> omega)]
              exact hv
            have := rwK_get (n := n) hv2
            rw [Addr.add_lit, Nat.zero_add]
            exact (cell_of_row _ _ j _ _ _ (show wr.drew.heap[g]? = _ from HR.out)).trans this) (by rw [List.length_replicate, rwK_size hKn]; omega) (fun v hv => by rw [List.mem_replicate] at hv; rw [hv.2]; rfl)
        rw [List.length_replicate, List.append_assoc, rwK_next hq.2] at hcp
        obtain ⟨w3, HW3⟩ : ∃ W, Hid (W = wr.drew.setRow g (rwK (K + q) n)) := ⟨_, Lib.hid rfl⟩
        rw [← HW3.out] at hcp
        have HB3 : Hid (Below g w1 w3) := Lib.hid (HW3.out ▸ below_setRow HB.out.drew (Nat.le_refl _) _)
        have HR3 : Hid (w3.heap[g]? = some (.cells (rwK (K + q) n) 3 (0, 0))) := Lib.hid (HW3.out ▸ setRow_heap _ _ _ _ _ _ (show wr.drew.heap[g]? = _ from HR.out))
        clear HSE HSZ
        go_wp2_with (fail)
        go_region
        go_wp2_with (fail)
        go_roundg (n - (K + q))
        case rel => exact ⟨K + q, by go_num, by omega, by omega, by omega, HR3, HB3⟩
        case measure => omega
      · obtain rfl : K = n := by omega
        go_wp2_with (fail)
        go_ret
        exact ⟨g, rfl, Nat.le_of_eq HG.out, rwK_own HR.out (Nat.le_of_eq HG.out) hn, HG.out.symm ▸ HB.out⟩

theorem newHeads_i (n : Nat) (hn : n ≤ 1048576) (w : World) : Calls Tryz.prog 148 #[.int .i64 n] w (NewQ w n) := by
  have RE := fun o : Obj => fun h => repeat_i n hn w.heap.size (w.alloc o) h
  go_enter Tryz.func148, Tryz.ntmps148
  go_wp2_with (fail)
  refine (RE _ ((rowc (heap_alloc_new w _)).1 0)).mono ?_
  rintro e w1 ⟨g, rfl, hg, ho, hb⟩
  have HO := Lib.hid ho
  have HB := Lib.hid (bs (b1 w _) hb)
  have hz : w.heap.size ≤ g := by simp at hg; omega
  clear ho hb hg
  go_wp2_with (fail)
  go_ret
  exact ⟨g, rfl, hz, HO.out.less (by simp), HB.out⟩

theorem bucketOf_i (n : Nat) (h0 : 0 < n) (hn : n ≤ 1048576) (y : Ky) (hs : y.str.size ≤ 140737488355328) (w : World) : Calls Tryz.prog 196 #[kyV y, .int .i64 n] w (LtQ w (bk n y)) := by
  obtain ⟨q, HQ⟩ : ∃ q : Nat, Hid (bk n y = q) := ⟨_, Lib.hid rfl⟩
  obtain ⟨z, HZ⟩ : ∃ z, Hid (kh y = z) := ⟨_, Lib.hid rfl⟩
  have KH := keyHash_i y hs
  have hmd : mdl.md z n = (q : Int) := by
    unfold mdl.md
    rw [if_pos (mdl.inr_of (by omega) (by omega)), ← HZ.out, bk_int h0, HQ.out]
  have MO := fun w => mdl.implMod z n w
  rw [hmd] at MO
  rw [HZ.out] at KH
  rw [HQ.out]
  obtain ⟨yb, yn, ys⟩ := y
  unfold kyV at KH ⊢
  clear hmd
  go_enter Tryz.func196, Tryz.ntmps196
  go_wp2_with (fail)
  refine (KH _).mono ?_
  rintro e w1 ⟨rfl, hb⟩
  have HB := Lib.hid (bs (b1 w _) hb)
  clear hb
  go_wp2_with (fail)
  refine (MO _).mono ?_
  rintro e w2 ⟨rfl, rfl⟩
  go_wp2_with (fail)
  go_ret
  exact ⟨rfl, HB.out⟩

theorem gb {w w' : World} (h : Below w.heap.size w w') (r : Option Nat) : w.grownBy w' r := ⟨h.os, h.tape, h.output, h.size, fun k hk _ => h.block k hk⟩
def LkQ (w : World) (lo : Nat) (A : Option Addr) (n c : Nat) (v : Int) (h' : List Int) (e : Ending) (w' : World) : Prop := e = .returned (.int .i64 v) ∧ imem.OwnI w' lo A n c h' ∧ w.grownBy w' (Value.slice A n c).ownBlock

theorem linkSlot_i (n c : Nat) (hn : n ≤ 1048576) (A : Option Addr) (h : List Int) (lo : Nat) (y : Ky) (hs : y.str.size ≤ 140737488355328) (i : Nat) (w : World) (ho : imem.OwnI w lo A n c h) :
    Calls Tryz.prog 192 #[.slice A n c, kyV y, .int .i64 i] w (LkQ w lo A n c ((h[bk n y]?).getD (-1)) (h.set (bk n y) i)) := by
  rcases Nat.eq_zero_or_pos n with hz | hp
  · subst hz
    have h0 : h = [] := List.eq_nil_of_length_eq_zero ho.len
    subst h0
    have HO := Lib.hid ho
    obtain ⟨yb, yn, ys⟩ := y
    unfold kyV
    clear ho hs hn
    go_enter Tryz.func192, Tryz.ntmps192
    go_wp2_with (fail)
    go_ret
    exact ⟨rfl, HO.out.alloc _, World.grownBy_alloc _ _ _⟩
  · obtain ⟨g, rfl, hlg, hgs, hob⟩ := ho.head hp
    have BK := fun w => bucketOf_i n hp hn y hs w
    have hq := bk_lt hp y
    obtain ⟨q, HQ⟩ : ∃ q : Nat, Hid (bk n y = q) := ⟨_, Lib.hid rfl⟩
    rw [HQ.out] at BK hq ⊢
    have hl := ho.len
    obtain ⟨v, hv⟩ : ∃ v, h[q]? = some v := ⟨_, List.getElem?_eq_getElem (by omega)⟩
    have hc : w.cell? ⟨g, q, none⟩ = some (.int .i64 v) := by
      have := ho.row.cellAt q (by omega)
      rw [this]
      exact imem.ics_get hv
    have hfz : w.frozen? ⟨g, q, none⟩ = false := ho.row.frozenAt q
    rw [hv, Option.getD_some]
    have HO := Lib.hid ho
    have HGS := Lib.hid hgs
    have hn1 : ((n : Int) == 0) = false := by simp; omega
    have hqi : (q : Int) < (n : Int) := by omega
    obtain ⟨yb, yn, ys⟩ := y
    unfold kyV at BK ⊢
    have HC := Lib.hid hc
    have HFZ := Lib.hid hfz
    clear ho hs hl hv hgs hc hfz
    go_enter Tryz.func192, Tryz.ntmps192
    go_wp2_with (fail)
    refine (BK _).mono ?_
    rintro e w1 ⟨rfl, hb⟩
    have HB := Lib.hid (bs (b1 w _) hb)
    have hc1 : w1.cell? ⟨g, q, none⟩ = some (.int .i64 v) := cell_stays (fun hl => HB.out.block _ hl) HC.out
    have HO1 := Lib.hid (HO.out.below HB.out)
    have hf1 : w1.frozen? ⟨g, q, none⟩ = false := HO1.out.row.frozenAt q
    clear hb
    go_wp2_with (fail)
    go_ret
    obtain ⟨h1, h2⟩ := HO1.out.set q i
    exact ⟨rfl, h1, by rw [hob]; exact mem.grown_trans (gb HB.out _) h2⟩

end Go.Proofs.YtdglmnmalfpipaaGreatDoor.tree

/-
  The chain of a bucket, as a list; a search along it finds the live slot of a key. An own list of numbers that begins in an array of eight.
  Conditions: those that each theorem names.
-/
namespace Go.Proofs.YtdglmnmalfpipaaGreatDoor.tree
open Go.ChangeShapes Go.WideShapes Go.ChangeAt Go.RowKit
set_option linter.unusedVariables false

/-- The slots of a bucket among the first j, the last one first. -/
def chn (n : Nat) (sl : List Sl) (b : Nat) : Nat → List Int
  | 0 => []
  | j + 1 => match sl[j]? with
    | some t => if bk n t.key = b then (j : Int) :: chn n sl b j else chn n sl b j
    | none => chn n sl b j
/-- The first of some slots that is live and has the key; -1 if there is none. -/
def sr (sl : List Sl) (y : Ky) : List Int → Int
  | [] => -1
  | i :: r => match sl[i.toNat]? with
    | some t => if t.live = true ∧ t.key = y then i else sr sl y r
    | none => sr sl y r
theorem sr_cons {sl : List Sl} {y : Ky} {i : Nat} {t : Sl} (h : sl[i]? = some t) (r : List Int) : sr sl y ((i : Int) :: r) = if t.live = true ∧ t.key = y then (i : Int) else sr sl y r := by
  rw [sr]
  simp [h]
theorem chn_in {n : Nat} {sl : List Sl} {b : Nat} : ∀ J, ∀ i ∈ chn n sl b J, 0 ≤ i ∧ i < J
  | 0, i, h => by simp [chn] at h
  | J + 1, i, h => by
    rw [chn] at h
    split at h
    · split at h
      · rcases List.mem_cons.1 h with rfl | h
        · omega
        · have := chn_in J i h; omega
      · have := chn_in J i h; omega
    · have := chn_in J i h; omega
theorem chn_len {n : Nat} {sl : List Sl} {b : Nat} : ∀ J, (chn n sl b J).length ≤ J
  | 0 => by simp [chn]
  | J + 1 => by
    have := chn_len (n := n) (sl := sl) (b := b) J
    rw [chn]
    split
    · split
      · rw [List.length_cons]; omega
      · omega
    · omega
theorem chn_fd {n : Nat} {sl : List Sl} {y : Ky} : ∀ J, J ≤ sl.length → sr sl y (chn n sl (bk n y) J) = fd sl y J
  | 0, _ => rfl
  | J + 1, h => by
    obtain ⟨t, ht⟩ : ∃ t, sl[J]? = some t := ⟨_, List.getElem?_eq_getElem (by omega)⟩
    have ih := chn_fd (n := n) (sl := sl) (y := y) J (by omega)
    rw [fd_succ ht, chn, ht]
    simp only
    by_cases e : bk n t.key = bk n y
    · rw [if_pos e, sr_cons ht, ih]
    · rw [if_neg e, ih]
      have e2 : ¬ (t.live = true ∧ t.key = y) := fun h2 => e (by rw [h2.2])
      rw [if_neg e2]
/-- The last slot of a bucket heads its chain. -/
theorem last_chn {n : Nat} {sl : List Sl} {b : Nat} : ∀ J, J ≤ sl.length → (last n sl b J = -1 ∧ chn n sl b J = []) ∨ ∃ i t, i < J ∧ last n sl b J = (i : Int) ∧ sl[i]? = some t ∧ bk n t.key = b ∧ chn n sl b J = (i : Int) :: chn n sl b i
  | 0, _ => .inl ⟨rfl, rfl⟩
  | J + 1, h => by
    obtain ⟨tJ, ht⟩ : ∃ t, sl[J]? = some t := ⟨_, List.getElem?_eq_getElem (by omega)⟩
    rcases last_chn (n := n) (sl := sl) (b := b) J (by omega) with ih | ih
    all_goals
      by_cases e : bk n tJ.key = b
      · exact .inr ⟨J, _, Nat.lt_succ_self _, by simp [last, ht, e], ht, e, by simp [chn, ht, e]⟩
      · have e3 : chn n sl b (J + 1) = chn n sl b J := by simp [chn, ht, e]
        have e4 : last n sl b (J + 1) = last n sl b J := by simp [last, ht, e]
        rw [e3, e4]
        first
          | exact .inl ih
          | (obtain ⟨i, t, h1, h2⟩ := ih; exact .inr ⟨i, t, Nat.lt_succ_of_lt h1, h2⟩)

abbrev T8 : TypeId := 171
/-- A list of numbers that the call has made: it lies in an array of eight, or where append has moved it. -/
def OwnC (w : World) (g lo : Nat) (A : Option Addr) (n c : Nat) (l : List Int) : Prop :=
  (l.length = n ∧ ∃ cur, A = some ⟨g, 0, none⟩ ∧ c = 8 ∧ w.heap[g]? = some (.cells cur T8 (0, 0)) ∧ cur.size = 8 ∧ n ≤ 8 ∧ cur.toList.take n = imem.ics l) ∨ imem.OwnI w lo A n c l
theorem OwnC.len {w : World} {g lo n c : Nat} {A : Option Addr} {l : List Int} (h : OwnC w g lo A n c l) : l.length = n := by
  rcases h with h | h
  · exact h.1
  · exact h.len
theorem OwnC.rd {w : World} {g lo n c : Nat} {A : Option Addr} {l : List Int} (h : OwnC w g lo A n c l) : imem.RdI w A n l := by
  rcases h with ⟨hl, cur, rfl, rfl, hg, hs, hn, ht⟩ | h
  · refine ⟨hl, fun _ => ⟨_, rfl, fun j v hv => ?_⟩⟩
    have hj : j < n := by have := (List.getElem?_eq_some_iff.1 hv).1; omega
    rw [Addr.add_lit, Nat.zero_add, cell_of_row _ _ j _ _ _ hg]
    have := imem.ics_get hv
    rw [← ht, List.getElem?_take, if_pos hj] at this
    simpa using this
  · exact h.rd
theorem OwnC.block {w : World} {g lo n c : Nat} {A : Option Addr} {l : List Int} (h : OwnC w g lo A n c l) : ∀ k, (Value.slice A n c).ownBlock = some k → (k = g ∨ lo ≤ k) ∧ k < w.heap.size := by
  rcases h with ⟨hl, cur, rfl, rfl, hg, hs, hn, ht⟩ | h
  · intro k hk
    obtain rfl := Option.some.inj hk
    exact ⟨.inl rfl, (Array.getElem?_eq_some_iff.1 hg).1⟩
  · intro k hk; obtain ⟨h1, h2⟩ := h.block k hk; exact ⟨.inr h1, h2⟩
theorem OwnC.below {w w' : World} {g lo n c : Nat} {A : Option Addr} {l : List Int} (h : OwnC w g lo A n c l) (hb : Below w.heap.size w w') : OwnC w' g lo A n c l := by
  rcases h with ⟨hl, cur, rfl, rfl, hg, hr⟩ | h
  · exact .inl ⟨hl, cur, rfl, rfl, carry hb hg, hr⟩
  · exact .inr (h.below hb)
theorem OwnC.made (w : World) (lo g : Nat) (cur : Array Value) (hg : w.heap[g]? = some (.cells cur T8 (0, 0))) (hs : cur.size = 8) : OwnC w g lo (some ⟨g, 0, none⟩) 0 8 [] :=
  .inl ⟨rfl, cur, rfl, rfl, hg, hs, by omega, by simp [imem.ics]⟩
theorem int_info8 : ∃ i, Tryz.prog.info? 3 = some i ∧ i.zero = some (.int .i64 0) ∧ i.size = 1 ∧ i.bytes = 8 := by
  have := imem.i64row
  cases h : Tryz.prog.info? 3 with
  | none => rw [h] at this; simp at this
  | some i => rw [h] at this; simp at this; exact ⟨i, rfl, this⟩
theorem gb1 {w w' : World} {r : Option Nat} (h : w.grownBy w' none) : w.grownBy w' r := ⟨h.os, h.tape, h.output, h.size, fun k hk _ => h.block k hk (fun e => by cases e)⟩
/-- append of one number. -/
theorem wpList_appendC (w : World) {ops : Array Oper} {rest : List Oper} {o : Oper} {a : Act} {Q : Exit → Act → World → Prop} (hgd : o.guard = none) (s x : Operand)
    (ho : o.op = .call { callee := .builtin .append, args := #[s, x], argTypes := #[24, 24] })
    (g lo : Nat) (A : Option Addr) (n c : Nat) (l : List Int) (hs : a.eval s = .slice A n c) (hown : OwnC w g lo A n c l) (ad : Addr) (v : Int) (hx : a.eval x = .slice (some ad) 1 1) (hc : w.cell? ad = some (.int .i64 v)) (hb : n + 1 ≤ 17592186044416) (hlo : lo ≤ w.heap.size)
    (h : ∀ A' c' w', OwnC w' g lo A' (n + 1) c' (l ++ [v]) → w.grownBy w' (Value.slice A n c).ownBlock → wpList Tryz.prog ops Q rest (a.put o.dst (.slice A' (n + 1) c')) w') : wpList Tryz.prog ops Q (o :: rest) a w := by
  obtain ⟨i, hi, hz, hsz, hby⟩ := int_info8
  have hnews : ∀ j u, [Value.int .i64 v][j]? = some u → w.cell? (ad.add j) = some u := fun j u hu => by
    cases j with
    | zero => simp at hu; subst hu; rw [show ad.add 0 = ad by unfold Addr.add; rw [if_pos rfl]]; exact hc
    | succ j => simp at hu
  rcases hown with ⟨hl, cur, rfl, rfl, hg, hcs, hn8, ht⟩ | hown
  · by_cases hfull : n < 8
    · refine wpList_plain hgd fun K hK => ?_
      have hf := run_firstCells_some (P := Tryz.prog) w i.size 1 ad 1 1 [.int .i64 v] (by rw [hsz]; rfl) hnews
      have hst := run_storeCells_at Tryz.prog g (n * i.size) T8 [.int .i64 v] 0 cur w hg (by rw [hsz]; simp; omega) (by simp [Value.oneCell'])
      simp only [Nat.add_zero] at hst
      have hrun : (Builtin.append_ #[24, 24] o.type #[.slice (some ⟨g, 0, none⟩) n 8, .slice (some ad) 1 1]).run Tryz.prog w = .ok (.slice (some ⟨g, 0, none⟩) (n + 1) 8) (w.setRow g (cur.toList.take (n * i.size) ++ [Value.int .i64 v] ++ cur.toList.drop (n * i.size + [Value.int .i64 v].length)).toArray) := by
        simp [Builtin.append_, run_underlying Tryz.underlying24, sizeOf, typeInfo, hi, Builtin.lenOf, show n + 1 ≤ 8 by omega, hf, Addr.add_lit, hst]
      unfold Oper.wp
      simp [execOp, ho, resolve, invoke, builtin, hs, hx, hrun, Result.andThen]
      refine hK _ _ (h (some ⟨g, 0, none⟩) 8 _ (.inl ⟨by simp [hl], _, rfl, rfl, setRow_heap _ _ _ _ _ _ hg, ?_, by omega, ?_⟩) ⟨rfl, rfl, rfl, by simp [World.setRow], fun k hk hne => Go.setRow_other _ _ _ _ (fun e => hne (by rw [e]; rfl))⟩)
      · rw [hsz]; simp; omega
      · rw [hsz, Nat.mul_one]
        rw [ht, imem.ics_app]
        have hil : (imem.ics l).length = n := by rw [imem.ics_len, hl]
        simp only []
        rw [List.take_append, hil, List.take_of_length_le (by rw [hil]; omega), show n + 1 - n = 1 by omega]
        simp [imem.ics]
    · obtain rfl : n = 8 := by omega
      refine wpList_append_grows w hgd s x 24 ho 3 i (.int .i64 0) 1 8 Tryz.underlying24 hi hz hsz hby rfl (by omega) (some ⟨g, 0, none⟩) 8 8 (imem.ics l) hs (fun e => by cases e) (by rw [imem.ics_len, hl]) (fun b hb j u hu => ?_) ad 1 1 [.int .i64 v] hx rfl hnews (by simp [Value.oneCell']) (by omega) (by unfold maxLen; omega) (by omega) ?_
      · obtain rfl := Option.some.inj hb
        rw [Addr.add_lit, Nat.zero_add, cell_of_row _ _ j _ _ _ hg]
        have hj : j < 8 := by have := (List.getElem?_eq_some_iff.1 hu).1; rw [imem.ics_len] at this; omega
        rw [← ht, List.getElem?_take, if_pos hj] at hu
        simpa using hu
      · intro v' w' h1 h2
        rw [show imem.ics l ++ [Value.int .i64 v] = imem.ics (l ++ [v]) by rw [imem.ics_app]; rfl] at h1
        obtain ⟨A', c', rfl, h3⟩ := imem.owni_mk h1
        exact h A' c' w' (.inr (h3.less hlo)) (gb1 h2)
  · exact imem.append_rdi hgd s x 24 ho i Tryz.underlying24 hi hz hsz hby lo A n c l hs hown (some ad) 1 1 [v] hx ⟨rfl, fun _ => ⟨ad, rfl, fun j u hu => by
      cases j with
      | zero => simp at hu; subst hu; rw [show ad.add 0 = ad by unfold Addr.add; rw [if_pos rfl]]; exact hc
      | succ j => simp at hu⟩⟩ hb hlo (fun A' c' w' h1 h2 h3 => h A' c' w' (.inr h1) h3)

theorem gtrans {w wr w' : World} {g : Nat} {ob : Option Nat} (h : w.grownBy wr (some g)) (k : wr.grownBy w' ob) (hob : ∀ j, ob = some j → j = g ∨ w.heap.size ≤ j) : w.grownBy w' (some g) :=
  ⟨k.os.trans h.os, k.tape.trans h.tape, k.output.trans h.output, Nat.le_trans h.size k.size, fun i hi hne => (k.block i (Nat.lt_of_lt_of_le hi h.size) (fun e => by
    rcases hob i e.symm with e2 | e2
    · exact hne (by rw [e2])
    · omega)).trans (h.block i hi hne)⟩

end Go.Proofs.YtdglmnmalfpipaaGreatDoor.tree

/-
  Whether the slots of a table are linked as they must be, of the project.
  Conditions: those that each theorem names.
-/
namespace Go.Proofs.YtdglmnmalfpipaaGreatDoor.tree
open Go.ChangeShapes Go.WideShapes Go.ChangeAt Go.RowKit
set_option linter.unusedVariables false

theorem spot_none {w : World} {a : Addr} {v : Value} (h : w.cell? a = some v) : a.spot = none := by
  unfold World.cell? at h
  split at h
  · split at h
    · cases h
    · rename_i hs
      cases e : a.spot with
      | none => rfl
      | some k => rw [e] at hs; simp at hs
  · cases h
theorem equal_i (n : Nat) (hn : n ≤ 1048576) (lo g c d : Nat) (A : Option Addr) (xs ys : List Int) (w : World) (ho : imem.OwnI w lo (some ⟨g, 0, none⟩) n c xs) (hr : imem.RdI w A n ys) :
    Calls Tryz.prog 193 #[.slice (some ⟨g, 0, none⟩) n c, .slice A n d] w (BoQ w (decide (xs = ys))) := by
  have l1 := ho.len
  have l2 := hr.len
  rcases Nat.eq_zero_or_pos n with hz | hp
  · subst hz
    refine (Tryz.slices_Equal_int_empty _ A c 0 d w (by omega)).mono ?_
    rintro e w1 ⟨rfl, rfl⟩
    have e1 : xs = [] := List.eq_nil_of_length_eq_zero l1
    have e2 : ys = [] := List.eq_nil_of_length_eq_zero l2
    subst e1 e2
    exact ⟨rfl, Below.refl _ _⟩
  · obtain ⟨a, rfl, hc⟩ := hr.2 hp
    obtain ⟨v0, h0⟩ : ∃ v, ys[0]? = some v := ⟨_, List.getElem?_eq_getElem (by omega)⟩
    have hs := spot_none (hc 0 v0 h0)
    have ha0 : a.add 0 = a := by unfold Addr.add; rw [if_pos rfl]
    rw [ha0] at hs
    obtain ⟨ab, ao, asp⟩ := a
    simp only at hs
    subst hs
    refine (Tryz.slices_Equal_int g 0 n c ab ao n d xs ys w (by omega) (by omega) (by omega) (by omega) (fun j hj => ?_) (fun j hj => ?_)).mono ?_
    · have hx : xs[j]? = some xs[j] := List.getElem?_eq_getElem hj
      have := ho.row.cellAt j (by omega)
      rw [Nat.zero_add, this, imem.ics_get hx, List.getD, hx]
      rfl
    · have hy : ys[j]? = some ys[j] := List.getElem?_eq_getElem hj
      have := hc j _ hy
      rw [Addr.add_lit] at this
      rw [this, List.getD, hy]
      rfl
    · rintro e w1 ⟨rfl, q, rfl⟩
      refine ⟨?_, kbelow_drew _ _⟩
      rw [List.take_of_length_le (by omega), List.take_of_length_le (by omega)]
      by_cases e : xs = ys
      · subst e; simp
      · simp [e]

set_option maxRecDepth 100000 in
set_option maxHeartbeats 4000000 in
theorem rightLinks_i {l : List Int} {sl : List Sl} {b : Bool} {A : Option Addr} {n c : Nat} {B : Option Addr} {m d : Nat} {x k : Int} (w : World) {S : Nat → Prop} (hr : TbIn w S l sl A n c B m d x k) (hn : n ≤ 1048576) (hm : m ≤ 1048576) (hst : ∀ (j : Nat) t, sl[j]? = some t → t.key.str.size ≤ 140737488355328) :
    Calls Tryz.prog 136 #[tbV b A n c B m d x k] w (BoP w (rowL b n sl ∧ hs n sl m = l)) := by
  have HR := Lib.hid hr
  have HST := Lib.hid hst
  have hlen : Hid (sl.length = m) := Lib.hid hr.len
  clear hr hst
  have NH := fun w => newHeads_i n hn w
  go_enter Tryz.func136, Tryz.ntmps136
  go_wp2_with (fail)
  refine (NH _).mono ?_
  rintro e w1 ⟨g, rfl, hg, ho, hb⟩
  have HA0 := Lib.hid (carry hb (heap_alloc_new w _))
  have HB0 := Lib.hid (bs (b1 w _) hb)
  have HG : Hid (w.heap.size < g) := Lib.hid (by simp at hg; omega)
  have HO := Lib.hid (ho.less (show w.heap.size + 1 ≤ _ by simp))
  have r0 := (rowc HA0.out).1
  have z2 := r0 2
  simp at z2
  clear hb ho hg r0 NH
  go_wp2_with (fail)
  go_loopg [14] (m + 1) (fun gk i wr => ∃ j : Nat, i = .int .i64 j ∧ gk + j = m + 1 ∧ j ≤ m ∧ Hid (∀ (i : Nat) t, i < j → sl[i]? = some t → linkS b n sl i t) ∧
    Hid (wr.heap[w.heap.size]? = some (.cells #[.bool b, .slice A n c, .slice B m d, .int .i64 x, .int .i64 k] IT (0, 0))) ∧ Hid (imem.OwnI wr (w.heap.size + 1) (some ⟨g, 0, none⟩) n n (hs n sl j)) ∧ Hid (Below w.heap.size w wr))
  case atStart => exact ⟨0, rfl, by omega, by omega, Lib.hid (fun i t h => absurd h (by omega)), HA0, HO, HB0⟩
  case round =>
    clear z2 HA0 HB0 HO
    obtain ⟨j, rfl, hgj, hjm, HL, HA, HO, HB⟩ := hrel
    by_cases hlt : j < m
    · obtain ⟨t, htj⟩ : ∃ t, sl[j]? = some t := ⟨_, List.getElem?_eq_getElem (by have := hlen.out; omega)⟩
      obtain ⟨a, k1, n1, s1, x1, ks1, vs1, A1, c1, rfl, -, hyb, hlb, hv, hT, hcell⟩ := HR.out.slots j t htj
      have hc10 := hcell.stays (w' := wr) (fun hl => HB.out.block _ hl)
      have hys := HST.out j t htj
      have HSU := Lib.hid (hs_succ (n := n) htj)
      have HTJ := Lib.hid htj
      obtain ⟨⟨yb, yn, ys⟩, tv, tb, tl⟩ := t
      simp only at hyb hlb hv hT hc10 hys
      obtain ⟨L1, HL1⟩ : ∃ L, Hid (vs1.length = L) := ⟨_, Lib.hid rfl⟩
      rw [HL1.out] at hc10
      obtain ⟨p0, p1, p2, p3, p4, p5, p6, p7, p8, p9⟩ := hc10
      simp only at p0 p1 p2
      clear hyb hlb hT hcell htj hv
      go_upto_region 5 with fail
      obtain ⟨R, HRR⟩ : ∃ R, Hid (wr.heap.size = R) := ⟨_, Lib.hid rfl⟩
      rw [HRR.out]
      generalize hw1 : wr.alloc (.cells #[.bool yb, .int .i64 yn, .string ys, .int .i64 k1, .int .i64 n1, .string s1, .int .i64 x1, .slice A1 L1 c1, .bool tb, .int .i64 tl] 98) = w2
      have hb1 : Below wr.heap.size wr w2 := hw1 ▸ b1 wr _
      have H10 : Hid (w2.heap[R]? = some (.cells #[.bool yb, .int .i64 yn, .string ys, .int .i64 k1, .int .i64 n1, .string s1, .int .i64 x1, .slice A1 L1 c1, .bool tb, .int .i64 tl] 98 (0, 0))) := Lib.hid (by rw [← hw1, ← HRR.out]; exact heap_alloc_new wr _)
      have HB2 := Lib.hid (bs HB.out hb1)
      have HA2 := Lib.hid (carry hb1 HA.out)
      have HO2 := Lib.hid (HO.out.below hb1)
      have HGR : Hid (g < R) := Lib.hid (by have h1 := HO.out.block g rfl; have := HRR.out; omega)
      have r10 := (rowc H10.out).1
      have z0 := r10 0; have z1 := r10 1; have z2 := r10 2; have z9 := r10 9
      simp at z0 z1 z2 z9
      have y0 := (rowc HA2.out).1 0
      simp at y0
      clear hw1 hb1 r10 HA HO p0 p1 p2 p3 p4 p5 p6 p7 p8 p9
      obtain ⟨v, HV⟩ : ∃ v, Hid (lk n sl j ⟨yb, yn, ys⟩ = v) := ⟨_, Lib.hid rfl⟩
      have LS : Hid (∀ w', imem.OwnI w' (w.heap.size + 1) (some ⟨g, 0, none⟩) n n (hs n sl j) → Calls Tryz.prog 192 #[.slice (some ⟨g, 0, none⟩) n n, .agg #[.bool yb, .int .i64 yn, .string ys], .int .i64 j] w' (LkQ w' (w.heap.size + 1) (some ⟨g, 0, none⟩) n n v (hs n sl (j + 1)))) := Lib.hid (fun w' h => by
        have := linkSlot_i n n hn _ _ _ ⟨yb, yn, ys⟩ hys j w' h
        rw [HSU.out, ← HV.out]
        exact this)
      have NE := fun w => ky_eql w ⟨yb, yn, ys⟩ (ixK j)
      obtain ⟨q, HQ⟩ : ∃ q, Hid (decide ((⟨yb, yn, ys⟩ : Ky) = ixK j) = q) := ⟨_, Lib.hid rfl⟩
      rw [HQ.out] at NE
      unfold kyV ixK at NE
      simp only at NE
      cases b with
      | true =>
        have HIN : Hid (true = true ∨ (⟨yb, yn, ys⟩ : Ky) = ixK j) := Lib.hid (.inl rfl)
        by_cases htl : tl = v
        · subst htl
          go_wp2_with (fail)
          go_region_held3 (fun w' => w'.cell? ⟨R, 0, none⟩ = some (.bool yb) ∧ w'.cell? ⟨R, 1, none⟩ = some (.int .i64 yn) ∧ w'.cell? ⟨R, 2, none⟩ = some (.string ys) ∧ w'.cell? ⟨R, 9, none⟩ = some (.int .i64 tl)) (first | go_keep | exact ⟨z0, z1, z2, z9⟩) (first
            | (go_at_call 192; refine (LS.out w2.drew HO2.out).mono ?_
               rintro e w3 ⟨rfl, ho3, hg3⟩
               replace hg3 : w2.drew.grownBy w3 (some g) := hg3
               have h3 : w3.heap[R]? = _ := (hg3.block R (Array.getElem?_eq_some_iff.1 H10.out).1 (fun e => by injection e with e; have := HGR.out; omega)).trans H10.out
               have HA3 := Lib.hid ((hg3.block _ (Array.getElem?_eq_some_iff.1 HA2.out).1 (fun e => by injection e with e; have := HG.out; omega)).trans HA2.out)
               have HB3 := Lib.hid (HB2.out.drew.grown hg3 HB2.out.drew.size (fun b e => by injection e with e; have := HG.out; omega))
               have HO3 := Lib.hid ho3
               have r3 := (rowc h3).1
               have z0 := r3 0; have z1 := r3 1; have z2 := r3 2; have z9 := r3 9
               simp at z0 z1 z2 z9
               clear h3 hg3 ho3 r3))
          go_wp2_with (fail)
          go_roundg (m - j)
          case rel =>
            refine ⟨j + 1, by go_num, by omega, by omega, Lib.hid (fun i t hi ht => ?_), HA3, HO3, HB3⟩
            rcases Nat.lt_or_ge i j with h | h
            · exact HL.out i t h ht
            · obtain rfl : i = j := by omega
              rw [HTJ.out] at ht
              obtain rfl := Option.some.inj ht
              exact ⟨by simp, HV.out.symm⟩
          case measure => omega
        · have htl2 : (tl != v) = true := by simp [htl]
          have HF : Hid (false = true ↔ (rowL true n sl ∧ hs n sl m = l)) := Lib.hid ⟨fun h => (by cases h), fun h => absurd ((h.1 j _ HTJ.out).2.trans HV.out) htl⟩
          clear htl
          go_wp2_with (fail)
          go_region_held3 (fun w' => w'.cell? ⟨R, 0, none⟩ = some (.bool yb) ∧ w'.cell? ⟨R, 1, none⟩ = some (.int .i64 yn) ∧ w'.cell? ⟨R, 2, none⟩ = some (.string ys) ∧ w'.cell? ⟨R, 9, none⟩ = some (.int .i64 tl)) (first | go_keep | exact ⟨z0, z1, z2, z9⟩) (first
            | (go_at_call 192; refine (LS.out w2.drew HO2.out).mono ?_
               rintro e w3 ⟨rfl, ho3, hg3⟩
               replace hg3 : w2.drew.grownBy w3 (some g) := hg3
               have h3 : w3.heap[R]? = _ := (hg3.block R (Array.getElem?_eq_some_iff.1 H10.out).1 (fun e => by injection e with e; have := HGR.out; omega)).trans H10.out
               have HB3 := Lib.hid (HB2.out.drew.grown hg3 HB2.out.drew.size (fun b e => by injection e with e; have := HG.out; omega))
               have r3 := (rowc h3).1
               have z0 := r3 0; have z1 := r3 1; have z2 := r3 2; have z9 := r3 9
               simp at z0 z1 z2 z9
               clear h3 hg3 ho3 r3))
          go_wp2_with (fail)
          go_ret
          exact BoP.of HF.out HB3.out
      | false =>
        cases q with
        | true =>
          have HIN : Hid (false = true ∨ (⟨yb, yn, ys⟩ : Ky) = ixK j) := Lib.hid (.inr (of_decide_eq_true HQ.out))
          by_cases htl : tl = v
          · subst htl
            go_wp2_with (fail)
            go_region_held3 (fun w' => w'.cell? ⟨R, 0, none⟩ = some (.bool yb) ∧ w'.cell? ⟨R, 1, none⟩ = some (.int .i64 yn) ∧ w'.cell? ⟨R, 2, none⟩ = some (.string ys) ∧ w'.cell? ⟨R, 9, none⟩ = some (.int .i64 tl)) (first | go_keep | exact ⟨z0, z1, z2, z9⟩) (first
              | (go_at_call 192; refine (LS.out w2.drew HO2.out).mono ?_
                 rintro e w3 ⟨rfl, ho3, hg3⟩
                 replace hg3 : w2.drew.grownBy w3 (some g) := hg3
                 have h3 : w3.heap[R]? = _ := (hg3.block R (Array.getElem?_eq_some_iff.1 H10.out).1 (fun e => by injection e with e; have := HGR.out; omega)).trans H10.out
                 have HA3 := Lib.hid ((hg3.block _ (Array.getElem?_eq_some_iff.1 HA2.out).1 (fun e => by injection e with e; have := HG.out; omega)).trans HA2.out)
                 have HB3 := Lib.hid (HB2.out.drew.grown hg3 HB2.out.drew.size (fun b e => by injection e with e; have := HG.out; omega))
                 have HO3 := Lib.hid ho3
                 have r3 := (rowc h3).1
                 have z0 := r3 0; have z1 := r3 1; have z2 := r3 2; have z9 := r3 9
                 simp at z0 z1 z2 z9
                 clear h3 hg3 ho3 r3))
            go_wp2_with (fail)
            go_roundg (m - j)
            case rel =>
              refine ⟨j + 1, by go_num, by omega, by omega, Lib.hid (fun i t hi ht => ?_), HA3, HO3, HB3⟩
              rcases Nat.lt_or_ge i j with h | h
              · exact HL.out i t h ht
              · obtain rfl : i = j := by omega
                rw [HTJ.out] at ht
                obtain rfl := Option.some.inj ht
                exact ⟨by simpa using HIN.out, HV.out.symm⟩
            case measure => omega
          · have htl2 : (tl != v) = true := by simp [htl]
            have HF : Hid (false = true ↔ (rowL false n sl ∧ hs n sl m = l)) := Lib.hid ⟨fun h => (by cases h), fun h => absurd ((h.1 j _ HTJ.out).2.trans HV.out) htl⟩
            clear htl
            go_wp2_with (fail)
            go_region_held3 (fun w' => w'.cell? ⟨R, 0, none⟩ = some (.bool yb) ∧ w'.cell? ⟨R, 1, none⟩ = some (.int .i64 yn) ∧ w'.cell? ⟨R, 2, none⟩ = some (.string ys) ∧ w'.cell? ⟨R, 9, none⟩ = some (.int .i64 tl)) (first | go_keep | exact ⟨z0, z1, z2, z9⟩) (first
              | (go_at_call 192; refine (LS.out w2.drew HO2.out).mono ?_
                 rintro e w3 ⟨rfl, ho3, hg3⟩
                 replace hg3 : w2.drew.grownBy w3 (some g) := hg3
                 have h3 : w3.heap[R]? = _ := (hg3.block R (Array.getElem?_eq_some_iff.1 H10.out).1 (fun e => by injection e with e; have := HGR.out; omega)).trans H10.out
                 have HB3 := Lib.hid (HB2.out.drew.grown hg3 HB2.out.drew.size (fun b e => by injection e with e; have := HG.out; omega))
                 have r3 := (rowc h3).1
                 have z0 := r3 0; have z1 := r3 1; have z2 := r3 2; have z9 := r3 9
                 simp at z0 z1 z2 z9
                 clear h3 hg3 ho3 r3))
            go_wp2_with (fail)
            go_ret
            exact BoP.of HF.out HB3.out
        | false =>
          have HF : Hid (false = true ↔ (rowL false n sl ∧ hs n sl m = l)) := Lib.hid ⟨fun h => (by cases h), fun h => by
            rcases (h.1 j _ HTJ.out).1 with h | h
            · cases h
            · exact absurd h (of_decide_eq_false HQ.out)⟩
          go_wp2_with (fail)
          go_quiet ((fail))
          go_wp2_with (fail)
          go_ret
          exact BoP.of HF.out (bs HB2.out (kbelow_drew _ _))
    · obtain rfl : j = m := by omega
      have EQ := Lib.hid (equal_i n hn _ g n c A _ l wr HO.out (HR.out.heads.below HB.out))
      have HF : Hid (decide (hs n sl j = l) = true ↔ (rowL b n sl ∧ hs n sl j = l)) := Lib.hid (by
        rw [decide_eq_true_eq]
        exact ⟨fun h => ⟨fun i t ht => HL.out i t (by have := (List.getElem?_eq_some_iff.1 ht).1; have := hlen.out; omega) ht, h⟩, fun h => h.2⟩)
      obtain ⟨q, HQ⟩ : ∃ q, Hid (decide (hs n sl j = l) = q) := ⟨_, Lib.hid rfl⟩
      rw [HQ.out] at EQ HF
      have z1 := (rowc HA.out).1 1
      simp at z1
      go_wp2_with (fail)
      refine (EQ.out).mono ?_
      rintro e w2 ⟨rfl, hb2⟩
      have HB2 := Lib.hid (bs HB.out hb2)
      clear hb2 z1
      go_wp2_with (fail)
      go_ret
      exact BoP.of HF.out HB2.out

end Go.Proofs.YtdglmnmalfpipaaGreatDoor.tree

/-
  Whether the slots of a table are sound, each by itself and all together, of the project.
  Conditions: those that each theorem names; the package variables of the library's reading of numbers hold what the program's text lays.
-/
namespace Go.Proofs.YtdglmnmalfpipaaGreatDoor.tree
open Go.ChangeShapes Go.WideShapes Go.ChangeAt Go.RowKit
set_option linter.unusedVariables false

/-- Block B is a map of c entries that holds f. -/
def HoldsC (w : World) (B : Nat) (f : Value → Option Value) (c : Nat) : Prop :=
  ∃ es clock, w.heap[B]? = some (.map es clock) ∧ (∀ e ∈ es.toList, GK w e.key) ∧ f = raw.look es.toList ∧ es.size = c
theorem HoldsC.holds {w : World} {B c : Nat} {f : Value → Option Value} (h : HoldsC w B f c) : raw.Holds w GK B f := by
  obtain ⟨es, clock, h1, h2, h3, -⟩ := h
  exact ⟨es, clock, h1, h2, h3⟩
theorem HoldsC.made (w : World) : HoldsC (w.alloc (.map #[] 0)) w.heap.size (fun _ => none) 0 := by
  obtain ⟨es, clock, h1, h2, h3⟩ := raw.Holds.made w GK
  refine ⟨#[], 0, ?_, by simp, rfl, rfl⟩
  show (w.heap.push _)[w.heap.size]? = _
  simp
theorem HoldsC.kept {w w' : World} {B c : Nat} {f : Value → Option Value} (h : HoldsC w B f c) (hb : w'.heap[B]? = w.heap[B]?) : HoldsC w' B f c := by
  obtain ⟨es, clock, h1, h2, h3, h4⟩ := h
  exact ⟨es, clock, hb.trans h1, h2, h3, h4⟩
theorem HoldsC.update {P : Program} {w : World} {B c : Nat} {f : Value → Option Value} (h : HoldsC w B f c) {K E T : TypeId} (g : raw.Good P K GK) (ht : P.underlying T = some (.map K E)) {k v : Value} (hk : GK w k) (hf : f k = none) :
    ∃ w', (Instr.mapUpdate T (.map (some B)) k v).run P w = .ok () w' ∧ HoldsC w' B (raw.put f k v) (c + 1) ∧ w.grownBy w' (some B) := by
  obtain ⟨es, clock, hb, hall, rfl, rfl⟩ := h
  have hchk := g.check w false k hk
  have gr : ∀ (o : Obj), w.grownBy { w with heap := w.heap.setIfInBounds B o } (some B) := fun o => ⟨rfl, rfl, rfl, by simp, fun i _ hi => (MapKept.heap_set (o' := o) hb).2 i (fun e => hi (by rw [e]))⟩
  rcases raw.find g w hk es.toList 0 hall with ⟨h1, h2⟩ | ⟨j, e, h1, h2, h3, h4, h5⟩
  · have hfk := (run_findKey_eq w g.wide k es.toList).trans h1
    refine ⟨{ w with heap := w.heap.setIfInBounds B (.map (es.push { key := k, val := v, born := clock }) (clock + 1)) }, by simp [Instr.mapUpdate, run_underlying ht, MapKept.run_getObj_map hb, hchk, hfk, MapKept.run_setObj_map _ hb, Result.andThen], ⟨_, _, (MapKept.heap_set hb).1, ?_, ?_, by simp⟩, gr _⟩
    · intro x hx
      simp only [Array.toList_push, List.mem_append, List.mem_singleton] at hx
      rcases hx with hx | rfl
      · exact hall x hx
      · exact hk
    · rw [Array.toList_push]
      exact (raw.look_push es.toList ⟨k, v, clock⟩ h2).symm
  · rw [hf] at h4
    cases h4
theorem HoldsC.len {P : Program} {w : World} {B c : Nat} {f : Value → Option Value} (h : HoldsC w B f c) {K E T : TypeId} (ht : P.underlying T = some (.map K E)) (ty : TypeId) : (Builtin.len_ #[T] ty #[.map (some B)]).run P w = .ok (.int .i64 c) w := by
  obtain ⟨es, clock, hb, -, -, rfl⟩ := h
  simp [Builtin.len_, run_underlying ht, MapKept.run_getObj_map hb, goInt, Result.andThen]
/-- 'm[k] = v' of a new key at the operation. -/
theorem wpList_updateC {P : Program} (w : World) {ops : Array Oper} {rest : List Oper} {o : Oper} {a : Act} {Q : Exit → Act → World → Prop}
    (hg : o.guard = none) (m x v : Operand) (t : TypeId) (hop : o.op = Op.mapUpdate t m x v)
    {K E : TypeId} {B c : Nat} {f : Value → Option Value} (hown : HoldsC w B f c) (g : raw.Good P K GK) (ht : P.underlying t = some (.map K E))
    (hm : a.eval m = .map (some B)) {k val : Value} (hx : a.eval x = k) (hv : a.eval v = val) (hk : GK w k) (hf : f k = none)
    (hK : ∀ w', HoldsC w' B (raw.put f k val) (c + 1) → w.grownBy w' (some B) → wpList P ops Q rest (a.put o.dst undef) w') :
    wpList P ops Q (o :: rest) a w := by
  refine wpList_plain hg fun K' hK' => ?_
  obtain ⟨w', hrun, r1, r2⟩ := hown.update g ht (v := val) hk hf
  unfold Oper.wp
  simp [execOp, hop, hm, hx, hv, hrun, Result.andThen]
  exact hK' _ _ (hK w' r1 r2)

theorem val_zero {k n : Int} {s : ByteArray} {x : Int} {ks : List Ky} {vs : List Tr} (hk : k = 0) : valB (.mk k n s x ks vs) = true ↔ zeroT (.mk k n s x ks vs) := by
  subst hk
  unfold valB lightB
  rw [wgt_not (by decide), snd_not (by decide)]
  unfold zeroT restB scalB
  simp
  constructor
  · rintro ⟨⟨h1, h2, h3⟩, h4⟩; exact ⟨h4, h1, h2, h3⟩
  · rintro ⟨h4, h1, h2, h3⟩; exact ⟨⟨h1, h2, h3⟩, h4⟩

set_option maxRecDepth 100000 in
set_option maxHeartbeats 4000000 in
theorem soundSlots_i {l : List Int} {sl : List Sl} {b : Bool} {A : Option Addr} {n c : Nat} {B : Option Addr} {m d : Nat} {x k : Int} (w : World) {S : Nat → Prop} (hr : TbIn w S l sl A n c B m d x k) (hm : m ≤ 1048576) (hst : ∀ (j : Nat) t, sl[j]? = some t → t.key.str.size ≤ 140737488355328 ∧ tot t.val ≤ 281474976710656) (hE : prs.Env w) :
    Calls Tryz.prog 135 #[tbV b A n c B m d x k] w (BoP w (rowS x sl ∧ ((livK sl).length : Int) = k)) := by
  have HR := Lib.hid hr
  have HST := Lib.hid hst
  have HEN := Lib.hid hE
  have hlen : Hid (sl.length = m) := Lib.hid hr.len
  clear hr hst hE
  have hmm := @run_makeMap Tryz.prog
  go_enter Tryz.func135, Tryz.ntmps135
  go_wp2_with (fail)
  clear hmm
  go_loopg [10] (m + 1) (fun gk i wr => ∃ (j : Nat) (e : Value → Option Value), i = .int .i64 j ∧ gk + j = m + 1 ∧ j ≤ m ∧ Hid (∀ (i : Nat) t, i < j → sl[i]? = some t → soundS x sl i t) ∧
    Hid (wr.heap[w.heap.size]? = some (.cells #[.bool b, .slice A n c, .slice B m d, .int .i64 x, .int .i64 k] IT (0, 0))) ∧ Hid (SeenK (livK (sl.take j)) e) ∧ Hid (HoldsC wr (w.heap.size + 1) e (livK (sl.take j)).length) ∧ Hid (Below w.heap.size w wr))
  case atStart =>
    have h1 := HoldsC.made (w.alloc (.cells #[.bool b, .slice A n c, .slice B m d, .int .i64 x, .int .i64 k] IT))
    have z1 : (w.alloc (.cells #[.bool b, .slice A n c, .slice B m d, .int .i64 x, .int .i64 k] IT)).heap.size = w.heap.size + 1 := by simp
    rw [z1] at h1
    exact ⟨0, fun _ => none, rfl, by omega, by omega, Lib.hid (fun i t h => absurd h (by omega)), Lib.hid (heap_alloc2_old w _ _), Lib.hid (fun y => by simp [livK, liv]), Lib.hid h1, Lib.hid (b2 _ _ _)⟩
  case round =>
    obtain ⟨j, e, rfl, hgj, hjm, HL, HA, HS, HM, HB⟩ := hrel
    by_cases hlt : j < m
    · obtain ⟨t, htj⟩ : ∃ t, sl[j]? = some t := ⟨_, List.getElem?_eq_getElem (by have := hlen.out; omega)⟩
      obtain ⟨a, k1, n1, s1, x1, ks1, vs1, A1, c1, rfl, -, hyb, hlb, hv, hT, hcell⟩ := HR.out.slots j t htj
      have hc10 := hcell.stays (w' := wr) (fun hl => HB.out.block _ hl)
      have hys := HST.out j t htj
      have HLT := Lib.hid (livK_take htj)
      have HTJ := Lib.hid htj
      obtain ⟨⟨yb, yn, ys⟩, tv, tb, tl⟩ := t
      simp only at hyb hlb hv hT hc10 hys
      subst hv
      obtain ⟨q1, HQ1⟩ : ∃ q, Hid (belowB ⟨yb, yn, ys⟩ x = q) := ⟨_, Lib.hid rfl⟩
      obtain ⟨q2, HQ2⟩ : ∃ q, Hid (valB (.mk k1 n1 s1 x1 ks1 vs1) = q) := ⟨_, Lib.hid rfl⟩
      have KB : Hid (∀ w' : World, Below w.heap.size w w' → Calls Tryz.prog 191 #[.agg #[.bool yb, .int .i64 yn, .string ys], .int .i64 x] w' (BoQ w' q1)) := Lib.hid fun w' hb' => HQ1.out ▸ keyBelow_i ⟨yb, yn, ys⟩ (by have := hys.1; show ys.size ≤ _; have : ys.size ≤ 140737488355328 := this; omega) x w' (HEN.out.stays hb')
      have IV0 : Hid (∀ w' : World, Below w.heap.size w w' → Calls Tryz.prog 32 #[vV k1 n1 s1 x1 A1 vs1.length c1] w' (BoQ w' q2)) := Lib.hid fun w' hb' => HQ2.out ▸ isValue_i _ hys.2 w' S _ (HEN.out.stays hb') (hT.below' hb')
      obtain ⟨L1, HL1⟩ : ∃ L, Hid (vs1.length = L) := ⟨_, Lib.hid rfl⟩
      rw [HL1.out] at hc10 IV0
      unfold vV at IV0
      obtain ⟨p0, p1, p2, p3, p4, p5, p6, p7, p8, p9⟩ := hc10
      simp only at p0 p1 p2
      clear hyb hlb hT hcell htj hys
      go_upto_region 5 with fail
      obtain ⟨R, HRR⟩ : ∃ R, Hid (wr.heap.size = R) := ⟨_, Lib.hid rfl⟩
      rw [HRR.out]
      generalize hw1 : wr.alloc (.cells #[.bool yb, .int .i64 yn, .string ys, .int .i64 k1, .int .i64 n1, .string s1, .int .i64 x1, .slice A1 L1 c1, .bool tb, .int .i64 tl] 98) = w2
      have hb1 : Below wr.heap.size wr w2 := hw1 ▸ b1 wr _
      have H10 : Hid (w2.heap[R]? = some (.cells #[.bool yb, .int .i64 yn, .string ys, .int .i64 k1, .int .i64 n1, .string s1, .int .i64 x1, .slice A1 L1 c1, .bool tb, .int .i64 tl] 98 (0, 0))) := Lib.hid (by rw [← hw1, ← HRR.out]; exact heap_alloc_new wr _)
      have HMR : Hid (w.heap.size + 1 < R) := Lib.hid (by have := HM.out.holds.lt; have := HRR.out; omega)
      replace HM := Lib.hid (HM.out.kept (hb1.block _ HM.out.holds.lt))
      replace HB := Lib.hid (bs HB.out hb1)
      replace HA := Lib.hid (carry hb1 HA.out)
      have r10 := (rowc H10.out).1
      have z0 := r10 0; have z1 := r10 1; have z2 := r10 2
      simp at z0 z1 z2
      have y3 := (rowc HA.out).1 3
      simp at y3
      clear hw1 hb1 r10 p0 p1 p2 p3 p4 p5 p6 p7 p8 p9
      go_wp2_with (fail)
      refine (KB.out _ HB.out).mono ?_
      rintro e1 w3 ⟨rfl, hb1⟩
      replace HM := Lib.hid (HM.out.kept (hb1.block _ HM.out.holds.lt))
      replace HB := Lib.hid (bs HB.out hb1)
      replace HA := Lib.hid (carry hb1 HA.out)
      replace H10 := Lib.hid (carry hb1 H10.out)
      have r10 := (rowc H10.out).1
      clear z0 z1 z2 y3 hb1
      have z0 := r10 0; have z1 := r10 1; have z2 := r10 2; have z3 := r10 3; have z4 := r10 4; have z5 := r10 5; have z6 := r10 6; have z7 := r10 7; have z8 := r10 8
      simp at z0 z1 z2 z3 z4 z5 z6 z7 z8
      clear r10
      cases q1 with
      | false =>
        have HF : Hid (false = true ↔ (rowS x sl ∧ ((livK sl).length : Int) = k)) := Lib.hid ⟨fun h => (by cases h), fun h => by
          have h1 := (h.1 j _ HTJ.out).1
          have h2 := HQ1.out
          unfold belowB at h2
          rw [h2] at h1
          cases h1⟩
        go_wp2_with (fail)
        go_ret
        exact BoP.of HF.out HB.out
      | true =>
        have hkk : ∀ w' : World, GK w' (.agg #[.bool yb, .int .i64 yn, .string ys]) := fun _ => ⟨⟨yb, yn, ys⟩, rfl⟩
        by_cases hsn : (⟨yb, yn, ys⟩ : Ky) ∈ livK (sl.take j)
        · have HEK : Hid (e (.agg #[.bool yb, .int .i64 yn, .string ys]) = some (.bool true)) := Lib.hid ((HS.out ⟨yb, yn, ys⟩).trans (if_pos hsn))
          cases tb with
          | true =>
            have HF : Hid (false = true ↔ (rowS x sl ∧ ((livK sl).length : Int) = k)) := Lib.hid ⟨fun h => (by cases h), fun h => absurd hsn ((h.1 j _ HTJ.out).2.1 rfl)⟩
            clear hsn
            go_wp2_with (first | (at_lookup; refine raw.wpList_lookup_w _ (by rfl) _ _ 206 false rfl HM.out.holds good_ky Tryz.underlying206 (kzero _) rfl rfl (hkk _) HEK.out (kgot_some _ _) ?_) | fail)
            go_ret
            exact BoP.of HF.out HB.out
          | false =>
            clear hsn
            by_cases hk : k1 = 0
            · have HVZ : Hid (q2 = true ↔ zeroT (.mk k1 n1 s1 x1 ks1 vs1)) := Lib.hid (by rw [← HQ2.out]; exact val_zero hk)
              subst hk
              go_wp2_with (first | (at_lookup; refine raw.wpList_lookup_w _ (by rfl) _ _ 206 false rfl HM.out.holds good_ky Tryz.underlying206 (kzero _) rfl rfl (hkk _) HEK.out (kgot_some _ _) ?_) | fail)
              refine (IV0.out _ HB.out).mono ?_
              rintro e2 w4 ⟨rfl, hb1⟩
              replace HM := Lib.hid (HM.out.kept (hb1.block _ HM.out.holds.lt))
              replace HB := Lib.hid (bs HB.out hb1)
              replace HA := Lib.hid (carry hb1 HA.out)
              clear hb1 z0 z1 z2 z3 z4 z5 z6 z7 z8
              cases q2 with
              | false =>
                have HF : Hid (false = true ↔ (rowS x sl ∧ ((livK sl).length : Int) = k)) := Lib.hid ⟨fun h => (by cases h), fun h => absurd (HVZ.out.2 ((h.1 j _ HTJ.out).2.2 rfl)) (by decide)⟩
                go_wp2_with (fail)
                go_ret
                exact BoP.of HF.out HB.out
              | true =>
                have HL2 : Hid (livK (sl.take (j + 1)) = livK (sl.take j)) := Lib.hid (by have := HLT.out; simpa using this)
                have HVT : Hid (zeroT (.mk 0 n1 s1 x1 ks1 vs1)) := Lib.hid (HVZ.out.1 rfl)
                have HQT : Hid (belowB ⟨yb, yn, ys⟩ x = true) := Lib.hid HQ1.out
                go_wp2_with (fail)
                go_roundg (m - j)
                case rel =>
                  refine ⟨j + 1, e, by go_num, by omega, by omega, Lib.hid (fun i t hi ht => ?_), HA, Lib.hid (by rw [HL2.out]; exact HS.out), Lib.hid (by rw [HL2.out]; exact HM.out), HB⟩
                  rcases Nat.lt_or_ge i j with h | h
                  · exact HL.out i t h ht
                  · obtain rfl : i = j := by omega
                    rw [HTJ.out] at ht
                    obtain rfl := Option.some.inj ht
                    exact ⟨HQ1.out, fun h => (by cases h), fun _ => HVT.out⟩
                case measure => omega
            · have hk2 : (k1 != 0) = true := by simp [hk]
              have HF : Hid (false = true ↔ (rowS x sl ∧ ((livK sl).length : Int) = k)) := Lib.hid ⟨fun h => (by cases h), fun h => absurd ((h.1 j _ HTJ.out).2.2 rfl).1 hk⟩
              clear hk
              go_wp2_with (first | (at_lookup; refine raw.wpList_lookup_w _ (by rfl) _ _ 206 false rfl HM.out.holds good_ky Tryz.underlying206 (kzero _) rfl rfl (hkk _) HEK.out (kgot_some _ _) ?_) | fail)
              go_ret
              exact BoP.of HF.out HB.out
        · have HEK : Hid (e (.agg #[.bool yb, .int .i64 yn, .string ys]) = none) := Lib.hid ((HS.out ⟨yb, yn, ys⟩).trans (if_neg hsn))
          cases tb with
          | true =>
            have HSN := Lib.hid hsn
            have HL2 : Hid (livK (sl.take (j + 1)) = livK (sl.take j) ++ [⟨yb, yn, ys⟩]) := Lib.hid (by have := HLT.out; simpa using this)
            clear hsn
            go_wp2_with (first
              | (at_lookup; refine raw.wpList_lookup_w _ (by rfl) _ _ 206 false rfl HM.out.holds good_ky Tryz.underlying206 (kzero _) rfl rfl (hkk _) HEK.out (kgot_none _) ?_)
              | (at_mapUpdate; refine wpList_updateC _ rfl _ _ _ 206 rfl HM.out good_ky Tryz.underlying206 rfl rfl rfl (hkk _) HEK.out ?_
                 intro w4 hm14 hgr4
                 have HM4 := Lib.hid hm14
                 have HGR4 := Lib.hid hgr4
                 clear hm14 hgr4)
              | fail)
            go_roundg (m - j)
            case rel =>
              refine ⟨j + 1, _, by go_num, by omega, by omega, Lib.hid (fun i t hi ht => ?_), Lib.hid ((HGR4.out.block _ (Array.getElem?_eq_some_iff.1 HA.out).1 (fun h => by injection h with h; omega)).trans HA.out), Lib.hid (by rw [HL2.out]; exact HS.out.push _), Lib.hid (by rw [HL2.out, List.length_append]; exact HM4.out), Lib.hid (HB.out.grown HGR4.out HB.out.size (fun h e => by injection e with e; omega))⟩
              rcases Nat.lt_or_ge i j with h | h
              · exact HL.out i t h ht
              · obtain rfl : i = j := by omega
                rw [HTJ.out] at ht
                obtain rfl := Option.some.inj ht
                exact ⟨HQ1.out, fun _ => HSN.out, fun h => (by cases h)⟩
            case measure => omega
          | false =>
            clear hsn
            by_cases hk : k1 = 0
            · have HVZ : Hid (q2 = true ↔ zeroT (.mk k1 n1 s1 x1 ks1 vs1)) := Lib.hid (by rw [← HQ2.out]; exact val_zero hk)
              subst hk
              go_wp2_with (first | (at_lookup; refine raw.wpList_lookup_w _ (by rfl) _ _ 206 false rfl HM.out.holds good_ky Tryz.underlying206 (kzero _) rfl rfl (hkk _) HEK.out (kgot_none _) ?_) | fail)
              refine (IV0.out _ HB.out).mono ?_
              rintro e2 w4 ⟨rfl, hb1⟩
              replace HM := Lib.hid (HM.out.kept (hb1.block _ HM.out.holds.lt))
              replace HB := Lib.hid (bs HB.out hb1)
              replace HA := Lib.hid (carry hb1 HA.out)
              clear hb1 z0 z1 z2 z3 z4 z5 z6 z7 z8
              cases q2 with
              | false =>
                have HF : Hid (false = true ↔ (rowS x sl ∧ ((livK sl).length : Int) = k)) := Lib.hid ⟨fun h => (by cases h), fun h => absurd (HVZ.out.2 ((h.1 j _ HTJ.out).2.2 rfl)) (by decide)⟩
                go_wp2_with (fail)
                go_ret
                exact BoP.of HF.out HB.out
              | true =>
                have HL2 : Hid (livK (sl.take (j + 1)) = livK (sl.take j)) := Lib.hid (by have := HLT.out; simpa using this)
                have HVT : Hid (zeroT (.mk 0 n1 s1 x1 ks1 vs1)) := Lib.hid (HVZ.out.1 rfl)
                have HQT : Hid (belowB ⟨yb, yn, ys⟩ x = true) := Lib.hid HQ1.out
                go_wp2_with (fail)
                go_roundg (m - j)
                case rel =>
                  refine ⟨j + 1, e, by go_num, by omega, by omega, Lib.hid (fun i t hi ht => ?_), HA, Lib.hid (by rw [HL2.out]; exact HS.out), Lib.hid (by rw [HL2.out]; exact HM.out), HB⟩
                  rcases Nat.lt_or_ge i j with h | h
                  · exact HL.out i t h ht
                  · obtain rfl : i = j := by omega
                    rw [HTJ.out] at ht
                    obtain rfl := Option.some.inj ht
                    exact ⟨HQ1.out, fun h => (by cases h), fun _ => HVT.out⟩
                case measure => omega
            · have hk2 : (k1 != 0) = true := by simp [hk]
              have HF : Hid (false = true ↔ (rowS x sl ∧ ((livK sl).length : Int) = k)) := Lib.hid ⟨fun h => (by cases h), fun h => absurd ((h.1 j _ HTJ.out).2.2 rfl).1 hk⟩
              clear hk
              go_wp2_with (first | (at_lookup; refine raw.wpList_lookup_w _ (by rfl) _ _ 206 false rfl HM.out.holds good_ky Tryz.underlying206 (kzero _) rfl rfl (hkk _) HEK.out (kgot_none _) ?_) | fail)
              go_ret
              exact BoP.of HF.out HB.out
    · obtain rfl : j = m := by omega
      have hln := fun ty => HM.out.len Tryz.underlying206 ty
      have e1 : sl.take j = sl := by rw [← hlen.out, List.take_length]
      rw [e1] at hln
      obtain ⟨c2, HC⟩ : ∃ c2, Hid ((livK sl).length = c2) := ⟨_, Lib.hid rfl⟩
      rw [HC.out] at hln
      have HF : Hid ((k == (c2 : Int)) = true ↔ (rowS x sl ∧ ((livK sl).length : Int) = k)) := Lib.hid (by
        rw [HC.out, beq_iff_eq]
        exact ⟨fun h => ⟨fun i t ht => HL.out i t (by have := (List.getElem?_eq_some_iff.1 ht).1; have := hlen.out; omega) ht, h.symm⟩, fun h => h.2.symm⟩)
      have z4 := (rowc HA.out).1 4
      simp at z4
      clear e1
      go_wp2_with (fail)
      go_ret
      exact BoP.of HF.out HB.out

end Go.Proofs.YtdglmnmalfpipaaGreatDoor.tree

/-
  Whether a table is sound, of the project.
  Conditions: those that each theorem names; the package variables of the library's reading of numbers hold what the program's text lays.
-/
namespace Go.Proofs.YtdglmnmalfpipaaGreatDoor.tree
open Go.ChangeShapes Go.WideShapes Go.ChangeAt Go.RowKit
set_option linter.unusedVariables false

/-- The bounds that a law's size gives. -/
structure SlB (sl : List Sl) : Prop where
  str : ∀ (j : Nat) t, sl[j]? = some t → t.key.str.size ≤ 140737488355328
  tot : ∀ (j : Nat) t, sl[j]? = some t → tot t.val ≤ 281474976710656

set_option maxHeartbeats 1000000 in
theorem isTable_i {l : List Int} {sl : List Sl} {b : Bool} {A : Option Addr} {n c : Nat} {B : Option Addr} {m d : Nat} {x k : Int} (w : World) {S : Nat → Prop} (hr : TbIn w S l sl A n c B m d x k) (hn : n ≤ 1048576) (hm : m ≤ 1048576) (hst : SlB sl) (hE : prs.Env w) :
    Calls Tryz.prog 60 #[tbV b A n c B m d x k] w (BoP w (tabOk b l sl x k)) := by
  have hln : l.length = n := hr.heads.len
  have hlm : sl.length = m := hr.len
  have HR : Hid (∀ w', Below w.heap.size w w' → TbIn w' S l sl A n c B m d x k) := Lib.hid fun w' hb => ⟨hr.heads.below hb, hr.hn, hr.len, hr.cap, hr.slots.below hb, hr.next, hr.count⟩
  have HEN := Lib.hid hE
  have HST := Lib.hid hst
  obtain ⟨q, HQ⟩ : ∃ q, Hid (nums.inr x 0 1000000001 = q) := ⟨_, Lib.hid rfl⟩
  have IR := fun w => HQ.out ▸ nums.implInRange x 0 1000000001 w
  have HT : Hid (tabOk b l sl x k ↔ (q = true ∧ sizeP b n m x ∧ (rowS x sl ∧ ((livK sl).length : Int) = k) ∧ (rowL b n sl ∧ hs n sl m = l))) := Lib.hid (by
    unfold tabOk
    rw [hln, hlm, ← HQ.out]
    unfold nums.inr
    simp)
  clear hr hE hst
  clear hln hlm
  cases q with
  | false =>
    have HF : Hid (false = true ↔ tabOk b l sl x k) := Lib.hid (by rw [HT.out]; simp)
    go_enter Tryz.func60, Tryz.ntmps60
    go_wp2_with (fail)
    refine (IR _).mono ?_
    rintro e w1 ⟨rfl, rfl⟩
    go_wp2_with (fail)
    go_ret
    exact BoP.of HF.out (b1 _ _)
  | true =>
    have hx : 0 ≤ x := by have := HQ.out; unfold nums.inr at this; simp at this; omega
    have RS := fun w => rightSize_i b A n c B m d x k hn hm hx w
    have SS : Hid (∀ w', Below w.heap.size w w' → Calls Tryz.prog 135 #[tbV b A n c B m d x k] w' (BoP w' (rowS x sl ∧ ((livK sl).length : Int) = k))) := Lib.hid fun w' hb => soundSlots_i w' (HR.out w' hb) hm (fun j t h => ⟨HST.out.str j t h, HST.out.tot j t h⟩) (HEN.out.stays hb)
    have RL : Hid (∀ w', Below w.heap.size w w' → Calls Tryz.prog 136 #[tbV b A n c B m d x k] w' (BoP w' (rowL b n sl ∧ hs n sl m = l))) := Lib.hid fun w' hb => rightLinks_i w' (HR.out w' hb) hn hm HST.out.str
    clear hx
    go_enter Tryz.func60, Tryz.ntmps60
    go_wp2_with (fail)
    refine (IR _).mono ?_
    rintro e w1 ⟨rfl, rfl⟩
    go_wp2_with (fail)
    refine (RS _).mono ?_
    rintro e w2 ⟨q1, rfl, h1, hb⟩
    have HA := Lib.hid (carry hb (heap_alloc_new _ _))
    have HB := Lib.hid (bs (b1 _ _) hb)
    have H1 := Lib.hid h1
    have r := (rowc HA.out).1
    have z0 := r 0; have z1 := r 1; have z2 := r 2; have z3 := r 3; have z4 := r 4
    simp at z0 z1 z2 z3 z4
    clear hb h1 r
    cases q1 with
    | false =>
      go_wp2_with (fail)
      go_ret
      exact BoP.of (by rw [HT.out]; have := H1.out; simp at this; simp [this]) HB.out
    | true =>
      go_wp2_with (fail)
      refine (SS.out _ HB.out).mono ?_
      rintro e w3 ⟨q2, rfl, h2, hb⟩
      replace HA := Lib.hid (carry hb HA.out)
      replace HB := Lib.hid (bs HB.out hb)
      have H2 := Lib.hid h2
      clear z0 z1 z2 z3 z4
      have r := (rowc HA.out).1
      have z0 := r 0; have z1 := r 1; have z2 := r 2; have z3 := r 3; have z4 := r 4
      simp at z0 z1 z2 z3 z4
      clear hb h2 r
      cases q2 with
      | false =>
        go_wp2_with (fail)
        go_ret
        exact BoP.of (by rw [HT.out]; have := H2.out; simp at this; simp only [Bool.false_eq_true, false_iff]; rintro ⟨-, -, h, -⟩; exact this h.1 h.2) HB.out
      | true =>
        go_wp2_with (fail)
        refine (RL.out _ HB.out).mono ?_
        rintro e w4 ⟨q3, rfl, h3, hb⟩
        replace HB := Lib.hid (bs HB.out hb)
        have H3 := Lib.hid h3
        clear z0 z1 z2 z3 z4 hb h3
        go_wp2_with (fail)
        go_ret
        exact BoP.of (by rw [HT.out, H3.out]; exact ⟨fun h => ⟨trivial, H1.out.1 trivial, H2.out.1 trivial, h⟩, fun h => h.2.2.2⟩) HB.out

end Go.Proofs.YtdglmnmalfpipaaGreatDoor.tree

