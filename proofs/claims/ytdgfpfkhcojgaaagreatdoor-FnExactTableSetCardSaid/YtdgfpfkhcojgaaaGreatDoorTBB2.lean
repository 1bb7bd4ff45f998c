/-
  What the texts behind this one use: 19 parts of one proof.
  Conditions: those that each theorem names.
-/
import Derived.Test.YtdgfpfkhcojgaaaGreatDoorTBB1
import Derived.Test.YtdgfpfkhcojgaaaGreatDoorTBSTreeEq
import Derived.Laws.StructEq
import Derived.Test.YtdgfpfkhcojgaaaGreatDoorTBSSpecParse
import Derived.Deep.RegionHeld3
import Derived.Deep.CutBlock
import Derived.Deep.DeepCutAuto
import Derived.Deep.LoopGhost
import Derived.BigQuiet
import Derived.Deep.QuietTactic
import Derived.Test.YtdgfpfkhcojgaaaGreatDoorShelf
import Derived.Laws.CopyOwn
import Derived.Deep.RegionWith
import Derived.Laws.CopyRow
import Derived.Laws.OwnMore
import Derived.ArgAppend
/-
  Tables: the slots of a table that came in, as a list; how they lie in memory.
  Conditions: those that each theorem names.
-/
namespace Go.Proofs.YtdgfpfkhcojgaaaGreatDoor.tree
open Go.ChangeShapes Go.WideShapes Go.ChangeAt Go.RowKit Go.Deep
set_option linter.unusedVariables false

structure Sl where
  key : Ky
  val : Tr
  live : Bool
  link : Int

/-- The ten cells of a slot at q. -/
structure At10 (w : World) (q : Addr) (y : Ky) (k n : Int) (s : ByteArray) (x : Int) (A : Option Addr) (L c : Nat) (b : Bool) (l : Int) : Prop where
  c0 : w.cell? q = some (.bool y.text)
  c1 : w.cell? ⟨q.block, q.off + 1, none⟩ = some (.int .i64 y.num)
  c2 : w.cell? ⟨q.block, q.off + 2, none⟩ = some (.string y.str)
  c3 : w.cell? ⟨q.block, q.off + 3, none⟩ = some (.int .i64 k)
  c4 : w.cell? ⟨q.block, q.off + 4, none⟩ = some (.int .i64 n)
  c5 : w.cell? ⟨q.block, q.off + 5, none⟩ = some (.string s)
  c6 : w.cell? ⟨q.block, q.off + 6, none⟩ = some (.int .i64 x)
  c7 : w.cell? ⟨q.block, q.off + 7, none⟩ = some (.slice A L c)
  c8 : w.cell? ⟨q.block, q.off + 8, none⟩ = some (.bool b)
  c9 : w.cell? ⟨q.block, q.off + 9, none⟩ = some (.int .i64 l)
theorem At10.stays {w w' : World} {q : Addr} {y : Ky} {k n x l : Int} {s : ByteArray} {A : Option Addr} {L c : Nat} {b : Bool} (hb : q.block < w.heap.size → w'.heap[q.block]? = w.heap[q.block]?) (h : At10 w q y k n s x A L c b l) : At10 w' q y k n s x A L c b l :=
  ⟨cell_stays hb h.c0, cell_stays hb h.c1, cell_stays hb h.c2, cell_stays hb h.c3, cell_stays hb h.c4, cell_stays hb h.c5, cell_stays hb h.c6, cell_stays hb h.c7, cell_stays hb h.c8, cell_stays hb h.c9⟩

/-- The slots at A. -/
def SIn (w : World) (S : Nat → Prop) (sl : List Sl) (A : Option Addr) : Prop :=
  ∀ i t, sl[i]? = some t → ∃ a k n s x ks vs A' c', A = some a ∧ S a.block ∧ (I64 t.key.num ∧ t.key.str.size ≤ maxLen) ∧ I64 t.link ∧ t.val = .mk k n s x ks vs ∧ TIn w S t.val (vV k n s x A' vs.length c') ∧ At10 w (a.add (i * 10)) t.key k n s x A' vs.length c' t.live t.link
theorem SIn.stays {w w' : World} {S S' : Nat → Prop} (hS : ∀ b, S b → S' b) (hb : ∀ b, S b → b < w.heap.size → w'.heap[b]? = w.heap[b]?) {sl : List Sl} {A : Option Addr} (h : SIn w S sl A) : SIn w' S' sl A := fun i t ht => by
  obtain ⟨a, k, n, s, x, ks, vs, A', c', e, hSa, hk, hl, hv, hT, hc⟩ := h i t ht
  exact ⟨a, k, n, s, x, ks, vs, A', c', e, hS _ hSa, hk, hl, hv, hT.stays hS hb, hc.stays (fun hlt => hb _ (by rw [mem.add_block]; exact hSa) hlt)⟩
theorem SIn.below {w w' : World} (hb : Below w.heap.size w w') {S : Nat → Prop} {sl : List Sl} {A : Option Addr} (h : SIn w S sl A) : SIn w' S sl A := h.stays (fun _ h => h) (fun b _ hlt => hb.block b hlt)

section
variable {H : Type} {enc : TypeId × Value → H} {P : Program} {w : World} {base : Nat} {spare : Nat → Bool} {held : Bool}
structure TypesS (P : Program) (tSS tSl tK tV : TypeId) : Prop where
  slots : P.underlying tSS = some (.slice tSl)
  slot : ∃ g0 g1 g2 g3 : Field, P.underlying tSl = some (.struct #[g0, g1, g2, g3]) ∧ g0.type = tK ∧ g1.type = tV ∧ P.underlying g2.type = some .bool ∧ P.underlying g3.type = some (.int .i64) ∧ g0.offset = 0 ∧ g1.offset = 3 ∧ g2.offset = 8 ∧ g3.offset = 9 ∧ P.cellsOf g2.type = 1 ∧ P.cellsOf g3.type = 1
  cS : P.cellsOf tSl = 10

theorem open_slots {tV tE tK tS tSS tSl : TypeId} (T : Types P tV tE tK tS) (TS : TypesS P tSS tSl tK tV) {fuel : Nat} {c0 : Value} {x : DataW H × List MemPlace} (h : DataW.trod enc P w base spare held fuel tSS [c0] = some x) :
    ∃ A n c sl, c0 = .slice A n c ∧ List.length sl = n ∧ (n ≤ c ∧ c ≤ maxLen) ∧ SIn w (fun _ => True) sl A := by
  rcases DataW.trod_slice TS.slots h with ⟨hc4, _⟩ | ⟨a, len, cap, elems, rest, m, hfm, hc4, _, hbs, hlc, hcm, hel, hat, _⟩
  · simp at hc4
    subst hc4
    exact ⟨none, 0, 0, [], rfl, rfl, ⟨Nat.le_refl _, Nat.zero_le _⟩, fun i t ht => by simp at ht⟩
  · simp at hc4
    subst hc4
    have each : ∀ i, i < len → ∃ t : Sl, ∃ k n s x ks vs A' c', (I64 t.key.num ∧ t.key.str.size ≤ maxLen) ∧ I64 t.link ∧ t.val = .mk k n s x ks vs ∧ TIn w (fun _ => True) t.val (vV k n s x A' vs.length c') ∧ At10 w (a.add (i * 10)) t.key k n s x A' vs.length c' t.live t.link := by
      intro i hi
      have hi2 := hat i hi
      rw [List.getElem?_eq_getElem (by omega)] at hi2
      obtain ⟨cs', hcs, htr⟩ := Option.bind_eq_some_iff.1 hi2
      rw [TS.cS] at hcs
      obtain ⟨_, hcl, hcat⟩ := World.cells?_some hcs
      obtain ⟨g0, g1, g2, g3, hue, hg0, hg1, hg2, hg3, q0, q1, q2, q3, z2, z3⟩ := TS.slot
      obtain ⟨ys, n2, hn2, hy, hl2, hyl, hall2⟩ := DataW.trod_struct hue htr
      have hyl4 : ys.length = 4 := hyl
      match cs', hcl with
      | [d0, d1, d2, d3, d4, d5, d6, d7, d8, d9], _ =>
        have r0 := hall2 0 g0 rfl
        have r1 := hall2 1 g1 rfl
        have r2 := hall2 2 g2 rfl
        have r3 := hall2 3 g3 rfl
        rw [hg0, q0, T.cK] at r0
        rw [hg1, q1, T.cV] at r1
        rw [q2, z2] at r2
        rw [q3, z3] at r3
        obtain ⟨y, hk3, hkn, hks⟩ := open_key T (r0.trans (List.getElem?_eq_getElem (by omega)))
        obtain ⟨t, ht⟩ := open_tree T n2 _ _ (r1.trans (List.getElem?_eq_getElem (by omega)))
        obtain ⟨b, hb, _⟩ := DataW.trod_bool hg2 (r2.trans (List.getElem?_eq_getElem (by omega)))
        obtain ⟨l, hlk, _, hlw⟩ := DataW.trod_int hg3 (r3.trans (List.getElem?_eq_getElem (by omega)))
        simp at hk3 hb hlk
        obtain ⟨rfl, rfl, rfl⟩ := hk3
        subst hb hlk
        obtain ⟨k, n, s, x, ks, vs⟩ := t
        obtain ⟨A', c', e, -, -⟩ := ht.out
        have e' : d3 = .int .i64 k ∧ d4 = .int .i64 n ∧ d5 = .string s ∧ d6 = .int .i64 x ∧ d7 = .slice A' vs.length c' := by simpa using e
        obtain ⟨rfl, rfl, rfl, rfl, rfl⟩ := e'
        have at' : ∀ j, j < 10 → w.cell? (a.add (i * 10 + j)) = ([.bool y.text, .int .i64 y.num, .string y.str, .int .i64 k, .int .i64 n, .string s, .int .i64 x, .slice A' vs.length c', .bool b, .int .i64 l] : List Value)[j]? := fun j hj => by
          have := hcat j hj
          rwa [add_add'] at this
        have sp : ∀ j, j ≠ 0 → a.add (i * 10 + j) = ⟨(a.add (i * 10)).block, (a.add (i * 10)).off + j, none⟩ := fun j hj => by rw [← add_add', add_pos _ _ hj]
        have at2 : ∀ j, j ≠ 0 → j < 10 → w.cell? ⟨(a.add (i * 10)).block, (a.add (i * 10)).off + j, none⟩ = _ := fun j h0 hj => (congrArg w.cell? (sp j h0)).symm.trans (at' j hj)
        exact ⟨⟨y, .mk k n s x ks vs, b, l⟩, k, n, s, x, ks, vs, A', c', ⟨hkn, hks⟩, wf_i64 hlw, rfl, ht, ⟨at' 0 (by omega), at2 1 (by omega) (by omega), at2 2 (by omega) (by omega), at2 3 (by omega) (by omega), at2 4 (by omega) (by omega), at2 5 (by omega) (by omega), at2 6 (by omega) (by omega), at2 7 (by omega) (by omega), at2 8 (by omega) (by omega), at2 9 (by omega) (by omega)⟩⟩
    refine ⟨some a, len, cap, (List.range len).map (fun i => if hi : i < len then (each i hi).choose else ⟨⟨false, 0, ⟨#[]⟩⟩, .mk 0 0 ⟨#[]⟩ 0 [] [], false, 0⟩), rfl, by simp, ⟨hlc, hcm⟩, fun i t ht => ?_⟩
    rw [List.getElem?_map] at ht
    obtain ⟨i', hi', rfl⟩ := Option.map_eq_some_iff.1 ht
    have hil : i < len := by
      have := (List.getElem?_eq_some_iff.1 hi').1
      simpa using this
    rw [List.getElem?_range hil] at hi'
    obtain rfl := Option.some.inj hi'
    simp only [dif_pos hil]
    obtain ⟨k, n, s, x, ks, vs, A', c', h⟩ := (each i hil).choose_spec
    exact ⟨a, k, n, s, x, ks, vs, A', c', rfl, trivial, h⟩

structure TypesT (P : Program) (tT tI tE tSS : TypeId) : Prop where
  table : ∃ f0 f1 f2 f3 f4 : Field, P.underlying tT = some (.struct #[f0, f1, f2, f3, f4]) ∧ P.underlying f0.type = some .bool ∧ f1.type = tI ∧ f2.type = tSS ∧ P.underlying f3.type = some (.int .i64) ∧ P.underlying f4.type = some (.int .i64) ∧ oneCellFields P #[f0, f1, f2, f3, f4] = true
  heads : P.underlying tI = some (.slice tE)
  elem : P.underlying tE = some (.int .i64)
  cE : P.cellsOf tE = 1
  cT : P.cellsOf tT = 5
end

/-- A table, written out. -/
abbrev tbV (b : Bool) (A : Option Addr) (n c : Nat) (B : Option Addr) (m d : Nat) (x k : Int) : Value := .agg #[.bool b, .slice A n c, .slice B m d, .int .i64 x, .int .i64 k]
/-- A table that reads as its heads and slots. -/
structure TbIn (w : World) (S : Nat → Prop) (l : List Int) (sl : List Sl) (A : Option Addr) (n c : Nat) (B : Option Addr) (m d : Nat) (x k : Int) : Prop where
  heads : imem.RdI w A n l
  hn : n ≤ maxLen
  len : sl.length = m
  cap : m ≤ d ∧ d ≤ maxLen
  slots : SIn w S sl B
  next : I64 x
  count : I64 k

section
variable {H : Type} {enc : TypeId × Value → H} {P : Program} {w : World}
theorem open_tab {tV tE tK tS tSS tSl tT tI tIE : TypeId} (T : Types P tV tE tK tS) (TS : TypesS P tSS tSl tK tV) (TT : TypesT P tT tI tIE tSS) {fuel : Nat} {cs : List Value} {x : DataW H × List MemPlace} (h : DataW.trod enc P w 0 (fun _ => true) true fuel tT cs = some x) :
    ∃ b A n c B m d nx ct l sl, Value.agg cs.toArray = tbV b A n c B m d nx ct ∧ TbIn w (fun _ => True) l sl A n c B m d nx ct := by
  obtain ⟨f0, f1, f2, f3, f4, hu, h0, h1, h2, h3, h4, hone⟩ := TT.table
  obtain ⟨xs, n, hn, hx, hl, hxl, hall⟩ := DataW.trod_struct hu h
  rw [TT.cT] at hl
  match cs, hl with
  | [c0, c1, c2, c3, c4], _ =>
    obtain ⟨o0, k0⟩ := hone_of hone 0 f0 rfl
    obtain ⟨o1, k1⟩ := hone_of hone 1 f1 rfl
    obtain ⟨o2, k2⟩ := hone_of hone 2 f2 rfl
    obtain ⟨o3, k3⟩ := hone_of hone 3 f3 rfl
    obtain ⟨o4, k4⟩ := hone_of hone 4 f4 rfl
    have hxl5 : xs.length = 5 := hxl
    have e0 := hall 0 f0 rfl
    have e1 := hall 1 f1 rfl
    have e2 := hall 2 f2 rfl
    have e3 := hall 3 f3 rfl
    have e4 := hall 4 f4 rfl
    rw [one_of k0 o0 (by simp)] at e0
    rw [one_of k1 o1 (by simp)] at e1
    rw [one_of k2 o2 (by simp)] at e2
    rw [one_of k3 o3 (by simp)] at e3
    rw [one_of k4 o4 (by simp)] at e4
    obtain ⟨b, hb, _⟩ := DataW.trod_bool h0 (e0.trans (List.getElem?_eq_getElem (by omega)))
    obtain ⟨nx, hnx, _, hw3⟩ := DataW.trod_int h3 (e3.trans (List.getElem?_eq_getElem (by omega)))
    obtain ⟨ct, hct, _, hw4⟩ := DataW.trod_int h4 (e4.trans (List.getElem?_eq_getElem (by omega)))
    rw [h2] at e2
    obtain ⟨B, m, d, sl, hB, hsl, hcap, hS⟩ := open_slots T TS (e2.trans (List.getElem?_eq_getElem (by omega)))
    rw [h1] at e1
    simp at hb hnx hct hB
    subst hb hnx hct hB
    rcases open_ints TT.heads TT.elem TT.cE (e1.trans (List.getElem?_eq_getElem (by omega))) with ⟨hc1, _⟩ | ⟨a, len, cap, zs, hc1, _, hlc, hm, hz, _, hcell, hwz⟩
    · simp at hc1
      subst hc1
      exact ⟨b, none, 0, 0, B, m, d, nx, ct, [], sl, rfl, ⟨⟨rfl, fun hn => absurd hn (by omega)⟩, Nat.zero_le _, hsl, hcap, hS, wf_i64 hw3, wf_i64 hw4⟩⟩
    · simp at hc1
      subst hc1
      simp only [if_true] at hz
      refine ⟨b, some a, len, cap, B, m, d, nx, ct, zs.take len, sl, rfl, ⟨⟨by rw [List.length_take]; omega, fun hn => ⟨a, rfl, fun j x hx => ?_⟩⟩, by omega, hsl, hcap, hS, wf_i64 hw3, wf_i64 hw4⟩⟩
      have hj : j < len := by
        have := (List.getElem?_eq_some_iff.1 hx).1
        rw [List.length_take] at this
        omega
      rw [List.getElem?_take, if_pos hj] at hx
      have hcj := hcell j (by omega)
      rw [hcj]
      simp [List.getD, hx]
end

abbrev LT : TypeId := 55
theorem typesS : TypesS Tryz.prog 53 144 LK LV where
  slots := Tryz.underlying53
  slot := ⟨_, _, _, _, Tryz.underlying144, by kernel_rfl, by kernel_rfl, by kernel_rfl, by kernel_rfl, by kernel_rfl, by kernel_rfl, by kernel_rfl, by kernel_rfl, by kernel_rfl, by kernel_rfl⟩
  cS := by kernel_rfl
theorem typesT : TypesT Tryz.prog LT 24 3 53 where
  table := ⟨_, _, _, _, _, Tryz.underlying55, by kernel_rfl, by kernel_rfl, by kernel_rfl, by kernel_rfl, by kernel_rfl, by kernel_rfl⟩
  heads := Tryz.underlying24
  elem := Tryz.underlying3
  cE := by kernel_rfl
  cT := by kernel_rfl

set_option maxRecDepth 100000 in
theorem open_table {H : Type} {enc : TypeId × Value → H} {W : World} {base : Nat} {v : Value} {d : DataW H} {ps : List MemPlace} (hval : Value.okWide Tryz.prog W .any base LT v) (h : DataW.Trod enc Tryz.prog W 0 (fun _ => true) true LT v d ps) :
    ∃ b A n c B m d nx ct l sl, v = tbV b A n c B m d nx ct ∧ TbIn W (fun _ => True) l sl A n c B m d nx ct := by
  obtain ⟨cs, rfl, hsz⟩ := okWide_struct Tryz.underlying55 hval
  obtain ⟨fuel, hf⟩ := h
  exact open_tab opt.types typesS typesT hf

end Go.Proofs.YtdgfpfkhcojgaaaGreatDoor.tree

/-
  The live slots of a table, as lists.
  Conditions: none.
-/
namespace Go.Proofs.YtdgfpfkhcojgaaaGreatDoor.tree
open Go.ChangeShapes Go.WideShapes Go.ChangeAt Go.RowKit
set_option linter.unusedVariables false

abbrev IT : TypeId := 27
/-- The live slots. -/
def liv (sl : List Sl) : List Sl := sl.filter (fun t => t.live)
def livK (sl : List Sl) : List Ky := (liv sl).map (fun t => t.key)
def livV (sl : List Sl) : List Tr := (liv sl).map (fun t => t.val)
/-- The array that a table stands for. -/
def tvT (x : Int) (sl : List Sl) : Tr := .mk 4 0 ⟨#[]⟩ x (livK sl) (livV sl)
theorem liv_take {sl : List Sl} {j : Nat} {t : Sl} (h : sl[j]? = some t) : liv (sl.take (j + 1)) = liv (sl.take j) ++ (if t.live then [t] else []) := by
  unfold liv
  rw [List.take_add_one, h, List.filter_append]
  cases ht : t.live <;> simp [ht]
theorem liv_len (sl : List Sl) : (liv sl).length ≤ sl.length := List.length_filter_le _ _


end Go.Proofs.YtdgfpfkhcojgaaaGreatDoor.tree

/-
  The laws' size of a value, and how many values a tree holds.
  Conditions: those that each theorem names.
-/
namespace Go.Proofs.YtdgfpfkhcojgaaaGreatDoor.tree
open Go.ChangeShapes Go.WideShapes Go.ChangeAt Go.RowKit
set_option linter.unusedVariables false

mutual
/-- Letters and items, all that is in a value. -/
def tot : Tr → Nat
  | .mk _ _ s _ ks vs => s.size + (vs.length + tots ks vs)
def tots : List Ky → List Tr → Nat
  | y :: ks, t :: vs => y.str.size + tot t + tots ks vs
  | _, _ => 0
end
mutual
/-- How many values a tree is. -/
def cnt : Tr → Nat
  | .mk _ _ _ _ _ vs => 1 + cnts vs
def cnts : List Tr → Nat
  | [] => 0
  | t :: vs => cnt t + cnts vs
end
mutual
/-- Each item has its key. -/
def fits : Tr → Prop
  | .mk _ _ _ _ ks vs => ks.length = vs.length ∧ fitss vs
def fitss : List Tr → Prop
  | [] => True
  | t :: vs => fits t ∧ fitss vs
end
theorem tots_cons (y : Ky) (ks : List Ky) (t : Tr) (vs : List Tr) : tots (y :: ks) (t :: vs) = y.str.size + tot t + tots ks vs := by rw [tots]
theorem tots_drop {ks : List Ky} {vs : List Tr} {j : Nat} {y : Ky} {t : Tr} (hk : ks[j]? = some y) (hv : vs[j]? = some t) : tots (ks.drop j) (vs.drop j) = y.str.size + tot t + tots (ks.drop (j + 1)) (vs.drop (j + 1)) := by
  obtain ⟨hj, rfl⟩ := List.getElem?_eq_some_iff.1 hk
  obtain ⟨hj', rfl⟩ := List.getElem?_eq_some_iff.1 hv
  rw [List.drop_eq_getElem_cons hj, List.drop_eq_getElem_cons hj', tots_cons]
theorem fitss_of : ∀ {vs : List Tr}, (∀ t ∈ vs, fits t) → fitss vs
  | [], _ => by rw [fitss]; trivial
  | t :: vs, h => by rw [fitss]; exact ⟨h t (by simp), fitss_of fun u hu => h u (by simp [hu])⟩
theorem TIn.fits {w : World} {S : Nat → Prop} {t : Tr} {v : Value} (h : TIn w S t v) : fits t := by
  induction h with
  | mk k n s x ks vs A cap C hk hl hm hcap hc ht ih =>
    rw [tree.fits]
    refine ⟨hl, fitss_of fun t h => ?_⟩
    obtain ⟨i, hi, rfl⟩ := List.mem_iff_getElem.1 h
    exact ih i hi
mutual
theorem cnt_tot : ∀ t, fits t → cnt t ≤ tot t + 1
  | .mk _ _ s _ ks vs, h => by
    rw [fits] at h
    have := cnts_tots ks vs h.1 h.2
    rw [cnt, tot]
    omega
theorem cnts_tots : ∀ (ks : List Ky) (vs : List Tr), ks.length = vs.length → fitss vs → cnts vs ≤ vs.length + tots ks vs
  | _, [], _, _ => by simp [cnts]
  | [], t :: vs, h, _ => by simp at h
  | y :: ks, t :: vs, h, hf => by
    rw [fitss] at hf
    have h1 := cnt_tot t hf.1
    have h2 := cnts_tots ks vs (by simpa using h) hf.2
    rw [cnts, tots, List.length_cons]
    omega
end

def SzOk (left : Int) (T : Nat) (r : Int) : Prop := -1 ≤ r ∧ r ≤ left ∧ (0 ≤ r → r + T = left)
def SzQ (left : Int) (T : Nat) (w : World) (e : Ending) (w' : World) : Prop := ∃ r : Int, e = .returned (.int .i64 r) ∧ SzOk left T r ∧ Below w.heap.size w w'

theorem szKey (y : Ky) (hy : y.str.size ≤ maxLen) (left : Int) (h0 : 0 ≤ left) (h1 : left ≤ 1048576) (w : World) :
    Calls Tryz.prog 25 #[kyV y, .int .i64 left] w (SzQ left y.str.size w) := by
  obtain ⟨b, n, s⟩ := y
  replace hy : s.size ≤ maxLen := hy
  show Calls _ _ _ _ (SzQ left s.size w)
  unfold kyV
  unfold maxLen at hy
  by_cases hlt : left - s.size < 0
  · go_enter Tryz.func25, Tryz.ntmps25
    go_wp2
    go_ret
    exact ⟨-1, rfl, ⟨by omega, by omega, fun h => by omega⟩, b1 _ _⟩
  · have hge : ¬ (left < s.size) := by omega
    go_enter Tryz.func25, Tryz.ntmps25
    go_wp2
    go_ret
    exact ⟨left - s.size, rfl, ⟨by omega, by omega, fun h => by omega⟩, b1 _ _⟩

def SzV (t : Tr) : Prop := ∀ (w : World) (S : Nat → Prop) (v : Value), TIn w S t v → ∀ left : Int, 0 ≤ left → left ≤ 1048576 → Calls Tryz.prog 26 #[v, .int .i64 left] w (SzQ left (tot t) w)

theorem szEntry (y : Ky) (hy : y.str.size ≤ maxLen) (k n : Int) (s : ByteArray) (x : Int) (A : Option Addr) (L c : Nat) (T : Nat) (left : Int) (h0 : 0 ≤ left) (h1 : left ≤ 1048576) (w : World)
    (ih : ∀ (w' : World) (left' : Int), Below w.heap.size w w' → 0 ≤ left' → left' ≤ 1048576 → Calls Tryz.prog 26 #[vV k n s x A L c, .int .i64 left'] w' (SzQ left' T w')) :
    Calls Tryz.prog 127 #[eV y k n s x A L c, .int .i64 left] w (SzQ left (y.str.size + T) w) := by
  obtain ⟨b, m, ys⟩ := y
  have K := szKey ⟨b, m, ys⟩ hy left h0 h1
  show Calls _ _ _ _ (SzQ left (ys.size + T) w)
  replace K : ∀ w, Calls Tryz.prog 25 #[kyV ⟨b, m, ys⟩, .int .i64 left] w (SzQ left ys.size w) := K
  unfold eV
  go_enter Tryz.func127, Tryz.ntmps127
  go_wp2_with (fail)
  refine (K _).mono ?_
  rintro e w1 ⟨r, rfl, ⟨hr1, hr2, hr3⟩, hb1⟩
  obtain ⟨hc, hf⟩ := bcell hb1
  have HB := Lib.hid hb1
  have HR := Lib.hid hr3
  clear hb1 hr3
  by_cases hr : r < 0
  · go_wp2_with (fail)
    go_ret
    exact ⟨-1, rfl, ⟨by omega, by omega, fun h => by omega⟩, bs (b1 _ _) HB.out⟩
  · have hr0 : 0 ≤ r := by omega
    go_wp2_with (fail)
    refine (ih _ r (bs (b1 _ _) HB.out) hr0 (by omega)).mono ?_
    rintro e w2 ⟨r2, rfl, ⟨hs1, hs2, hs3⟩, hb2⟩
    have HB2 := Lib.hid hb2
    have HR2 := Lib.hid hs3
    clear hb2 hs3
    by_cases hq : r2 < 0
    · go_wp2_with (fail)
      go_ret
      exact ⟨-1, rfl, ⟨by omega, by omega, fun h => by omega⟩, bs (bs (b1 _ _) HB.out) HB2.out⟩
    · have hq0 : 0 ≤ r2 := by omega
      go_wp2_with (fail)
      go_ret
      refine ⟨r2, rfl, ⟨by omega, by omega, fun h => ?_⟩, bs (bs (b1 _ _) HB.out) HB2.out⟩
      have a1 := HR.out hr0
      have a2 := HR2.out h
      omega

theorem szItems (ks : List Ky) (vs : List Tr) (ih : ∀ t ∈ vs, SzV t) (A : Option Addr) (c : Nat) (w : World) (S : Nat → Prop) (h : IsIn w S ks vs A) (left : Int) (h0 : 0 ≤ left) (h1 : left ≤ 1048576) :
    Calls Tryz.prog 74 #[.slice A vs.length c, .int .i64 left] w (SzQ left (vs.length + tots ks vs) w) := by
  obtain ⟨L, HL⟩ : ∃ L, Hid (L = vs.length) := ⟨_, Lib.hid rfl⟩
  have hm : L ≤ maxLen := by rw [HL.out]; exact h.2.1
  unfold maxLen at hm
  rw [← HL.out]
  by_cases hlt : left - L < 0
  · go_enter Tryz.func74, Tryz.ntmps74
    go_wp2_with (fail)
    go_ret
    exact ⟨-1, rfl, ⟨by omega, by omega, fun h => by omega⟩, Below.refl _ _⟩
  have hge : ¬ (left < L) := by omega
  clear hlt
  go_enter Tryz.func74, Tryz.ntmps74
  go_wp2_with (fail)
  go_loopg [1, 5] (L + 1) (fun gk l i wr => ∃ (j : Nat) (r : Int), l = .int .i64 r ∧ i = .int .i64 j ∧ gk + j = L + 1 ∧ j ≤ L ∧ 0 ≤ r ∧ r ≤ left ∧ Hid (r + tots ks vs = left - L + tots (ks.drop j) (vs.drop j)) ∧ Below w.heap.size w wr)
  case atStart => exact ⟨0, left - L, rfl, rfl, by omega, by omega, by omega, by omega, Lib.hid (by simp), Below.refl _ _⟩
  case round =>
    obtain ⟨j, r, rfl, rfl, hgj, hjL, hr0, hr1, HR, hb⟩ := hrel
    have HB := Lib.hid hb
    clear hb
    by_cases hlt : j < L
    · obtain ⟨a, y, k, n, s, x, ks', vs', A1, c1, rfl, hS, hky, hvs, ht, hyb, hkb, hin, hcell⟩ := (h.below HB.out).item (i := j) (by rw [← HL.out]; exact hlt)
      have ihj : ∀ (w' : World) (left' : Int), Below wr.heap.size wr w' → 0 ≤ left' → left' ≤ 1048576 → Calls Tryz.prog 26 #[vV k n s x A1 vs'.length c1, .int .i64 left'] w' (SzQ left' (tot (.mk k n s x ks' vs')) w') := fun w' l' hb' a0 a1 => ih _ (List.mem_of_getElem? hvs) w' S _ (ht.below' hb') l' a0 a1
      have HT := Lib.hid (tots_drop hky hvs)
      have hys := hyb.2
      clear hky hvs ht hin hyb hkb hS
      obtain ⟨p0, p1, p2, p3, p4, p5, p6, p7⟩ := hcell
      go_wp2_with (fail)
      refine (szEntry y hys k n s x A1 vs'.length c1 _ r hr0 (by omega) _ ihj).mono ?_
      rintro e w1 ⟨r2, rfl, ⟨hs1, hs2, hs3⟩, hb1⟩
      have HB1 := Lib.hid hb1
      have HR2 := Lib.hid hs3
      clear hb1 hs3
      by_cases hq : r2 < 0
      · go_wp2_with (fail)
        go_ret
        exact ⟨-1, rfl, ⟨by omega, by omega, fun h => by omega⟩, bs HB.out HB1.out⟩
      · have hq0 : 0 ≤ r2 := by omega
        go_wp2_with (fail)
        go_roundg (L - j)
        case rel =>
          refine ⟨j + 1, r2, rfl, by go_num, by omega, by omega, hq0, by omega, Lib.hid ?_, bs HB.out HB1.out⟩
          have a1 := HR.out
          have a2 := HR2.out hq0
          have a3 := HT.out
          omega
        case measure => omega
    · go_wp2_with (fail)
      go_ret
      refine ⟨r, rfl, ⟨by omega, by omega, fun _ => ?_⟩, HB.out⟩
      have a1 := HR.out
      have e : tots (ks.drop j) (vs.drop j) = 0 := by
        rw [show vs.drop j = [] from List.drop_eq_nil_of_le (by rw [← HL.out]; omega)]
        cases ks.drop j <;> rfl
      rw [e] at a1
      push_cast
      omega

theorem szV : ∀ t, SzV t := Tr.ind fun k n s x ks vs ih w S v h left h0 h1 => by
  obtain ⟨A, c, rfl, ⟨_, _, _, hs⟩, hin⟩ := h.out
  clear h
  have hT : tot (.mk k n s x ks vs) = s.size + (vs.length + tots ks vs) := by rw [tot]
  rw [hT]
  clear hT
  unfold maxLen at hs
  by_cases hlt : left - s.size < 0
  · go_enter Tryz.func26, Tryz.ntmps26
    go_wp2_with (fail)
    go_ret
    exact ⟨-1, rfl, ⟨by omega, by omega, fun h => by omega⟩, b1 _ _⟩
  have hge : ¬ (left < s.size) := by omega
  clear hlt
  go_enter Tryz.func26, Tryz.ntmps26
  go_wp2_with (fail)
  refine (szItems ks vs ih A c _ S (hin.below (b1 _ _)) (left - s.size) (by omega) (by omega)).mono ?_
  rintro e w1 ⟨r, rfl, ⟨hr1, hr2, hr3⟩, hb1⟩
  have HB1 := Lib.hid hb1
  have HR := Lib.hid hr3
  clear hb1 hr3
  by_cases hr : r < 0
  · go_wp2_with (fail)
    go_ret
    exact ⟨-1, rfl, ⟨by omega, by omega, fun h => by omega⟩, bs (b1 _ _) HB1.out⟩
  · have hr0 : 0 ≤ r := by omega
    go_wp2_with (fail)
    go_ret
    refine ⟨r, rfl, ⟨by omega, by omega, fun h => ?_⟩, bs (b1 _ _) HB1.out⟩
    have a1 := HR.out h
    push_cast at a1 ⊢
    omega

end Go.Proofs.YtdgfpfkhcojgaaaGreatDoor.tree

/-
  The laws' size of a table.
  Conditions: those that each theorem names.
-/
namespace Go.Proofs.YtdgfpfkhcojgaaaGreatDoor.tree
open Go.ChangeShapes Go.WideShapes Go.ChangeAt Go.RowKit
set_option linter.unusedVariables false

/-- Letters and items of slots. -/
def totS : List Sl → Nat
  | [] => 0
  | t :: sl => t.key.str.size + tot t.val + totS sl
theorem totS_drop {sl : List Sl} {j : Nat} {t : Sl} (h : sl[j]? = some t) : totS (sl.drop j) = t.key.str.size + tot t.val + totS (sl.drop (j + 1)) := by
  obtain ⟨hj, rfl⟩ := List.getElem?_eq_some_iff.1 h
  rw [List.drop_eq_getElem_cons hj, totS]
/-- The ten cells of a slot. -/
abbrev sV (y : Ky) (k n : Int) (s : ByteArray) (x : Int) (A : Option Addr) (L c : Nat) (b : Bool) (l : Int) : Value := .agg #[.bool y.text, .int .i64 y.num, .string y.str, .int .i64 k, .int .i64 n, .string s, .int .i64 x, .slice A L c, .bool b, .int .i64 l]

theorem szSlot (y : Ky) (hy : y.str.size ≤ maxLen) (k n : Int) (s : ByteArray) (x : Int) (A : Option Addr) (L c : Nat) (b : Bool) (l : Int) (T : Nat) (left : Int) (h0 : 0 ≤ left) (h1 : left ≤ 1048576) (w : World)
    (ih : ∀ (w' : World) (left' : Int), Below w.heap.size w w' → 0 ≤ left' → left' ≤ 1048576 → Calls Tryz.prog 26 #[vV k n s x A L c, .int .i64 left'] w' (SzQ left' T w')) :
    Calls Tryz.prog 126 #[sV y k n s x A L c b l, .int .i64 left] w (SzQ left (y.str.size + T) w) := by
  obtain ⟨yb, m, ys⟩ := y
  have K := szKey ⟨yb, m, ys⟩ hy left h0 h1
  show Calls _ _ _ _ (SzQ left (ys.size + T) w)
  replace K : ∀ w, Calls Tryz.prog 25 #[kyV ⟨yb, m, ys⟩, .int .i64 left] w (SzQ left ys.size w) := K
  unfold sV
  go_enter Tryz.func126, Tryz.ntmps126
  go_wp2_with (fail)
  refine (K _).mono ?_
  rintro e w1 ⟨r, rfl, ⟨hr1, hr2, hr3⟩, hb1⟩
  obtain ⟨hc, hf⟩ := bcell hb1
  have HB := Lib.hid hb1
  have HR := Lib.hid hr3
  clear hb1 hr3
  by_cases hr : r < 0
  · go_wp2_with (fail)
    go_ret
    exact ⟨-1, rfl, ⟨by omega, by omega, fun h => by omega⟩, bs (b1 _ _) HB.out⟩
  · have hr0 : 0 ≤ r := by omega
    go_wp2_with (fail)
    refine (ih _ r (bs (b1 _ _) HB.out) hr0 (by omega)).mono ?_
    rintro e w2 ⟨r2, rfl, ⟨hs1, hs2, hs3⟩, hb2⟩
    have HB2 := Lib.hid hb2
    have HR2 := Lib.hid hs3
    clear hb2 hs3
    by_cases hq : r2 < 0
    · go_wp2_with (fail)
      go_ret
      exact ⟨-1, rfl, ⟨by omega, by omega, fun h => by omega⟩, bs (bs (b1 _ _) HB.out) HB2.out⟩
    · have hq0 : 0 ≤ r2 := by omega
      go_wp2_with (fail)
      go_ret
      refine ⟨r2, rfl, ⟨by omega, by omega, fun h => ?_⟩, bs (bs (b1 _ _) HB.out) HB2.out⟩
      have a1 := HR.out hr0
      have a2 := HR2.out h
      omega

theorem szSlots (sl : List Sl) (hm : sl.length ≤ maxLen) (A : Option Addr) (c : Nat) (w : World) (S : Nat → Prop) (h : SIn w S sl A) (left : Int) (h0 : 0 ≤ left) (h1 : left ≤ 1048576) :
    Calls Tryz.prog 73 #[.slice A sl.length c, .int .i64 left] w (SzQ left (sl.length + totS sl) w) := by
  obtain ⟨L, HL⟩ : ∃ L, Hid (L = sl.length) := ⟨_, Lib.hid rfl⟩
  rw [← HL.out] at hm ⊢
  unfold maxLen at hm
  by_cases hlt : left - L < 0
  · go_enter Tryz.func73, Tryz.ntmps73
    go_wp2_with (fail)
    go_ret
    exact ⟨-1, rfl, ⟨by omega, by omega, fun h => by omega⟩, Below.refl _ _⟩
  have hge : ¬ (left < L) := by omega
  have HH := Lib.hid h
  clear hlt h
  go_enter Tryz.func73, Tryz.ntmps73
  go_wp2_with (fail)
  go_loopg [1, 5] (L + 1) (fun gk l i wr => ∃ (j : Nat) (r : Int), l = .int .i64 r ∧ i = .int .i64 j ∧ gk + j = L + 1 ∧ j ≤ L ∧ 0 ≤ r ∧ r ≤ left ∧ Hid (r + totS sl = left - L + totS (sl.drop j)) ∧ Below w.heap.size w wr)
  case atStart => exact ⟨0, left - L, rfl, rfl, by omega, by omega, by omega, by omega, Lib.hid (by simp), Below.refl _ _⟩
  case round =>
    obtain ⟨j, r, rfl, rfl, hgj, hjL, hr0, hr1, HR, hb⟩ := hrel
    have HB := Lib.hid hb
    clear hb
    by_cases hlt : j < L
    · obtain ⟨t, ht⟩ : ∃ t, sl[j]? = some t := ⟨_, List.getElem?_eq_getElem (by rw [← HL.out]; exact hlt)⟩
      obtain ⟨a, k, n, s, x, ks', vs', A1, c1, rfl, -, hk, hl, hv, hT, hcell⟩ := HH.out.below HB.out j t ht
      have HT := Lib.hid (totS_drop ht)
      obtain ⟨y, tv, lb, ll⟩ := t
      simp only at hk hl hv hT hcell HT
      subst hv
      have hys := hk.2
      have ihj : ∀ (w' : World) (left' : Int), Below wr.heap.size wr w' → 0 ≤ left' → left' ≤ 1048576 → Calls Tryz.prog 26 #[vV k n s x A1 vs'.length c1, .int .i64 left'] w' (SzQ left' (tot (.mk k n s x ks' vs')) w') := fun w' l' hb' a0 a1 => szV _ w' S _ (hT.below' hb') l' a0 a1
      clear ht hT hk hl
      obtain ⟨p0, p1, p2, p3, p4, p5, p6, p7, p8, p9⟩ := hcell
      go_wp2_with (fail)
      refine (szSlot y hys k n s x A1 vs'.length c1 lb ll _ r hr0 (by omega) _ ihj).mono ?_
      rintro e w1 ⟨r2, rfl, ⟨hs1, hs2, hs3⟩, hb1⟩
      have HB1 := Lib.hid hb1
      have HR2 := Lib.hid hs3
      clear hb1 hs3
      by_cases hq : r2 < 0
      · go_wp2_with (fail)
        go_ret
        exact ⟨-1, rfl, ⟨by omega, by omega, fun h => by omega⟩, bs HB.out HB1.out⟩
      · have hq0 : 0 ≤ r2 := by omega
        go_wp2_with (fail)
        go_roundg (L - j)
        case rel =>
          refine ⟨j + 1, r2, rfl, by go_num, by omega, by omega, hq0, by omega, Lib.hid ?_, bs HB.out HB1.out⟩
          have a1 := HR.out
          have a2 := HR2.out hq0
          have a3 := HT.out
          omega
        case measure => omega
    · go_wp2_with (fail)
      go_ret
      refine ⟨r, rfl, ⟨by omega, by omega, fun _ => ?_⟩, HB.out⟩
      have a1 := HR.out
      have e : totS (sl.drop j) = 0 := by
        rw [show sl.drop j = [] from List.drop_eq_nil_of_le (by rw [← HL.out]; omega)]
        rfl
      rw [e] at a1
      push_cast
      omega

theorem szInts (A : Option Addr) (n c : Nat) (hn : n ≤ maxLen) (w : World) (left : Int) (h0 : 0 ≤ left) (h1 : left ≤ 1048576) :
    Calls Tryz.prog 72 #[.slice A n c, .int .i64 left] w (SzQ left n w) := by
  unfold maxLen at hn
  by_cases hlt : left - n < 0
  · go_enter Tryz.func72, Tryz.ntmps72
    go_wp2_with (fail)
    go_ret
    exact ⟨-1, rfl, ⟨by omega, by omega, fun h => by omega⟩, Below.refl _ _⟩
  · have hge : ¬ (left < n) := by omega
    go_enter Tryz.func72, Tryz.ntmps72
    go_wp2_with (fail)
    go_ret
    exact ⟨left - n, rfl, ⟨by omega, by omega, fun h => by omega⟩, Below.refl _ _⟩

/-- The laws' size of a table. -/
theorem szTable {l : List Int} {sl : List Sl} {b : Bool} {A : Option Addr} {n c : Nat} {B : Option Addr} {m d : Nat} {x k : Int} {w : World} {S : Nat → Prop} (h : TbIn w S l sl A n c B m d x k) (left : Int) (h0 : 0 ≤ left) (h1 : left ≤ 1048576) (w' : World) (hb : Below w.heap.size w w') :
    Calls Tryz.prog 24 #[tbV b A n c B m d x k, .int .i64 left] w' (SzQ left (n + (m + totS sl)) w') := by
  obtain ⟨-, hn, rfl, hcap, hS, -, -⟩ := h
  have Z1 := fun w => szInts A n c hn w left h0 h1
  have Z2 := fun w'' (hb : Below w.heap.size w w'') r h0 h1 => szSlots sl (Nat.le_trans hcap.1 hcap.2) B d w'' S (hS.below hb) r h0 h1
  obtain ⟨m, HM⟩ : ∃ m, Hid (sl.length = m) := ⟨_, Lib.hid rfl⟩
  obtain ⟨T, HT⟩ : ∃ T, Hid (m + totS sl = T) := ⟨_, Lib.hid rfl⟩
  rw [HM.out, HT.out] at Z2 ⊢
  have HZ2 := Lib.hid Z2
  have HB0 := Lib.hid hb
  clear Z2 hcap hS hb hn
  go_enter Tryz.func24, Tryz.ntmps24
  go_wp2_with (fail)
  refine (Z1 _).mono ?_
  rintro e w1 ⟨r, rfl, ⟨hr1, hr2, hr3⟩, hb1⟩
  obtain ⟨hc, hf⟩ := bcell hb1
  have HB := Lib.hid (bs (b1 w' _) hb1)
  have HR := Lib.hid hr3
  clear hb1 hr3
  by_cases hr : r < 0
  · go_wp2_with (fail)
    go_ret
    exact ⟨-1, rfl, ⟨by omega, by omega, fun h => by omega⟩, HB.out⟩
  · have hr0 : 0 ≤ r := by omega
    go_wp2_with (fail)
    refine (HZ2.out _ (bs HB0.out HB.out) r hr0 (by omega)).mono ?_
    rintro e w2 ⟨r2, rfl, ⟨hs1, hs2, hs3⟩, hb2⟩
    have HB2 := Lib.hid (bs HB.out hb2)
    have HR2 := Lib.hid hs3
    clear hb2 hs3
    by_cases hq : r2 < 0
    · go_wp2_with (fail)
      go_ret
      exact ⟨-1, rfl, ⟨by omega, by omega, fun h => by omega⟩, HB2.out⟩
    · have hq0 : 0 ≤ r2 := by omega
      go_wp2_with (fail)
      go_ret
      refine ⟨r2, rfl, ⟨by omega, by omega, fun h => ?_⟩, HB2.out⟩
      have a1 := HR.out hr0
      have a2 := HR2.out h
      omega

end Go.Proofs.YtdgfpfkhcojgaaaGreatDoor.tree

/-
  The laws' comparison of two tables that read alike.
  Conditions: those that each theorem names.
-/
namespace Go.Proofs.YtdgfpfkhcojgaaaGreatDoor.tree
open Go.ChangeShapes Go.WideShapes Go.ChangeAt Go.RowKit
set_option linter.unusedVariables false

theorem eqSlot (y : Ky) (k n : Int) (s : ByteArray) (x : Int) (A A' : Option Addr) (L c c' : Nat) (b : Bool) (l : Int) (w : World)
    (ih : ∀ w' : World, Below w.heap.size w w' → Calls Tryz.prog 32 #[vV k n s x A L c, vV k n s x A' L c'] w' (TrueQ w')) :
    Calls Tryz.prog 134 #[sV y k n s x A L c b l, sV y k n s x A' L c' b l] w (TrueQ w) := by
  obtain ⟨yb, m, ys⟩ := y
  unfold sV
  go_enter Tryz.func134, Tryz.ntmps134
  go_wp2_with (fail)
  refine (eqKey ⟨yb, m, ys⟩ _).mono ?_
  rintro e w1 ⟨rfl, hb1⟩
  obtain ⟨hc, hf⟩ := bcell hb1
  have HB := Lib.hid hb1
  clear hb1
  go_wp2_with (fail)
  refine (ih _ (bs (b2 _ _ _) HB.out)).mono ?_
  rintro e w2 ⟨rfl, hb2⟩
  obtain ⟨hc2, hf2⟩ := bcell (bs HB.out hb2)
  have HB2 := Lib.hid hb2
  clear hb2 hc hf
  go_wp2_with (fail)
  go_ret
  exact ⟨rfl, bs (bs (b2 _ _ _) HB.out) HB2.out⟩

set_option maxRecDepth 100000 in
theorem eqSlots (sl : List Sl) (hm : sl.length ≤ maxLen) (A A' : Option Addr) (c c' : Nat) (w : World) (S S' : Nat → Prop) (h : SIn w S sl A) (h' : SIn w S' sl A') :
    Calls Tryz.prog 81 #[.slice A sl.length c, .slice A' sl.length c'] w (TrueQ w) := by
  obtain ⟨L, HL⟩ : ∃ L, Hid (L = sl.length) := ⟨_, Lib.hid rfl⟩
  rw [← HL.out] at hm ⊢
  unfold maxLen at hm
  have HA := Lib.hid h
  have HA' := Lib.hid h'
  clear h h'
  go_enter Tryz.func81, Tryz.ntmps81
  go_wp2_with (fail)
  go_loopg [5] (L + 1) (fun gk i wr => ∃ j : Nat, i = .int .i64 j ∧ gk + j = L + 1 ∧ j ≤ L ∧ Below w.heap.size w wr)
  case atStart => exact ⟨0, rfl, by omega, by omega, Below.refl _ _⟩
  case round =>
    obtain ⟨j, rfl, hgj, hjL, hb⟩ := hrel
    have HB := Lib.hid hb
    clear hb
    by_cases hlt : j < L
    · obtain ⟨t, ht⟩ : ∃ t, sl[j]? = some t := ⟨_, List.getElem?_eq_getElem (by rw [← HL.out]; exact hlt)⟩
      obtain ⟨a, k, n, s, x, ks', vs', A1, c1, rfl, -, hk, hl, hv, hT, hcell⟩ := HA.out.below HB.out j t ht
      obtain ⟨a', k', n', s', x', ks2, vs2, A2, c2, rfl, -, -, -, hv', hT', hcell'⟩ := HA'.out.below HB.out j t ht
      obtain ⟨y, tv, lb, ll⟩ := t
      simp only at hk hl hv hT hcell hv' hT' hcell'
      subst hv
      obtain ⟨rfl, rfl, rfl, rfl, rfl, rfl⟩ : k = k' ∧ n = n' ∧ s = s' ∧ x = x' ∧ ks' = ks2 ∧ vs' = vs2 := by simpa using hv'
      have ihj : ∀ w', Below wr.heap.size wr w' → Calls Tryz.prog 32 #[vV k n s x A1 vs'.length c1, vV k n s x A2 vs'.length c2] w' (TrueQ w') := fun w' hb' => eqV _ w' S S' _ _ (hT.below' hb') (hT'.below' hb')
      clear ht hT hT' hv' hk hl
      obtain ⟨p0, p1, p2, p3, p4, p5, p6, p7, p8, p9⟩ := hcell
      obtain ⟨q0, q1, q2, q3, q4, q5, q6, q7, q8, q9⟩ := hcell'
      go_wp2_with (fail)
      go_region_with ((go_at_call 134; refine (eqSlot y k n s x A1 A2 vs'.length c1 c2 lb ll _ ?_).mono ?_; exact fun w' hb' => ihj w' (((Below.refl wr.heap.size wr).drew).trans hb'); rintro e w1 ⟨rfl, hb1⟩; have HB1 := Lib.hid hb1; clear hb1))
      all_goals
        go_wp2_with (fail)
        go_roundg (L - j)
        case rel => exact ⟨j + 1, by go_num, by omega, by omega, bs (bs HB.out ((Below.refl _ _).drew)) HB1.out⟩
        case measure => omega
    · go_wp2_with (fail)
      go_ret
      exact ⟨rfl, HB.out⟩

/-- Two tables that read alike are equal. -/
theorem eqTable {l : List Int} {sl : List Sl} {b : Bool} {A A' : Option Addr} {n c c' : Nat} {B B' : Option Addr} {m d d' : Nat} {x k : Int} {w : World} {S S' : Nat → Prop} (h : TbIn w S l sl A n c B m d x k) (h' : TbIn w S' l sl A' n c' B' m d' x k) (hn : n ≤ 17592186044416) :
    Calls Tryz.prog 31 #[tbV b A n c B m d x k, tbV b A' n c' B' m d' x k] w (TrueQ w) := by
  obtain ⟨hh, -, rfl, hcap, hS, -, -⟩ := h
  obtain ⟨hh', -, -, hcap', hS', -, -⟩ := h'
  have Z1 := fun w' (hb : Below w.heap.size w w') => ints.eqInts A A' n c c' l hn w' (hh.below hb) (hh'.below hb)
  have Z2 := fun w' (hb : Below w.heap.size w w') => eqSlots sl (Nat.le_trans hcap.1 hcap.2) B B' d d' w' S S' (hS.below hb) (hS'.below hb)
  obtain ⟨m, HM⟩ : ∃ m, Hid (sl.length = m) := ⟨_, Lib.hid rfl⟩
  rw [HM.out] at Z2 ⊢
  have HZ1 := Lib.hid Z1
  have HZ2 := Lib.hid Z2
  clear Z1 Z2 hh hh' hcap hcap' hS hS' hn
  go_enter Tryz.func31, Tryz.ntmps31
  go_wp2_with (fail)
  refine (HZ1.out _ (b2 _ _ _)).mono ?_
  rintro e w1 ⟨rfl, hg1⟩
  have hb1 := mem.below_of_none hg1
  obtain ⟨hc, hf⟩ := bcell hb1
  have HB := Lib.hid (bs (b2 w _ _) hb1)
  clear hg1
  have HB1 := Lib.hid hb1
  clear hb1
  go_wp2_with (fail)
  refine (HZ2.out _ HB.out).mono ?_
  rintro e w2 ⟨rfl, hb2⟩
  obtain ⟨hc2, hf2⟩ := bcell (bs HB1.out hb2)
  have HB2 := Lib.hid (bs HB.out hb2)
  clear hb2 hc hf
  go_wp2_with (fail)
  go_ret
  exact ⟨rfl, HB2.out⟩

end Go.Proofs.YtdgfpfkhcojgaaaGreatDoor.tree

/-
  A value without items; a call that gives back a value and writes nothing that was there.
  Conditions: those that each theorem names.
-/
namespace Go.Proofs.YtdgfpfkhcojgaaaGreatDoor.tree
open Go.ChangeShapes Go.WideShapes Go.ChangeAt Go.RowKit
set_option linter.unusedVariables false

theorem IsIn.nil (w : World) (S : Nat → Prop) (A : Option Addr) : IsIn w S [] [] A := ⟨rfl, by simp, fun _ => #[], fun i hi => absurd hi (by simp), fun i hi => absurd hi (by simp)⟩
/-- A value with no items. -/
theorem flat {k n x : Int} {s : ByteArray} (hk : I64 k ∧ I64 n ∧ I64 x ∧ s.size ≤ maxLen) (w : World) (S : Nat → Prop) (A : Option Addr) (c : Nat) (hc : c ≤ maxLen) : TIn w S (.mk k n s x [] []) (vV k n s x A 0 c) := TIn.of c hk (IsIn.nil w S A) ⟨Nat.zero_le _, hc⟩

def GivesQ (w : World) (v : Value) (e : Ending) (w' : World) : Prop := e = .returned v ∧ Below w.heap.size w w'

end Go.Proofs.YtdgfpfkhcojgaaaGreatDoor.tree

/-
  The digest of a key, of the project and of the model.
  Conditions: the key's text has at most 2^47 bytes.
-/
namespace Go.Proofs.YtdgfpfkhcojgaaaGreatDoor.tree
open Go.ChangeShapes Go.WideShapes Go.ChangeAt Go.RowKit
set_option linter.unusedVariables false

/-- The digest of a key. -/
def kh (y : Ky) : Int := if y.text then dig.fold 11 (mem.txt y.str) else y.num % 2147483647
theorem kh_in (y : Ky) : 0 ≤ kh y ∧ kh y ≤ 2147483646 := by
  unfold kh
  split
  · exact dig.fold_in dig.in11 _
  · omega
def KhQ (w : World) (x : Int) (e : Ending) (w' : World) : Prop := e = .returned (.int .i64 x) ∧ Below w.heap.size w w'

theorem keyHash_i (y : Ky) (hs : y.str.size ≤ 140737488355328) (w : World) : Calls Tryz.prog 167 #[kyV y] w (KhQ w (kh y)) := by
  obtain ⟨b, n, s⟩ := y
  replace hs : s.size ≤ 140737488355328 := hs
  have HT := hsh.implText s hs
  have HM := hsh.implMod31 n
  unfold kyV
  cases b
  · obtain ⟨q, HQ⟩ : ∃ q, Hid (n % 2147483647 = q) := ⟨_, Lib.hid rfl⟩
    rw [show kh ⟨false, n, s⟩ = q from HQ.out]
    rw [HQ.out] at HM
    go_enter Tryz.func167, Tryz.ntmps167
    go_wp2_with (fail)
    refine (HM _).mono ?_
    rintro e w1 ⟨rfl, rfl⟩
    go_wp2_with (fail)
    go_ret
    exact ⟨rfl, b1 _ _⟩
  · obtain ⟨q, HQ⟩ : ∃ q, Hid (dig.fold 11 (mem.txt s) = q) := ⟨_, Lib.hid rfl⟩
    rw [show kh ⟨true, n, s⟩ = q from HQ.out]
    rw [HQ.out] at HT
    go_enter Tryz.func167, Tryz.ntmps167
    go_wp2_with (fail)
    refine (HT _).mono ?_
    rintro e w1 ⟨rfl, hb⟩
    have HB := Lib.hid (bs (b1 w _) hb)
    clear hb
    go_wp2_with (fail)
    go_ret
    exact ⟨rfl, HB.out⟩

theorem keyHash_s (y : Ky) (hs : y.str.size ≤ 140737488355328) (w : World) : Calls Tryz.prog 57 #[kyV y] w (KhQ w (kh y)) := by
  obtain ⟨b, n, s⟩ := y
  replace hs : s.size ≤ 140737488355328 := hs
  have HT := hsh.specText s hs
  have HM := hsh.specMod31 n
  unfold kyV
  cases b
  · obtain ⟨q, HQ⟩ : ∃ q, Hid (n % 2147483647 = q) := ⟨_, Lib.hid rfl⟩
    rw [show kh ⟨false, n, s⟩ = q from HQ.out]
    rw [HQ.out] at HM
    go_enter Tryz.func57, Tryz.ntmps57
    go_wp2_with (fail)
    refine (HM _).mono ?_
    rintro e w1 ⟨rfl, rfl⟩
    go_wp2_with (fail)
    go_ret
    exact ⟨rfl, b1 _ _⟩
  · obtain ⟨q, HQ⟩ : ∃ q, Hid (dig.fold 11 (mem.txt s) = q) := ⟨_, Lib.hid rfl⟩
    rw [show kh ⟨true, n, s⟩ = q from HQ.out]
    rw [HQ.out] at HT
    go_enter Tryz.func57, Tryz.ntmps57
    go_wp2_with (fail)
    refine (HT _).mono ?_
    rintro e w1 ⟨rfl, rfl⟩
    go_wp2_with (fail)
    go_ret
    exact ⟨rfl, b1 _ _⟩

end Go.Proofs.YtdgfpfkhcojgaaaGreatDoor.tree

/-
  Two keys compared, and keys as the keys of a map.
  Conditions: those that each theorem names.
-/
namespace Go.Proofs.YtdgfpfkhcojgaaaGreatDoor.tree
open Go.ChangeShapes Go.WideShapes Go.ChangeAt Go.RowKit
set_option linter.unusedVariables false

instance : DecidableEq Ky := fun a b =>
  match a, b with
  | ⟨t, n, s⟩, ⟨t', n', s'⟩ => if h : t = t' ∧ n = n' ∧ s.data.toList = s'.data.toList then .isTrue (by
      obtain ⟨rfl, rfl, h⟩ := h
      obtain ⟨⟨s⟩⟩ := s
      obtain ⟨⟨s'⟩⟩ := s'
      simp at h
      subst h
      rfl) else .isFalse (fun e => h (by cases e; exact ⟨rfl, rfl, rfl⟩))

theorem kpart1 {P : Program} {w : World} {t : TypeId} {d : TypeDesc} (h : P.underlying t = some d) (hd : (match d with | .struct _ | .array _ _ => true | _ => false) = false) {cs : Array Value} {off : Nat} {v : Value} (hx : cs[off]? = some v) : (part t cs off).run P w = .ok v w := by
  cases d <;> simp_all [part, isAgg, run_underlying h]
theorem bytes_ne {s s' : ByteArray} (h : ¬ s.data.toList = s'.data.toList) : (s.toList == s'.toList) = false ∧ ¬ s.toList = s'.toList := by
  have h1 : ¬ s.toList = s'.toList := fun hh => h (by rwa [ByteArray.toList_eq, ByteArray.toList_eq] at hh)
  exact ⟨beq_false_of_ne h1, h1⟩
theorem bytes_same {s s' : ByteArray} (h : s.data.toList = s'.data.toList) : s = s' := by
  obtain ⟨⟨s⟩⟩ := s
  obtain ⟨⟨s'⟩⟩ := s'
  simp at h
  subst h
  rfl
theorem ik_desc : ∃ f0 f1 f2 : Field, Tryz.prog.underlying IK = some (.struct #[f0, f1, f2]) ∧ f0.name ≠ "_" ∧ f1.name ≠ "_" ∧ f2.name ≠ "_" ∧ f0.type = 4 ∧ f1.type = 3 ∧ f2.type = 9 ∧ f0.offset = 0 ∧ f1.offset = 1 ∧ f2.offset = 2 :=
  ⟨_, _, _, Tryz.underlying29, by decide, by decide, by decide, rfl, rfl, rfl, rfl, rfl, rfl⟩
theorem ik_held : Tryz.prog.stoodInHeld IK = false := by kernel_rfl
theorem ky_eq (d : Nat) (w : World) (y y' : Ky) : (Op.equalIn (d + 2) IK (kyV y) (kyV y')).run Tryz.prog w = .ok (decide (y = y')) w := by
  obtain ⟨b, n, s⟩ := y
  obtain ⟨b', n', s'⟩ := y'
  obtain ⟨f0, f1, f2, hu, n0, n1, n2, t0, t1, t2, o0, o1, o2⟩ := ik_desc
  have hf : Tryz.prog.fieldsOf IK = #[f0, f1, f2] := by simp [Program.fieldsOf, hu]
  have hb := run_equalIn_bool' (P := Tryz.prog) w d 4 b b' Tryz.underlying4
  have hi := run_equalIn_int (P := Tryz.prog) w d 3 .i64 .i64 n n' Tryz.underlying3
  have hs := run_equalIn_string (P := Tryz.prog) w d 9 s s' Tryz.underlying9
  have pa : ∀ (cs : Array Value) (v : Value), cs[0]? = some v → (part 4 cs 0).run Tryz.prog w = .ok v w := fun cs v h => kpart1 Tryz.underlying4 rfl h
  have pb : ∀ (cs : Array Value) (v : Value), cs[1]? = some v → (part 3 cs 1).run Tryz.prog w = .ok v w := fun cs v h => kpart1 Tryz.underlying3 rfl h
  have pc : ∀ (cs : Array Value) (v : Value), cs[2]? = some v → (part 9 cs 2).run Tryz.prog w = .ok v w := fun cs v h => kpart1 Tryz.underlying9 rfl h
  unfold kyV
  rw [run_equalIn_struct w (d + 1) IK _ _ (by rw [hf]; exact hu) ik_held, hf]
  have e1 := pa #[.bool b, .int .i64 n, .string s] _ rfl
  have e2 := pa #[.bool b', .int .i64 n', .string s'] _ rfl
  have e3 := pb #[.bool b, .int .i64 n, .string s] _ rfl
  have e4 := pb #[.bool b', .int .i64 n', .string s'] _ rfl
  have e5 := pc #[.bool b, .int .i64 n, .string s] _ rfl
  have e6 := pc #[.bool b', .int .i64 n', .string s'] _ rfl
  have key : decide ((⟨b, n, s⟩ : Ky) = ⟨b', n', s'⟩) = ((b == b') && ((n == n') && (s.toList == s'.toList))) := by
    rw [Bool.eq_iff_iff]
    simp only [decide_eq_true_eq, Ky.mk.injEq, Bool.and_eq_true, beq_iff_eq]
    constructor
    · rintro ⟨rfl, rfl, rfl⟩; exact ⟨rfl, rfl, rfl⟩
    · rintro ⟨rfl, rfl, h⟩
      refine ⟨rfl, rfl, bytes_same ?_⟩
      simp only [ByteArray.toList_eq] at h
      exact h
  rw [key]
  generalize hq1 : (b == b') = q1 at *
  generalize hq2 : (n == n') = q2 at *
  generalize hq3 : (s.toList == s'.toList) = q3 at *
  cases q1 <;> cases q2 <;> cases q3 <;> simp [Op.eqFields, n0, n1, n2, t0, t1, t2, o0, o1, o2, e1, e2, e3, e4, e5, e6, hb, hi, hs, Result.andThen]
theorem ky_neq (w : World) (y y' : Ky) : (binOp .neq IK (kyV y) (kyV y')).run Tryz.prog w = .ok (.bool (!decide (y = y'))) w := by
  have := ky_eq 9998 w y y'
  unfold kyV at this ⊢
  rw [run_neq_struct, this]
  rfl

theorem ky_eql (w : World) (y y' : Ky) : (binOp .eql IK (kyV y) (kyV y')).run Tryz.prog w = .ok (.bool (decide (y = y'))) w := by
  have := ky_eq 9998 w y y'
  unfold kyV at this ⊢
  rw [run_eql_struct, this]
  rfl

def GK (w : World) (v : Value) : Prop := ∃ y : Ky, v = kyV y
theorem ky_inj {y y' : Ky} (h : kyV y = kyV y') : y = y' := by
  obtain ⟨b, n, s⟩ := y
  obtain ⟨b', n', s'⟩ := y'
  simp [kyV] at h
  obtain ⟨rfl, rfl, rfl⟩ := h
  rfl
theorem ky_check (d : Nat) (w : World) (em : Bool) (y : Ky) : (Instr.checkKey em (d + 2) IK (kyV y)).run Tryz.prog w = .ok () w := by
  obtain ⟨b, n, s⟩ := y
  obtain ⟨f0, f1, f2, hu, n0, n1, n2, t0, t1, t2, o0, o1, o2⟩ := ik_desc
  have pa : (part 4 #[.bool b, .int .i64 n, .string s] 0).run Tryz.prog w = .ok (.bool b) w := kpart1 Tryz.underlying4 rfl rfl
  have pb : (part 3 #[.bool b, .int .i64 n, .string s] 1).run Tryz.prog w = .ok (.int .i64 n) w := kpart1 Tryz.underlying3 rfl rfl
  have pc : (part 9 #[.bool b, .int .i64 n, .string s] 2).run Tryz.prog w = .ok (.string s) w := kpart1 Tryz.underlying9 rfl rfl
  unfold kyV
  simp [Instr.checkKey, run_underlying hu, n0, n1, n2, t0, t1, t2, o0, o1, o2, pa, pb, pc, run_underlying Tryz.underlying4, run_underlying Tryz.underlying3, run_underlying Tryz.underlying9, Result.andThen]
theorem ky_same (d : Nat) (b : Bool) (n : Int) (s : ByteArray) : Instr.sameBits (d + 2) (.agg #[.bool b, .int .i64 n, .string s]) (.agg #[.bool b, .int .i64 n, .string s]) = true := by
  simp [Instr.sameBits]
  first | rfl | (obtain ⟨a⟩ := s; show (a == a) = true; simp) | exact beq_iff_eq.2 rfl
theorem good_ky : raw.Good Tryz.prog IK GK where
  wide := by
    obtain ⟨f0, f1, f2, hu, _⟩ := ik_desc
    rw [hu]
  check := fun w em x ⟨y, e⟩ => e ▸ ky_check 9998 w em y
  eq := fun w x x' ⟨y, e⟩ ⟨y', e'⟩ => ⟨decide (y = y'), by rw [e, e']; exact ky_eq 9998 w y y', by rw [e, e', decide_eq_true_eq]; exact ⟨fun h => h ▸ rfl, ky_inj⟩⟩
  same := fun w x ⟨y, e⟩ => by
    rw [e]
    obtain ⟨b, n, s⟩ := y
    exact ky_same 9998 b n s
theorem gk_stays : raw.Stays GK := fun _ _ _ _ _ _ h => h

end Go.Proofs.YtdgfpfkhcojgaaaGreatDoor.tree

/-
  IsKey of the project and of the model.
  Conditions: the key's text has at most 2^48 bytes; the package variables of the library's reading of numbers hold what the program's text lays.
-/
namespace Go.Proofs.YtdgfpfkhcojgaaaGreatDoor.tree
open Go.ChangeShapes Go.WideShapes Go.ChangeAt Go.RowKit
set_option linter.unusedVariables false

def num (s : ByteArray) : Bool := (dec.pr (-1000000000) 1000000000 s.data.toList).2
def keyB (y : Ky) : Bool := if y.text then decide (y.num = 0) && decide (y.str.size ≤ 400) && !num y.str else nums.inr y.num (-1000000000) 1000000000 && decide (y.str.size = 0)

def KeyQ (w : World) (b : Bool) (e : Ending) (w' : World) : Prop := e = .returned (.bool b) ∧ Below w.heap.size w w'
theorem empty_of {s : ByteArray} (h : s.size = 0) : s = ⟨#[]⟩ := by
  obtain ⟨a⟩ := s
  have : a = #[] := Array.eq_empty_of_size_eq_zero h
  rw [this]
theorem list_of {s : ByteArray} (h : s.size ≠ 0) : ¬ s.toList = [] ∧ s.toList.isEmpty = false := by
  have h1 : ¬ s.toList = [] := fun hh => h (by
    rw [ByteArray.toList_eq] at hh
    have : s.data.toList.length = 0 := by rw [hh]; rfl
    simpa using this)
  exact ⟨h1, by cases hl : s.toList with
    | nil => exact absurd hl h1
    | cons a l => rfl⟩

set_option maxHeartbeats 800000 in
theorem isKey_i (y : Ky) (hs : y.str.size ≤ 281474976710656) (w : World) (hE : prs.Env w) : Calls Tryz.prog 51 #[kyV y] w (KeyQ w (keyB y)) := by
  obtain ⟨b, m, s⟩ := y
  replace hs : s.size ≤ 281474976710656 := hs
  have HE := Lib.hid hE
  clear hE
  cases b
  · have e : keyB ⟨false, m, s⟩ = (nums.inr m (-1000000000) 1000000000 && decide (s.size = 0)) := rfl
    rw [e]
    clear e
    unfold kyV
    obtain ⟨q, HQ⟩ : ∃ q, Hid (nums.inr m (-1000000000) 1000000000 = q) := ⟨_, Lib.hid rfl⟩
    have IR : ∀ w, Calls Tryz.prog 104 #[.int .i64 m, .int .i64 (-1000000000), .int .i64 1000000000] w fun e w' => e = .returned (.bool q) ∧ w = w' := fun w => HQ.out ▸ nums.implInRange m (-1000000000) 1000000000 w
    rw [HQ.out]
    by_cases h0 : s.size = 0
    · obtain rfl := empty_of h0
      cases q
      all_goals
        go_enter Tryz.func51, Tryz.ntmps51
        go_wp2_with (fail)
        refine (IR _).mono ?_
        rintro e w1 ⟨rfl, rfl⟩
        go_wp2_with (fail)
        go_ret
        exact ⟨rfl, b1 _ _⟩
    · obtain ⟨l1, l2⟩ := list_of h0
      rw [show decide (s.size = 0) = false from decide_eq_false h0]
      clear h0
      cases q
      all_goals
        go_enter Tryz.func51, Tryz.ntmps51
        go_wp2_with (fail)
        refine (IR _).mono ?_
        rintro e w1 ⟨rfl, rfl⟩
        go_wp2_with (fail)
        go_ret
        exact ⟨rfl, b1 _ _⟩
  · have e : keyB ⟨true, m, s⟩ = (decide (m = 0) && decide (s.size ≤ 400) && !num s) := rfl
    rw [e]
    clear e
    unfold kyV
    obtain ⟨⟨x1, x2⟩, HX⟩ : ∃ x, Hid (dec.pr (-1000000000) 1000000000 s.data.toList = x) := ⟨_, Lib.hid rfl⟩
    have hn : num s = x2 := by unfold num; rw [HX.out]
    rw [hn]
    have PS : Hid (∀ w, prs.Env w → Calls Tryz.prog 108 #[.string s] w fun e w' => e = .returned (.tuple #[.int .i64 x1, .bool x2]) ∧ Below w.heap.size w w') := Lib.hid fun w hE => by
      have := prs.implParseSigned s hs w hE
      rw [HX.out] at this
      exact this
    clear hn
    by_cases h0 : m = 0
    · subst h0
      by_cases h4 : s.size ≤ 400
      · rw [show decide (s.size ≤ 400) = true from decide_eq_true h4]
        cases x2
        all_goals
          go_enter Tryz.func51, Tryz.ntmps51
          go_wp2_with (fail)
          refine (PS.out _ (HE.out.stays (b1 _ _))).mono ?_
          rintro e w1 ⟨rfl, hb1⟩
          have HB := Lib.hid (bs (b1 w _) hb1)
          obtain ⟨r1, -⟩ := rowc (carry hb1 (heap_alloc_new w _))
          clear hb1
          go_wp2_with (fail)
          go_ret
          exact ⟨rfl, HB.out⟩
      · rw [show decide (s.size ≤ 400) = false from decide_eq_false h4]
        have h4' : 400 < s.size := by omega
        clear h4
        go_enter Tryz.func51, Tryz.ntmps51
        go_wp2_with (fail)
        refine (PS.out _ (HE.out.stays (b1 _ _))).mono ?_
        rintro e w1 ⟨rfl, hb1⟩
        have HB := Lib.hid (bs (b1 w _) hb1)
        obtain ⟨r1, -⟩ := rowc (carry hb1 (heap_alloc_new w _))
        clear hb1
        go_wp2_with (fail)
        go_ret
        exact ⟨rfl, HB.out⟩
    · rw [show decide (m = 0) = false from decide_eq_false h0]
      go_enter Tryz.func51, Tryz.ntmps51
      go_wp2_with (fail)
      refine (PS.out _ (HE.out.stays (b1 _ _))).mono ?_
      rintro e w1 ⟨rfl, hb1⟩
      have HB := Lib.hid (bs (b1 w _) hb1)
      obtain ⟨r1, -⟩ := rowc (carry hb1 (heap_alloc_new w _))
      clear hb1
      go_wp2_with (fail)
      go_ret
      exact ⟨rfl, HB.out⟩

set_option maxHeartbeats 800000 in
theorem isKey_s (y : Ky) (hs : y.str.size ≤ 281474976710656) (w : World) (hE : prs.Env w) : Calls Tryz.prog 13 #[kyV y] w (KeyQ w (keyB y)) := by
  obtain ⟨b, m, s⟩ := y
  replace hs : s.size ≤ 281474976710656 := hs
  have HE := Lib.hid hE
  clear hE
  cases b
  · have e : keyB ⟨false, m, s⟩ = (nums.inr m (-1000000000) 1000000000 && decide (s.size = 0)) := rfl
    rw [e]
    clear e
    unfold kyV
    obtain ⟨q, HQ⟩ : ∃ q, Hid (nums.inr m (-1000000000) 1000000000 = q) := ⟨_, Lib.hid rfl⟩
    have IR : ∀ w, Calls Tryz.prog 56 #[.int .i64 m, .int .i64 (-1000000000), .int .i64 1000000000] w fun e w' => e = .returned (.bool q) ∧ w = w' := fun w => HQ.out ▸ nums.l1In m (-1000000000) 1000000000 w
    rw [HQ.out]
    by_cases h0 : s.size = 0
    · obtain rfl := empty_of h0
      cases q
      all_goals
        go_enter Tryz.func13, Tryz.ntmps13
        go_wp2_with (fail)
        refine (IR _).mono ?_
        rintro e w1 ⟨rfl, rfl⟩
        go_wp2_with (fail)
        go_ret
        exact ⟨rfl, b1 _ _⟩
    · obtain ⟨l1, l2⟩ := list_of h0
      rw [show decide (s.size = 0) = false from decide_eq_false h0]
      clear h0
      cases q
      all_goals
        go_enter Tryz.func13, Tryz.ntmps13
        go_wp2_with (fail)
        refine (IR _).mono ?_
        rintro e w1 ⟨rfl, rfl⟩
        go_wp2_with (fail)
        go_ret
        exact ⟨rfl, b1 _ _⟩
  · have e : keyB ⟨true, m, s⟩ = (decide (m = 0) && decide (s.size ≤ 400) && !num s) := rfl
    rw [e]
    clear e
    unfold kyV
    obtain ⟨⟨x1, x2⟩, HX⟩ : ∃ x, Hid (dec.pr (-1000000000) 1000000000 s.data.toList = x) := ⟨_, Lib.hid rfl⟩
    have hn : num s = x2 := by unfold num; rw [HX.out]
    rw [hn]
    have PS : Hid (∀ w, prs.Env w → Calls Tryz.prog 59 #[.string s] w fun e w' => e = .returned (.tuple #[.int .i64 x1, .bool x2]) ∧ Below w.heap.size w w') := Lib.hid fun w hE => by
      have := prs.specParseSigned s hs w
      rw [HX.out] at this
      exact this
    clear hn
    by_cases h0 : m = 0
    · subst h0
      by_cases h4 : s.size ≤ 400
      · rw [show decide (s.size ≤ 400) = true from decide_eq_true h4]
        cases x2
        all_goals
          go_enter Tryz.func13, Tryz.ntmps13
          go_wp2_with (fail)
          refine (PS.out _ (HE.out.stays (b1 _ _))).mono ?_
          rintro e w1 ⟨rfl, hb1⟩
          have HB := Lib.hid (bs (b1 w _) hb1)
          obtain ⟨r1, -⟩ := rowc (carry hb1 (heap_alloc_new w _))
          clear hb1
          go_wp2_with (fail)
          go_ret
          exact ⟨rfl, HB.out⟩
      · rw [show decide (s.size ≤ 400) = false from decide_eq_false h4]
        have h4' : 400 < s.size := by omega
        clear h4
        go_enter Tryz.func13, Tryz.ntmps13
        go_wp2_with (fail)
        refine (PS.out _ (HE.out.stays (b1 _ _))).mono ?_
        rintro e w1 ⟨rfl, hb1⟩
        have HB := Lib.hid (bs (b1 w _) hb1)
        obtain ⟨r1, -⟩ := rowc (carry hb1 (heap_alloc_new w _))
        clear hb1
        go_wp2_with (fail)
        go_ret
        exact ⟨rfl, HB.out⟩
    · rw [show decide (m = 0) = false from decide_eq_false h0]
      go_enter Tryz.func13, Tryz.ntmps13
      go_wp2_with (fail)
      refine (PS.out _ (HE.out.stays (b1 _ _))).mono ?_
      rintro e w1 ⟨rfl, hb1⟩
      have HB := Lib.hid (bs (b1 w _) hb1)
      obtain ⟨r1, -⟩ := rowc (carry hb1 (heap_alloc_new w _))
      clear hb1
      go_wp2_with (fail)
      go_ret
      exact ⟨rfl, HB.out⟩

end Go.Proofs.YtdgfpfkhcojgaaaGreatDoor.tree

/-
  What makes a table sound, as a matter of lists; where a key's live slot is.
  Conditions: none.
-/
namespace Go.Proofs.YtdgfpfkhcojgaaaGreatDoor.tree
open Go.ChangeShapes Go.WideShapes Go.ChangeAt Go.RowKit
set_option linter.unusedVariables false

/-- The bucket of a key among n. -/
def bk (n : Nat) (y : Ky) : Nat := (kh y % (n : Int)).toNat
theorem bk_lt {n : Nat} (h : 0 < n) (y : Ky) : bk n y < n := by
  unfold bk
  have h1 := Int.emod_nonneg (kh y) (show (n : Int) ≠ 0 by omega)
  have h2 := Int.emod_lt_of_pos (kh y) (show (0 : Int) < n by omega)
  omega
theorem bk_int {n : Nat} (h : 0 < n) (y : Ky) : kh y % (n : Int) = (bk n y : Int) := by
  unfold bk
  have h1 := Int.emod_nonneg (kh y) (show (n : Int) ≠ 0 by omega)
  omega
/-- The heads of the chains after the first j slots. -/
def hs (n : Nat) (sl : List Sl) : Nat → List Int
  | 0 => List.replicate n (-1)
  | j + 1 => match sl[j]? with
    | some t => (hs n sl j).set (bk n t.key) j
    | none => hs n sl j
theorem hs_succ {n : Nat} {sl : List Sl} {j : Nat} {t : Sl} (h : sl[j]? = some t) : hs n sl (j + 1) = (hs n sl j).set (bk n t.key) j := by simp [hs, h]
theorem hs_len (n : Nat) (sl : List Sl) (j : Nat) : (hs n sl j).length = n := by
  induction j with
  | zero => simp [hs]
  | succ j ih =>
    rw [hs]
    split
    · rw [List.length_set]; exact ih
    · exact ih
/-- The last slot of a bucket among the first j. -/
def last (n : Nat) (sl : List Sl) (b : Nat) : Nat → Int
  | 0 => -1
  | j + 1 => match sl[j]? with
    | some t => if bk n t.key = b then j else last n sl b j
    | none => last n sl b j
theorem hs_get {n : Nat} {sl : List Sl} {b : Nat} (h : b < n) : ∀ j, (hs n sl j)[b]? = some (last n sl b j)
  | 0 => by simp [hs, last, h]
  | j + 1 => by
    have ih := hs_get (sl := sl) h j
    rw [hs, last]
    cases hj : sl[j]? with
    | none => exact ih
    | some t =>
      simp only
      by_cases e : bk n t.key = b
      · subst e
        rw [if_pos rfl, List.getElem?_set_self (by rw [hs_len]; exact h)]
      · rw [if_neg e, List.getElem?_set_ne e]
        exact ih
/-- The slot to which the slot j of a key is linked. -/
def lk (n : Nat) (sl : List Sl) (j : Nat) (y : Ky) : Int := ((hs n sl j)[bk n y]?).getD (-1)
theorem lk_zero (sl : List Sl) (j : Nat) (y : Ky) : lk 0 sl j y = -1 := by
  unfold lk
  rw [List.getElem?_eq_none (by rw [hs_len]; exact Nat.zero_le _)]
  rfl
theorem lk_pos {n : Nat} (h : 0 < n) (sl : List Sl) (j : Nat) (y : Ky) : lk n sl j y = last n sl (bk n y) j := by
  unfold lk
  rw [hs_get (bk_lt h y)]
  rfl
theorem last_bd (n : Nat) (sl : List Sl) (b : Nat) : ∀ j, -1 ≤ last n sl b j ∧ last n sl b j < j
  | 0 => by simp [last]
  | j + 1 => by
    have ih := last_bd n sl b j
    rw [last]
    split
    · split
      · omega
      · omega
    · omega

/-- The live slot of a key among the first j; -1 if there is none. -/
def fd (sl : List Sl) (y : Ky) : Nat → Int
  | 0 => -1
  | j + 1 => match sl[j]? with
    | some t => if t.live = true ∧ t.key = y then j else fd sl y j
    | none => fd sl y j
theorem fd_succ {sl : List Sl} {y : Ky} {j : Nat} {t : Sl} (h : sl[j]? = some t) : fd sl y (j + 1) = if t.live = true ∧ t.key = y then (j : Int) else fd sl y j := by simp [fd, h]
theorem fd_bd (sl : List Sl) (y : Ky) : ∀ j, -1 ≤ fd sl y j ∧ fd sl y j < j
  | 0 => by simp [fd]
  | j + 1 => by
    have ih := fd_bd sl y j
    rw [fd]
    split
    · split
      · omega
      · omega
    · omega
/-- Where the last slot of the key's bucket is, the search goes on. -/
theorem last_fd {n : Nat} {sl : List Sl} {y : Ky} {b : Nat} (hb : bk n y = b) : ∀ J, J ≤ sl.length → (last n sl b J = -1 ∧ fd sl y J = -1) ∨ ∃ i t, i < J ∧ last n sl b J = (i : Int) ∧ sl[i]? = some t ∧ bk n t.key = b ∧ fd sl y J = fd sl y (i + 1)
  | 0, _ => .inl ⟨rfl, rfl⟩
  | J + 1, h => by
    obtain ⟨tJ, ht⟩ : ∃ t, sl[J]? = some t := ⟨_, List.getElem?_eq_getElem (by omega)⟩
    rcases last_fd (sl := sl) hb J (by omega) with ih | ih
    all_goals
      by_cases e : bk n tJ.key = b
      · exact .inr ⟨J, _, Nat.lt_succ_self _, by simp [last, ht, e], ht, e, rfl⟩
      · have e2 : ¬ (tJ.live = true ∧ tJ.key = y) := fun h2 => e (by rw [h2.2]; exact hb)
        have e3 : fd sl y (J + 1) = fd sl y J := by rw [fd_succ ht, if_neg e2]
        have e4 : last n sl b (J + 1) = last n sl b J := by simp [last, ht, e]
        rw [e3, e4]
        first
          | exact .inl ih
          | (obtain ⟨i, t, h1, h2⟩ := ih; exact .inr ⟨i, t, Nat.lt_succ_of_lt h1, h2⟩)

/-- The value of a slot that is free. -/
def zeroT : Tr → Prop
  | .mk k n s x ks vs => k = 0 ∧ n = 0 ∧ s.size = 0 ∧ x = 0 ∧ vs.length = 0
def soundS (x : Int) (sl : List Sl) (j : Nat) (t : Sl) : Prop := (keyB t.key && (t.key.text || decide (t.key.num < x))) = true ∧ (t.live = true → t.key ∉ livK (sl.take j)) ∧ (t.live = false → zeroT t.val)
/-- The key of the slot i of a packed table. -/
def ixK (i : Nat) : Ky := ⟨false, i, ⟨#[]⟩⟩
def linkS (b : Bool) (n : Nat) (sl : List Sl) (j : Nat) (t : Sl) : Prop := (b = true ∨ t.key = ixK j) ∧ t.link = lk n sl j t.key
def p2 (n : Nat) : Prop := n = 8 ∨ n = 16 ∨ n = 32 ∨ n = 64 ∨ n = 128 ∨ n = 256 ∨ n = 512 ∨ n = 1024
def sizeP (b : Bool) (n m : Nat) (x : Int) : Prop := (b = true → p2 n ∧ m ≤ n) ∧ (b = false → n = 0 ∧ (m : Int) ≤ x ∧ m ≤ 1024)
def rowS (x : Int) (sl : List Sl) : Prop := ∀ j t, sl[j]? = some t → soundS x sl j t
def rowL (b : Bool) (n : Nat) (sl : List Sl) : Prop := ∀ j t, sl[j]? = some t → linkS b n sl j t
/-- A table is sound. -/
def tabOk (b : Bool) (l : List Int) (sl : List Sl) (x k : Int) : Prop :=
  (0 ≤ x ∧ x ≤ 1000000001) ∧ sizeP b l.length sl.length x ∧ (rowS x sl ∧ ((livK sl).length : Int) = k) ∧ (rowL b l.length sl ∧ hs l.length sl sl.length = l)
theorem tabOk.len {b : Bool} {l : List Int} {sl : List Sl} {x k : Int} (h : tabOk b l sl x k) : sl.length ≤ 1024 ∧ l.length ≤ 1024 := by
  obtain ⟨-, ⟨h1, h2⟩, -⟩ := h
  cases b with
  | true => obtain ⟨h3, h4⟩ := h1 rfl; unfold p2 at h3; omega
  | false => obtain ⟨h3, h4, h5⟩ := h2 rfl; omega

theorem livK_take {sl : List Sl} {j : Nat} {t : Sl} (h : sl[j]? = some t) : livK (sl.take (j + 1)) = livK (sl.take j) ++ (if t.live then [t.key] else []) := by
  unfold livK
  rw [liv_take h, List.map_append]
  cases t.live <;> simp
theorem livK_len (sl : List Sl) : (livK sl).length ≤ sl.length := by
  unfold livK
  rw [List.length_map]
  exact liv_len sl
theorem mem_livK {sl : List Sl} {y : Ky} : y ∈ livK sl ↔ ∃ (i : Nat) (t : Sl), sl[i]? = some t ∧ t.live = true ∧ t.key = y := by
  unfold livK liv
  simp only [List.mem_map, List.mem_filter]
  constructor
  · rintro ⟨t, ⟨h1, h2⟩, h3⟩
    obtain ⟨i, hi⟩ := List.mem_iff_getElem?.1 h1
    exact ⟨i, t, hi, h2, h3⟩
  · rintro ⟨i, t, h1, h2, h3⟩
    exact ⟨t, ⟨List.mem_of_getElem? h1, h2⟩, h3⟩
/-- Keys that are their places do not stand twice. -/
theorem packed_new {sl : List Sl} {j : Nat} (h : ∀ i t, i < j → sl[i]? = some t → t.key = ixK i) : ixK j ∉ livK (sl.take j) := fun hm => by
  obtain ⟨i, t, h1, -, h3⟩ := mem_livK.1 hm
  have hi : i < j := by
    have := (List.getElem?_eq_some_iff.1 h1).1
    rw [List.length_take] at this
    omega
  rw [List.getElem?_take, if_pos hi] at h1
  have := h i t hi h1
  rw [h3] at this
  unfold ixK at this
  injection this with _ e _
  omega
theorem fd_packed {sl : List Sl} (h : ∀ i t, sl[i]? = some t → t.key = ixK i) (y : Ky) : ∀ J, J ≤ sl.length → fd sl y J = -1 ∨ ∃ i t, i < J ∧ sl[i]? = some t ∧ t.live = true ∧ t.key = y ∧ y = ixK i ∧ fd sl y J = i
  | 0, _ => .inl rfl
  | J + 1, hJ => by
    obtain ⟨tJ, ht⟩ : ∃ t, sl[J]? = some t := ⟨_, List.getElem?_eq_getElem (by omega)⟩
    rw [fd_succ ht]
    by_cases e : tJ.live = true ∧ tJ.key = y
    · rw [if_pos e]
      exact .inr ⟨J, _, Nat.lt_succ_self _, ht, e.1, e.2, by rw [← e.2]; exact h _ _ ht, rfl⟩
    · rw [if_neg e]
      rcases fd_packed h y J (by omega) with ih | ⟨i, t, h1, h2⟩
      · exact .inl ih
      · exact .inr ⟨i, t, by omega, h2⟩
/-- In a packed table the key's number is the place. -/
theorem fd_at {sl : List Sl} (h : ∀ i t, sl[i]? = some t → t.key = ixK i) {y : Ky} {i : Nat} {t : Sl} (ht : sl[i]? = some t) (hn : y.num = i) : fd sl y sl.length = if t.live = true ∧ t.key = y then (i : Int) else -1 := by
  have hi := (List.getElem?_eq_some_iff.1 ht).1
  rcases fd_packed h y sl.length (Nat.le_refl _) with h0 | ⟨i', t', h1, h2, h3, h4, h5, h6⟩
  · rw [h0]
    split
    · rename_i e
      exfalso
      have key : ∀ J, i < J → J ≤ sl.length → fd sl y J ≠ -1 := by
        intro J
        induction J with
        | zero => intro h; omega
        | succ J ih =>
          intro h1 h2
          obtain ⟨tJ, hs⟩ : ∃ t, sl[J]? = some t := ⟨_, List.getElem?_eq_getElem (by omega)⟩
          rw [fd_succ hs]
          split
          · omega
          · rename_i e2
            by_cases hJ : i = J
            · subst hJ
              rw [ht] at hs
              obtain rfl := Option.some.inj hs
              exact absurd e e2
            · exact ih (by omega) (by omega)
      exact key _ hi (Nat.le_refl _) h0
    · rfl
  · have : i' = i := by
      rw [h5] at hn
      unfold ixK at hn
      simp only at hn
      omega
    subst this
    rw [ht] at h2
    obtain rfl := Option.some.inj h2
    rw [if_pos ⟨h3, h4⟩, h6]
theorem fd_out {sl : List Sl} (h : ∀ i t, sl[i]? = some t → t.key = ixK i) {y : Ky} (hn : ¬ (0 ≤ y.num ∧ y.num ≤ (sl.length : Int) - 1)) : fd sl y sl.length = -1 := by
  rcases fd_packed h y sl.length (Nat.le_refl _) with h0 | ⟨i', t', h1, h2, h3, h4, h5, h6⟩
  · exact h0
  · exfalso
    apply hn
    rw [h5]
    unfold ixK
    simp
    omega

end Go.Proofs.YtdgfpfkhcojgaaaGreatDoor.tree

/-
  Where a key stands first among the items, of the model.
  Conditions: those that each theorem names.
-/
namespace Go.Proofs.YtdgfpfkhcojgaaaGreatDoor.tree
open Go.ChangeShapes Go.WideShapes Go.ChangeAt Go.RowKit
set_option linter.unusedVariables false

def LtQ (w : World) (x : Int) (e : Ending) (w' : World) : Prop := e = .returned (.int .i64 x) ∧ Below w.heap.size w w'
def BoQ (w : World) (b : Bool) (e : Ending) (w' : World) : Prop := e = .returned (.bool b) ∧ Below w.heap.size w w'
def pos : List Ky → Ky → Nat → Int
  | [], _, _ => -1
  | z :: ks, y, i => if z = y then i else pos ks y (i + 1)
theorem pos_first : ∀ (ks : List Ky) (y : Ky) (i j : Nat), ks[j]? = some y → (pos ks y i = (i : Int) + j ↔ y ∉ ks.take j)
  | [], y, i, j, h => by simp at h
  | z :: ks, y, i, 0, h => by
    simp at h
    subst h
    simp [pos]
  | z :: ks, y, i, j + 1, h => by
    have ih := pos_first ks y (i + 1) j (by simpa using h)
    rw [pos, List.take_succ_cons, List.mem_cons]
    by_cases hz : z = y
    · subst hz
      simp
      omega
    · rw [if_neg hz]
      rw [show (i : Int) + ((j + 1 : Nat) : Int) = ((i + 1 : Nat) : Int) + (j : Int) by push_cast; omega, ih]
      simp [Ne.symm hz]
theorem pos_bd : ∀ (ks : List Ky) (y : Ky) (i : Nat), -1 ≤ pos ks y i ∧ pos ks y i ≤ i + ks.length
  | [], y, i => by simp [pos]
  | z :: ks, y, i => by
    have := pos_bd ks y (i + 1)
    rw [pos]
    split
    · simp; omega
    · push_cast at *; simp; omega
theorem pos_drop {ks : List Ky} {j : Nat} {z y : Ky} (h : ks[j]? = some z) : pos (ks.drop j) y j = if z = y then (j : Int) else pos (ks.drop (j + 1)) y (j + 1) := by
  obtain ⟨hj, rfl⟩ := List.getElem?_eq_some_iff.1 h
  rw [List.drop_eq_getElem_cons hj, pos]

theorem kdrew_heap (w : World) : ∀ n, (w.drewN n).heap = w.heap
  | 0 => rfl
  | n + 1 => (kdrew_heap w n)
theorem kbelow_drew (w : World) : ∀ n, Below w.heap.size w (w.drewN n)
  | 0 => Below.refl _ _
  | n + 1 => (kbelow_drew w n).drew

def CutF (wr : World) (b : Bool) (N : Nat) (C D : Array Value) (v : Value) (wx : World) : Prop :=
  v = .bool b ∧ Below wr.heap.size wr wx ∧ wx.heap[N]? = some (.cells C IV (0, 0)) ∧ wx.heap[N + 1]? = some (.cells D IK (0, 0))

set_option maxHeartbeats 800000 in
theorem find_s (n : Int) (s : ByteArray) (x : Int) (ks : List Ky) (vs : List Tr) (A : Option Addr) (c : Nat) (y : Ky) (w : World) (S : Nat → Prop) (h : IsIn w S ks vs A) :
    Calls Tryz.prog 102 #[vV 4 n s x A vs.length c, kyV y] w (LtQ w (pos ks y 0)) := by
  obtain ⟨L, HL⟩ : ∃ L, Hid (L = vs.length) := ⟨_, Lib.hid rfl⟩
  have hm : L ≤ maxLen := by rw [HL.out]; exact h.2.1
  have hkl : Hid (ks.length = L) := Lib.hid (by rw [HL.out]; exact h.1)
  unfold maxLen at hm
  rw [← HL.out]
  have HI := Lib.hid h
  clear h
  obtain ⟨W, HW⟩ : ∃ W, Hid (pos ks y 0 = W) := ⟨_, Lib.hid rfl⟩
  rw [HW.out]
  obtain ⟨yb, yn, ys⟩ := y
  unfold kyV
  go_enter Tryz.func102, Tryz.ntmps102
  go_wp2_with (fail)
  go_loopg [5] (L + 1) (fun gk i wr => ∃ j : Nat, i = .int .i64 j ∧ gk + j = L + 1 ∧ j ≤ L ∧ Hid (pos (ks.drop j) ⟨yb, yn, ys⟩ j = W) ∧
    Hid (wr.heap[w.heap.size]? = some (.cells #[.int .i64 4, .int .i64 n, .string s, .int .i64 x, .slice A L c] IV (0, 0))) ∧ Hid (wr.heap[w.heap.size + 1]? = some (.cells #[.bool yb, .int .i64 yn, .string ys] IK (0, 0))) ∧ Below w.heap.size w wr)
  case atStart => exact ⟨0, rfl, by omega, by omega, Lib.hid HW.out, Lib.hid (heap_alloc2_old w _ _), Lib.hid (heap_alloc2_new w _ _), b2 _ _ _⟩
  case round =>
    obtain ⟨j, rfl, hgj, hjL, HQ, HE, HE', hb⟩ := hrel
    have HB := Lib.hid hb
    clear hb
    obtain ⟨r0, -⟩ := rowc HE.out
    obtain ⟨r1, -⟩ := rowc HE'.out
    by_cases hlt : j < L
    · obtain ⟨a, y1, k1, n1, s1, x1, ks1, vs1, A1, c1, rfl, hS, hky, hvs, ht, hyb, hkb, hin1, hcell⟩ := (HI.out.below HB.out).item (i := j) (by rw [← HL.out]; exact hlt)
      have HD := Lib.hid ((pos_drop (y := ⟨yb, yn, ys⟩) hky).symm.trans HQ.out)
      obtain ⟨b, HBB⟩ : ∃ b, Hid (decide (y1 = ⟨yb, yn, ys⟩) = b) := ⟨_, Lib.hid rfl⟩
      have NE := fun w => ky_eql w y1 ⟨yb, yn, ys⟩
      rw [HBB.out] at NE
      unfold kyV at NE
      simp only at NE
      clear hky hvs ht hyb hkb hin1 hS
      obtain ⟨p0, p1, p2, p3, p4, p5, p6, p7⟩ := hcell
      go_upto_region 4 with fail
      go_cut [25] (fun v wx => CutF wr b w.heap.size #[.int .i64 4, .int .i64 n, .string s, .int .i64 x, .slice (some a) L c] #[.bool yb, .int .i64 yn, .string ys] v wx)
      case first =>
        go_quiet ((fail))
        all_goals
          go_wp2_with (fail)
          go_meet
          exact ⟨rfl, kbelow_drew _ _, (kdrew_heap _ _).symm ▸ HE.out, (kdrew_heap _ _).symm ▸ HE'.out⟩
      case rest =>
        obtain ⟨rfl, hbc, hx0, hx1⟩ := hcut
        have HBc := Lib.hid (bs HB.out hbc)
        have HX0 := Lib.hid hx0
        have HX1 := Lib.hid hx1
        clear hbc hx0 hx1 p0 p1 p2 p3 p4 p5 p6 p7 NE
        cases b with
        | true =>
          have e : W = (j : Int) := by rw [← HD.out, if_pos (of_decide_eq_true HBB.out)]
          go_wp2_with (fail)
          go_ret
          exact ⟨by first | rfl | (rw [e]; rfl), HBc.out⟩
        | false =>
          have HF : Hid (pos (ks.drop (j + 1)) ⟨yb, yn, ys⟩ (j + 1) = W) := Lib.hid (by have := HD.out; rw [if_neg (of_decide_eq_false HBB.out)] at this; exact this)
          go_wp2_with (fail)
          go_roundg (L - j)
          case rel => exact ⟨j + 1, by go_num, by omega, by omega, HF, HX0, HX1, HBc.out⟩
          case measure => omega
    · obtain rfl : j = L := by omega
      have e : W = -1 := by rw [← HQ.out, show ks.drop j = [] from List.drop_eq_nil_of_le (Nat.le_of_eq hkl.out)]; rfl
      go_wp2_with (fail)
      go_ret
      exact ⟨by first | rfl | (rw [e]; rfl), HB.out⟩

end Go.Proofs.YtdgfpfkhcojgaaaGreatDoor.tree

/-
  The sizes of a table's heads, and new heads, of the project.
  Conditions: those that each theorem names.
-/
namespace Go.Proofs.YtdgfpfkhcojgaaaGreatDoor.tree
open Go.ChangeShapes Go.WideShapes Go.ChangeAt Go.RowKit
set_option linter.unusedVariables false

def pcA (x : Int) : Int := IntKind.u64.wrap (bits BinOp.and IntKind.u64 (x / 2) 6148914691236517205 + bits BinOp.and IntKind.u64 x 6148914691236517205)
def pcB (x : Int) : Int := IntKind.u64.wrap (bits BinOp.and IntKind.u64 (x / 4) 3689348814741910323 + bits BinOp.and IntKind.u64 x 3689348814741910323)
def pcC (x : Int) : Int := bits BinOp.and IntKind.u64 (IntKind.u64.wrap (x / 16 + x)) 1085102592571150095
def pcD (x : Int) : Int := IntKind.u64.wrap (x + x / 256)
def pcE (x : Int) : Int := IntKind.u64.wrap (x + x / 65536)
def pcF (x : Int) : Int := IntKind.u64.wrap (x + x / 4294967296)
def pc (n : Nat) : Int := bits BinOp.and IntKind.i64 (wrap64 (pcF (pcE (pcD (pcC (pcB (pcA n))))))) 127
theorem ones64_i (n : Nat) (w : World) : Calls Tryz.prog 162 #[.int .u64 n] w fun e w' => e = .returned (.int .i64 (pc n)) ∧ w' = w := by
  go_enter Tryz.func162, Tryz.ntmps162
  go_wp2
  go_ret
  exact ⟨rfl, rfl⟩
theorem ones_i (n : Nat) (w : World) : Calls Tryz.prog 146 #[.int .u64 n] w fun e w' => e = .returned (.int .i64 (pc n)) ∧ w' = w := by
  obtain ⟨q, HQ⟩ : ∃ q, Hid (pc n = q) := ⟨_, Lib.hid rfl⟩
  have ON := ones64_i n
  rw [HQ.out] at ON ⊢
  go_enter Tryz.func146, Tryz.ntmps146
  go_wp2_with (fail)
  refine (ON _).mono ?_
  rintro e w1 ⟨rfl, rfl⟩
  go_wp2_with (fail)
  go_ret
  exact ⟨rfl, rfl⟩
def p2b (n : Nat) : Bool := [8, 16, 32, 64, 128, 256, 512, 1024].contains n
theorem p2b_iff (n : Nat) : p2b n = true ↔ p2 n := by simp [p2b, p2]
theorem pc_all : ((List.range 1025).all fun n => decide (n < 8) || (decide (pc n = 1) == p2b n)) = true := by kernel_rfl
theorem pc_p2 {n : Nat} (h0 : 8 ≤ n) (h1 : n ≤ 1024) : pc n = 1 ↔ p2 n := by
  have := List.all_eq_true.1 pc_all n (by simp; omega)
  rw [decide_eq_false (show ¬ n < 8 by omega), Bool.false_or, beq_iff_eq] at this
  rw [← p2b_iff, ← this, decide_eq_true_eq]
theorem and_all : ((List.range 1025).all fun n => decide (n < 8) || (decide (bits BinOp.and IntKind.i64 (n : Int) ((n : Int) - 1) = 0) == p2b n)) = true := by kernel_rfl
theorem and_p2 {n : Nat} (h0 : 8 ≤ n) (h1 : n ≤ 1024) : bits BinOp.and IntKind.i64 (n : Int) ((n : Int) - 1) = 0 ↔ p2 n := by
  have := List.all_eq_true.1 and_all n (by simp; omega)
  rw [decide_eq_false (show ¬ n < 8 by omega), Bool.false_or, beq_iff_eq] at this
  rw [← p2b_iff, ← this, decide_eq_true_eq]

def BoP (w : World) (p : Prop) (e : Ending) (w' : World) : Prop := ∃ q : Bool, e = .returned (.bool q) ∧ (q = true ↔ p) ∧ Below w.heap.size w w'
theorem BoP.of {w w' : World} {p : Prop} {q : Bool} (h : q = true ↔ p) (hb : Below w.heap.size w w') : BoP w p (.returned (.bool q)) w' := ⟨q, rfl, h, hb⟩

set_option maxHeartbeats 1000000 in
theorem rightSize_i (b : Bool) (A : Option Addr) (n c : Nat) (B : Option Addr) (m d : Nat) (x k : Int) (hn : n ≤ 1048576) (hm : m ≤ 1048576) (hx : 0 ≤ x) (w : World) :
    Calls Tryz.prog 105 #[tbV b A n c B m d x k] w (BoP w (sizeP b n m x)) := by
  cases b with
  | true =>
    obtain ⟨q, HQ⟩ : ∃ q, Hid (nums.inr n 8 1024 = q) := ⟨_, Lib.hid rfl⟩
    have IR := fun w => HQ.out ▸ nums.implInRange n 8 1024 w
    cases q with
    | false =>
      have HF : Hid (false = true ↔ sizeP true n m x) := Lib.hid ⟨fun h => (by cases h), fun h => by
        have h1 := (h.1 rfl).1
        have h2 := HQ.out
        unfold nums.inr at h2
        unfold p2 at h1
        simp at h2
        omega⟩
      go_enter Tryz.func105, Tryz.ntmps105
      go_wp2_with (fail)
      refine (IR _).mono ?_
      rintro e w1 ⟨rfl, rfl⟩
      go_wp2_with (fail)
      go_ret
      exact BoP.of HF.out (b1 _ _)
    | true =>
      have HN : Hid (8 ≤ n ∧ n ≤ 1024) := Lib.hid (by have h2 := HQ.out; unfold nums.inr at h2; simp at h2; omega)
      have ON := ones_i n
      obtain ⟨z, HZ⟩ : ∃ z, Hid (pc n = z) := ⟨_, Lib.hid rfl⟩
      rw [HZ.out] at ON
      have HP : Hid (z = 1 ↔ p2 n) := Lib.hid (HZ.out ▸ pc_p2 HN.out.1 HN.out.2)
      by_cases hz : z = 1
      · subst hz
        by_cases hmn : m ≤ n
        all_goals
          have HF : Hid (∀ q : Bool, q = decide (m ≤ n) → (q = true ↔ sizeP true n m x)) := Lib.hid (by
            rintro q rfl
            rw [decide_eq_true_eq]
            exact ⟨fun h => ⟨fun _ => ⟨HP.out.1 rfl, h⟩, fun h => by cases h⟩, fun h => (h.1 rfl).2⟩)
          go_enter Tryz.func105, Tryz.ntmps105
          go_wp2_with (fail)
          refine (IR _).mono ?_
          rintro e w1 ⟨rfl, rfl⟩
          go_wp2_with (fail)
          refine (ON _).mono ?_
          rintro e w1 ⟨rfl, rfl⟩
          go_wp2_with (fail)
          go_ret
          exact BoP.of (HF.out _ (by simp [hmn])) (b1 _ _)
      · have hz1 : (z == 1) = false := by simp [hz]
        have HF : Hid (false = true ↔ sizeP true n m x) := Lib.hid ⟨fun h => (by cases h), fun h => absurd (HP.out.2 (h.1 rfl).1) hz⟩
        clear hz
        go_enter Tryz.func105, Tryz.ntmps105
        go_wp2_with (fail)
        refine (IR _).mono ?_
        rintro e w1 ⟨rfl, rfl⟩
        go_wp2_with (fail)
        refine (ON _).mono ?_
        rintro e w1 ⟨rfl, rfl⟩
        go_wp2_with (fail)
        go_ret
        exact BoP.of HF.out (b1 _ _)
  | false =>
    by_cases h0 : n = 0
    · subst h0
      obtain ⟨z, HZ⟩ : ∃ z, Hid (nums.mn x 1024 = z) := ⟨_, Lib.hid rfl⟩
      have MI := fun w => HZ.out ▸ nums.implMin x 1024 w
      have HP : Hid ((m : Int) ≤ z ↔ sizeP false 0 m x) := Lib.hid (by
        rw [← HZ.out]
        unfold nums.mn
        constructor
        · intro h
          refine ⟨fun h => (by cases h), fun _ => ⟨rfl, ?_⟩⟩
          split at h <;> omega
        · intro h
          obtain ⟨-, h2, h3⟩ := h.2 rfl
          split <;> omega)
      by_cases hz : (m : Int) ≤ z
      all_goals
        go_enter Tryz.func105, Tryz.ntmps105
        go_wp2_with (fail)
        have e2 : (w.alloc (.cells #[.bool false, .slice A 0 c, .slice B m d, .int .i64 x, .int .i64 k] IT)).cell? ⟨w.heap.size, 2, none⟩ = some (.slice B m d) := (rowc (heap_alloc_new w _)).1 2
        have e3 : (w.alloc (.cells #[.bool false, .slice A 0 c, .slice B m d, .int .i64 x, .int .i64 k] IT)).cell? ⟨w.heap.size, 3, none⟩ = some (.int .i64 x) := (rowc (heap_alloc_new w _)).1 3
        go_region_held3 (fun w' => w'.cell? ⟨w.heap.size, 2, none⟩ = some (.slice B m d) ∧ w'.cell? ⟨w.heap.size, 3, none⟩ = some (.int .i64 x)) (first | go_keep | exact ⟨e2, e3⟩) (first | (go_at_call 92; refine (MI _).mono ?_; rintro e w1 ⟨rfl, rfl⟩))
        go_wp2_with (fail)
        go_ret
        exact BoP.of (by rw [← HP.out]; simp [hz]) (b1 _ _).drew
    · have HF : Hid (false = true ↔ sizeP false n m x) := Lib.hid ⟨fun h => (by cases h), fun h => absurd (h.2 rfl).1 h0⟩
      have h0' : ((n : Int) == 0) = false := by simp; omega
      clear h0
      go_enter Tryz.func105, Tryz.ntmps105
      go_wp2_with (fail)
      go_quiet ((fail))
      go_wp2_with (fail)
      go_ret
      exact BoP.of HF.out (bs (b1 _ _) (kbelow_drew _ _))

end Go.Proofs.YtdgfpfkhcojgaaaGreatDoor.tree

/-
  New heads, and a slot linked to its chain, of the project.
  Conditions: those that each theorem names.
-/
namespace Go.Proofs.YtdgfpfkhcojgaaaGreatDoor.tree
open Go.ChangeShapes Go.WideShapes Go.ChangeAt Go.RowKit
set_option linter.unusedVariables false

def rwK (K n : Nat) : Array Value := (List.replicate K (Value.int .i64 (-1)) ++ List.replicate (n - K) (Value.int .i64 0)).toArray
theorem rwK_size {K n : Nat} (h : K ≤ n) : (rwK K n).size = n := by simp [rwK]; omega
theorem rwK_next {K q n : Nat} (h : K + q ≤ n) : ((rwK K n).toList.take K ++ (List.replicate q (Value.int .i64 (-1)) ++ (rwK K n).toList.drop (K + q))).toArray = rwK (K + q) n := by
  unfold rwK
  congr 1
  rw [List.take_left' (by simp), List.drop_append, List.drop_eq_nil_of_le (by simp), List.nil_append, List.length_replicate, List.drop_replicate, ← List.append_assoc, List.replicate_append_replicate, show n - K - (K + q - K) = n - (K + q) by omega]
theorem rwK_get {K n j : Nat} {v : Value} (h : (List.replicate K (Value.int .i64 (-1)))[j]? = some v) : (rwK K n)[j]? = some v := by
  have hj := (List.getElem?_eq_some_iff.1 h).1
  rw [List.length_replicate] at hj
  unfold rwK
  rw [List.getElem?_toArray, List.getElem?_append_left (by simpa using hj)]
  exact h
theorem rwK_own {w : World} {lo g n : Nat} (hg : w.heap[g]? = some (.cells (rwK n n) 3 (0, 0))) (hl : lo ≤ g) (hn : n ≤ 1048576) : imem.OwnI w lo (some ⟨g, 0, none⟩) n n (List.replicate n (-1)) :=
  ⟨by simp, by simp [imem.ics], .inr ⟨g, n, _, rfl, hl, hg, Nat.le_refl _, by unfold maxLen; omega, by rw [rwK_size (Nat.le_refl _)]; omega, by simp [rwK, imem.ics]⟩⟩
theorem int_info : ∃ i, Tryz.prog.info? 3 = some i ∧ i.zero = some (.int .i64 0) ∧ i.size = 1 ∧ i.bytes = 8 := by
  have := imem.i64row
  cases h : Tryz.prog.info? 3 with
  | none => rw [h] at this; simp at this
  | some i => rw [h] at this; simp at this; exact ⟨i, rfl, this⟩

def NewQ (w : World) (n : Nat) (e : Ending) (w' : World) : Prop := ∃ g, e = .returned (.slice (some ⟨g, 0, none⟩) n n) ∧ w.heap.size ≤ g ∧ imem.OwnI w' w.heap.size (some ⟨g, 0, none⟩) n n (List.replicate n (-1)) ∧ Below w.heap.size w w'

set_option maxRecDepth 100000 in
set_option maxHeartbeats 2000000 in
theorem repeat_i (n : Nat) (hn : n ≤ 1048576) (g0 : Nat) (w : World) (h0 : w.cell? ⟨g0, 0, none⟩ = some (.int .i64 (-1))) :
    Calls Tryz.prog 153 #[.slice (some ⟨g0, 0, none⟩) 1 1, .int .i64 n] w (NewQ w n) := by
  obtain ⟨i0, hi, hz, hs, hby⟩ := int_info
  have hsz : (Tryz.prog.info? 3).map (·.size) = some 1 := by rw [hi]; exact congrArg some hs
  have MU := fun w => Tryz.bits_Mul 1 n (by omega) (by omega) w
  rw [Nat.one_mul, Nat.div_eq_of_lt (by omega), Nat.mod_eq_of_lt (by omega)] at MU
  have hmk := run_make (P := Tryz.prog) w 24 3 i0 _ Tryz.underlying24 hi hz .i64 .i64 n n (by omega) (Int.le_refl _) (by rw [hby]; omega) (by omega)
  rw [hs, Nat.mul_one] at hmk
  simp only [Int.toNat_natCast] at hmk
  rw [show madeCells (Value.int .i64 0).cells n = rwK 0 n by
    have := toList_madeCells_one (.int .i64 0) n
    rw [show (Value.int .i64 0).cells = #[.int .i64 0] from rfl]
    apply Array.toList_inj.1
    rw [this]
    simp [rwK]] at hmk
  have hse : ∀ w', (sizeOf (Tryz.prog.elem 24)).run Tryz.prog w' = .ok 1 w' := fun w' => by
    have : Tryz.prog.elem 24 = 3 := by kernel_rfl
    simp [sizeOf, typeInfo, this, hi, hs]
  have HSE := Lib.hid hse
  have HSZ := Lib.hid hsz
  clear hi hz hs hby hse hsz
  rcases Nat.eq_zero_or_pos n with hz | hp
  · subst hz
    have hc := run_copy_none (P := Tryz.prog) (w.alloc (.cells (rwK 0 0) 3)) 24 24 3 3 (some ⟨w.heap.size, 0, none⟩) (some ⟨g0, 0, none⟩) 0 0 1 1 Tryz.underlying24 HSZ.out (by decide)
    have hmk0 : (Instr.makeSlice 24 (.int .i64 0) (.int .i64 0)).run Tryz.prog w = .ok (.slice (some ⟨w.heap.size, 0, none⟩) 0 0) (w.alloc (.cells (rwK 0 0) 3)) := hmk
    clear hmk
    go_enter Tryz.func153, Tryz.ntmps153
    go_wp2_with (fail)
    refine (MU _).mono ?_
    rintro e w1 ⟨rfl, rfl⟩
    go_wp2_with (fail)
    go_loopg [8] 0 (fun gk s wr => s = .int .i64 0 ∧ wr = w1.alloc (.cells (rwK 0 0) 3))
    case atStart => exact ⟨rfl, rfl⟩
    case round =>
      obtain ⟨rfl, rfl⟩ := hrel
      go_wp2_with (fail)
      go_ret
      exact ⟨_, rfl, Nat.le_refl _, rwK_own (heap_alloc_new _ _) (Nat.le_refl _) (by omega), b1 _ _⟩
  · obtain ⟨row, HROW⟩ : ∃ r, Hid (r = rwK 0 n) := ⟨_, Lib.hid rfl⟩
    rw [← HROW.out] at hmk
    have hc := run_copy_row (P := Tryz.prog) (w.alloc (.cells row 3)) 24 24 3 3 w.heap.size 0 n n ⟨g0, 0, none⟩ 1 1 row 3 [.int .i64 (-1)] Tryz.underlying24 HSZ.out (heap_alloc_new _ _) (by show 1 = Nat.min 1 n; simp only [Nat.min_def]; split <;> omega)
      (fun j v hv => by
        cases j with
        | zero => simp at hv; subst hv; rw [show (⟨g0, 0, none⟩ : Addr).add 0 = ⟨g0, 0, none⟩ by unfold Addr.add; rw [if_pos rfl]]; exact cell_stays (fun hl => (b1 w _).block _ hl) h0
        | succ j => simp at hv) (by rw [HROW.out, rwK_size (Nat.zero_le _)]; simp; omega) (by simp [Value.oneCell'])
    rw [show (row.toList.take 0 ++ [Value.int .i64 (-1)] ++ row.toList.drop (0 + [Value.int .i64 (-1)].length)).toArray = rwK 1 n by
      have := rwK_next (K := 0) (q := 1) (n := n) (by omega)
      rw [HROW.out, List.append_assoc]
      exact this] at hc
    obtain ⟨w2, HW2⟩ : ∃ W, Hid (W = (w.alloc (.cells row 3)).setRow w.heap.size (rwK 1 n)) := ⟨_, Lib.hid rfl⟩
    rw [← HW2.out] at hc
    have HB2 : Hid (Below w.heap.size w w2) := Lib.hid (HW2.out ▸ below_setRow (b1 w _) (Nat.le_refl _) _)
    have HG2 : Hid (w2.heap[w.heap.size]? = some (.cells (rwK 1 n) 3 (0, 0))) := Lib.hid (HW2.out ▸ setRow_heap _ _ _ _ _ _ (heap_alloc_new _ _))
    clear h0
    go_enter Tryz.func153, Tryz.ntmps153
    go_wp2_with (fail)
    refine (MU _).mono ?_
    rintro e w1 ⟨rfl, rfl⟩
    go_wp2_with (fail)
    clear hc hmk
    have hlo := HB2.out.size
    obtain ⟨g, HG⟩ : ∃ g, Hid (w1.heap.size = g) := ⟨_, Lib.hid rfl⟩
    rw [HG.out] at HG2 HB2 hlo ⊢
    go_loopg [8] n (fun gk s wr => ∃ K : Nat, s = .int .i64 K ∧ n - K ≤ gk ∧ 1 ≤ K ∧ K ≤ n ∧ Hid (wr.heap[g]? = some (.cells (rwK K n) 3 (0, 0))) ∧ Hid (Below g w1 wr))
    case atStart => exact ⟨1, rfl, by omega, by omega, by omega, HG2, HB2⟩
    case round =>
      obtain ⟨K, rfl, hgk, hK1, hKn, HR, HB⟩ := hrel
      clear HG2 HB2 HW2 hlo
      by_cases hlt : K < n
      · obtain ⟨q, HQ⟩ : ∃ q, Hid (q = if K ≤ n - K then K else n - K) := ⟨_, Lib.hid rfl⟩
        have hq : 1 ≤ q ∧ K + q ≤ n := by rw [HQ.out]; split <;> omega
        have hs1 : ∀ w', (Instr.slice 24 (.slice (some ⟨g, 0, none⟩) n n) (some (.int .i64 K)) none none).run Tryz.prog w' = .ok (.slice (some ⟨g, K, none⟩) (n - K) (n - K)) w' := fun w' => by
          rw [run_slice_l (P := Tryz.prog) w' 24 _ n n (by kernel_rfl) .i64 (K : Int) (by omega) (by omega), HSE.out]
          simp [Result.andThen, sliced, show n ≠ K by omega, Addr.add_lit]
        have hs2 : ∀ w', (Instr.slice 24 (.slice (some ⟨g, 0, none⟩) n n) none (some (.int .i64 K)) none).run Tryz.prog w' = .ok (.slice (some ⟨g, 0, none⟩) K n) w' := fun w' => by
          rw [run_slice_h (P := Tryz.prog) w' 24 (some ⟨g, 0, none⟩) n n (by kernel_rfl) .i64 (K : Int) (by omega) (by omega), HSE.out]
          have h0 : (⟨g, 0, none⟩ : Addr).add 0 = ⟨g, 0, none⟩ := by unfold Addr.add; rw [if_pos rfl]
          simp [Result.andThen, sliced, h0]
        have hcp := run_copy_row (P := Tryz.prog) wr.drew 24 24 3 3 g K (n - K) (n - K) ⟨g, 0, none⟩ K n (rwK K n) 3 (List.replicate q (.int .i64 (-1))) Tryz.underlying24 HSZ.out HR.out (by rw [List.length_replicate, HQ.out]; simp only [Nat.min_def])
          (fun j v hv => by
            have hj := (List.getElem?_eq_some_iff.1 hv).1
            rw [List.length_replicate] at hj
            have hv2 : (List.replicate K (Value.int .i64 (-1)))[j]? = some v := by
              rw [List.getElem?_replicate, if_pos hj] at hv
              rw [List.getElem?_replicate, if_pos (by have := HQ.out; split at this <;> omega)]
              exact hv
            have := rwK_get (n := n) hv2
            rw [Addr.add_lit, Nat.zero_add]
            exact (cell_of_row _ _ j _ _ _ (show wr.drew.heap[g]? = _ from HR.out)).trans this) (by rw [List.length_replicate, rwK_size hKn]; omega) (fun v hv => by rw [List.mem_replicate] at hv; rw [hv.2]; rfl)
        rw [List.length_replicate, List.append_assoc, rwK_next hq.2] at hcp
        obtain ⟨w3, HW3⟩ : ∃ W, Hid (W = wr.drew.setRow g (rwK (K + q) n)) := ⟨_, Lib.hid rfl⟩
        rw [← HW3.out] at hcp
        have HB3 : Hid (Below g w1 w3) := Lib.hid (HW3.out ▸ below_setRow HB.out.drew (Nat.le_refl _) _)
        have HR3 : Hid (w3.heap[g]? = some (.cells (rwK (K + q) n) 3 (0, 0))) := Lib.hid (HW3.out ▸ setRow_heap _ _ _ _ _ _ (show wr.drew.heap[g]? = _ from HR.out))
        clear HSE HSZ
        go_wp2_with (fail)
        go_region
        go_wp2_with (fail)
        go_roundg (n - (K + q))
        case rel => exact ⟨K + q, by go_num, by omega, by omega, by omega, HR3, HB3⟩
        case measure => omega
      · obtain rfl : K = n := by omega
        go_wp2_with (fail)
        go_ret
        exact ⟨g, rfl, Nat.le_of_eq HG.out, rwK_own HR.out (Nat.le_of_eq HG.out) hn, HG.out.symm ▸ HB.out⟩

theorem newHeads_i (n : Nat) (hn : n ≤ 1048576) (w : World) : Calls Tryz.prog 121 #[.int .i64 n] w (NewQ w n) := by
  have RE := fun o : Obj => fun h => repeat_i n hn w.heap.size (w.alloc o) h
  go_enter Tryz.func121, Tryz.ntmps121
  go_wp2_with (fail)
  refine (RE _ ((rowc (heap_alloc_new w _)).1 0)).mono ?_
  rintro e w1 ⟨g, rfl, hg, ho, hb⟩
  have HO := Lib.hid ho
  have HB := Lib.hid (bs (b1 w _) hb)
  have hz : w.heap.size ≤ g := by simp at hg; omega
  clear ho hb hg
  go_wp2_with (fail)
  go_ret
  exact ⟨g, rfl, hz, HO.out.less (by simp), HB.out⟩

theorem bucketOf_i (n : Nat) (h0 : 0 < n) (hn : n ≤ 1048576) (y : Ky) (hs : y.str.size ≤ 140737488355328) (w : World) : Calls Tryz.prog 154 #[kyV y, .int .i64 n] w (LtQ w (bk n y)) := by
  obtain ⟨q, HQ⟩ : ∃ q : Nat, Hid (bk n y = q) := ⟨_, Lib.hid rfl⟩
  obtain ⟨z, HZ⟩ : ∃ z, Hid (kh y = z) := ⟨_, Lib.hid rfl⟩
  have KH := keyHash_i y hs
  have hmd : mdl.md z n = (q : Int) := by
    unfold mdl.md
    rw [if_pos (mdl.inr_of (by omega) (by omega)), ← HZ.out, bk_int h0, HQ.out]
  have MO := fun w => mdl.implMod z n w
  rw [hmd] at MO
  rw [HZ.out] at KH
  rw [HQ.out]
  obtain ⟨yb, yn, ys⟩ := y
  unfold kyV at KH ⊢
  clear hmd
  go_enter Tryz.func154, Tryz.ntmps154
  go_wp2_with (fail)
  refine (KH _).mono ?_
  rintro e w1 ⟨rfl, hb⟩
  have HB := Lib.hid (bs (b1 w _) hb)
  clear hb
  go_wp2_with (fail)
  refine (MO _).mono ?_
  rintro e w2 ⟨rfl, rfl⟩
  go_wp2_with (fail)
  go_ret
  exact ⟨rfl, HB.out⟩

theorem gb {w w' : World} (h : Below w.heap.size w w') (r : Option Nat) : w.grownBy w' r := ⟨h.os, h.tape, h.output, h.size, fun k hk _ => h.block k hk⟩
def LkQ (w : World) (lo : Nat) (A : Option Addr) (n c : Nat) (v : Int) (h' : List Int) (e : Ending) (w' : World) : Prop := e = .returned (.int .i64 v) ∧ imem.OwnI w' lo A n c h' ∧ w.grownBy w' (Value.slice A n c).ownBlock

theorem linkSlot_i (n c : Nat) (hn : n ≤ 1048576) (A : Option Addr) (h : List Int) (lo : Nat) (y : Ky) (hs : y.str.size ≤ 140737488355328) (i : Nat) (w : World) (ho : imem.OwnI w lo A n c h) :
    Calls Tryz.prog 148 #[.slice A n c, kyV y, .int .i64 i] w (LkQ w lo A n c ((h[bk n y]?).getD (-1)) (h.set (bk n y) i)) := by
  rcases Nat.eq_zero_or_pos n with hz | hp
  · subst hz
    have h0 : h = [] := List.eq_nil_of_length_eq_zero ho.len
    subst h0
    have HO := Lib.hid ho
    obtain ⟨yb, yn, ys⟩ := y
    unfold kyV
    clear ho hs hn
    go_enter Tryz.func148, Tryz.ntmps148
    go_wp2_with (fail)
    go_ret
    exact ⟨rfl, HO.out.alloc _, World.grownBy_alloc _ _ _⟩
  · obtain ⟨g, rfl, hlg, hgs, hob⟩ := ho.head hp
    have BK := fun w => bucketOf_i n hp hn y hs w
    have hq := bk_lt hp y
    obtain ⟨q, HQ⟩ : ∃ q : Nat, Hid (bk n y = q) := ⟨_, Lib.hid rfl⟩
    rw [HQ.out] at BK hq ⊢
    have hl := ho.len
    obtain ⟨v, hv⟩ : ∃ v, h[q]? = some v := ⟨_, List.getElem?_eq_getElem (by omega)⟩
    have hc : w.cell? ⟨g, q, none⟩ = some (.int .i64 v) := by
      have := ho.row.cellAt q (by omega)
      rw [this]
      exact imem.ics_get hv
    have hfz : w.frozen? ⟨g, q, none⟩ = false := ho.row.frozenAt q
    rw [hv, Option.getD_some]
    have HO := Lib.hid ho
    have HGS := Lib.hid hgs
    have hn1 : ((n : Int) == 0) = false := by simp; omega
    have hqi : (q : Int) < (n : Int) := by omega
    obtain ⟨yb, yn, ys⟩ := y
    unfold kyV at BK ⊢
    have HC := Lib.hid hc
    have HFZ := Lib.hid hfz
    clear ho hs hl hv hgs hc hfz
    go_enter Tryz.func148, Tryz.ntmps148
    go_wp2_with (fail)
    refine (BK _).mono ?_
    rintro e w1 ⟨rfl, hb⟩
    have HB := Lib.hid (bs (b1 w _) hb)
    have hc1 : w1.cell? ⟨g, q, none⟩ = some (.int .i64 v) := cell_stays (fun hl => HB.out.block _ hl) HC.out
    have HO1 := Lib.hid (HO.out.below HB.out)
    have hf1 : w1.frozen? ⟨g, q, none⟩ = false := HO1.out.row.frozenAt q
    clear hb
    go_wp2_with (fail)
    go_ret
    obtain ⟨h1, h2⟩ := HO1.out.set q i
    exact ⟨rfl, h1, by rw [hob]; exact mem.grown_trans (gb HB.out _) h2⟩

end Go.Proofs.YtdgfpfkhcojgaaaGreatDoor.tree

/-
  A text's copy; a part of what a list of items holds.
  Conditions: those that each theorem names.
-/
namespace Go.Proofs.YtdgfpfkhcojgaaaGreatDoor.tree
open Go.ChangeShapes Go.WideShapes Go.ChangeAt Go.RowKit
set_option linter.unusedVariables false

theorem implClone' (s : ByteArray) (hs : s.size ≤ 1099511627776) (w : World) : Calls Tryz.prog 53 #[.string s] w fun e w' => e = .returned (.string s) ∧ Below w.heap.size w w' := by
  go_enter Tryz.func53, Tryz.ntmps53
  go_wp2_with (fail)
  refine (Tryz.stringslite_Clone s _ (by omega)).mono ?_
  rintro e w1 ⟨rfl, hb⟩
  go_wp2
  go_ret
  exact ⟨rfl, hb⟩

theorem tots_key : ∀ {ks : List Ky} {vs : List Tr} {j : Nat} {y : Ky} {t : Tr}, ks[j]? = some y → vs[j]? = some t → y.str.size + tot t ≤ tots ks vs
  | [], _, j, _, _, h, _ => by simp at h
  | _, [], j, _, _, _, h => by simp at h
  | y :: ks, t :: vs, 0, _, _, h, h' => by
    simp at h h'
    subst h h'
    rw [tots]
    omega
  | y :: ks, t :: vs, j + 1, _, _, h, h' => by
    have := tots_key (ks := ks) (vs := vs) (j := j) (by simpa using h) (by simpa using h')
    rw [tots]
    omega

end Go.Proofs.YtdgfpfkhcojgaaaGreatDoor.tree

/-
  The chain of a bucket, as a list; a search along it finds the live slot of a key. An own list of numbers that begins in an array of eight.
  Conditions: those that each theorem names.
-/
namespace Go.Proofs.YtdgfpfkhcojgaaaGreatDoor.tree
open Go.ChangeShapes Go.WideShapes Go.ChangeAt Go.RowKit
set_option linter.unusedVariables false

/-- The slots of a bucket among the first j, the last one first. -/
def chn (n : Nat) (sl : List Sl) (b : Nat) : Nat → List Int
  | 0 => []
  | j + 1 => match sl[j]? with
    | some t => if bk n t.key = b then (j : Int) :: chn n sl b j else chn n sl b j
    | none => chn n sl b j
/-- The first of some slots that is live and has the key; -1 if there is none. -/
def sr (sl : List Sl) (y : Ky) : List Int → Int
  | [] => -1
  | i :: r => match sl[i.toNat]? with
    | some t => if t.live = true ∧ t.key = y then i else sr sl y r
    | none => sr sl y r
theorem sr_cons {sl : List Sl} {y : Ky} {i : Nat} {t : Sl} (h : sl[i]? = some t) (r : List Int) : sr sl y ((i : Int) :: r) = if t.live = true ∧ t.key = y then (i : Int) else sr sl y r := by
  rw [sr]
  simp [h]
theorem chn_in {n : Nat} {sl : List Sl} {b : Nat} : ∀ J, ∀ i ∈ chn n sl b J, 0 ≤ i ∧ i < J
  | 0, i, h => by simp [chn] at h
  | J + 1, i, h => by
    rw [chn] at h
    split at h
    · split at h
      · rcases List.mem_cons.1 h with rfl | h
        · omega
        · have := chn_in J i h; omega
      · have := chn_in J i h; omega
    · have := chn_in J i h; omega
theorem chn_len {n : Nat} {sl : List Sl} {b : Nat} : ∀ J, (chn n sl b J).length ≤ J
  | 0 => by simp [chn]
  | J + 1 => by
    have := chn_len (n := n) (sl := sl) (b := b) J
    rw [chn]
    split
    · split
      · rw [List.length_cons]; omega
      · omega
    · omega
theorem chn_fd {n : Nat} {sl : List Sl} {y : Ky} : ∀ J, J ≤ sl.length → sr sl y (chn n sl (bk n y) J) = fd sl y J
  | 0, _ => rfl
  | J + 1, h => by
    obtain ⟨t, ht⟩ : ∃ t, sl[J]? = some t := ⟨_, List.getElem?_eq_getElem (by omega)⟩
    have ih := chn_fd (n := n) (sl := sl) (y := y) J (by omega)
    rw [fd_succ ht, chn, ht]
    simp only
    by_cases e : bk n t.key = bk n y
    · rw [if_pos e, sr_cons ht, ih]
    · rw [if_neg e, ih]
      have e2 : ¬ (t.live = true ∧ t.key = y) := fun h2 => e (by rw [h2.2])
      rw [if_neg e2]
/-- The last slot of a bucket heads its chain. -/
theorem last_chn {n : Nat} {sl : List Sl} {b : Nat} : ∀ J, J ≤ sl.length → (last n sl b J = -1 ∧ chn n sl b J = []) ∨ ∃ i t, i < J ∧ last n sl b J = (i : Int) ∧ sl[i]? = some t ∧ bk n t.key = b ∧ chn n sl b J = (i : Int) :: chn n sl b i
  | 0, _ => .inl ⟨rfl, rfl⟩
  | J + 1, h => by
    obtain ⟨tJ, ht⟩ : ∃ t, sl[J]? = some t := ⟨_, List.getElem?_eq_getElem (by omega)⟩
    rcases last_chn (n := n) (sl := sl) (b := b) J (by omega) with ih | ih
    all_goals
      by_cases e : bk n tJ.key = b
      · exact .inr ⟨J, _, Nat.lt_succ_self _, by simp [last, ht, e], ht, e, by simp [chn, ht, e]⟩
      · have e3 : chn n sl b (J + 1) = chn n sl b J := by simp [chn, ht, e]
        have e4 : last n sl b (J + 1) = last n sl b J := by simp [last, ht, e]
        rw [e3, e4]
        first
          | exact .inl ih
          | (obtain ⟨i, t, h1, h2⟩ := ih; exact .inr ⟨i, t, Nat.lt_succ_of_lt h1, h2⟩)

abbrev T8 : TypeId := 140
/-- A list of numbers that the call has made: it lies in an array of eight, or where append has moved it. -/
def OwnC (w : World) (g lo : Nat) (A : Option Addr) (n c : Nat) (l : List Int) : Prop :=
  (l.length = n ∧ ∃ cur, A = some ⟨g, 0, none⟩ ∧ c = 8 ∧ w.heap[g]? = some (.cells cur T8 (0, 0)) ∧ cur.size = 8 ∧ n ≤ 8 ∧ cur.toList.take n = imem.ics l) ∨ imem.OwnI w lo A n c l
theorem OwnC.len {w : World} {g lo n c : Nat} {A : Option Addr} {l : List Int} (h : OwnC w g lo A n c l) : l.length = n := by
  rcases h with h | h
  · exact h.1
  · exact h.len
theorem OwnC.rd {w : World} {g lo n c : Nat} {A : Option Addr} {l : List Int} (h : OwnC w g lo A n c l) : imem.RdI w A n l := by
  rcases h with ⟨hl, cur, rfl, rfl, hg, hs, hn, ht⟩ | h
  · refine ⟨hl, fun _ => ⟨_, rfl, fun j v hv => ?_⟩⟩
    have hj : j < n := by have := (List.getElem?_eq_some_iff.1 hv).1; omega
    rw [Addr.add_lit, Nat.zero_add, cell_of_row _ _ j _ _ _ hg]
    have := imem.ics_get hv
    rw [← ht, List.getElem?_take, if_pos hj] at this
    simpa using this
  · exact h.rd
theorem OwnC.block {w : World} {g lo n c : Nat} {A : Option Addr} {l : List Int} (h : OwnC w g lo A n c l) : ∀ k, (Value.slice A n c).ownBlock = some k → (k = g ∨ lo ≤ k) ∧ k < w.heap.size := by
  rcases h with ⟨hl, cur, rfl, rfl, hg, hs, hn, ht⟩ | h
  · intro k hk
    obtain rfl := Option.some.inj hk
    exact ⟨.inl rfl, (Array.getElem?_eq_some_iff.1 hg).1⟩
  · intro k hk; obtain ⟨h1, h2⟩ := h.block k hk; exact ⟨.inr h1, h2⟩
theorem OwnC.below {w w' : World} {g lo n c : Nat} {A : Option Addr} {l : List Int} (h : OwnC w g lo A n c l) (hb : Below w.heap.size w w') : OwnC w' g lo A n c l := by
  rcases h with ⟨hl, cur, rfl, rfl, hg, hr⟩ | h
  · exact .inl ⟨hl, cur, rfl, rfl, carry hb hg, hr⟩
  · exact .inr (h.below hb)
theorem OwnC.made (w : World) (lo g : Nat) (cur : Array Value) (hg : w.heap[g]? = some (.cells cur T8 (0, 0))) (hs : cur.size = 8) : OwnC w g lo (some ⟨g, 0, none⟩) 0 8 [] :=
  .inl ⟨rfl, cur, rfl, rfl, hg, hs, by omega, by simp [imem.ics]⟩
theorem int_info8 : ∃ i, Tryz.prog.info? 3 = some i ∧ i.zero = some (.int .i64 0) ∧ i.size = 1 ∧ i.bytes = 8 := by
  have := imem.i64row
  cases h : Tryz.prog.info? 3 with
  | none => rw [h] at this; simp at this
  | some i => rw [h] at this; simp at this; exact ⟨i, rfl, this⟩
theorem gb1 {w w' : World} {r : Option Nat} (h : w.grownBy w' none) : w.grownBy w' r := ⟨h.os, h.tape, h.output, h.size, fun k hk _ => h.block k hk (fun e => by cases e)⟩
/-- append of one number. -/
theorem wpList_appendC (w : World) {ops : Array Oper} {rest : List Oper} {o : Oper} {a : Act} {Q : Exit → Act → World → Prop} (hgd : o.guard = none) (s x : Operand)
    (ho : o.op = .call { callee := .builtin .append, args := #[s, x], argTypes := #[24, 24] })
    (g lo : Nat) (A : Option Addr) (n c : Nat) (l : List Int) (hs : a.eval s = .slice A n c) (hown : OwnC w g lo A n c l) (ad : Addr) (v : Int) (hx : a.eval x = .slice (some ad) 1 1) (hc : w.cell? ad = some (.int .i64 v)) (hb : n + 1 ≤ 17592186044416) (hlo : lo ≤ w.heap.size)
    (h : ∀ A' c' w', OwnC w' g lo A' (n + 1) c' (l ++ [v]) → w.grownBy w' (Value.slice A n c).ownBlock → wpList Tryz.prog ops Q rest (a.put o.dst (.slice A' (n + 1) c')) w') : wpList Tryz.prog ops Q (o :: rest) a w := by
  obtain ⟨i, hi, hz, hsz, hby⟩ := int_info8
  have hnews : ∀ j u, [Value.int .i64 v][j]? = some u → w.cell? (ad.add j) = some u := fun j u hu => by
    cases j with
    | zero => simp at hu; subst hu; rw [show ad.add 0 = ad by unfold Addr.add; rw [if_pos rfl]]; exact hc
    | succ j => simp at hu
  rcases hown with ⟨hl, cur, rfl, rfl, hg, hcs, hn8, ht⟩ | hown
  · by_cases hfull : n < 8
    · refine wpList_plain hgd fun K hK => ?_
      have hf := run_firstCells_some (P := Tryz.prog) w i.size 1 ad 1 1 [.int .i64 v] (by rw [hsz]; rfl) hnews
      have hst := run_storeCells_at Tryz.prog g (n * i.size) T8 [.int .i64 v] 0 cur w hg (by rw [hsz]; simp; omega) (by simp [Value.oneCell'])
      simp only [Nat.add_zero] at hst
      have hrun : (Builtin.append_ #[24, 24] o.type #[.slice (some ⟨g, 0, none⟩) n 8, .slice (some ad) 1 1]).run Tryz.prog w = .ok (.slice (some ⟨g, 0, none⟩) (n + 1) 8) (w.setRow g (cur.toList.take (n * i.size) ++ [Value.int .i64 v] ++ cur.toList.drop (n * i.size + [Value.int .i64 v].length)).toArray) := by
        simp [Builtin.append_, run_underlying Tryz.underlying24, sizeOf, typeInfo, hi, Builtin.lenOf, show n + 1 ≤ 8 by omega, hf, Addr.add_lit, hst]
      unfold Oper.wp
      simp [execOp, ho, resolve, invoke, builtin, hs, hx, hrun, Result.andThen]
      refine hK _ _ (h (some ⟨g, 0, none⟩) 8 _ (.inl ⟨by simp [hl], _, rfl, rfl, setRow_heap _ _ _ _ _ _ hg, ?_, by omega, ?_⟩) ⟨rfl, rfl, rfl, by simp [World.setRow], fun k hk hne => Go.setRow_other _ _ _ _ (fun e => hne (by rw [e]; rfl))⟩)
      · rw [hsz]; simp; omega
      · rw [hsz, Nat.mul_one]
        rw [ht, imem.ics_app]
        have hil : (imem.ics l).length = n := by rw [imem.ics_len, hl]
        simp only []
        rw [List.take_append, hil, List.take_of_length_le (by rw [hil]; omega), show n + 1 - n = 1 by omega]
        simp [imem.ics]
    · obtain rfl : n = 8 := by omega
      refine wpList_append_grows w hgd s x 24 ho 3 i (.int .i64 0) 1 8 Tryz.underlying24 hi hz hsz hby rfl (by omega) (some ⟨g, 0, none⟩) 8 8 (imem.ics l) hs (fun e => by cases e) (by rw [imem.ics_len, hl]) (fun b hb j u hu => ?_) ad 1 1 [.int .i64 v] hx rfl hnews (by simp [Value.oneCell']) (by omega) (by unfold maxLen; omega) (by omega) ?_
      · obtain rfl := Option.some.inj hb
        rw [Addr.add_lit, Nat.zero_add, cell_of_row _ _ j _ _ _ hg]
        have hj : j < 8 := by have := (List.getElem?_eq_some_iff.1 hu).1; rw [imem.ics_len] at this; omega
        rw [← ht, List.getElem?_take, if_pos hj] at hu
        simpa using hu
      · intro v' w' h1 h2
        rw [show imem.ics l ++ [Value.int .i64 v] = imem.ics (l ++ [v]) by rw [imem.ics_app]; rfl] at h1
        obtain ⟨A', c', rfl, h3⟩ := imem.owni_mk h1
        exact h A' c' w' (.inr (h3.less hlo)) (gb1 h2)
  · exact imem.append_rdi hgd s x 24 ho i Tryz.underlying24 hi hz hsz hby lo A n c l hs hown (some ad) 1 1 [v] hx ⟨rfl, fun _ => ⟨ad, rfl, fun j u hu => by
      cases j with
      | zero => simp at hu; subst hu; rw [show ad.add 0 = ad by unfold Addr.add; rw [if_pos rfl]]; exact hc
      | succ j => simp at hu⟩⟩ hb hlo (fun A' c' w' h1 h2 h3 => h A' c' w' (.inr h1) h3)

theorem gtrans {w wr w' : World} {g : Nat} {ob : Option Nat} (h : w.grownBy wr (some g)) (k : wr.grownBy w' ob) (hob : ∀ j, ob = some j → j = g ∨ w.heap.size ≤ j) : w.grownBy w' (some g) :=
  ⟨k.os.trans h.os, k.tape.trans h.tape, k.output.trans h.output, Nat.le_trans h.size k.size, fun i hi hne => (k.block i (Nat.lt_of_lt_of_le hi h.size) (fun e => by
    rcases hob i e.symm with e2 | e2
    · exact hne (by rw [e2])
    · omega)).trans (h.block i hi hne)⟩

end Go.Proofs.YtdgfpfkhcojgaaaGreatDoor.tree

/-
  A table built anew, as a matter of lists.
  Conditions: none.
-/
namespace Go.Proofs.YtdgfpfkhcojgaaaGreatDoor.tree
open Go.ChangeShapes Go.WideShapes Go.ChangeAt Go.RowKit
set_option linter.unusedVariables false

/-- The heads of the first slots do not change with more slots. -/
theorem hs_append {n : Nat} {sl s2 : List Sl} : ∀ {j : Nat}, j ≤ sl.length → hs n (sl ++ s2) j = hs n sl j
  | 0, _ => rfl
  | j + 1, h => by
    obtain ⟨t, ht⟩ : ∃ t, sl[j]? = some t := ⟨_, List.getElem?_eq_getElem (by omega)⟩
    rw [hs_succ ht, hs_succ (by rw [List.getElem?_append_left (by omega)]; exact ht), hs_append (by omega)]
theorem lk_append {n : Nat} {sl s2 : List Sl} {j : Nat} {y : Ky} (h : j ≤ sl.length) : lk n (sl ++ s2) j y = lk n sl j y := by
  unfold lk
  rw [hs_append h]
/-- One more slot, linked to the one before. -/
def addS (n : Nat) (sl : List Sl) (y : Ky) (v : Tr) : List Sl := sl ++ [⟨y, v, true, lk n sl sl.length y⟩]
/-- The heads of all slots. -/
def hsA (n : Nat) (sl : List Sl) : List Int := hs n sl sl.length
theorem addS_len (n : Nat) (sl : List Sl) (y : Ky) (v : Tr) : (addS n sl y v).length = sl.length + 1 := by simp [addS]
theorem hsA_len (n : Nat) (sl : List Sl) : (hsA n sl).length = n := hs_len n sl _
theorem hsA_add (n : Nat) (sl : List Sl) (y : Ky) (v : Tr) : hsA n (addS n sl y v) = (hsA n sl).set (bk n y) sl.length := by
  unfold hsA
  rw [addS_len]
  have ht : (addS n sl y v)[sl.length]? = some ⟨y, v, true, lk n sl sl.length y⟩ := by simp [addS]
  rw [hs_succ ht]
  unfold addS
  rw [hs_append (Nat.le_refl _)]
/-- The live slots, built anew in a table of n heads. -/
def rbS (n : Nat) (sl : List Sl) : List Sl := (liv sl).foldl (fun s t => addS n s t.key t.val) []
theorem rbS_nil (n : Nat) : rbS n [] = [] := rfl
theorem rbS_take {n : Nat} {sl : List Sl} {j : Nat} {t : Sl} (h : sl[j]? = some t) : rbS n (sl.take (j + 1)) = if t.live = true then addS n (rbS n (sl.take j)) t.key t.val else rbS n (sl.take j) := by
  unfold rbS
  rw [liv_take h, List.foldl_append]
  cases t.live <;> simp
theorem rbS_len (n : Nat) (sl : List Sl) : (rbS n sl).length = (liv sl).length := by
  unfold rbS
  have key : ∀ (l : List Sl) (s : List Sl), (l.foldl (fun s t => addS n s t.key t.val) s).length = s.length + l.length := by
    intro l
    induction l with
    | nil => intro s; simp
    | cons t l ih => intro s; rw [List.foldl_cons, ih, addS_len, List.length_cons]; omega
  rw [key]
  simp
theorem rbS_le (n : Nat) (sl : List Sl) : (rbS n sl).length ≤ sl.length := by
  rw [rbS_len]
  exact liv_len sl
/-- How many heads a table of k live slots gets. -/
def room (k : Int) : Nat := if k < 8 then 8 else if k < 16 then 16 else if k < 32 then 32 else if k < 64 then 64 else if k < 128 then 128 else if k < 256 then 256 else if k < 512 then 512 else 1024
theorem room_cases (k : Int) : (k < 8 ∧ room k = 8) ∨ (8 ≤ k ∧ k < 16 ∧ room k = 16) ∨ (16 ≤ k ∧ k < 32 ∧ room k = 32) ∨ (32 ≤ k ∧ k < 64 ∧ room k = 64) ∨ (64 ≤ k ∧ k < 128 ∧ room k = 128) ∨ (128 ≤ k ∧ k < 256 ∧ room k = 256) ∨ (256 ≤ k ∧ k < 512 ∧ room k = 512) ∨ (512 ≤ k ∧ room k = 1024) := by
  unfold room
  by_cases h1 : k < 8
  · simp [h1]
  by_cases h2 : k < 16
  · simp [h1, h2]; omega
  by_cases h3 : k < 32
  · simp [h1, h2, h3]; omega
  by_cases h4 : k < 64
  · simp [h1, h2, h3, h4]; omega
  by_cases h5 : k < 128
  · simp [h1, h2, h3, h4, h5]; omega
  by_cases h6 : k < 256
  · simp [h1, h2, h3, h4, h5, h6]; omega
  by_cases h7 : k < 512
  · simp [h1, h2, h3, h4, h5, h6, h7]; omega
  · simp [h1, h2, h3, h4, h5, h6, h7]; omega
theorem room_p2 (k : Int) : p2 (room k) := by
  unfold p2
  rcases room_cases k with h | h | h | h | h | h | h | h <;> omega
theorem room_gt {k : Int} (h : k < 1024) : k < room k := by
  rcases room_cases k with h | h | h | h | h | h | h | h <;> omega
theorem room_at {k : Int} {s : Nat} (h : k < 1024) (hp : p2 s) (hl : s = 8 ∨ (s : Int) ≤ 2 * k) (hg : k < s) : room k = s := by
  unfold p2 at hp
  rcases room_cases k with h | h | h | h | h | h | h | h <;> omega
theorem p2_twice {k : Int} {s : Nat} (h : k < 1024) (hp : p2 s) (hl : (s : Int) ≤ k) : p2 (2 * s) := by
  unfold p2 at hp ⊢
  omega
/-- What a table is behind Rebuild. -/
def RbR (b : Bool) (l : List Int) (sl : List Sl) (x k : Int) (rb : Bool) (rl : List Int) (rs : List Sl) : Prop :=
  ((tabOk b l sl x k ∧ k < 1024) ∧ rb = true ∧ rs = rbS (room k) sl ∧ rl = hsA (room k) rs) ∨ (¬ (tabOk b l sl x k ∧ k < 1024) ∧ rb = b ∧ rs = sl ∧ rl = l)
theorem RbR.is (b : Bool) (l : List Int) (sl : List Sl) (x k : Int) : ∃ rb rl rs, RbR b l sl x k rb rl rs := by
  by_cases h : tabOk b l sl x k ∧ k < 1024
  · exact ⟨_, _, _, .inl ⟨h, rfl, rfl, rfl⟩⟩
  · exact ⟨_, _, _, .inr ⟨h, rfl, rfl, rfl⟩⟩
theorem RbR.one {b : Bool} {l : List Int} {sl : List Sl} {x k : Int} {rb rb' : Bool} {rl rl' : List Int} {rs rs' : List Sl} (h : RbR b l sl x k rb rl rs) (h' : RbR b l sl x k rb' rl' rs') : rb = rb' ∧ rl = rl' ∧ rs = rs' := by
  rcases h with ⟨a, b1, c1, d1⟩ | ⟨a, b1, c1, d1⟩ <;> rcases h' with ⟨a', b2, c2, d2⟩ | ⟨a', b2, c2, d2⟩
  · subst b1 c1 d1 b2 c2 d2; exact ⟨rfl, rfl, rfl⟩
  · exact absurd a a'
  · exact absurd a' a
  · subst b1 c1 d1 b2 c2 d2; exact ⟨rfl, rfl, rfl⟩

end Go.Proofs.YtdgfpfkhcojgaaaGreatDoor.tree

/-
  A key set in a table, as a matter of lists; what stays sound.
  Conditions: none.
-/
namespace Go.Proofs.YtdgfpfkhcojgaaaGreatDoor.tree
open Go.ChangeShapes Go.WideShapes Go.ChangeAt Go.RowKit
set_option linter.unusedVariables false

theorem liv_add (n : Nat) (sl : List Sl) (y : Ky) (v : Tr) : liv (addS n sl y v) = liv sl ++ [⟨y, v, true, lk n sl sl.length y⟩] := by
  unfold addS liv
  rw [List.filter_append]
  rfl
theorem livK_add (n : Nat) (sl : List Sl) (y : Ky) (v : Tr) : livK (addS n sl y v) = livK sl ++ [y] := by
  unfold livK
  rw [liv_add, List.map_append]
  rfl
theorem livV_add (n : Nat) (sl : List Sl) (y : Ky) (v : Tr) : livV (addS n sl y v) = livV sl ++ [v] := by
  unfold livV
  rw [liv_add, List.map_append]
  rfl
/-- What is rebuilt holds the same keys and values. -/
theorem rbS_live (n : Nat) (sl : List Sl) : livK (rbS n sl) = livK sl ∧ livV (rbS n sl) = livV sl := by
  unfold rbS
  have key : ∀ (l : List Sl) (s : List Sl), livK (l.foldl (fun s t => addS n s t.key t.val) s) = livK s ++ l.map (fun t => t.key) ∧ livV (l.foldl (fun s t => addS n s t.key t.val) s) = livV s ++ l.map (fun t => t.val) := by
    intro l
    induction l with
    | nil => intro s; simp
    | cons t l ih =>
      intro s
      rw [List.foldl_cons]
      obtain ⟨h1, h2⟩ := ih (addS n s t.key t.val)
      rw [h1, h2, livK_add, livV_add]
      simp
  obtain ⟨h1, h2⟩ := key (liv sl) []
  rw [h1, h2]
  exact ⟨rfl, rfl⟩
/-- Each slot of what is rebuilt is live, and linked as it should be. -/
theorem rbS_each (n : Nat) (sl : List Sl) : ∀ j t, (rbS n sl)[j]? = some t → t.live = true ∧ t.link = lk n (rbS n sl) j t.key ∧ ∃ u ∈ liv sl, t.key = u.key ∧ t.val = u.val := by
  have key : ∀ (l : List Sl) (P : Sl → Prop), (∀ u ∈ l, P u) → ∀ (s : List Sl), (∀ j t, s[j]? = some t → t.live = true ∧ t.link = lk n s j t.key ∧ ∃ u, P u ∧ t.key = u.key ∧ t.val = u.val) → ∀ j t, (l.foldl (fun s t => addS n s t.key t.val) s)[j]? = some t → t.live = true ∧ t.link = lk n (l.foldl (fun s t => addS n s t.key t.val) s) j t.key ∧ ∃ u, P u ∧ t.key = u.key ∧ t.val = u.val := by
    intro l P
    induction l with
    | nil => intro _ s hs; exact hs
    | cons u l ih =>
      intro hP s hs
      rw [List.foldl_cons]
      refine ih (fun v hv => hP v (List.mem_cons_of_mem _ hv)) _ fun j t ht => ?_
      by_cases hj : j < s.length
      · have ht' : s[j]? = some t := by
          unfold addS at ht
          rwa [List.getElem?_append_left hj] at ht
        obtain ⟨h1, h2, h3⟩ := hs j t ht'
        refine ⟨h1, ?_, h3⟩
        unfold addS
        rw [lk_append (by omega)]
        exact h2
      · have hl := (List.getElem?_eq_some_iff.1 ht).1
        rw [addS_len] at hl
        obtain rfl : j = s.length := by omega
        have e : (addS n s u.key u.val)[s.length]? = some ⟨u.key, u.val, true, lk n s s.length u.key⟩ := by simp [addS]
        rw [e] at ht
        obtain rfl := Option.some.inj ht
        refine ⟨rfl, ?_, u, hP u List.mem_cons_self, rfl, rfl⟩
        unfold addS
        rw [lk_append (Nat.le_refl _)]
  intro j t ht
  obtain ⟨h1, h2, u, h3, h4⟩ := key (liv sl) (fun u => u ∈ liv sl) (fun _ h => h) [] (fun j t h => by simp at h) j t ht
  exact ⟨h1, h2, u, h3, h4⟩

theorem livK_nodup {x : Int} {sl : List Sl} (h : rowS x sl) : ∀ J, J ≤ sl.length → (livK (sl.take J)).Nodup
  | 0, _ => by simp [livK, liv]
  | J + 1, hJ => by
    obtain ⟨t, ht⟩ : ∃ t, sl[J]? = some t := ⟨_, List.getElem?_eq_getElem (by omega)⟩
    have ih := livK_nodup h J (by omega)
    rw [livK_take ht]
    cases hl : t.live with
    | false => simpa using ih
    | true =>
      have hn := (h J t ht).2.1 hl
      simp only [if_true]
      rw [List.nodup_append]
      exact ⟨ih, by simp, fun a ha b hb => by
        rw [List.mem_singleton] at hb
        subst hb
        exact fun e => hn (e ▸ ha)⟩
/-- Rebuilding keeps a table sound. -/
theorem rb_ok {b : Bool} {l : List Int} {sl : List Sl} {x k : Int} (h : tabOk b l sl x k) (hk : k < 1024) : tabOk true (hsA (room k) (rbS (room k) sl)) (rbS (room k) sl) x k := by
  obtain ⟨h1, h2, ⟨h3, h4⟩, h5⟩ := h
  have hll : ((rbS (room k) sl).length : Int) = k := by rw [rbS_len, ← h4]; unfold livK; rw [List.length_map]
  obtain ⟨hK, hV⟩ := rbS_live (room k) sl
  have hall : ∀ j, livK ((rbS (room k) sl).take j) = (livK (rbS (room k) sl)).take j := by
    have e : ∀ s : List Sl, (∀ t ∈ s, t.live = true) → livK s = s.map (fun t => t.key) := fun s hs => by
      unfold livK liv
      rw [List.filter_eq_self.2 hs]
    have hlv : ∀ t ∈ rbS (room k) sl, t.live = true := fun t ht => by
      obtain ⟨i, hi⟩ := List.mem_iff_getElem?.1 ht
      exact (rbS_each (room k) sl i t hi).1
    intro j
    rw [e _ hlv, e _ (fun t ht => hlv t (List.mem_of_mem_take ht)), List.map_take]
  refine ⟨h1, ⟨fun _ => ⟨by rw [hsA_len]; exact room_p2 k, by rw [hsA_len]; have := room_gt hk; omega⟩, fun h => by cases h⟩, ⟨fun j t ht => ?_, by rw [hK]; exact h4⟩, fun j t ht => ⟨.inl rfl, by rw [hsA_len]; exact (rbS_each _ sl j t ht).2.1⟩, by rw [hsA_len]; rfl⟩
  obtain ⟨e1, e2, u, e3, e4, e5⟩ := rbS_each _ sl j t ht
  obtain ⟨hu1, hu2⟩ := List.mem_filter.1 e3
  obtain ⟨i, hi⟩ := List.mem_iff_getElem?.1 hu1
  obtain ⟨s1, s2, s3⟩ := h3 i u hi
  refine ⟨by rw [e4]; exact s1, fun _ hm => ?_, fun h => by rw [e1] at h; cases h⟩
  rw [hall, hK] at hm
  have hnd := livK_nodup h3 sl.length (Nat.le_refl _)
  rw [List.take_length] at hnd
  have hjl : j < (livK sl).length := by
    have h9 := (List.getElem?_eq_some_iff.1 ht).1
    rw [rbS_len] at h9
    unfold livK
    rw [List.length_map]
    exact h9
  have hget : (livK sl)[j]? = some t.key := by
    rw [← hK]
    have h9 := hall (j + 1)
    rw [livK_take ht, e1, hall] at h9
    rw [List.take_add_one] at h9
    have := List.append_cancel_left h9
    simp only [if_true] at this
    cases hq : (livK (rbS (room k) sl))[j]? with
    | none => rw [hq] at this; simp at this
    | some z => rw [hq] at this; simp at this; rw [this]
  obtain ⟨i2, hi2, e9⟩ := List.mem_iff_getElem.1 hm
  rw [List.length_take] at hi2
  rw [List.getElem_take] at e9
  have h10 : (livK sl)[j]'hjl = t.key := by
    rw [List.getElem?_eq_getElem hjl] at hget
    exact Option.some.inj hget
  exact (List.pairwise_iff_getElem.1 hnd) i2 j (by omega) hjl (by omega) (e9.trans h10.symm)

/-- A slot's value written anew. -/
def setV (sl : List Sl) (i : Nat) (v : Tr) : List Sl := match sl[i]? with
  | some t => sl.set i ⟨t.key, v, t.live, t.link⟩
  | none => sl
theorem setV_len (sl : List Sl) (i : Nat) (v : Tr) : (setV sl i v).length = sl.length := by
  unfold setV
  split
  · rw [List.length_set]
  · rfl
theorem setV_get {sl : List Sl} {i j : Nat} {v : Tr} {t : Sl} (h : (setV sl i v)[j]? = some t) : (j ≠ i ∧ sl[j]? = some t) ∨ (j = i ∧ ∃ t0, sl[i]? = some t0 ∧ t = ⟨t0.key, v, t0.live, t0.link⟩) := by
  unfold setV at h
  split at h
  · next t0 ht =>
    by_cases e : i = j
    · subst e
      rw [List.getElem?_set_self (List.getElem?_eq_some_iff.1 ht).1] at h
      exact .inr ⟨rfl, t0, ht, (Option.some.inj h).symm⟩
    · rw [List.getElem?_set_ne e] at h
      exact .inl ⟨fun h => e h.symm, h⟩
  · next hn => exact .inl ⟨(fun e => by subst e; rw [hn] at h; cases h), h⟩
/-- The next index behind a key. -/
def psX (x : Int) (y : Ky) : Int := if y.text = true then x else nums.mx x (y.num + 1)
/-- Must the table be built anew before a slot of this key is added? -/
def needB (b : Bool) (n m : Nat) (y : Ky) : Bool := if b = true then decide (m = n) else (decide (y ≠ ixK m) || decide (m = 1024))
/-- What a table is behind TableSet of a key and a value. -/
def StR (b : Bool) (l : List Int) (sl : List Sl) (x k : Int) (y : Ky) (v : Tr) (rb : Bool) (rl : List Int) (rs : List Sl) (rx rk : Int) (ok : Bool) : Prop :=
  (∃ i : Nat, fd sl y sl.length = i ∧ rb = b ∧ rl = l ∧ rs = setV sl i v ∧ rx = x ∧ rk = k ∧ ok = true) ∨
  (fd sl y sl.length = -1 ∧ k = 1024 ∧ rb = b ∧ rl = l ∧ rs = sl ∧ rx = x ∧ rk = k ∧ ok = false) ∨
  (fd sl y sl.length = -1 ∧ k ≠ 1024 ∧ needB b l.length sl.length y = true ∧ rb = true ∧ rs = addS (room k) (rbS (room k) sl) y v ∧ rl = (hsA (room k) (rbS (room k) sl)).set (bk (room k) y) (rbS (room k) sl).length ∧ rx = psX x y ∧ rk = k + 1 ∧ ok = true) ∨
  (fd sl y sl.length = -1 ∧ k ≠ 1024 ∧ needB b l.length sl.length y = false ∧ rb = b ∧ rs = addS l.length sl y v ∧ rl = l.set (bk l.length y) sl.length ∧ rx = psX x y ∧ rk = k + 1 ∧ ok = true)

theorem fd_none {sl : List Sl} {y : Ky} : ∀ J, J ≤ sl.length → fd sl y J = -1 → ∀ i t, i < J → sl[i]? = some t → ¬ (t.live = true ∧ t.key = y)
  | 0, _, _ => fun i t h => by omega
  | J + 1, hJ, h => fun i t hi ht => by
    obtain ⟨tJ, hs⟩ : ∃ t, sl[J]? = some t := ⟨_, List.getElem?_eq_getElem (by omega)⟩
    rw [fd_succ hs] at h
    split at h
    · omega
    · next hn =>
      by_cases e : i = J
      · subst e
        rw [ht] at hs
        obtain rfl := Option.some.inj hs
        exact hn
      · exact fd_none J (by omega) h i t (by omega) ht
theorem fd_not {sl : List Sl} {y : Ky} (h : fd sl y sl.length = -1) : y ∉ livK sl := fun hm => by
  obtain ⟨i, t, h1, h2, h3⟩ := mem_livK.1 hm
  exact fd_none _ (Nat.le_refl _) h i t (List.getElem?_eq_some_iff.1 h1).1 h1 ⟨h2, h3⟩
theorem fd_some {sl : List Sl} {y : Ky} : ∀ J, J ≤ sl.length → ∀ i : Nat, fd sl y J = i → ∃ t, sl[i]? = some t ∧ t.live = true ∧ t.key = y
  | 0, _ => fun i h => by simp [fd] at h
  | J + 1, hJ => fun i h => by
    obtain ⟨tJ, hs⟩ : ∃ t, sl[J]? = some t := ⟨_, List.getElem?_eq_getElem (by omega)⟩
    rw [fd_succ hs] at h
    split at h
    · next he =>
      obtain rfl : J = i := by omega
      exact ⟨tJ, hs, he⟩
    · exact fd_some J (by omega) i h
theorem keyB_lim {y : Ky} (h : keyB y = true) (ht : y.text = false) : -1000000000 ≤ y.num ∧ y.num ≤ 1000000000 := by
  unfold keyB at h
  rw [ht] at h
  unfold nums.inr at h
  simp at h
  omega
theorem psX_le (x : Int) (y : Ky) : x ≤ psX x y := by
  unfold psX nums.mx
  split
  · omega
  · split <;> omega
theorem psX_num {x : Int} {y : Ky} (ht : y.text = false) : y.num < psX x y := by
  unfold psX nums.mx
  rw [ht]
  simp only [Bool.false_eq_true, if_false]
  split <;> omega
theorem psX_bd {x : Int} {y : Ky} (hx : 0 ≤ x ∧ x ≤ 1000000001) (hy : keyB y = true) : 0 ≤ psX x y ∧ psX x y ≤ 1000000001 := by
  refine ⟨by have := psX_le x y; omega, ?_⟩
  unfold psX nums.mx
  split
  · omega
  · next h =>
    have := keyB_lim hy (by simpa using h)
    split <;> omega
/-- A slot added keeps a table sound. -/
theorem add_ok {b : Bool} {l : List Int} {sl : List Sl} {x k : Int} {y : Ky} {v : Tr} (h : tabOk b l sl x k) (hy : keyB y = true) (hn : y ∉ livK sl) (ht : b = true → sl.length < l.length) (hf : b = false → y = ixK sl.length ∧ sl.length < 1024) :
    tabOk b (l.set (bk l.length y) sl.length) (addS l.length sl y v) (psX x y) (k + 1) := by
  obtain ⟨h1, h2, ⟨h3, h4⟩, h5, h6⟩ := h
  have hll : (l.set (bk l.length y) sl.length : List Int).length = l.length := List.length_set ..
  have hxl := psX_le x y
  have tk : ∀ j, j ≤ sl.length → (addS l.length sl y v).take j = sl.take j := fun j hj => by
    unfold addS
    exact List.take_append_of_le_length hj
  have gt : ∀ j t, (addS l.length sl y v)[j]? = some t → (j < sl.length ∧ sl[j]? = some t) ∨ (j = sl.length ∧ t = ⟨y, v, true, lk l.length sl sl.length y⟩) := fun j t ht => by
    have hl := (List.getElem?_eq_some_iff.1 ht).1
    rw [addS_len] at hl
    unfold addS at ht
    by_cases hj : j < sl.length
    · rw [List.getElem?_append_left hj] at ht
      exact .inl ⟨hj, ht⟩
    · obtain rfl : j = sl.length := by omega
      rw [List.getElem?_append_right (Nat.le_refl _), Nat.sub_self] at ht
      exact .inr ⟨rfl, by simpa using ht.symm⟩
  refine ⟨psX_bd h1 hy, ⟨fun hb => ?_, fun hb => ?_⟩, ⟨fun j t hj => ?_, ?_⟩, fun j t hj => ?_, ?_⟩
  · rw [hll, addS_len]
    exact ⟨(h2.1 hb).1, ht hb⟩
  · rw [hll, addS_len]
    obtain ⟨e, hm⟩ := hf hb
    have hnum : y.num < psX x y := psX_num (by rw [e]; rfl)
    have hyn : y.num = (sl.length : Int) := by rw [e]; rfl
    exact ⟨(h2.2 hb).1, by push_cast; omega, by omega⟩
  · rcases gt j t hj with ⟨hlt, hj⟩ | ⟨rfl, rfl⟩
    · obtain ⟨s1, s2, s3⟩ := h3 j t hj
      refine ⟨?_, by rw [tk j (by omega)]; exact s2, s3⟩
      rw [Bool.and_eq_true, Bool.or_eq_true, decide_eq_true_eq] at s1 ⊢
      exact ⟨s1.1, s1.2.imp id fun h => by omega⟩
    · refine ⟨?_, fun _ => by rw [tk _ (Nat.le_refl _), List.take_length]; exact hn, fun h => by cases h⟩
      rw [Bool.and_eq_true, Bool.or_eq_true, decide_eq_true_eq]
      refine ⟨hy, ?_⟩
      cases hyt : y.text with
      | true => exact .inl rfl
      | false => exact .inr (psX_num hyt)
  · rw [livK_add, List.length_append, List.length_singleton]
    push_cast
    omega
  · rw [hll]
    rcases gt j t hj with ⟨hlt, hj⟩ | ⟨rfl, rfl⟩
    · obtain ⟨s1, s2⟩ := h5 j t hj
      refine ⟨s1, ?_⟩
      unfold addS
      rw [lk_append (by omega)]
      exact s2
    · refine ⟨?_, ?_⟩
      · cases b with
        | true => exact .inl rfl
        | false => exact .inr (hf rfl).1
      · unfold addS
        rw [lk_append (Nat.le_refl _)]
  · rw [hll, addS_len]
    have := hsA_add l.length sl y v
    unfold hsA at this
    rw [addS_len] at this
    rw [this, h6]
/-- Slots alike, but for the values of live ones. -/
def Alk (sl s2 : List Sl) : Prop := s2.length = sl.length ∧ ∀ (j : Nat) (t : Sl), s2[j]? = some t → ∃ t0 : Sl, sl[j]? = some t0 ∧ t.key = t0.key ∧ t.live = t0.live ∧ t.link = t0.link ∧ (t0.live = false → t.val = t0.val)
theorem Alk.hs {sl s2 : List Sl} (h : Alk sl s2) (n : Nat) : ∀ j, j ≤ sl.length → hs n s2 j = hs n sl j
  | 0, _ => rfl
  | j + 1, hj => by
    obtain ⟨t, ht⟩ : ∃ t, s2[j]? = some t := ⟨_, List.getElem?_eq_getElem (by rw [h.1]; omega)⟩
    obtain ⟨t0, h0, e, -⟩ := h.2 j t ht
    rw [hs_succ ht, hs_succ h0, Alk.hs h n j (by omega), e]
theorem Alk.livK {sl s2 : List Sl} (h : Alk sl s2) : ∀ j, j ≤ sl.length → livK (s2.take j) = livK (sl.take j)
  | 0, _ => rfl
  | j + 1, hj => by
    obtain ⟨t, ht⟩ : ∃ t, s2[j]? = some t := ⟨_, List.getElem?_eq_getElem (by rw [h.1]; omega)⟩
    obtain ⟨t0, h0, e, e2, -⟩ := h.2 j t ht
    rw [livK_take ht, livK_take h0, Alk.livK h j (by omega), e, e2]
theorem alk_ok {b : Bool} {l : List Int} {sl s2 : List Sl} {x k : Int} (h : tabOk b l sl x k) (ha : Alk sl s2) : tabOk b l s2 x k := by
  obtain ⟨h1, h2, ⟨h3, h4⟩, h5, h6⟩ := h
  have hlen := ha.1
  have hK : tree.livK s2 = tree.livK sl := by
    have := ha.livK sl.length (Nat.le_refl _)
    rwa [List.take_length, ← hlen, List.take_length] at this
  refine ⟨h1, by rw [hlen]; exact h2, ⟨fun j t ht => ?_, by rw [hK]; exact h4⟩, fun j t ht => ?_, ?_⟩
  · obtain ⟨t0, h0, e1, e2, e3, e4⟩ := ha.2 j t ht
    have hj := (List.getElem?_eq_some_iff.1 h0).1
    obtain ⟨s1, s2', s3⟩ := h3 j t0 h0
    refine ⟨by rw [e1]; exact s1, fun hl => ?_, fun hl => ?_⟩
    · rw [ha.livK j (by omega), e1]
      exact s2' (by rw [← e2]; exact hl)
    · rw [e4 (by rw [← e2]; exact hl)]
      exact s3 (by rw [← e2]; exact hl)
  · obtain ⟨t0, h0, e1, e2, e3, e4⟩ := ha.2 j t ht
    have hj := (List.getElem?_eq_some_iff.1 h0).1
    obtain ⟨s1, s2'⟩ := h5 j t0 h0
    refine ⟨by rw [e1]; exact s1, ?_⟩
    rw [e3, s2', e1]
    unfold lk
    rw [ha.hs _ j (by omega)]
  · rw [hlen, ha.hs _ _ (Nat.le_refl _)]
    exact h6
theorem setV_alk {sl : List Sl} {y : Ky} {i : Nat} {v : Tr} (h : fd sl y sl.length = i) : Alk sl (setV sl i v) := by
  obtain ⟨t, ht, hl, hk⟩ := fd_some _ (Nat.le_refl _) i h
  refine ⟨setV_len sl i v, fun j u hu => ?_⟩
  rcases setV_get hu with ⟨hne, hu⟩ | ⟨rfl, t0, h0, rfl⟩
  · exact ⟨u, hu, rfl, rfl, rfl, fun _ => rfl⟩
  · refine ⟨t0, h0, rfl, rfl, rfl, fun h => ?_⟩
    rw [ht] at h0
    obtain rfl := Option.some.inj h0
    rw [hl] at h
    cases h
/-- Setting keeps a table sound. -/
theorem st_ok {b : Bool} {l : List Int} {sl : List Sl} {x k : Int} {y : Ky} {v : Tr} {rb : Bool} {rl : List Int} {rs : List Sl} {rx rk : Int} {ok : Bool} (h : tabOk b l sl x k) (hy : keyB y = true) (hs : StR b l sl x k y v rb rl rs rx rk ok) : tabOk rb rl rs rx rk := by
  have hk : k ≤ 1024 := by
    have h1 := h.2.2.1.2
    have h2 := livK_len sl
    have h3 := h.len.1
    omega
  rcases hs with ⟨i, hf, rfl, rfl, rfl, rfl, rfl, rfl⟩ | ⟨hf, hk4, rfl, rfl, rfl, rfl, rfl, rfl⟩ | ⟨hf, hk4, hn, rfl, rfl, rfl, rfl, rfl, rfl⟩ | ⟨hf, hk4, hn, rfl, rfl, rfl, rfl, rfl, rfl⟩
  · exact alk_ok h (setV_alk hf)
  · exact h
  · have hr := rb_ok h (by omega)
    have hkk : ((rbS (room k) sl).length : Int) = k := by
      have := h.2.2.1.2
      rw [rbS_len, ← this]
      unfold livK
      rw [List.length_map]
    have hroom := room_gt (show k < 1024 by omega)
    have ha := add_ok (y := y) (v := v) hr hy (by rw [(rbS_live _ sl).1]; exact fd_not hf) (fun _ => by rw [hsA_len]; omega) (fun h => by cases h)
    rw [hsA_len] at ha
    exact ha
  · refine add_ok h hy (fd_not hf) (fun hb => ?_) (fun hb => ?_)
    · have := (h.2.1.1 hb).2
      unfold needB at hn
      rw [if_pos hb] at hn
      have := of_decide_eq_false hn
      omega
    · have := (h.2.1.2 hb).2.2
      unfold needB at hn
      rw [if_neg (by simp [hb])] at hn
      rw [Bool.or_eq_false_iff] at hn
      have h1 := of_decide_eq_false hn.1
      have h2 := of_decide_eq_false hn.2
      exact ⟨by simpa using h1, by omega⟩

/-- The heads, the slot and the next index behind one more. -/
def psH (n : Nat) (l : List Int) (m : Nat) (y : Ky) : List Int := l.set (bk n y) m
def psS (n : Nat) (l : List Int) (y : Ky) (v : Tr) : Sl := ⟨y, v, true, (l[bk n y]?).getD (-1)⟩
theorem psH_bd {n m : Nat} {l : List Int} {y : Ky} (h : ∀ v ∈ l, -1 ≤ v ∧ v ≤ 1000000000) (hm : m ≤ 1000000000) : ∀ v ∈ psH n l m y, -1 ≤ v ∧ v ≤ 1000000000 := fun v hv => by
  unfold psH at hv
  rcases List.mem_or_eq_of_mem_set hv with hv | rfl
  · exact h v hv
  · exact ⟨by omega, by omega⟩
theorem psS_bd {n : Nat} {l : List Int} {y : Ky} {v : Tr} (h : ∀ v ∈ l, -1 ≤ v ∧ v ≤ 1000000000) : -1 ≤ (psS n l y v).link ∧ (psS n l y v).link ≤ 1000000000 := by
  unfold psS
  simp only
  cases e : l[bk n y]? with
  | none => simp
  | some u => simpa using h u (List.mem_of_getElem? e)

end Go.Proofs.YtdgfpfkhcojgaaaGreatDoor.tree

/-
  Where a key stands first in a value, of the project and of the model.
  Conditions: those that each theorem names.
-/
namespace Go.Proofs.YtdgfpfkhcojgaaaGreatDoor.tree
open Go.ChangeShapes Go.WideShapes Go.ChangeAt Go.RowKit
set_option linter.unusedVariables false

/-- Where the key stands first in the value, -1 if nowhere. -/
def posV : Tr → Ky → Int
  | .mk k _ _ _ ks _, y => if k = 4 then pos ks y 0 else -1
theorem posV_four (n : Int) (s : ByteArray) (x : Int) (ks : List Ky) (vs : List Tr) (y : Ky) : posV (.mk 4 n s x ks vs) y = pos ks y 0 := by rw [posV, if_pos rfl]
theorem posV_not {k n : Int} {s : ByteArray} {x : Int} {ks : List Ky} {vs : List Tr} (h : k ≠ 4) (y : Ky) : posV (.mk k n s x ks vs) y = -1 := by rw [posV, if_neg h]
theorem pos_lt : ∀ (ks : List Ky) (y : Ky) (i : Nat), pos ks y i < (i : Int) + ks.length
  | [], y, i => by simp [pos]; omega
  | z :: ks, y, i => by
    have := pos_lt ks y (i + 1)
    rw [pos]
    split
    · simp; omega
    · push_cast at *; simp; omega
theorem pos_ge : ∀ (ks : List Ky) (y : Ky) (i : Nat), pos ks y i = -1 ∨ (i : Int) ≤ pos ks y i
  | [], y, i => .inl rfl
  | z :: ks, y, i => by
    rw [pos]
    split
    · exact .inr (Int.le_refl _)
    · rcases pos_ge ks y (i + 1) with h | h
      · exact .inl h
      · exact .inr (by push_cast at h; omega)
/-- It is no place, or one among the items. -/
theorem posV_cases (k n : Int) (s : ByteArray) (x : Int) (ks : List Ky) (vs : List Tr) (y : Ky) : posV (.mk k n s x ks vs) y = -1 ∨ ∃ i : Nat, posV (.mk k n s x ks vs) y = i ∧ i < ks.length ∧ k = 4 := by
  by_cases h4 : k = 4
  · subst h4
    rw [posV_four]
    rcases pos_ge ks y 0 with h | h
    · exact .inl h
    · have := pos_lt ks y 0
      exact .inr ⟨(pos ks y 0).toNat, by omega, by omega, rfl⟩
  · exact .inl (posV_not h4 y)

set_option maxHeartbeats 800000 in
theorem findKey_i (t : Tr) (v : Value) (y : Ky) (w : World) (S : Nat → Prop) (h : TIn w S t v) : Calls Tryz.prog 169 #[v, kyV y] w (LtQ w (posV t y)) := by
  obtain ⟨k, n, s, x, ks, vs⟩ := t
  obtain ⟨A, c, rfl, -, hin⟩ := h.out
  clear h
  obtain ⟨L, HL⟩ : ∃ L, Hid (L = vs.length) := ⟨_, Lib.hid rfl⟩
  have hm : L ≤ maxLen := by rw [HL.out]; exact hin.2.1
  have hkl : Hid (ks.length = L) := Lib.hid (by rw [HL.out]; exact hin.1)
  unfold maxLen at hm
  rw [← HL.out]
  have HI := Lib.hid hin
  clear hin
  by_cases h4 : k = 4
  · subst h4
    rw [posV_four]
    obtain ⟨W, HW⟩ : ∃ W, Hid (pos ks y 0 = W) := ⟨_, Lib.hid rfl⟩
    rw [HW.out]
    obtain ⟨yb, yn, ys⟩ := y
    unfold kyV
    go_enter Tryz.func169, Tryz.ntmps169
    go_wp2_with (fail)
    go_loopg [13] (L + 1) (fun gk i wr => ∃ j : Nat, i = .int .i64 j ∧ gk + j = L + 1 ∧ j ≤ L ∧ Hid (pos (ks.drop j) ⟨yb, yn, ys⟩ j = W) ∧
      Hid (wr.heap[w.heap.size + 1]? = some (.cells #[.bool yb, .int .i64 yn, .string ys] IK (0, 0))) ∧ Below w.heap.size w wr)
    case atStart => exact ⟨0, rfl, by omega, by omega, Lib.hid HW.out, Lib.hid (heap_alloc2_new w _ _), b2 _ _ _⟩
    case round =>
      obtain ⟨j, rfl, hgj, hjL, HQ, HE', hb⟩ := hrel
      have HB := Lib.hid hb
      clear hb
      by_cases hlt : j < L
      · obtain ⟨a, y1, k1, n1, s1, x1, ks1, vs1, A1, c1, rfl, hS, hky, hvs, ht, hyb, hkb, hin1, hcell⟩ := (HI.out.below HB.out).item (i := j) (by rw [← HL.out]; exact hlt)
        have HD := Lib.hid ((pos_drop (y := ⟨yb, yn, ys⟩) hky).symm.trans HQ.out)
        obtain ⟨b, HBB⟩ : ∃ b, Hid (decide (y1 = ⟨yb, yn, ys⟩) = b) := ⟨_, Lib.hid rfl⟩
        have NE := fun w => ky_eql w y1 ⟨yb, yn, ys⟩
        rw [HBB.out] at NE
        unfold kyV at NE
        simp only at NE
        have r1 : ∀ o q, (wr.alloc o).cell? ⟨w.heap.size + 1, q, none⟩ = _ := fun o q => (rowc (keepAlloc HE'.out)).1 q
        clear hky hvs ht hyb hkb hin1 hS
        obtain ⟨p0, p1, p2, p3, p4, p5, p6, p7⟩ := hcell
        cases b with
        | true =>
          have e : W = (j : Int) := by rw [← HD.out, if_pos (of_decide_eq_true HBB.out)]
          go_wp2_with (fail)
          go_ret
          exact ⟨by first | rfl | (rw [e]; rfl), bs HB.out (b1 _ _)⟩
        | false =>
          have HF : Hid (pos (ks.drop (j + 1)) ⟨yb, yn, ys⟩ (j + 1) = W) := Lib.hid (by have := HD.out; rw [if_neg (of_decide_eq_false HBB.out)] at this; exact this)
          go_wp2_with (fail)
          go_roundg (L - j)
          case rel => exact ⟨j + 1, by go_num, by omega, by omega, HF, Lib.hid (keepAlloc HE'.out), bs HB.out (b1 _ _)⟩
          case measure => omega
      · obtain rfl : j = L := by omega
        have e : W = -1 := by rw [← HQ.out, show ks.drop j = [] from List.drop_eq_nil_of_le (Nat.le_of_eq hkl.out)]; rfl
        go_wp2_with (fail)
        go_ret
        exact ⟨by first | rfl | (rw [e]; rfl), HB.out⟩
  · rw [posV_not h4]
    unfold kyV
    go_enter Tryz.func169, Tryz.ntmps169
    go_wp2_with (fail)
    go_ret
    exact ⟨rfl, b2 _ _ _⟩

set_option maxHeartbeats 800000 in
theorem findV_s (t : Tr) (v : Value) (y : Ky) (w : World) (S : Nat → Prop) (h : TIn w S t v) : Calls Tryz.prog 102 #[v, kyV y] w (LtQ w (posV t y)) := by
  obtain ⟨k, n, s, x, ks, vs⟩ := t
  obtain ⟨A, c, rfl, -, hin⟩ := h.out
  by_cases h4 : k = 4
  · subst h4
    rw [posV_four]
    exact find_s n s x ks vs A c y w S hin
  · rw [posV_not h4]
    have hm : vs.length ≤ maxLen := hin.2.1
    generalize vs.length = L at *
    clear h hin
    unfold kyV
    go_enter Tryz.func102, Tryz.ntmps102
    go_wp2_with (fail)
    go_loopg [5] 1 (fun gk i wr => i = .int .i64 0 ∧ gk = 1 ∧ wr = ((w.alloc (.cells #[.int .i64 k, .int .i64 n, .string s, .int .i64 x, .slice A L c] IV)).alloc (.cells #[.bool y.text, .int .i64 y.num, .string y.str] IK)))
    case atStart => exact ⟨rfl, rfl, rfl⟩
    case round =>
      obtain ⟨rfl, rfl, rfl⟩ := hrel
      go_wp2_with (fail)
      go_ret
      exact ⟨rfl, b2 _ _ _⟩

end Go.Proofs.YtdgfpfkhcojgaaaGreatDoor.tree

/-
  Whether a value is light, of the project and of the model: what its weight leaves of a limit.
  Conditions: those that each theorem names.
-/
namespace Go.Proofs.YtdgfpfkhcojgaaaGreatDoor.tree
open Go.ChangeShapes Go.WideShapes Go.ChangeAt Go.RowKit
set_option linter.unusedVariables false

mutual
/-- The weight of a value. -/
def wgt : Tr → Nat
  | .mk k _ _ _ _ vs => if k = 4 then 1 + wgts vs else 1
def wgts : List Tr → Nat
  | [] => 0
  | t :: vs => wgt t + wgts vs
end
theorem wgt_four (n : Int) (s : ByteArray) (x : Int) (ks : List Ky) (vs : List Tr) : wgt (.mk 4 n s x ks vs) = 1 + wgts vs := by rw [wgt, if_pos rfl]
theorem wgt_not {k n : Int} {s : ByteArray} {x : Int} {ks : List Ky} {vs : List Tr} (h : k ≠ 4) : wgt (.mk k n s x ks vs) = 1 := by rw [wgt, if_neg h]
theorem wgts_nil : wgts [] = 0 := by rw [wgts]
theorem wgts_cons (t : Tr) (vs : List Tr) : wgts (t :: vs) = wgt t + wgts vs := by rw [wgts]
theorem wgts_drop {vs : List Tr} {j : Nat} {t : Tr} (h : vs[j]? = some t) : wgts (vs.drop j) = wgt t + wgts (vs.drop (j + 1)) := by
  obtain ⟨hj, rfl⟩ := List.getElem?_eq_some_iff.1 h
  rw [List.drop_eq_getElem_cons hj, wgts_cons]
theorem wgt_pos : ∀ t, 1 ≤ wgt t
  | .mk k _ _ _ _ vs => by rw [wgt]; split <;> omega

/-- What a weight leaves of a limit, -1 if it is more. -/
def lft (m : Int) (n : Nat) : Int := if m < n then -1 else m - n
/-- A weight up to one more than a limit. -/
def cut (m : Int) (n : Nat) : Int := if m < n then m + 1 else n

def SpI (t : Tr) : Prop := ∀ (w : World) (S : Nat → Prop) (v : Value), TIn w S t v → ∀ m : Int, 0 ≤ m → m ≤ 200 → Calls Tryz.prog 155 #[.int .i64 m, v] w (LtQ w (lft m (wgt t)))

set_option maxHeartbeats 800000 in
theorem spare_i : ∀ t, SpI t := Tr.ind fun k n s x ks vs ih w S v h m hm0 hm1 => by
  obtain ⟨A, c, rfl, hk, hin⟩ := h.out
  clear h
  obtain ⟨L, HL⟩ : ∃ L, Hid (L = vs.length) := ⟨_, Lib.hid rfl⟩
  have hm : L ≤ maxLen := by rw [HL.out]; exact hin.2.1
  unfold maxLen at hm
  rw [← HL.out]
  by_cases h4 : k = 4
  · subst h4
    obtain ⟨W, HW⟩ : ∃ W, Hid (W = lft m (wgt (.mk 4 n s x ks vs))) := ⟨_, Lib.hid rfl⟩
    have HW1 : Hid (W = lft (m - 1) (wgts vs)) := by
      show W = _
      rw [HW.out, wgt_four]
      unfold lft
      split <;> split <;> push_cast <;> omega
    rw [← HW.out]
    have HI := Lib.hid hin
    clear hin hk
    go_enter Tryz.func155, Tryz.ntmps155
    go_wp2_with (fail)
    go_loopg [0, 16] (L + 1) (fun gk l i wr => ∃ (j : Nat) (q : Int), l = .int .i64 q ∧ i = .int .i64 j ∧ gk + j = L + 1 ∧ j ≤ L ∧ -1 ≤ q ∧ q ≤ 199 ∧ Hid (lft q (wgts (vs.drop j)) = W) ∧ Below w.heap.size w wr)
    case atStart => exact ⟨0, m - 1, rfl, rfl, by omega, by omega, by omega, by omega, Lib.hid (by rw [HW1.out]; simp), b1 _ _⟩
    case round =>
      obtain ⟨j, q, rfl, rfl, hgj, hjL, hq0, hq1, HQ, hb⟩ := hrel
      have HB := Lib.hid hb
      clear hb
      by_cases hlt : j < L
      · obtain ⟨a, y, k', n', s', x', ks', vs', A1, c1, rfl, hS, hky, hvs, ht, hyb, hkb, hin', hcell⟩ := (HI.out.below HB.out).item (i := j) (by rw [← HL.out]; exact hlt)
        obtain ⟨Q, HQQ⟩ : ∃ Q, Hid (lft q (wgt (.mk k' n' s' x' ks' vs')) = Q) := ⟨_, Lib.hid rfl⟩
        have ihj : 0 ≤ q → ∀ w' : World, Below wr.heap.size wr w' → Calls Tryz.prog 155 #[.int .i64 q, vV k' n' s' x' A1 vs'.length c1] w' (LtQ w' Q) := fun h0 w' hb' => HQQ.out ▸ ih _ (List.mem_of_getElem? hvs) w' S _ (ht.below' hb') q h0 (by omega)
        have HD := Lib.hid (wgts_drop hvs)
        have HP := Lib.hid (wgt_pos (.mk k' n' s' x' ks' vs'))
        clear hky hvs ht hin' hyb hkb hS
        obtain ⟨p0, p1, p2, p3, p4, p5, p6, p7⟩ := hcell
        by_cases hneg : q < 0
        · obtain rfl : q = -1 := by omega
          go_wp2_with (fail)
          go_ret
          have e : W = -1 := by
            rw [← HQ.out]
            unfold lft
            split <;> omega
          exact ⟨by rw [e]; rfl, bs HB.out (b1 _ _)⟩
        · have hq : 0 ≤ q := by omega
          have hQ : -1 ≤ Q ∧ Q ≤ 199 := by
            rw [← HQQ.out]
            have := HP.out
            unfold lft
            split <;> omega
          obtain ⟨hQ0, hQ1⟩ := hQ
          go_wp2_with (fail)
          refine (ihj hq _ (b1 _ _)).mono ?_
          rintro e w1 ⟨rfl, hb1⟩
          have HB1 := Lib.hid (bs HB.out (bs (b1 _ _) hb1))
          clear hb1
          go_wp2_with (fail)
          go_roundg (L - j)
          case rel =>
            refine ⟨j + 1, Q, rfl, by go_num, by omega, by omega, hQ0, hQ1, Lib.hid ?_, HB1.out⟩
            rw [← HQ.out, HD.out, ← HQQ.out]
            unfold lft
            split <;> split <;> split <;> push_cast at * <;> omega
          case measure => omega
      · obtain rfl : j = L := by omega
        have e : W = q := by
          rw [← HQ.out, show vs.drop j = [] from List.drop_eq_nil_of_le (Nat.le_of_eq HL.out.symm), wgts_nil]
          unfold lft
          split <;> omega
        go_wp2_with (fail)
        go_ret
        exact ⟨by first | rfl | (rw [e]; rfl), HB.out⟩
  · have hw : lft m (wgt (.mk k n s x ks vs)) = m - 1 := by
      rw [wgt_not h4]
      unfold lft
      split <;> omega
    rw [hw]
    clear hw hin hk
    go_enter Tryz.func155, Tryz.ntmps155
    go_wp2_with (fail)
    go_ret
    exact ⟨rfl, b1 _ _⟩

def WgS (t : Tr) : Prop := ∀ (w : World) (S : Nat → Prop) (v : Value), TIn w S t v → ∀ m : Int, 0 ≤ m → m ≤ 200 → Calls Tryz.prog 70 #[v, .int .i64 m] w (LtQ w (cut m (wgt t)))

set_option maxHeartbeats 800000 in
theorem weigh_s : ∀ t, WgS t := Tr.ind fun k n s x ks vs ih w S v h m hm0 hm1 => by
  obtain ⟨A, c, rfl, hk, hin⟩ := h.out
  clear h
  obtain ⟨L, HL⟩ : ∃ L, Hid (L = vs.length) := ⟨_, Lib.hid rfl⟩
  have hm : L ≤ maxLen := by rw [HL.out]; exact hin.2.1
  unfold maxLen at hm
  rw [← HL.out]
  by_cases h4 : k = 4
  · subst h4
    obtain ⟨W, HW⟩ : ∃ W, Hid (W = cut m (wgt (.mk 4 n s x ks vs))) := ⟨_, Lib.hid rfl⟩
    have HW1 : Hid (W = cut m (1 + wgts vs)) := by
      show W = _
      rw [HW.out, wgt_four]
    rw [← HW.out]
    have HI := Lib.hid hin
    clear hin hk
    go_enter Tryz.func70, Tryz.ntmps70
    go_wp2_with (fail)
    go_loopg [5, 6] (L + 1) (fun gk a i wr => ∃ (j q : Nat), a = .int .i64 q ∧ i = .int .i64 j ∧ gk + j = L + 1 ∧ j ≤ L ∧ (q : Int) ≤ m + 1 ∧ Hid (cut m (q + wgts (vs.drop j)) = W) ∧ Hid (wr.heap[w.heap.size]? = some (.cells #[.int .i64 4, .int .i64 n, .string s, .int .i64 x, .slice A L c] IV (0, 0))) ∧ Below w.heap.size w wr)
    case atStart => exact ⟨0, 1, rfl, rfl, by omega, by omega, by omega, Lib.hid (by rw [HW1.out]; rfl), Lib.hid (heap_alloc_new w _), b1 _ _⟩
    case round =>
      obtain ⟨j, q, rfl, rfl, hgj, hjL, hq1, HQ, HE, hb⟩ := hrel
      have HB := Lib.hid hb
      clear hb
      obtain ⟨r0, -⟩ := rowc HE.out
      by_cases hlt : j < L
      · obtain ⟨a, y, k', n', s', x', ks', vs', A1, c1, rfl, hS, hky, hvs, ht, hyb, hkb, hin', hcell⟩ := (HI.out.below HB.out).item (i := j) (by rw [← HL.out]; exact hlt)
        by_cases hle : (q : Int) ≤ m
        · obtain ⟨Q, HQQ⟩ : ∃ Q : Nat, Hid (cut (m - q) (wgt (.mk k' n' s' x' ks' vs')) = Q) := by
            refine ⟨(cut (m - q) (wgt (.mk k' n' s' x' ks' vs'))).toNat, Lib.hid ?_⟩
            unfold cut
            split <;> omega
          have ihj : Calls Tryz.prog 70 #[vV k' n' s' x' A1 vs'.length c1, .int .i64 (m - q)] wr (LtQ wr Q) := HQQ.out ▸ ih _ (List.mem_of_getElem? hvs) wr S _ ht (m - q) (by omega) (by omega)
          have HD := Lib.hid (wgts_drop hvs)
          have hQ : (q : Int) + Q ≤ m + 1 := by
            rw [← HQQ.out]
            unfold cut
            split <;> omega
          clear hky hvs ht hin' hyb hkb hS
          obtain ⟨p0, p1, p2, p3, p4, p5, p6, p7⟩ := hcell
          go_wp2_with (fail)
          refine ihj.mono ?_
          rintro e w1 ⟨rfl, hb1⟩
          have HE1 := Lib.hid (carry hb1 HE.out)
          have HB1 := Lib.hid (bs HB.out hb1)
          clear hb1 r0
          obtain ⟨r1, -⟩ := rowc HE1.out
          go_wp2_with (fail)
          go_roundg (L - j)
          case rel =>
            refine ⟨j + 1, q + Q, by go_num, by go_num, by omega, by omega, by push_cast; omega, Lib.hid ?_, HE1, HB1.out⟩
            have e1 := HQQ.out
            rw [← HQ.out, HD.out]
            unfold cut at e1 ⊢
            split at e1 <;> split <;> split <;> push_cast at * <;> omega
          case measure => omega
        · have e : W = (q : Int) := by
            rw [← HQ.out]
            unfold cut
            split <;> push_cast at * <;> omega
          clear hky hvs ht hin' hyb hkb hS hcell
          go_wp2_with (fail)
          go_ret
          exact ⟨by first | rfl | (rw [e]; rfl), HB.out⟩
      · obtain rfl : j = L := by omega
        have e : W = (q : Int) := by
          rw [← HQ.out, show vs.drop j = [] from List.drop_eq_nil_of_le (Nat.le_of_eq HL.out.symm), wgts_nil]
          unfold cut
          split <;> push_cast at * <;> omega
        go_wp2_with (fail)
        go_ret
        exact ⟨by first | rfl | (rw [e]; rfl), HB.out⟩
  · have hw : cut m (wgt (.mk k n s x ks vs)) = 1 := by
      rw [wgt_not h4]
      unfold cut
      split <;> omega
    rw [hw]
    clear hw hin hk
    go_enter Tryz.func70, Tryz.ntmps70
    go_wp2_with (fail)
    go_loopg [5, 6] 1 (fun gk a i wr => a = .int .i64 1 ∧ i = .int .i64 0 ∧ gk = 1 ∧ Hid (wr.heap[w.heap.size]? = some (.cells #[.int .i64 k, .int .i64 n, .string s, .int .i64 x, .slice A L c] IV (0, 0))) ∧ Below w.heap.size w wr)
    case atStart => exact ⟨rfl, rfl, rfl, Lib.hid (heap_alloc_new w _), b1 _ _⟩
    case round =>
      obtain ⟨rfl, rfl, rfl, HE, hb⟩ := hrel
      have HB := Lib.hid hb
      clear hb
      obtain ⟨r0, -⟩ := rowc HE.out
      go_wp2_with (fail)
      go_ret
      exact ⟨rfl, HB.out⟩

def lightB (t : Tr) : Bool := decide (wgt t ≤ 200)
theorem light_i (t : Tr) (w : World) (S : Nat → Prop) (v : Value) (h : TIn w S t v) : Calls Tryz.prog 124 #[v] w (BoQ w (lightB t)) := by
  have SP : ∀ o : Obj, Calls Tryz.prog 155 #[.int .i64 200, v] (w.alloc o) (LtQ (w.alloc o) (lft 200 (wgt t))) := fun o => spare_i t _ S v (h.below' (b1 w o)) 200 (by omega) (by omega)
  obtain ⟨N, HN⟩ : ∃ N, Hid (wgt t = N) := ⟨_, Lib.hid rfl⟩
  unfold lightB
  rw [HN.out] at SP ⊢
  obtain ⟨k, n, s, x, ks, vs⟩ := t
  obtain ⟨A, c, rfl, hk, hin⟩ := h.out
  clear h hk hin
  by_cases hle : N ≤ 200
  · rw [decide_eq_true hle]
    obtain ⟨r, hr, e⟩ : ∃ r : Int, 0 ≤ r ∧ lft 200 N = r := ⟨_, by unfold lft; split <;> omega, rfl⟩
    rw [e] at SP
    clear e
    go_enter Tryz.func124, Tryz.ntmps124
    go_wp2_with (fail)
    refine (SP _).mono ?_
    rintro e w1 ⟨rfl, hb1⟩
    have HB1 := Lib.hid (bs (b1 _ _) hb1)
    clear hb1
    go_wp2_with (fail)
    go_ret
    exact ⟨rfl, HB1.out⟩
  · rw [decide_eq_false hle]
    have e : lft 200 N = -1 := by unfold lft; split <;> omega
    rw [e] at SP
    go_enter Tryz.func124, Tryz.ntmps124
    go_wp2_with (fail)
    refine (SP _).mono ?_
    rintro e w1 ⟨rfl, hb1⟩
    have HB1 := Lib.hid (bs (b1 _ _) hb1)
    clear hb1
    go_wp2_with (fail)
    go_ret
    exact ⟨rfl, HB1.out⟩

end Go.Proofs.YtdgfpfkhcojgaaaGreatDoor.tree

