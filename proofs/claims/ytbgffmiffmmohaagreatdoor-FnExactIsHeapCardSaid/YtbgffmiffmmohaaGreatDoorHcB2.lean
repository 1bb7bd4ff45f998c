/-
  What the texts behind this one use: 21 parts of one proof.
  Conditions: those that each theorem names.
-/
import Derived.Test.YtbgffmiffmmohaaGreatDoorHcB1
import Derived.Test.YtbgffmiffmmohaaGreatDoorHcSTreeEq
import Derived.Laws.StructEq
import Derived.Deep.RegionHeld3
import Derived.Deep.CutBlock
import Derived.Deep.DeepCutAuto
import Derived.Deep.LoopGhost
import Derived.BigQuiet
import Derived.Deep.QuietTactic
import Derived.Test.YtbgffmiffmmohaaGreatDoorShelf
import Derived.Laws.CopyOwn
import Derived.Deep.RegionWith
import Derived.Test.YtbgffmiffmmohaaGreatDoorHcSInts
/-
  Tables: the slots of a table that came in, as a list; how they lie in memory.
  Conditions: those that each theorem names.
-/
namespace Go.Proofs.YtbgffmiffmmohaaGreatDoor.tree
open Go.ChangeShapes Go.WideShapes Go.ChangeAt Go.RowKit Go.Deep
set_option linter.unusedVariables false

structure Sl where
  key : Ky
  val : Tr
  live : Bool
  link : Int

/-- The ten cells of a slot at q. -/
structure At10 (w : World) (q : Addr) (y : Ky) (k n : Int) (s : ByteArray) (x : Int) (A : Option Addr) (L c : Nat) (b : Bool) (l : Int) : Prop where
  c0 : w.cell? q = some (.bool y.text)
  c1 : w.cell? ⟨q.block, q.off + 1, none⟩ = some (.int .i64 y.num)
  c2 : w.cell? ⟨q.block, q.off + 2, none⟩ = some (.string y.str)
  c3 : w.cell? ⟨q.block, q.off + 3, none⟩ = some (.int .i64 k)
  c4 : w.cell? ⟨q.block, q.off + 4, none⟩ = some (.int .i64 n)
  c5 : w.cell? ⟨q.block, q.off + 5, none⟩ = some (.string s)
  c6 : w.cell? ⟨q.block, q.off + 6, none⟩ = some (.int .i64 x)
  c7 : w.cell? ⟨q.block, q.off + 7, none⟩ = some (.slice A L c)
  c8 : w.cell? ⟨q.block, q.off + 8, none⟩ = some (.bool b)
  c9 : w.cell? ⟨q.block, q.off + 9, none⟩ = some (.int .i64 l)
theorem At10.stays {w w' : World} {q : Addr} {y : Ky} {k n x l : Int} {s : ByteArray} {A : Option Addr} {L c : Nat} {b : Bool} (hb : q.block < w.heap.size → w'.heap[q.block]? = w.heap[q.block]?) (h : At10 w q y k n s x A L c b l) : At10 w' q y k n s x A L c b l :=
  ⟨cell_stays hb h.c0, cell_stays hb h.c1, cell_stays hb h.c2, cell_stays hb h.c3, cell_stays hb h.c4, cell_stays hb h.c5, cell_stays hb h.c6, cell_stays hb h.c7, cell_stays hb h.c8, cell_stays hb h.c9⟩

/-- The slots at A. -/
def SIn (w : World) (S : Nat → Prop) (sl : List Sl) (A : Option Addr) : Prop :=
  ∀ i t, sl[i]? = some t → ∃ a k n s x ks vs A' c', A = some a ∧ S a.block ∧ (I64 t.key.num ∧ t.key.str.size ≤ maxLen) ∧ I64 t.link ∧ t.val = .mk k n s x ks vs ∧ TIn w S t.val (vV k n s x A' vs.length c') ∧ At10 w (a.add (i * 10)) t.key k n s x A' vs.length c' t.live t.link
theorem SIn.stays {w w' : World} {S S' : Nat → Prop} (hS : ∀ b, S b → S' b) (hb : ∀ b, S b → b < w.heap.size → w'.heap[b]? = w.heap[b]?) {sl : List Sl} {A : Option Addr} (h : SIn w S sl A) : SIn w' S' sl A := fun i t ht => by
  obtain ⟨a, k, n, s, x, ks, vs, A', c', e, hSa, hk, hl, hv, hT, hc⟩ := h i t ht
  exact ⟨a, k, n, s, x, ks, vs, A', c', e, hS _ hSa, hk, hl, hv, hT.stays hS hb, hc.stays (fun hlt => hb _ (by rw [mem.add_block]; exact hSa) hlt)⟩
theorem SIn.below {w w' : World} (hb : Below w.heap.size w w') {S : Nat → Prop} {sl : List Sl} {A : Option Addr} (h : SIn w S sl A) : SIn w' S sl A := h.stays (fun _ h => h) (fun b _ hlt => hb.block b hlt)

section
variable {H : Type} {enc : TypeId × Value → H} {P : Program} {w : World} {base : Nat} {spare : Nat → Bool} {held : Bool}
structure TypesS (P : Program) (tSS tSl tK tV : TypeId) : Prop where
  slots : P.underlying tSS = some (.slice tSl)
  slot : ∃ g0 g1 g2 g3 : Field, P.underlying tSl = some (.struct #[g0, g1, g2, g3]) ∧ g0.type = tK ∧ g1.type = tV ∧ P.underlying g2.type = some .bool ∧ P.underlying g3.type = some (.int .i64) ∧ g0.offset = 0 ∧ g1.offset = 3 ∧ g2.offset = 8 ∧ g3.offset = 9 ∧ P.cellsOf g2.type = 1 ∧ P.cellsOf g3.type = 1
  cS : P.cellsOf tSl = 10

theorem open_slots {tV tE tK tS tSS tSl : TypeId} (T : Types P tV tE tK tS) (TS : TypesS P tSS tSl tK tV) {fuel : Nat} {c0 : Value} {x : DataW H × List MemPlace} (h : DataW.trod enc P w base spare held fuel tSS [c0] = some x) :
    ∃ A n c sl, c0 = .slice A n c ∧ List.length sl = n ∧ (n ≤ c ∧ c ≤ maxLen) ∧ SIn w (fun _ => True) sl A := by
  rcases DataW.trod_slice TS.slots h with ⟨hc4, _⟩ | ⟨a, len, cap, elems, rest, m, hfm, hc4, _, hbs, hlc, hcm, hel, hat, _⟩
  · simp at hc4
    subst hc4
    exact ⟨none, 0, 0, [], rfl, rfl, ⟨Nat.le_refl _, Nat.zero_le _⟩, fun i t ht => by simp at ht⟩
  · simp at hc4
    subst hc4
    have each : ∀ i, i < len → ∃ t : Sl, ∃ k n s x ks vs A' c', (I64 t.key.num ∧ t.key.str.size ≤ maxLen) ∧ I64 t.link ∧ t.val = .mk k n s x ks vs ∧ TIn w (fun _ => True) t.val (vV k n s x A' vs.length c') ∧ At10 w (a.add (i * 10)) t.key k n s x A' vs.length c' t.live t.link := by
      intro i hi
      have hi2 := hat i hi
      rw [List.getElem?_eq_getElem (by omega)] at hi2
      obtain ⟨cs', hcs, htr⟩ := Option.bind_eq_some_iff.1 hi2
      rw [TS.cS] at hcs
      obtain ⟨_, hcl, hcat⟩ := World.cells?_some hcs
      obtain ⟨g0, g1, g2, g3, hue, hg0, hg1, hg2, hg3, q0, q1, q2, q3, z2, z3⟩ := TS.slot
      obtain ⟨ys, n2, hn2, hy, hl2, hyl, hall2⟩ := DataW.trod_struct hue htr
      have hyl4 : ys.length = 4 := hyl
      match cs', hcl with
      | [d0, d1, d2, d3, d4, d5, d6, d7, d8, d9], _ =>
        have r0 := hall2 0 g0 rfl
        have r1 := hall2 1 g1 rfl
        have r2 := hall2 2 g2 rfl
        have r3 := hall2 3 g3 rfl
        rw [hg0, q0, T.cK] at r0
        rw [hg1, q1, T.cV] at r1
        rw [q2, z2] at r2
        rw [q3, z3] at r3
        obtain ⟨y, hk3, hkn, hks⟩ := open_key T (r0.trans (List.getElem?_eq_getElem (by omega)))
        obtain ⟨t, ht⟩ := open_tree T n2 _ _ (r1.trans (List.getElem?_eq_getElem (by omega)))
        obtain ⟨b, hb, _⟩ := DataW.trod_bool hg2 (r2.trans (List.getElem?_eq_getElem (by omega)))
        obtain ⟨l, hlk, _, hlw⟩ := DataW.trod_int hg3 (r3.trans (List.getElem?_eq_getElem (by omega)))
        simp at hk3 hb hlk
        obtain ⟨rfl, rfl, rfl⟩ := hk3
        subst hb hlk
        obtain ⟨k, n, s, x, ks, vs⟩ := t
        obtain ⟨A', c', e, -, -⟩ := ht.out
        have e' : d3 = .int .i64 k ∧ d4 = .int .i64 n ∧ d5 = .string s ∧ d6 = .int .i64 x ∧ d7 = .slice A' vs.length c' := by simpa using e
        obtain ⟨rfl, rfl, rfl, rfl, rfl⟩ := e'
        have at' : ∀ j, j < 10 → w.cell? (a.add (i * 10 + j)) = ([.bool y.text, .int .i64 y.num, .string y.str, .int .i64 k, .int .i64 n, .string s, .int .i64 x, .slice A' vs.length c', .bool b, .int .i64 l] : List Value)[j]? := fun j hj => by
          have := hcat j hj
          rwa [add_add'] at this
        have sp : ∀ j, j ≠ 0 → a.add (i * 10 + j) = ⟨(a.add (i * 10)).block, (a.add (i * 10)).off + j, none⟩ := fun j hj => by rw [← add_add', add_pos _ _ hj]
        have at2 : ∀ j, j ≠ 0 → j < 10 → w.cell? ⟨(a.add (i * 10)).block, (a.add (i * 10)).off + j, none⟩ = _ := fun j h0 hj => (congrArg w.cell? (sp j h0)).symm.trans (at' j hj)
        exact ⟨⟨y, .mk k n s x ks vs, b, l⟩, k, n, s, x, ks, vs, A', c', ⟨hkn, hks⟩, wf_i64 hlw, rfl, ht, ⟨at' 0 (by omega), at2 1 (by omega) (by omega), at2 2 (by omega) (by omega), at2 3 (by omega) (by omega), at2 4 (by omega) (by omega), at2 5 (by omega) (by omega), at2 6 (by omega) (by omega), at2 7 (by omega) (by omega), at2 8 (by omega) (by omega), at2 9 (by omega) (by omega)⟩⟩
    refine ⟨some a, len, cap, (List.range len).map (fun i => if hi : i < len then (each i hi).choose else ⟨⟨false, 0, ⟨#[]⟩⟩, .mk 0 0 ⟨#[]⟩ 0 [] [], false, 0⟩), rfl, by simp, ⟨hlc, hcm⟩, fun i t ht => ?_⟩
    rw [List.getElem?_map] at ht
    obtain ⟨i', hi', rfl⟩ := Option.map_eq_some_iff.1 ht
    have hil : i < len := by
      have := (List.getElem?_eq_some_iff.1 hi').1
      simpa using this
    rw [List.getElem?_range hil] at hi'
    obtain rfl := Option.some.inj hi'
    simp only [dif_pos hil]
    obtain ⟨k, n, s, x, ks, vs, A', c', h⟩ := (each i hil).choose_spec
    exact ⟨a, k, n, s, x, ks, vs, A', c', rfl, trivial, h⟩

structure TypesT (P : Program) (tT tI tE tSS : TypeId) : Prop where
  table : ∃ f0 f1 f2 f3 f4 : Field, P.underlying tT = some (.struct #[f0, f1, f2, f3, f4]) ∧ P.underlying f0.type = some .bool ∧ f1.type = tI ∧ f2.type = tSS ∧ P.underlying f3.type = some (.int .i64) ∧ P.underlying f4.type = some (.int .i64) ∧ oneCellFields P #[f0, f1, f2, f3, f4] = true
  heads : P.underlying tI = some (.slice tE)
  elem : P.underlying tE = some (.int .i64)
  cE : P.cellsOf tE = 1
  cT : P.cellsOf tT = 5
end

/-- A table, written out. -/
abbrev tbV (b : Bool) (A : Option Addr) (n c : Nat) (B : Option Addr) (m d : Nat) (x k : Int) : Value := .agg #[.bool b, .slice A n c, .slice B m d, .int .i64 x, .int .i64 k]
/-- A table that reads as its heads and slots. -/
structure TbIn (w : World) (S : Nat → Prop) (l : List Int) (sl : List Sl) (A : Option Addr) (n c : Nat) (B : Option Addr) (m d : Nat) (x k : Int) : Prop where
  heads : imem.RdI w A n l
  hn : n ≤ maxLen
  len : sl.length = m
  cap : m ≤ d ∧ d ≤ maxLen
  slots : SIn w S sl B
  next : I64 x
  count : I64 k

section
variable {H : Type} {enc : TypeId × Value → H} {P : Program} {w : World}
theorem open_tab {tV tE tK tS tSS tSl tT tI tIE : TypeId} (T : Types P tV tE tK tS) (TS : TypesS P tSS tSl tK tV) (TT : TypesT P tT tI tIE tSS) {fuel : Nat} {cs : List Value} {x : DataW H × List MemPlace} (h : DataW.trod enc P w 0 (fun _ => true) true fuel tT cs = some x) :
    ∃ b A n c B m d nx ct l sl, Value.agg cs.toArray = tbV b A n c B m d nx ct ∧ TbIn w (fun _ => True) l sl A n c B m d nx ct := by
  obtain ⟨f0, f1, f2, f3, f4, hu, h0, h1, h2, h3, h4, hone⟩ := TT.table
  obtain ⟨xs, n, hn, hx, hl, hxl, hall⟩ := DataW.trod_struct hu h
  rw [TT.cT] at hl
  match cs, hl with
  | [c0, c1, c2, c3, c4], _ =>
    obtain ⟨o0, k0⟩ := hone_of hone 0 f0 rfl
    obtain ⟨o1, k1⟩ := hone_of hone 1 f1 rfl
    obtain ⟨o2, k2⟩ := hone_of hone 2 f2 rfl
    obtain ⟨o3, k3⟩ := hone_of hone 3 f3 rfl
    obtain ⟨o4, k4⟩ := hone_of hone 4 f4 rfl
    have hxl5 : xs.length = 5 := hxl
    have e0 := hall 0 f0 rfl
    have e1 := hall 1 f1 rfl
    have e2 := hall 2 f2 rfl
    have e3 := hall 3 f3 rfl
    have e4 := hall 4 f4 rfl
    rw [one_of k0 o0 (by simp)] at e0
    rw [one_of k1 o1 (by simp)] at e1
    rw [one_of k2 o2 (by simp)] at e2
    rw [one_of k3 o3 (by simp)] at e3
    rw [one_of k4 o4 (by simp)] at e4
    obtain ⟨b, hb, _⟩ := DataW.trod_bool h0 (e0.trans (List.getElem?_eq_getElem (by omega)))
    obtain ⟨nx, hnx, _, hw3⟩ := DataW.trod_int h3 (e3.trans (List.getElem?_eq_getElem (by omega)))
    obtain ⟨ct, hct, _, hw4⟩ := DataW.trod_int h4 (e4.trans (List.getElem?_eq_getElem (by omega)))
    rw [h2] at e2
    obtain ⟨B, m, d, sl, hB, hsl, hcap, hS⟩ := open_slots T TS (e2.trans (List.getElem?_eq_getElem (by omega)))
    rw [h1] at e1
    simp at hb hnx hct hB
    subst hb hnx hct hB
    rcases open_ints TT.heads TT.elem TT.cE (e1.trans (List.getElem?_eq_getElem (by omega))) with ⟨hc1, _⟩ | ⟨a, len, cap, zs, hc1, _, hlc, hm, hz, _, hcell, hwz⟩
    · simp at hc1
      subst hc1
      exact ⟨b, none, 0, 0, B, m, d, nx, ct, [], sl, rfl, ⟨⟨rfl, fun hn => absurd hn (by omega)⟩, Nat.zero_le _, hsl, hcap, hS, wf_i64 hw3, wf_i64 hw4⟩⟩
    · simp at hc1
      subst hc1
      simp only [if_true] at hz
      refine ⟨b, some a, len, cap, B, m, d, nx, ct, zs.take len, sl, rfl, ⟨⟨by rw [List.length_take]; omega, fun hn => ⟨a, rfl, fun j x hx => ?_⟩⟩, by omega, hsl, hcap, hS, wf_i64 hw3, wf_i64 hw4⟩⟩
      have hj : j < len := by
        have := (List.getElem?_eq_some_iff.1 hx).1
        rw [List.length_take] at this
        omega
      rw [List.getElem?_take, if_pos hj] at hx
      have hcj := hcell j (by omega)
      rw [hcj]
      simp [List.getD, hx]
end

abbrev LT : TypeId := 199
theorem typesS : TypesS Tryz.prog 197 257 LK LV where
  slots := Tryz.underlying197
  slot := ⟨_, _, _, _, Tryz.underlying257, by kernel_rfl, by kernel_rfl, by kernel_rfl, by kernel_rfl, by kernel_rfl, by kernel_rfl, by kernel_rfl, by kernel_rfl, by kernel_rfl, by kernel_rfl⟩
  cS := by kernel_rfl
theorem typesT : TypesT Tryz.prog LT 24 3 197 where
  table := ⟨_, _, _, _, _, Tryz.underlying199, by kernel_rfl, by kernel_rfl, by kernel_rfl, by kernel_rfl, by kernel_rfl, by kernel_rfl⟩
  heads := Tryz.underlying24
  elem := Tryz.underlying3
  cE := by kernel_rfl
  cT := by kernel_rfl

set_option maxRecDepth 100000 in
theorem open_table {H : Type} {enc : TypeId × Value → H} {W : World} {base : Nat} {v : Value} {d : DataW H} {ps : List MemPlace} (hval : Value.okWide Tryz.prog W .any base LT v) (h : DataW.Trod enc Tryz.prog W 0 (fun _ => true) true LT v d ps) :
    ∃ b A n c B m d nx ct l sl, v = tbV b A n c B m d nx ct ∧ TbIn W (fun _ => True) l sl A n c B m d nx ct := by
  obtain ⟨cs, rfl, hsz⟩ := okWide_struct Tryz.underlying199 hval
  obtain ⟨fuel, hf⟩ := h
  exact open_tab opt.types typesS typesT hf

end Go.Proofs.YtbgffmiffmmohaaGreatDoor.tree

/-
  The laws' size of a value, and how many values a tree holds.
  Conditions: those that each theorem names.
-/
namespace Go.Proofs.YtbgffmiffmmohaaGreatDoor.tree
open Go.ChangeShapes Go.WideShapes Go.ChangeAt Go.RowKit
set_option linter.unusedVariables false

mutual
/-- Letters and items, all that is in a value. -/
def tot : Tr → Nat
  | .mk _ _ s _ ks vs => s.size + (vs.length + tots ks vs)
def tots : List Ky → List Tr → Nat
  | y :: ks, t :: vs => y.str.size + tot t + tots ks vs
  | _, _ => 0
end
mutual
/-- How many values a tree is. -/
def cnt : Tr → Nat
  | .mk _ _ _ _ _ vs => 1 + cnts vs
def cnts : List Tr → Nat
  | [] => 0
  | t :: vs => cnt t + cnts vs
end
mutual
/-- Each item has its key. -/
def fits : Tr → Prop
  | .mk _ _ _ _ ks vs => ks.length = vs.length ∧ fitss vs
def fitss : List Tr → Prop
  | [] => True
  | t :: vs => fits t ∧ fitss vs
end
theorem tots_cons (y : Ky) (ks : List Ky) (t : Tr) (vs : List Tr) : tots (y :: ks) (t :: vs) = y.str.size + tot t + tots ks vs := by rw [tots]
theorem tots_drop {ks : List Ky} {vs : List Tr} {j : Nat} {y : Ky} {t : Tr} (hk : ks[j]? = some y) (hv : vs[j]? = some t) : tots (ks.drop j) (vs.drop j) = y.str.size + tot t + tots (ks.drop (j + 1)) (vs.drop (j + 1)) := by
  obtain ⟨hj, rfl⟩ := List.getElem?_eq_some_iff.1 hk
  obtain ⟨hj', rfl⟩ := List.getElem?_eq_some_iff.1 hv
  rw [List.drop_eq_getElem_cons hj, List.drop_eq_getElem_cons hj', tots_cons]
theorem fitss_of : ∀ {vs : List Tr}, (∀ t ∈ vs, fits t) → fitss vs
  | [], _ => by rw [fitss]; trivial
  | t :: vs, h => by rw [fitss]; exact ⟨h t (by simp), fitss_of fun u hu => h u (by simp [hu])⟩
theorem TIn.fits {w : World} {S : Nat → Prop} {t : Tr} {v : Value} (h : TIn w S t v) : fits t := by
  induction h with
  | mk k n s x ks vs A cap C hk hl hm hcap hc ht ih =>
    rw [tree.fits]
    refine ⟨hl, fitss_of fun t h => ?_⟩
    obtain ⟨i, hi, rfl⟩ := List.mem_iff_getElem.1 h
    exact ih i hi
mutual
theorem cnt_tot : ∀ t, fits t → cnt t ≤ tot t + 1
  | .mk _ _ s _ ks vs, h => by
    rw [fits] at h
    have := cnts_tots ks vs h.1 h.2
    rw [cnt, tot]
    omega
theorem cnts_tots : ∀ (ks : List Ky) (vs : List Tr), ks.length = vs.length → fitss vs → cnts vs ≤ vs.length + tots ks vs
  | _, [], _, _ => by simp [cnts]
  | [], t :: vs, h, _ => by simp at h
  | y :: ks, t :: vs, h, hf => by
    rw [fitss] at hf
    have h1 := cnt_tot t hf.1
    have h2 := cnts_tots ks vs (by simpa using h) hf.2
    rw [cnts, tots, List.length_cons]
    omega
end

def SzOk (left : Int) (T : Nat) (r : Int) : Prop := -1 ≤ r ∧ r ≤ left ∧ (0 ≤ r → r + T = left)
def SzQ (left : Int) (T : Nat) (w : World) (e : Ending) (w' : World) : Prop := ∃ r : Int, e = .returned (.int .i64 r) ∧ SzOk left T r ∧ Below w.heap.size w w'

theorem szKey (y : Ky) (hy : y.str.size ≤ maxLen) (left : Int) (h0 : 0 ≤ left) (h1 : left ≤ 1048576) (w : World) :
    Calls Tryz.prog 105 #[kyV y, .int .i64 left] w (SzQ left y.str.size w) := by
  obtain ⟨b, n, s⟩ := y
  replace hy : s.size ≤ maxLen := hy
  show Calls _ _ _ _ (SzQ left s.size w)
  unfold kyV
  unfold maxLen at hy
  by_cases hlt : left - s.size < 0
  · go_enter Tryz.func105, Tryz.ntmps105
    go_wp2
    go_ret
    exact ⟨-1, rfl, ⟨by omega, by omega, fun h => by omega⟩, b1 _ _⟩
  · have hge : ¬ (left < s.size) := by omega
    go_enter Tryz.func105, Tryz.ntmps105
    go_wp2
    go_ret
    exact ⟨left - s.size, rfl, ⟨by omega, by omega, fun h => by omega⟩, b1 _ _⟩

def SzV (t : Tr) : Prop := ∀ (w : World) (S : Nat → Prop) (v : Value), TIn w S t v → ∀ left : Int, 0 ≤ left → left ≤ 1048576 → Calls Tryz.prog 29 #[v, .int .i64 left] w (SzQ left (tot t) w)

theorem szEntry (y : Ky) (hy : y.str.size ≤ maxLen) (k n : Int) (s : ByteArray) (x : Int) (A : Option Addr) (L c : Nat) (T : Nat) (left : Int) (h0 : 0 ≤ left) (h1 : left ≤ 1048576) (w : World)
    (ih : ∀ (w' : World) (left' : Int), Below w.heap.size w w' → 0 ≤ left' → left' ≤ 1048576 → Calls Tryz.prog 29 #[vV k n s x A L c, .int .i64 left'] w' (SzQ left' T w')) :
    Calls Tryz.prog 172 #[eV y k n s x A L c, .int .i64 left] w (SzQ left (y.str.size + T) w) := by
  obtain ⟨b, m, ys⟩ := y
  have K := szKey ⟨b, m, ys⟩ hy left h0 h1
  show Calls _ _ _ _ (SzQ left (ys.size + T) w)
  replace K : ∀ w, Calls Tryz.prog 105 #[kyV ⟨b, m, ys⟩, .int .i64 left] w (SzQ left ys.size w) := K
  unfold eV
  go_enter Tryz.func172, Tryz.ntmps172
  go_wp2_with (fail)
  refine (K _).mono ?_
  rintro e w1 ⟨r, rfl, ⟨hr1, hr2, hr3⟩, hb1⟩
  obtain ⟨hc, hf⟩ := bcell hb1
  have HB := Lib.hid hb1
  have HR := Lib.hid hr3
  clear hb1 hr3
  by_cases hr : r < 0
  · go_wp2_with (fail)
    go_ret
    exact ⟨-1, rfl, ⟨by omega, by omega, fun h => by omega⟩, bs (b1 _ _) HB.out⟩
  · have hr0 : 0 ≤ r := by omega
    go_wp2_with (fail)
    refine (ih _ r (bs (b1 _ _) HB.out) hr0 (by omega)).mono ?_
    rintro e w2 ⟨r2, rfl, ⟨hs1, hs2, hs3⟩, hb2⟩
    have HB2 := Lib.hid hb2
    have HR2 := Lib.hid hs3
    clear hb2 hs3
    by_cases hq : r2 < 0
    · go_wp2_with (fail)
      go_ret
      exact ⟨-1, rfl, ⟨by omega, by omega, fun h => by omega⟩, bs (bs (b1 _ _) HB.out) HB2.out⟩
    · have hq0 : 0 ≤ r2 := by omega
      go_wp2_with (fail)
      go_ret
      refine ⟨r2, rfl, ⟨by omega, by omega, fun h => ?_⟩, bs (bs (b1 _ _) HB.out) HB2.out⟩
      have a1 := HR.out hr0
      have a2 := HR2.out h
      omega

theorem szItems (ks : List Ky) (vs : List Tr) (ih : ∀ t ∈ vs, SzV t) (A : Option Addr) (c : Nat) (w : World) (S : Nat → Prop) (h : IsIn w S ks vs A) (left : Int) (h0 : 0 ≤ left) (h1 : left ≤ 1048576) :
    Calls Tryz.prog 94 #[.slice A vs.length c, .int .i64 left] w (SzQ left (vs.length + tots ks vs) w) := by
  obtain ⟨L, HL⟩ : ∃ L, Hid (L = vs.length) := ⟨_, Lib.hid rfl⟩
  have hm : L ≤ maxLen := by rw [HL.out]; exact h.2.1
  unfold maxLen at hm
  rw [← HL.out]
  by_cases hlt : left - L < 0
  · go_enter Tryz.func94, Tryz.ntmps94
    go_wp2_with (fail)
    go_ret
    exact ⟨-1, rfl, ⟨by omega, by omega, fun h => by omega⟩, Below.refl _ _⟩
  have hge : ¬ (left < L) := by omega
  clear hlt
  go_enter Tryz.func94, Tryz.ntmps94
  go_wp2_with (fail)
  go_loopg [1, 5] (L + 1) (fun gk l i wr => ∃ (j : Nat) (r : Int), l = .int .i64 r ∧ i = .int .i64 j ∧ gk + j = L + 1 ∧ j ≤ L ∧ 0 ≤ r ∧ r ≤ left ∧ Hid (r + tots ks vs = left - L + tots (ks.drop j) (vs.drop j)) ∧ Below w.heap.size w wr)
  case atStart => exact ⟨0, left - L, rfl, rfl, by omega, by omega, by omega, by omega, Lib.hid (by simp), Below.refl _ _⟩
  case round =>
    obtain ⟨j, r, rfl, rfl, hgj, hjL, hr0, hr1, HR, hb⟩ := hrel
    have HB := Lib.hid hb
    clear hb
    by_cases hlt : j < L
    · obtain ⟨a, y, k, n, s, x, ks', vs', A1, c1, rfl, hS, hky, hvs, ht, hyb, hkb, hin, hcell⟩ := (h.below HB.out).item (i := j) (by rw [← HL.out]; exact hlt)
      have ihj : ∀ (w' : World) (left' : Int), Below wr.heap.size wr w' → 0 ≤ left' → left' ≤ 1048576 → Calls Tryz.prog 29 #[vV k n s x A1 vs'.length c1, .int .i64 left'] w' (SzQ left' (tot (.mk k n s x ks' vs')) w') := fun w' l' hb' a0 a1 => ih _ (List.mem_of_getElem? hvs) w' S _ (ht.below' hb') l' a0 a1
      have HT := Lib.hid (tots_drop hky hvs)
      have hys := hyb.2
      clear hky hvs ht hin hyb hkb hS
      obtain ⟨p0, p1, p2, p3, p4, p5, p6, p7⟩ := hcell
      go_wp2_with (fail)
      refine (szEntry y hys k n s x A1 vs'.length c1 _ r hr0 (by omega) _ ihj).mono ?_
      rintro e w1 ⟨r2, rfl, ⟨hs1, hs2, hs3⟩, hb1⟩
      have HB1 := Lib.hid hb1
      have HR2 := Lib.hid hs3
      clear hb1 hs3
      by_cases hq : r2 < 0
      · go_wp2_with (fail)
        go_ret
        exact ⟨-1, rfl, ⟨by omega, by omega, fun h => by omega⟩, bs HB.out HB1.out⟩
      · have hq0 : 0 ≤ r2 := by omega
        go_wp2_with (fail)
        go_roundg (L - j)
        case rel =>
          refine ⟨j + 1, r2, rfl, by go_num, by omega, by omega, hq0, by omega, Lib.hid ?_, bs HB.out HB1.out⟩
          have a1 := HR.out
          have a2 := HR2.out hq0
          have a3 := HT.out
          omega
        case measure => omega
    · go_wp2_with (fail)
      go_ret
      refine ⟨r, rfl, ⟨by omega, by omega, fun _ => ?_⟩, HB.out⟩
      have a1 := HR.out
      have e : tots (ks.drop j) (vs.drop j) = 0 := by
        rw [show vs.drop j = [] from List.drop_eq_nil_of_le (by rw [← HL.out]; omega)]
        cases ks.drop j <;> rfl
      rw [e] at a1
      push_cast
      omega

theorem szV : ∀ t, SzV t := Tr.ind fun k n s x ks vs ih w S v h left h0 h1 => by
  obtain ⟨A, c, rfl, ⟨_, _, _, hs⟩, hin⟩ := h.out
  clear h
  have hT : tot (.mk k n s x ks vs) = s.size + (vs.length + tots ks vs) := by rw [tot]
  rw [hT]
  clear hT
  unfold maxLen at hs
  by_cases hlt : left - s.size < 0
  · go_enter Tryz.func29, Tryz.ntmps29
    go_wp2_with (fail)
    go_ret
    exact ⟨-1, rfl, ⟨by omega, by omega, fun h => by omega⟩, b1 _ _⟩
  have hge : ¬ (left < s.size) := by omega
  clear hlt
  go_enter Tryz.func29, Tryz.ntmps29
  go_wp2_with (fail)
  refine (szItems ks vs ih A c _ S (hin.below (b1 _ _)) (left - s.size) (by omega) (by omega)).mono ?_
  rintro e w1 ⟨r, rfl, ⟨hr1, hr2, hr3⟩, hb1⟩
  have HB1 := Lib.hid hb1
  have HR := Lib.hid hr3
  clear hb1 hr3
  by_cases hr : r < 0
  · go_wp2_with (fail)
    go_ret
    exact ⟨-1, rfl, ⟨by omega, by omega, fun h => by omega⟩, bs (b1 _ _) HB1.out⟩
  · have hr0 : 0 ≤ r := by omega
    go_wp2_with (fail)
    go_ret
    refine ⟨r, rfl, ⟨by omega, by omega, fun h => ?_⟩, bs (b1 _ _) HB1.out⟩
    have a1 := HR.out h
    push_cast at a1 ⊢
    omega

end Go.Proofs.YtbgffmiffmmohaaGreatDoor.tree

/-
  The laws' size of a table.
  Conditions: those that each theorem names.
-/
namespace Go.Proofs.YtbgffmiffmmohaaGreatDoor.tree
open Go.ChangeShapes Go.WideShapes Go.ChangeAt Go.RowKit
set_option linter.unusedVariables false

/-- Letters and items of slots. -/
def totS : List Sl → Nat
  | [] => 0
  | t :: sl => t.key.str.size + tot t.val + totS sl
theorem totS_drop {sl : List Sl} {j : Nat} {t : Sl} (h : sl[j]? = some t) : totS (sl.drop j) = t.key.str.size + tot t.val + totS (sl.drop (j + 1)) := by
  obtain ⟨hj, rfl⟩ := List.getElem?_eq_some_iff.1 h
  rw [List.drop_eq_getElem_cons hj, totS]
/-- The ten cells of a slot. -/
abbrev sV (y : Ky) (k n : Int) (s : ByteArray) (x : Int) (A : Option Addr) (L c : Nat) (b : Bool) (l : Int) : Value := .agg #[.bool y.text, .int .i64 y.num, .string y.str, .int .i64 k, .int .i64 n, .string s, .int .i64 x, .slice A L c, .bool b, .int .i64 l]

theorem szSlot (y : Ky) (hy : y.str.size ≤ maxLen) (k n : Int) (s : ByteArray) (x : Int) (A : Option Addr) (L c : Nat) (b : Bool) (l : Int) (T : Nat) (left : Int) (h0 : 0 ≤ left) (h1 : left ≤ 1048576) (w : World)
    (ih : ∀ (w' : World) (left' : Int), Below w.heap.size w w' → 0 ≤ left' → left' ≤ 1048576 → Calls Tryz.prog 29 #[vV k n s x A L c, .int .i64 left'] w' (SzQ left' T w')) :
    Calls Tryz.prog 245 #[sV y k n s x A L c b l, .int .i64 left] w (SzQ left (y.str.size + T) w) := by
  obtain ⟨yb, m, ys⟩ := y
  have K := szKey ⟨yb, m, ys⟩ hy left h0 h1
  show Calls _ _ _ _ (SzQ left (ys.size + T) w)
  replace K : ∀ w, Calls Tryz.prog 105 #[kyV ⟨yb, m, ys⟩, .int .i64 left] w (SzQ left ys.size w) := K
  unfold sV
  go_enter Tryz.func245, Tryz.ntmps245
  go_wp2_with (fail)
  refine (K _).mono ?_
  rintro e w1 ⟨r, rfl, ⟨hr1, hr2, hr3⟩, hb1⟩
  obtain ⟨hc, hf⟩ := bcell hb1
  have HB := Lib.hid hb1
  have HR := Lib.hid hr3
  clear hb1 hr3
  by_cases hr : r < 0
  · go_wp2_with (fail)
    go_ret
    exact ⟨-1, rfl, ⟨by omega, by omega, fun h => by omega⟩, bs (b1 _ _) HB.out⟩
  · have hr0 : 0 ≤ r := by omega
    go_wp2_with (fail)
    refine (ih _ r (bs (b1 _ _) HB.out) hr0 (by omega)).mono ?_
    rintro e w2 ⟨r2, rfl, ⟨hs1, hs2, hs3⟩, hb2⟩
    have HB2 := Lib.hid hb2
    have HR2 := Lib.hid hs3
    clear hb2 hs3
    by_cases hq : r2 < 0
    · go_wp2_with (fail)
      go_ret
      exact ⟨-1, rfl, ⟨by omega, by omega, fun h => by omega⟩, bs (bs (b1 _ _) HB.out) HB2.out⟩
    · have hq0 : 0 ≤ r2 := by omega
      go_wp2_with (fail)
      go_ret
      refine ⟨r2, rfl, ⟨by omega, by omega, fun h => ?_⟩, bs (bs (b1 _ _) HB.out) HB2.out⟩
      have a1 := HR.out hr0
      have a2 := HR2.out h
      omega

theorem szSlots (sl : List Sl) (hm : sl.length ≤ maxLen) (A : Option Addr) (c : Nat) (w : World) (S : Nat → Prop) (h : SIn w S sl A) (left : Int) (h0 : 0 ≤ left) (h1 : left ≤ 1048576) :
    Calls Tryz.prog 236 #[.slice A sl.length c, .int .i64 left] w (SzQ left (sl.length + totS sl) w) := by
  obtain ⟨L, HL⟩ : ∃ L, Hid (L = sl.length) := ⟨_, Lib.hid rfl⟩
  rw [← HL.out] at hm ⊢
  unfold maxLen at hm
  by_cases hlt : left - L < 0
  · go_enter Tryz.func236, Tryz.ntmps236
    go_wp2_with (fail)
    go_ret
    exact ⟨-1, rfl, ⟨by omega, by omega, fun h => by omega⟩, Below.refl _ _⟩
  have hge : ¬ (left < L) := by omega
  have HH := Lib.hid h
  clear hlt h
  go_enter Tryz.func236, Tryz.ntmps236
  go_wp2_with (fail)
  go_loopg [1, 5] (L + 1) (fun gk l i wr => ∃ (j : Nat) (r : Int), l = .int .i64 r ∧ i = .int .i64 j ∧ gk + j = L + 1 ∧ j ≤ L ∧ 0 ≤ r ∧ r ≤ left ∧ Hid (r + totS sl = left - L + totS (sl.drop j)) ∧ Below w.heap.size w wr)
  case atStart => exact ⟨0, left - L, rfl, rfl, by omega, by omega, by omega, by omega, Lib.hid (by simp), Below.refl _ _⟩
  case round =>
    obtain ⟨j, r, rfl, rfl, hgj, hjL, hr0, hr1, HR, hb⟩ := hrel
    have HB := Lib.hid hb
    clear hb
    by_cases hlt : j < L
    · obtain ⟨t, ht⟩ : ∃ t, sl[j]? = some t := ⟨_, List.getElem?_eq_getElem (by rw [← HL.out]; exact hlt)⟩
      obtain ⟨a, k, n, s, x, ks', vs', A1, c1, rfl, -, hk, hl, hv, hT, hcell⟩ := HH.out.below HB.out j t ht
      have HT := Lib.hid (totS_drop ht)
      obtain ⟨y, tv, lb, ll⟩ := t
      simp only at hk hl hv hT hcell HT
      subst hv
      have hys := hk.2
      have ihj : ∀ (w' : World) (left' : Int), Below wr.heap.size wr w' → 0 ≤ left' → left' ≤ 1048576 → Calls Tryz.prog 29 #[vV k n s x A1 vs'.length c1, .int .i64 left'] w' (SzQ left' (tot (.mk k n s x ks' vs')) w') := fun w' l' hb' a0 a1 => szV _ w' S _ (hT.below' hb') l' a0 a1
      clear ht hT hk hl
      obtain ⟨p0, p1, p2, p3, p4, p5, p6, p7, p8, p9⟩ := hcell
      go_wp2_with (fail)
      refine (szSlot y hys k n s x A1 vs'.length c1 lb ll _ r hr0 (by omega) _ ihj).mono ?_
      rintro e w1 ⟨r2, rfl, ⟨hs1, hs2, hs3⟩, hb1⟩
      have HB1 := Lib.hid hb1
      have HR2 := Lib.hid hs3
      clear hb1 hs3
      by_cases hq : r2 < 0
      · go_wp2_with (fail)
        go_ret
        exact ⟨-1, rfl, ⟨by omega, by omega, fun h => by omega⟩, bs HB.out HB1.out⟩
      · have hq0 : 0 ≤ r2 := by omega
        go_wp2_with (fail)
        go_roundg (L - j)
        case rel =>
          refine ⟨j + 1, r2, rfl, by go_num, by omega, by omega, hq0, by omega, Lib.hid ?_, bs HB.out HB1.out⟩
          have a1 := HR.out
          have a2 := HR2.out hq0
          have a3 := HT.out
          omega
        case measure => omega
    · go_wp2_with (fail)
      go_ret
      refine ⟨r, rfl, ⟨by omega, by omega, fun _ => ?_⟩, HB.out⟩
      have a1 := HR.out
      have e : totS (sl.drop j) = 0 := by
        rw [show sl.drop j = [] from List.drop_eq_nil_of_le (by rw [← HL.out]; omega)]
        rfl
      rw [e] at a1
      push_cast
      omega

theorem szInts (A : Option Addr) (n c : Nat) (hn : n ≤ maxLen) (w : World) (left : Int) (h0 : 0 ≤ left) (h1 : left ≤ 1048576) :
    Calls Tryz.prog 235 #[.slice A n c, .int .i64 left] w (SzQ left n w) := by
  unfold maxLen at hn
  by_cases hlt : left - n < 0
  · go_enter Tryz.func235, Tryz.ntmps235
    go_wp2_with (fail)
    go_ret
    exact ⟨-1, rfl, ⟨by omega, by omega, fun h => by omega⟩, Below.refl _ _⟩
  · have hge : ¬ (left < n) := by omega
    go_enter Tryz.func235, Tryz.ntmps235
    go_wp2_with (fail)
    go_ret
    exact ⟨left - n, rfl, ⟨by omega, by omega, fun h => by omega⟩, Below.refl _ _⟩

/-- The laws' size of a table. -/
theorem szTable {l : List Int} {sl : List Sl} {b : Bool} {A : Option Addr} {n c : Nat} {B : Option Addr} {m d : Nat} {x k : Int} {w : World} {S : Nat → Prop} (h : TbIn w S l sl A n c B m d x k) (left : Int) (h0 : 0 ≤ left) (h1 : left ≤ 1048576) (w' : World) (hb : Below w.heap.size w w') :
    Calls Tryz.prog 221 #[tbV b A n c B m d x k, .int .i64 left] w' (SzQ left (n + (m + totS sl)) w') := by
  obtain ⟨-, hn, rfl, hcap, hS, -, -⟩ := h
  have Z1 := fun w => szInts A n c hn w left h0 h1
  have Z2 := fun w'' (hb : Below w.heap.size w w'') r h0 h1 => szSlots sl (Nat.le_trans hcap.1 hcap.2) B d w'' S (hS.below hb) r h0 h1
  obtain ⟨m, HM⟩ : ∃ m, Hid (sl.length = m) := ⟨_, Lib.hid rfl⟩
  obtain ⟨T, HT⟩ : ∃ T, Hid (m + totS sl = T) := ⟨_, Lib.hid rfl⟩
  rw [HM.out, HT.out] at Z2 ⊢
  have HZ2 := Lib.hid Z2
  have HB0 := Lib.hid hb
  clear Z2 hcap hS hb hn
  go_enter Tryz.func221, Tryz.ntmps221
  go_wp2_with (fail)
  refine (Z1 _).mono ?_
  rintro e w1 ⟨r, rfl, ⟨hr1, hr2, hr3⟩, hb1⟩
  obtain ⟨hc, hf⟩ := bcell hb1
  have HB := Lib.hid (bs (b1 w' _) hb1)
  have HR := Lib.hid hr3
  clear hb1 hr3
  by_cases hr : r < 0
  · go_wp2_with (fail)
    go_ret
    exact ⟨-1, rfl, ⟨by omega, by omega, fun h => by omega⟩, HB.out⟩
  · have hr0 : 0 ≤ r := by omega
    go_wp2_with (fail)
    refine (HZ2.out _ (bs HB0.out HB.out) r hr0 (by omega)).mono ?_
    rintro e w2 ⟨r2, rfl, ⟨hs1, hs2, hs3⟩, hb2⟩
    have HB2 := Lib.hid (bs HB.out hb2)
    have HR2 := Lib.hid hs3
    clear hb2 hs3
    by_cases hq : r2 < 0
    · go_wp2_with (fail)
      go_ret
      exact ⟨-1, rfl, ⟨by omega, by omega, fun h => by omega⟩, HB2.out⟩
    · have hq0 : 0 ≤ r2 := by omega
      go_wp2_with (fail)
      go_ret
      refine ⟨r2, rfl, ⟨by omega, by omega, fun h => ?_⟩, HB2.out⟩
      have a1 := HR.out hr0
      have a2 := HR2.out h
      omega

end Go.Proofs.YtbgffmiffmmohaaGreatDoor.tree

/-
  Heaps: the blocks of a heap that came in, as a list; how they lie in memory.
  Conditions: those that each theorem names.
-/
namespace Go.Proofs.YtbgffmiffmmohaaGreatDoor.tree
open Go.ChangeShapes Go.WideShapes Go.ChangeAt Go.RowKit Go.Deep
set_option linter.unusedVariables false

structure Bk where
  refs : Int
  hashed : Bool
  heads : List Int
  slots : List Sl
  next : Int
  count : Int

/-- The six cells of a block at q. -/
structure At6 (w : World) (q : Addr) (r : Int) (b : Bool) (A : Option Addr) (n c : Nat) (B : Option Addr) (m d : Nat) (x k : Int) : Prop where
  c0 : w.cell? q = some (.int .i64 r)
  c1 : w.cell? ⟨q.block, q.off + 1, none⟩ = some (.bool b)
  c2 : w.cell? ⟨q.block, q.off + 2, none⟩ = some (.slice A n c)
  c3 : w.cell? ⟨q.block, q.off + 3, none⟩ = some (.slice B m d)
  c4 : w.cell? ⟨q.block, q.off + 4, none⟩ = some (.int .i64 x)
  c5 : w.cell? ⟨q.block, q.off + 5, none⟩ = some (.int .i64 k)
theorem At6.stays {w w' : World} {q : Addr} {r x k : Int} {b : Bool} {A B : Option Addr} {n c m d : Nat} (hb : q.block < w.heap.size → w'.heap[q.block]? = w.heap[q.block]?) (h : At6 w q r b A n c B m d x k) : At6 w' q r b A n c B m d x k :=
  ⟨cell_stays hb h.c0, cell_stays hb h.c1, cell_stays hb h.c2, cell_stays hb h.c3, cell_stays hb h.c4, cell_stays hb h.c5⟩
theorem TbIn.below {w w' : World} (hb : Below w.heap.size w w') {S : Nat → Prop} {l : List Int} {sl : List Sl} {A B : Option Addr} {n c m d : Nat} {x k : Int} (h : TbIn w S l sl A n c B m d x k) : TbIn w' S l sl A n c B m d x k :=
  ⟨h.heads.below hb, h.hn, h.len, h.cap, h.slots.below hb, h.next, h.count⟩

/-- The blocks at A. -/
def HIn (w : World) (S : Nat → Prop) (bl : List Bk) (A : Option Addr) : Prop :=
  ∀ i k, bl[i]? = some k → ∃ a A' n c B m d, A = some a ∧ S a.block ∧ I64 k.refs ∧ TbIn w S k.heads k.slots A' n c B m d k.next k.count ∧ At6 w (a.add (i * 6)) k.refs k.hashed A' n c B m d k.next k.count
theorem HIn.below {w w' : World} (hb : Below w.heap.size w w') {S : Nat → Prop} {bl : List Bk} {A : Option Addr} (h : HIn w S bl A) : HIn w' S bl A := fun i k hk => by
  obtain ⟨a, A', n, c, B, m, d, e, hS, hr, hT, hc⟩ := h i k hk
  exact ⟨a, A', n, c, B, m, d, e, hS, hr, hT.below hb, hc.stays fun hlt => hb.block _ hlt⟩

/-- A heap, written out. -/
abbrev hpV (A : Option Addr) (n c : Nat) : Value := .agg #[.slice A n c]
/-- A block, written out. -/
abbrev bkV (r : Int) (b : Bool) (A : Option Addr) (n c : Nat) (B : Option Addr) (m d : Nat) (x k : Int) : Value := .agg #[.int .i64 r, .bool b, .slice A n c, .slice B m d, .int .i64 x, .int .i64 k]

structure TypesH (P : Program) (tH tBS tB tT : TypeId) : Prop where
  heap : ∃ f0 : Field, P.underlying tH = some (.struct #[f0]) ∧ f0.type = tBS ∧ f0.offset = 0
  blocks : P.underlying tBS = some (.slice tB)
  block : ∃ g0 g1 : Field, P.underlying tB = some (.struct #[g0, g1]) ∧ P.underlying g0.type = some (.int .i64) ∧ g1.type = tT ∧ g0.offset = 0 ∧ g1.offset = 1 ∧ P.cellsOf g0.type = 1
  cB : P.cellsOf tB = 6
  cS : P.cellsOf tBS = 1
  cH : P.cellsOf tH = 1

section
variable {H : Type} {enc : TypeId × Value → H} {P : Program} {w : World}
theorem open_blocks {tV tE tK tS tSS tSl tT tI tIE tH tBS tB : TypeId} (T : Types P tV tE tK tS) (TS : TypesS P tSS tSl tK tV) (TT : TypesT P tT tI tIE tSS) (TH : TypesH P tH tBS tB tT) {fuel : Nat} {c0 : Value} {x : DataW H × List MemPlace} (h : DataW.trod enc P w 0 (fun _ => true) true fuel tBS [c0] = some x) :
    ∃ A c bl, c0 = .slice A (List.length bl) c ∧ (bl.length ≤ c ∧ c ≤ maxLen) ∧ HIn w (fun _ => True) bl A := by
  rcases DataW.trod_slice TH.blocks h with ⟨hc4, _⟩ | ⟨a, len, cap, elems, rest, m, hfm, hc4, _, hbs, hlc, hcm, hel, hat, _⟩
  · simp at hc4
    subst hc4
    exact ⟨none, 0, [], rfl, ⟨Nat.le_refl _, Nat.zero_le _⟩, fun i t ht => by simp at ht⟩
  · simp at hc4
    subst hc4
    have each : ∀ i, i < len → ∃ k : Bk, ∃ A' n c B m d, I64 k.refs ∧ TbIn w (fun _ => True) k.heads k.slots A' n c B m d k.next k.count ∧ At6 w (a.add (i * 6)) k.refs k.hashed A' n c B m d k.next k.count := by
      intro i hi
      have hi2 := hat i hi
      rw [List.getElem?_eq_getElem (by omega)] at hi2
      obtain ⟨cs', hcs, htr⟩ := Option.bind_eq_some_iff.1 hi2
      rw [TH.cB] at hcs
      obtain ⟨_, hcl, hcat⟩ := World.cells?_some hcs
      obtain ⟨g0, g1, hue, hg0, hg1, q0, q1, z0⟩ := TH.block
      obtain ⟨ys, n2, hn2, hy, hl2, hyl, hall2⟩ := DataW.trod_struct hue htr
      have hyl2 : ys.length = 2 := hyl
      match cs', hcl with
      | [d0, d1, d2, d3, d4, d5], _ =>
        have r0 := hall2 0 g0 rfl
        have r1 := hall2 1 g1 rfl
        rw [q0, z0] at r0
        rw [hg1, q1, TT.cT] at r1
        obtain ⟨r, hr, _, hrw⟩ := DataW.trod_int hg0 (r0.trans (List.getElem?_eq_getElem (by omega)))
        obtain ⟨b, A', n, c, B, m', d, nx, ct, l, sl, ev, hT⟩ := open_tab T TS TT (r1.trans (List.getElem?_eq_getElem (by omega)))
        simp at hr
        subst hr
        have e' : d1 = .bool b ∧ d2 = .slice A' n c ∧ d3 = .slice B m' d ∧ d4 = .int .i64 nx ∧ d5 = .int .i64 ct := by simpa using ev
        obtain ⟨rfl, rfl, rfl, rfl, rfl⟩ := e'
        have at' : ∀ j, j < 6 → w.cell? (a.add (i * 6 + j)) = ([.int .i64 r, .bool b, .slice A' n c, .slice B m' d, .int .i64 nx, .int .i64 ct] : List Value)[j]? := fun j hj => by
          have := hcat j hj
          rwa [add_add'] at this
        have sp : ∀ j, j ≠ 0 → a.add (i * 6 + j) = ⟨(a.add (i * 6)).block, (a.add (i * 6)).off + j, none⟩ := fun j hj => by rw [← add_add', add_pos _ _ hj]
        have at2 : ∀ j, j ≠ 0 → j < 6 → w.cell? ⟨(a.add (i * 6)).block, (a.add (i * 6)).off + j, none⟩ = _ := fun j h0 hj => (congrArg w.cell? (sp j h0)).symm.trans (at' j hj)
        exact ⟨⟨r, b, l, sl, nx, ct⟩, A', n, c, B, m', d, wf_i64 hrw, hT, ⟨at' 0 (by omega), at2 1 (by omega) (by omega), at2 2 (by omega) (by omega), at2 3 (by omega) (by omega), at2 4 (by omega) (by omega), at2 5 (by omega) (by omega)⟩⟩
    refine ⟨some a, cap, (List.range len).map (fun i => if hi : i < len then (each i hi).choose else ⟨0, false, [], [], 0, 0⟩), by simp, ⟨by simpa using hlc, hcm⟩, fun i t ht => ?_⟩
    rw [List.getElem?_map] at ht
    obtain ⟨i', hi', rfl⟩ := Option.map_eq_some_iff.1 ht
    have hil : i < len := by
      have := (List.getElem?_eq_some_iff.1 hi').1
      simpa using this
    rw [List.getElem?_range hil] at hi'
    obtain rfl := Option.some.inj hi'
    simp only [dif_pos hil]
    obtain ⟨A', n, c, B, m', d, h1, h2, h3⟩ := (each i hil).choose_spec
    exact ⟨a, A', n, c, B, m', d, rfl, trivial, h1, h2, h3⟩
theorem open_hp {tV tE tK tS tSS tSl tT tI tIE tH tBS tB : TypeId} (T : Types P tV tE tK tS) (TS : TypesS P tSS tSl tK tV) (TT : TypesT P tT tI tIE tSS) (TH : TypesH P tH tBS tB tT) {fuel : Nat} {cs : List Value} {x : DataW H × List MemPlace} (h : DataW.trod enc P w 0 (fun _ => true) true fuel tH cs = some x) :
    ∃ A c bl, Value.agg cs.toArray = hpV A (List.length bl) c ∧ (bl.length ≤ c ∧ c ≤ maxLen) ∧ HIn w (fun _ => True) bl A := by
  obtain ⟨f0, hu, h0, q0⟩ := TH.heap
  obtain ⟨xs, n, hn, hx, hl, hxl, hall⟩ := DataW.trod_struct hu h
  rw [TH.cH] at hl
  match cs, hl with
  | [c0], _ =>
    have hxl1 : xs.length = 1 := hxl
    have e0 := hall 0 f0 rfl
    rw [h0, q0, TH.cS] at e0
    obtain ⟨A, c, bl, hA, hc, hH⟩ := open_blocks T TS TT TH (e0.trans (List.getElem?_eq_getElem (by omega)))
    subst hA
    exact ⟨A, c, bl, rfl, hc, hH⟩
end

abbrev LH : TypeId := 73
theorem typesH : TypesH Tryz.prog LH 71 201 LT where
  heap := ⟨_, Tryz.underlying73, by kernel_rfl, by kernel_rfl⟩
  blocks := Tryz.underlying71
  block := ⟨_, _, Tryz.underlying201, by kernel_rfl, by kernel_rfl, by kernel_rfl, by kernel_rfl, by kernel_rfl⟩
  cB := by kernel_rfl
  cS := by kernel_rfl
  cH := by kernel_rfl

set_option maxRecDepth 100000 in
theorem open_heap {H : Type} {enc : TypeId × Value → H} {W : World} {base : Nat} {v : Value} {d : DataW H} {ps : List MemPlace} (hval : Value.okWide Tryz.prog W .any base LH v) (h : DataW.Trod enc Tryz.prog W 0 (fun _ => true) true LH v d ps) :
    ∃ A c bl, v = hpV A (List.length bl) c ∧ (bl.length ≤ c ∧ c ≤ maxLen) ∧ HIn W (fun _ => True) bl A := by
  obtain ⟨cs, rfl, hsz⟩ := okWide_struct Tryz.underlying73 hval
  obtain ⟨fuel, hf⟩ := h
  exact open_hp opt.types typesS typesT typesH hf

end Go.Proofs.YtbgffmiffmmohaaGreatDoor.tree

/-
  The laws' size of a heap.
  Conditions: those that each theorem names.
-/
namespace Go.Proofs.YtbgffmiffmmohaaGreatDoor.tree
open Go.ChangeShapes Go.WideShapes Go.ChangeAt Go.RowKit
set_option linter.unusedVariables false

/-- Heads, slots, letters and items of a block. -/
def szB (k : Bk) : Nat := k.heads.length + (k.slots.length + totS k.slots)
/-- Those of all blocks. -/
def totB : List Bk → Nat
  | [] => 0
  | k :: bl => szB k + totB bl
theorem totB_drop {bl : List Bk} {j : Nat} {k : Bk} (h : bl[j]? = some k) : totB (bl.drop j) = szB k + totB (bl.drop (j + 1)) := by
  obtain ⟨hj, rfl⟩ := List.getElem?_eq_some_iff.1 h
  rw [List.drop_eq_getElem_cons hj, totB]
theorem totB_mem : ∀ {bl : List Bk} {j : Nat} {k : Bk}, bl[j]? = some k → szB k ≤ totB bl
  | [], j, _, h => by simp at h
  | k0 :: bl, 0, k, h => by
    obtain rfl : k0 = k := by simpa using h
    rw [totB]; omega
  | k0 :: bl, j + 1, k, h => by
    have := totB_mem (bl := bl) (j := j) (k := k) (by simpa using h)
    rw [totB]; omega

theorem totB_le {bl : List Bk} {k : Bk} (h : k ∈ bl) : szB k ≤ totB bl := by
  obtain ⟨i, hi, rfl⟩ := List.mem_iff_getElem.1 h
  exact totB_mem (List.getElem?_eq_getElem hi)

theorem szBlock {w : World} {S : Nat → Prop} {l : List Int} {sl : List Sl} {A B : Option Addr} {n c m d : Nat} {x k : Int} (rf : Int) (hs : Bool) (h : TbIn w S l sl A n c B m d x k) (left : Int) (h0 : 0 ≤ left) (h1 : left ≤ 1048576) (w' : World) (hb : Below w.heap.size w w') :
    Calls Tryz.prog 184 #[bkV rf hs A n c B m d x k, .int .i64 left] w' (SzQ left (n + (m + totS sl)) w') := by
  have Z := Lib.hid (fun w'' (hb : Below w.heap.size w w'') => szTable (b := hs) h left h0 h1 w'' hb)
  obtain ⟨T, HT⟩ : ∃ T, Hid (n + (m + totS sl) = T) := ⟨_, Lib.hid rfl⟩
  rw [HT.out] at Z ⊢
  have HB0 := Lib.hid hb
  clear h hb
  go_enter Tryz.func184, Tryz.ntmps184
  go_wp2_with (fail)
  refine (Z.out _ (bs HB0.out (b1 w' _))).mono ?_
  rintro e w1 ⟨r, rfl, ⟨hr1, hr2, hr3⟩, hb1⟩
  have HB := Lib.hid (bs (b1 w' _) hb1)
  have HR := Lib.hid hr3
  clear hb1 hr3
  by_cases hr : r < 0
  · go_wp2_with (fail)
    go_ret
    exact ⟨-1, rfl, ⟨by omega, by omega, fun h => by omega⟩, HB.out⟩
  · have hr0 : 0 ≤ r := by omega
    go_wp2_with (fail)
    go_ret
    exact ⟨r, rfl, ⟨by omega, by omega, fun h => HR.out h⟩, HB.out⟩

set_option maxRecDepth 100000 in
theorem szBlocks (bl : List Bk) (hm : bl.length ≤ maxLen) (A : Option Addr) (c : Nat) (w : World) (S : Nat → Prop) (h : HIn w S bl A) (left : Int) (h0 : 0 ≤ left) (h1 : left ≤ 1048576) :
    Calls Tryz.prog 115 #[.slice A bl.length c, .int .i64 left] w (SzQ left (bl.length + totB bl) w) := by
  obtain ⟨L, HL⟩ : ∃ L, Hid (L = bl.length) := ⟨_, Lib.hid rfl⟩
  rw [← HL.out] at hm ⊢
  unfold maxLen at hm
  by_cases hlt : left - L < 0
  · go_enter Tryz.func115, Tryz.ntmps115
    go_wp2_with (fail)
    go_ret
    exact ⟨-1, rfl, ⟨by omega, by omega, fun h => by omega⟩, Below.refl _ _⟩
  have hge : ¬ (left < L) := by omega
  have HH := Lib.hid h
  clear hlt h
  go_enter Tryz.func115, Tryz.ntmps115
  go_wp2_with (fail)
  go_loopg [1, 5] (L + 1) (fun gk l i wr => ∃ (j : Nat) (r : Int), l = .int .i64 r ∧ i = .int .i64 j ∧ gk + j = L + 1 ∧ j ≤ L ∧ 0 ≤ r ∧ r ≤ left ∧ Hid (r + totB bl = left - L + totB (bl.drop j)) ∧ Below w.heap.size w wr)
  case atStart => exact ⟨0, left - L, rfl, rfl, by omega, by omega, by omega, by omega, Lib.hid (by simp), Below.refl _ _⟩
  case round =>
    obtain ⟨j, r, rfl, rfl, hgj, hjL, hr0, hr1, HR, hb⟩ := hrel
    have HB := Lib.hid hb
    clear hb
    by_cases hlt : j < L
    · obtain ⟨k, hk⟩ : ∃ k, bl[j]? = some k := ⟨_, List.getElem?_eq_getElem (by rw [← HL.out]; exact hlt)⟩
      obtain ⟨a, A', n, c', B, m, d, rfl, -, -, hT, hcell⟩ := HH.out.below HB.out j k hk
      have HT := Lib.hid (totB_drop hk)
      have hsz : n + (m + totS k.slots) = szB k := by rw [szB, hT.heads.len, hT.len]
      obtain ⟨rf, hs, l, sl, x, ct⟩ := k
      simp only at hT hcell hsz
      have Z : Hid (Calls Tryz.prog 184 #[bkV rf hs A' n c' B m d x ct, .int .i64 r] wr (SzQ r (n + (m + totS sl)) wr)) := Lib.hid (szBlock rf hs hT r hr0 (by omega) wr (Below.refl _ _))
      rw [hsz] at Z
      obtain ⟨p0, p1, p2, p3, p4, p5⟩ := hcell
      clear hk hT hsz
      go_wp2_with (fail)
      refine Z.out.mono ?_
      rintro e w1 ⟨r2, rfl, ⟨hs1, hs2, hs3⟩, hb1⟩
      have HB1 := Lib.hid hb1
      have HR2 := Lib.hid hs3
      clear hb1 hs3 p0 p1 p2 p3 p4 p5
      by_cases hq : r2 < 0
      · go_wp2_with (fail)
        go_ret
        exact ⟨-1, rfl, ⟨by omega, by omega, fun h => by omega⟩, bs HB.out HB1.out⟩
      · have hq0 : 0 ≤ r2 := by omega
        go_wp2_with (fail)
        go_roundg (L - j)
        case rel =>
          refine ⟨j + 1, r2, rfl, by go_num, by omega, by omega, hq0, by omega, Lib.hid ?_, bs HB.out HB1.out⟩
          have a1 := HR.out
          have a2 := HR2.out hq0
          have a3 := HT.out
          omega
        case measure => omega
    · go_wp2_with (fail)
      go_ret
      refine ⟨r, rfl, ⟨by omega, by omega, fun _ => ?_⟩, HB.out⟩
      have a1 := HR.out
      have e : totB (bl.drop j) = 0 := by
        rw [show bl.drop j = [] from List.drop_eq_nil_of_le (by rw [← HL.out]; omega)]
        rfl
      rw [e] at a1
      push_cast
      omega

/-- The laws' size of a heap. -/
theorem szHeap (bl : List Bk) (hm : bl.length ≤ maxLen) (A : Option Addr) (c : Nat) (w : World) (S : Nat → Prop) (h : HIn w S bl A) (left : Int) (h0 : 0 ≤ left) (h1 : left ≤ 1048576) :
    Calls Tryz.prog 44 #[hpV A bl.length c, .int .i64 left] w (SzQ left (bl.length + totB bl) w) := by
  have Z : Hid (∀ w', Below w.heap.size w w' → Calls Tryz.prog 115 #[.slice A bl.length c, .int .i64 left] w' (SzQ left (bl.length + totB bl) w')) := Lib.hid (fun w' hb => szBlocks bl hm A c w' S (h.below hb) left h0 h1)
  obtain ⟨L, HL⟩ : ∃ L, Hid (bl.length = L) := ⟨_, Lib.hid rfl⟩
  obtain ⟨T, HT⟩ : ∃ T, Hid (L + totB bl = T) := ⟨_, Lib.hid rfl⟩
  rw [HL.out, HT.out] at Z ⊢
  clear h hm
  go_enter Tryz.func44, Tryz.ntmps44
  go_wp2_with (fail)
  refine (Z.out _ (by first | exact b1 w _ | exact Below.refl _ _)).mono ?_
  rintro e w1 ⟨r, rfl, ⟨hr1, hr2, hr3⟩, hb1⟩
  have HB : Hid (Below w.heap.size w w1) := Lib.hid (by first | exact hb1 | exact bs (b1 w _) hb1)
  have HR := Lib.hid hr3
  clear hb1 hr3
  by_cases hr : r < 0
  · go_wp2_with (fail)
    go_ret
    exact ⟨-1, rfl, ⟨by omega, by omega, fun h => by omega⟩, HB.out⟩
  · have hr0 : 0 ≤ r := by omega
    go_wp2_with (fail)
    go_ret
    exact ⟨r, rfl, ⟨by omega, by omega, fun h => HR.out h⟩, HB.out⟩

end Go.Proofs.YtbgffmiffmmohaaGreatDoor.tree

/-
  Two keys compared, and keys as the keys of a map.
  Conditions: those that each theorem names.
-/
namespace Go.Proofs.YtbgffmiffmmohaaGreatDoor.tree
open Go.ChangeShapes Go.WideShapes Go.ChangeAt Go.RowKit
set_option linter.unusedVariables false

instance : DecidableEq Ky := fun a b =>
  match a, b with
  | ⟨t, n, s⟩, ⟨t', n', s'⟩ => if h : t = t' ∧ n = n' ∧ s.data.toList = s'.data.toList then .isTrue (by
      obtain ⟨rfl, rfl, h⟩ := h
      obtain ⟨⟨s⟩⟩ := s
      obtain ⟨⟨s'⟩⟩ := s'
      simp at h
      subst h
      rfl) else .isFalse (fun e => h (by cases e; exact ⟨rfl, rfl, rfl⟩))

theorem kpart1 {P : Program} {w : World} {t : TypeId} {d : TypeDesc} (h : P.underlying t = some d) (hd : (match d with | .struct _ | .array _ _ => true | _ => false) = false) {cs : Array Value} {off : Nat} {v : Value} (hx : cs[off]? = some v) : (part t cs off).run P w = .ok v w := by
  cases d <;> simp_all [part, isAgg, run_underlying h]
theorem bytes_ne {s s' : ByteArray} (h : ¬ s.data.toList = s'.data.toList) : (s.toList == s'.toList) = false ∧ ¬ s.toList = s'.toList := by
  have h1 : ¬ s.toList = s'.toList := fun hh => h (by rwa [ByteArray.toList_eq, ByteArray.toList_eq] at hh)
  exact ⟨beq_false_of_ne h1, h1⟩
theorem bytes_same {s s' : ByteArray} (h : s.data.toList = s'.data.toList) : s = s' := by
  obtain ⟨⟨s⟩⟩ := s
  obtain ⟨⟨s'⟩⟩ := s'
  simp at h
  subst h
  rfl
theorem ik_desc : ∃ f0 f1 f2 : Field, Tryz.prog.underlying IK = some (.struct #[f0, f1, f2]) ∧ f0.name ≠ "_" ∧ f1.name ≠ "_" ∧ f2.name ≠ "_" ∧ f0.type = 4 ∧ f1.type = 3 ∧ f2.type = 9 ∧ f0.offset = 0 ∧ f1.offset = 1 ∧ f2.offset = 2 :=
  ⟨_, _, _, Tryz.underlying29, by decide, by decide, by decide, rfl, rfl, rfl, rfl, rfl, rfl⟩
theorem ik_held : Tryz.prog.stoodInHeld IK = false := by kernel_rfl
theorem ky_eq (d : Nat) (w : World) (y y' : Ky) : (Op.equalIn (d + 2) IK (kyV y) (kyV y')).run Tryz.prog w = .ok (decide (y = y')) w := by
  obtain ⟨b, n, s⟩ := y
  obtain ⟨b', n', s'⟩ := y'
  obtain ⟨f0, f1, f2, hu, n0, n1, n2, t0, t1, t2, o0, o1, o2⟩ := ik_desc
  have hf : Tryz.prog.fieldsOf IK = #[f0, f1, f2] := by simp [Program.fieldsOf, hu]
  have hb := run_equalIn_bool' (P := Tryz.prog) w d 4 b b' Tryz.underlying4
  have hi := run_equalIn_int (P := Tryz.prog) w d 3 .i64 .i64 n n' Tryz.underlying3
  have hs := run_equalIn_string (P := Tryz.prog) w d 9 s s' Tryz.underlying9
  have pa : ∀ (cs : Array Value) (v : Value), cs[0]? = some v → (part 4 cs 0).run Tryz.prog w = .ok v w := fun cs v h => kpart1 Tryz.underlying4 rfl h
  have pb : ∀ (cs : Array Value) (v : Value), cs[1]? = some v → (part 3 cs 1).run Tryz.prog w = .ok v w := fun cs v h => kpart1 Tryz.underlying3 rfl h
  have pc : ∀ (cs : Array Value) (v : Value), cs[2]? = some v → (part 9 cs 2).run Tryz.prog w = .ok v w := fun cs v h => kpart1 Tryz.underlying9 rfl h
  unfold kyV
  rw [run_equalIn_struct w (d + 1) IK _ _ (by rw [hf]; exact hu) ik_held, hf]
  have e1 := pa #[.bool b, .int .i64 n, .string s] _ rfl
  have e2 := pa #[.bool b', .int .i64 n', .string s'] _ rfl
  have e3 := pb #[.bool b, .int .i64 n, .string s] _ rfl
  have e4 := pb #[.bool b', .int .i64 n', .string s'] _ rfl
  have e5 := pc #[.bool b, .int .i64 n, .string s] _ rfl
  have e6 := pc #[.bool b', .int .i64 n', .string s'] _ rfl
  have key : decide ((⟨b, n, s⟩ : Ky) = ⟨b', n', s'⟩) = ((b == b') && ((n == n') && (s.toList == s'.toList))) := by
    rw [Bool.eq_iff_iff]
    simp only [decide_eq_true_eq, Ky.mk.injEq, Bool.and_eq_true, beq_iff_eq]
    constructor
    · rintro ⟨rfl, rfl, rfl⟩; exact ⟨rfl, rfl, rfl⟩
    · rintro ⟨rfl, rfl, h⟩
      refine ⟨rfl, rfl, bytes_same ?_⟩
      simp only [ByteArray.toList_eq] at h
      exact h
  rw [key]
  generalize hq1 : (b == b') = q1 at *
  generalize hq2 : (n == n') = q2 at *
  generalize hq3 : (s.toList == s'.toList) = q3 at *
  cases q1 <;> cases q2 <;> cases q3 <;> simp [Op.eqFields, n0, n1, n2, t0, t1, t2, o0, o1, o2, e1, e2, e3, e4, e5, e6, hb, hi, hs, Result.andThen]
theorem ky_neq (w : World) (y y' : Ky) : (binOp .neq IK (kyV y) (kyV y')).run Tryz.prog w = .ok (.bool (!decide (y = y'))) w := by
  have := ky_eq 9998 w y y'
  unfold kyV at this ⊢
  rw [run_neq_struct, this]
  rfl

theorem ky_eql (w : World) (y y' : Ky) : (binOp .eql IK (kyV y) (kyV y')).run Tryz.prog w = .ok (.bool (decide (y = y'))) w := by
  have := ky_eq 9998 w y y'
  unfold kyV at this ⊢
  rw [run_eql_struct, this]
  rfl

def GK (w : World) (v : Value) : Prop := ∃ y : Ky, v = kyV y
theorem ky_inj {y y' : Ky} (h : kyV y = kyV y') : y = y' := by
  obtain ⟨b, n, s⟩ := y
  obtain ⟨b', n', s'⟩ := y'
  simp [kyV] at h
  obtain ⟨rfl, rfl, rfl⟩ := h
  rfl
theorem ky_check (d : Nat) (w : World) (em : Bool) (y : Ky) : (Instr.checkKey em (d + 2) IK (kyV y)).run Tryz.prog w = .ok () w := by
  obtain ⟨b, n, s⟩ := y
  obtain ⟨f0, f1, f2, hu, n0, n1, n2, t0, t1, t2, o0, o1, o2⟩ := ik_desc
  have pa : (part 4 #[.bool b, .int .i64 n, .string s] 0).run Tryz.prog w = .ok (.bool b) w := kpart1 Tryz.underlying4 rfl rfl
  have pb : (part 3 #[.bool b, .int .i64 n, .string s] 1).run Tryz.prog w = .ok (.int .i64 n) w := kpart1 Tryz.underlying3 rfl rfl
  have pc : (part 9 #[.bool b, .int .i64 n, .string s] 2).run Tryz.prog w = .ok (.string s) w := kpart1 Tryz.underlying9 rfl rfl
  unfold kyV
  simp [Instr.checkKey, run_underlying hu, n0, n1, n2, t0, t1, t2, o0, o1, o2, pa, pb, pc, run_underlying Tryz.underlying4, run_underlying Tryz.underlying3, run_underlying Tryz.underlying9, Result.andThen]
theorem ky_same (d : Nat) (b : Bool) (n : Int) (s : ByteArray) : Instr.sameBits (d + 2) (.agg #[.bool b, .int .i64 n, .string s]) (.agg #[.bool b, .int .i64 n, .string s]) = true := by
  simp [Instr.sameBits]
  first | rfl | (obtain ⟨a⟩ := s; show (a == a) = true; simp) | exact beq_iff_eq.2 rfl
theorem good_ky : raw.Good Tryz.prog IK GK where
  wide := by
    obtain ⟨f0, f1, f2, hu, _⟩ := ik_desc
    rw [hu]
  check := fun w em x ⟨y, e⟩ => e ▸ ky_check 9998 w em y
  eq := fun w x x' ⟨y, e⟩ ⟨y', e'⟩ => ⟨decide (y = y'), by rw [e, e']; exact ky_eq 9998 w y y', by rw [e, e', decide_eq_true_eq]; exact ⟨fun h => h ▸ rfl, ky_inj⟩⟩
  same := fun w x ⟨y, e⟩ => by
    rw [e]
    obtain ⟨b, n, s⟩ := y
    exact ky_same 9998 b n s
theorem gk_stays : raw.Stays GK := fun _ _ _ _ _ _ h => h

end Go.Proofs.YtbgffmiffmmohaaGreatDoor.tree

/-
  Where a key stands first among the items, of the model.
  Conditions: those that each theorem names.
-/
namespace Go.Proofs.YtbgffmiffmmohaaGreatDoor.tree
open Go.ChangeShapes Go.WideShapes Go.ChangeAt Go.RowKit
set_option linter.unusedVariables false

def LtQ (w : World) (x : Int) (e : Ending) (w' : World) : Prop := e = .returned (.int .i64 x) ∧ Below w.heap.size w w'
def BoQ (w : World) (b : Bool) (e : Ending) (w' : World) : Prop := e = .returned (.bool b) ∧ Below w.heap.size w w'
def pos : List Ky → Ky → Nat → Int
  | [], _, _ => -1
  | z :: ks, y, i => if z = y then i else pos ks y (i + 1)
theorem pos_first : ∀ (ks : List Ky) (y : Ky) (i j : Nat), ks[j]? = some y → (pos ks y i = (i : Int) + j ↔ y ∉ ks.take j)
  | [], y, i, j, h => by simp at h
  | z :: ks, y, i, 0, h => by
    simp at h
    subst h
    simp [pos]
  | z :: ks, y, i, j + 1, h => by
    have ih := pos_first ks y (i + 1) j (by simpa using h)
    rw [pos, List.take_succ_cons, List.mem_cons]
    by_cases hz : z = y
    · subst hz
      simp
      omega
    · rw [if_neg hz]
      rw [show (i : Int) + ((j + 1 : Nat) : Int) = ((i + 1 : Nat) : Int) + (j : Int) by push_cast; omega, ih]
      simp [Ne.symm hz]
theorem pos_bd : ∀ (ks : List Ky) (y : Ky) (i : Nat), -1 ≤ pos ks y i ∧ pos ks y i ≤ i + ks.length
  | [], y, i => by simp [pos]
  | z :: ks, y, i => by
    have := pos_bd ks y (i + 1)
    rw [pos]
    split
    · simp; omega
    · push_cast at *; simp; omega
theorem pos_drop {ks : List Ky} {j : Nat} {z y : Ky} (h : ks[j]? = some z) : pos (ks.drop j) y j = if z = y then (j : Int) else pos (ks.drop (j + 1)) y (j + 1) := by
  obtain ⟨hj, rfl⟩ := List.getElem?_eq_some_iff.1 h
  rw [List.drop_eq_getElem_cons hj, pos]

theorem kdrew_heap (w : World) : ∀ n, (w.drewN n).heap = w.heap
  | 0 => rfl
  | n + 1 => (kdrew_heap w n)
theorem kbelow_drew (w : World) : ∀ n, Below w.heap.size w (w.drewN n)
  | 0 => Below.refl _ _
  | n + 1 => (kbelow_drew w n).drew

def CutF (wr : World) (b : Bool) (N : Nat) (C D : Array Value) (v : Value) (wx : World) : Prop :=
  v = .bool b ∧ Below wr.heap.size wr wx ∧ wx.heap[N]? = some (.cells C IV (0, 0)) ∧ wx.heap[N + 1]? = some (.cells D IK (0, 0))

set_option maxHeartbeats 800000 in
theorem find_s (n : Int) (s : ByteArray) (x : Int) (ks : List Ky) (vs : List Tr) (A : Option Addr) (c : Nat) (y : Ky) (w : World) (S : Nat → Prop) (h : IsIn w S ks vs A) :
    Calls Tryz.prog 149 #[vV 4 n s x A vs.length c, kyV y] w (LtQ w (pos ks y 0)) := by
  obtain ⟨L, HL⟩ : ∃ L, Hid (L = vs.length) := ⟨_, Lib.hid rfl⟩
  have hm : L ≤ maxLen := by rw [HL.out]; exact h.2.1
  have hkl : Hid (ks.length = L) := Lib.hid (by rw [HL.out]; exact h.1)
  unfold maxLen at hm
  rw [← HL.out]
  have HI := Lib.hid h
  clear h
  obtain ⟨W, HW⟩ : ∃ W, Hid (pos ks y 0 = W) := ⟨_, Lib.hid rfl⟩
  rw [HW.out]
  obtain ⟨yb, yn, ys⟩ := y
  unfold kyV
  go_enter Tryz.func149, Tryz.ntmps149
  go_wp2_with (fail)
  go_loopg [5] (L + 1) (fun gk i wr => ∃ j : Nat, i = .int .i64 j ∧ gk + j = L + 1 ∧ j ≤ L ∧ Hid (pos (ks.drop j) ⟨yb, yn, ys⟩ j = W) ∧
    Hid (wr.heap[w.heap.size]? = some (.cells #[.int .i64 4, .int .i64 n, .string s, .int .i64 x, .slice A L c] IV (0, 0))) ∧ Hid (wr.heap[w.heap.size + 1]? = some (.cells #[.bool yb, .int .i64 yn, .string ys] IK (0, 0))) ∧ Below w.heap.size w wr)
  case atStart => exact ⟨0, rfl, by omega, by omega, Lib.hid HW.out, Lib.hid (heap_alloc2_old w _ _), Lib.hid (heap_alloc2_new w _ _), b2 _ _ _⟩
  case round =>
    obtain ⟨j, rfl, hgj, hjL, HQ, HE, HE', hb⟩ := hrel
    have HB := Lib.hid hb
    clear hb
    obtain ⟨r0, -⟩ := rowc HE.out
    obtain ⟨r1, -⟩ := rowc HE'.out
    by_cases hlt : j < L
    · obtain ⟨a, y1, k1, n1, s1, x1, ks1, vs1, A1, c1, rfl, hS, hky, hvs, ht, hyb, hkb, hin1, hcell⟩ := (HI.out.below HB.out).item (i := j) (by rw [← HL.out]; exact hlt)
      have HD := Lib.hid ((pos_drop (y := ⟨yb, yn, ys⟩) hky).symm.trans HQ.out)
      obtain ⟨b, HBB⟩ : ∃ b, Hid (decide (y1 = ⟨yb, yn, ys⟩) = b) := ⟨_, Lib.hid rfl⟩
      have NE := fun w => ky_eql w y1 ⟨yb, yn, ys⟩
      rw [HBB.out] at NE
      unfold kyV at NE
      simp only at NE
      clear hky hvs ht hyb hkb hin1 hS
      obtain ⟨p0, p1, p2, p3, p4, p5, p6, p7⟩ := hcell
      go_upto_region 4 with fail
      go_cut [25] (fun v wx => CutF wr b w.heap.size #[.int .i64 4, .int .i64 n, .string s, .int .i64 x, .slice (some a) L c] #[.bool yb, .int .i64 yn, .string ys] v wx)
      case first =>
        go_quiet ((fail))
        all_goals
          go_wp2_with (fail)
          go_meet
          exact ⟨rfl, kbelow_drew _ _, (kdrew_heap _ _).symm ▸ HE.out, (kdrew_heap _ _).symm ▸ HE'.out⟩
      case rest =>
        obtain ⟨rfl, hbc, hx0, hx1⟩ := hcut
        have HBc := Lib.hid (bs HB.out hbc)
        have HX0 := Lib.hid hx0
        have HX1 := Lib.hid hx1
        clear hbc hx0 hx1 p0 p1 p2 p3 p4 p5 p6 p7 NE
        cases b with
        | true =>
          have e : W = (j : Int) := by rw [← HD.out, if_pos (of_decide_eq_true HBB.out)]
          go_wp2_with (fail)
          go_ret
          exact ⟨by first | rfl | (rw [e]; rfl), HBc.out⟩
        | false =>
          have HF : Hid (pos (ks.drop (j + 1)) ⟨yb, yn, ys⟩ (j + 1) = W) := Lib.hid (by have := HD.out; rw [if_neg (of_decide_eq_false HBB.out)] at this; exact this)
          go_wp2_with (fail)
          go_roundg (L - j)
          case rel => exact ⟨j + 1, by go_num, by omega, by omega, HF, HX0, HX1, HBc.out⟩
          case measure => omega
    · obtain rfl : j = L := by omega
      have e : W = -1 := by rw [← HQ.out, show ks.drop j = [] from List.drop_eq_nil_of_le (Nat.le_of_eq hkl.out)]; rfl
      go_wp2_with (fail)
      go_ret
      exact ⟨by first | rfl | (rw [e]; rfl), HB.out⟩

end Go.Proofs.YtbgffmiffmmohaaGreatDoor.tree

/-
  Whether a value is light, of the project and of the model: what its weight leaves of a limit.
  Conditions: those that each theorem names.
-/
namespace Go.Proofs.YtbgffmiffmmohaaGreatDoor.tree
open Go.ChangeShapes Go.WideShapes Go.ChangeAt Go.RowKit
set_option linter.unusedVariables false

mutual
/-- The weight of a value. -/
def wgt : Tr → Nat
  | .mk k _ _ _ _ vs => if k = 4 then 1 + wgts vs else 1
def wgts : List Tr → Nat
  | [] => 0
  | t :: vs => wgt t + wgts vs
end
theorem wgt_four (n : Int) (s : ByteArray) (x : Int) (ks : List Ky) (vs : List Tr) : wgt (.mk 4 n s x ks vs) = 1 + wgts vs := by rw [wgt, if_pos rfl]
theorem wgt_not {k n : Int} {s : ByteArray} {x : Int} {ks : List Ky} {vs : List Tr} (h : k ≠ 4) : wgt (.mk k n s x ks vs) = 1 := by rw [wgt, if_neg h]
theorem wgts_nil : wgts [] = 0 := by rw [wgts]
theorem wgts_cons (t : Tr) (vs : List Tr) : wgts (t :: vs) = wgt t + wgts vs := by rw [wgts]
theorem wgts_drop {vs : List Tr} {j : Nat} {t : Tr} (h : vs[j]? = some t) : wgts (vs.drop j) = wgt t + wgts (vs.drop (j + 1)) := by
  obtain ⟨hj, rfl⟩ := List.getElem?_eq_some_iff.1 h
  rw [List.drop_eq_getElem_cons hj, wgts_cons]
theorem wgt_pos : ∀ t, 1 ≤ wgt t
  | .mk k _ _ _ _ vs => by rw [wgt]; split <;> omega

/-- What a weight leaves of a limit, -1 if it is more. -/
def lft (m : Int) (n : Nat) : Int := if m < n then -1 else m - n
/-- A weight up to one more than a limit. -/
def cut (m : Int) (n : Nat) : Int := if m < n then m + 1 else n

def SpI (t : Tr) : Prop := ∀ (w : World) (S : Nat → Prop) (v : Value), TIn w S t v → ∀ m : Int, 0 ≤ m → m ≤ 200 → Calls Tryz.prog 215 #[.int .i64 m, v] w (LtQ w (lft m (wgt t)))

set_option maxHeartbeats 800000 in
theorem spare_i : ∀ t, SpI t := Tr.ind fun k n s x ks vs ih w S v h m hm0 hm1 => by
  obtain ⟨A, c, rfl, hk, hin⟩ := h.out
  clear h
  obtain ⟨L, HL⟩ : ∃ L, Hid (L = vs.length) := ⟨_, Lib.hid rfl⟩
  have hm : L ≤ maxLen := by rw [HL.out]; exact hin.2.1
  unfold maxLen at hm
  rw [← HL.out]
  by_cases h4 : k = 4
  · subst h4
    obtain ⟨W, HW⟩ : ∃ W, Hid (W = lft m (wgt (.mk 4 n s x ks vs))) := ⟨_, Lib.hid rfl⟩
    have HW1 : Hid (W = lft (m - 1) (wgts vs)) := by
      show W = _
      rw [HW.out, wgt_four]
      unfold lft
      split <;> split <;> push_cast <;> omega
    rw [← HW.out]
    have HI := Lib.hid hin
    clear hin hk
    go_enter Tryz.func215, Tryz.ntmps215
    go_wp2_with (fail)
    go_loopg [0, 16] (L + 1) (fun gk l i wr => ∃ (j : Nat) (q : Int), l = .int .i64 q ∧ i = .int .i64 j ∧ gk + j = L + 1 ∧ j ≤ L ∧ -1 ≤ q ∧ q ≤ 199 ∧ Hid (lft q (wgts (vs.drop j)) = W) ∧ Below w.heap.size w wr)
    case atStart => exact ⟨0, m - 1, rfl, rfl, by omega, by omega, by omega, by omega, Lib.hid (by rw [HW1.out]; simp), b1 _ _⟩
    case round =>
      obtain ⟨j, q, rfl, rfl, hgj, hjL, hq0, hq1, HQ, hb⟩ := hrel
      have HB := Lib.hid hb
      clear hb
      by_cases hlt : j < L
      · obtain ⟨a, y, k', n', s', x', ks', vs', A1, c1, rfl, hS, hky, hvs, ht, hyb, hkb, hin', hcell⟩ := (HI.out.below HB.out).item (i := j) (by rw [← HL.out]; exact hlt)
        obtain ⟨Q, HQQ⟩ : ∃ Q, Hid (lft q (wgt (.mk k' n' s' x' ks' vs')) = Q) := ⟨_, Lib.hid rfl⟩
        have ihj : 0 ≤ q → ∀ w' : World, Below wr.heap.size wr w' → Calls Tryz.prog 215 #[.int .i64 q, vV k' n' s' x' A1 vs'.length c1] w' (LtQ w' Q) := fun h0 w' hb' => HQQ.out ▸ ih _ (List.mem_of_getElem? hvs) w' S _ (ht.below' hb') q h0 (by omega)
        have HD := Lib.hid (wgts_drop hvs)
        have HP := Lib.hid (wgt_pos (.mk k' n' s' x' ks' vs'))
        clear hky hvs ht hin' hyb hkb hS
        obtain ⟨p0, p1, p2, p3, p4, p5, p6, p7⟩ := hcell
        by_cases hneg : q < 0
        · obtain rfl : q = -1 := by omega
          go_wp2_with (fail)
          go_ret
          have e : W = -1 := by
            rw [← HQ.out]
            unfold lft
            split <;> omega
          exact ⟨by rw [e]; rfl, bs HB.out (b1 _ _)⟩
        · have hq : 0 ≤ q := by omega
          have hQ : -1 ≤ Q ∧ Q ≤ 199 := by
            rw [← HQQ.out]
            have := HP.out
            unfold lft
            split <;> omega
          obtain ⟨hQ0, hQ1⟩ := hQ
          go_wp2_with (fail)
          refine (ihj hq _ (b1 _ _)).mono ?_
          rintro e w1 ⟨rfl, hb1⟩
          have HB1 := Lib.hid (bs HB.out (bs (b1 _ _) hb1))
          clear hb1
          go_wp2_with (fail)
          go_roundg (L - j)
          case rel =>
            refine ⟨j + 1, Q, rfl, by go_num, by omega, by omega, hQ0, hQ1, Lib.hid ?_, HB1.out⟩
            rw [← HQ.out, HD.out, ← HQQ.out]
            unfold lft
            split <;> split <;> split <;> push_cast at * <;> omega
          case measure => omega
      · obtain rfl : j = L := by omega
        have e : W = q := by
          rw [← HQ.out, show vs.drop j = [] from List.drop_eq_nil_of_le (Nat.le_of_eq HL.out.symm), wgts_nil]
          unfold lft
          split <;> omega
        go_wp2_with (fail)
        go_ret
        exact ⟨by first | rfl | (rw [e]; rfl), HB.out⟩
  · have hw : lft m (wgt (.mk k n s x ks vs)) = m - 1 := by
      rw [wgt_not h4]
      unfold lft
      split <;> omega
    rw [hw]
    clear hw hin hk
    go_enter Tryz.func215, Tryz.ntmps215
    go_wp2_with (fail)
    go_ret
    exact ⟨rfl, b1 _ _⟩

def WgS (t : Tr) : Prop := ∀ (w : World) (S : Nat → Prop) (v : Value), TIn w S t v → ∀ m : Int, 0 ≤ m → m ≤ 200 → Calls Tryz.prog 92 #[v, .int .i64 m] w (LtQ w (cut m (wgt t)))

set_option maxHeartbeats 800000 in
theorem weigh_s : ∀ t, WgS t := Tr.ind fun k n s x ks vs ih w S v h m hm0 hm1 => by
  obtain ⟨A, c, rfl, hk, hin⟩ := h.out
  clear h
  obtain ⟨L, HL⟩ : ∃ L, Hid (L = vs.length) := ⟨_, Lib.hid rfl⟩
  have hm : L ≤ maxLen := by rw [HL.out]; exact hin.2.1
  unfold maxLen at hm
  rw [← HL.out]
  by_cases h4 : k = 4
  · subst h4
    obtain ⟨W, HW⟩ : ∃ W, Hid (W = cut m (wgt (.mk 4 n s x ks vs))) := ⟨_, Lib.hid rfl⟩
    have HW1 : Hid (W = cut m (1 + wgts vs)) := by
      show W = _
      rw [HW.out, wgt_four]
    rw [← HW.out]
    have HI := Lib.hid hin
    clear hin hk
    go_enter Tryz.func92, Tryz.ntmps92
    go_wp2_with (fail)
    go_loopg [5, 6] (L + 1) (fun gk a i wr => ∃ (j q : Nat), a = .int .i64 q ∧ i = .int .i64 j ∧ gk + j = L + 1 ∧ j ≤ L ∧ (q : Int) ≤ m + 1 ∧ Hid (cut m (q + wgts (vs.drop j)) = W) ∧ Hid (wr.heap[w.heap.size]? = some (.cells #[.int .i64 4, .int .i64 n, .string s, .int .i64 x, .slice A L c] IV (0, 0))) ∧ Below w.heap.size w wr)
    case atStart => exact ⟨0, 1, rfl, rfl, by omega, by omega, by omega, Lib.hid (by rw [HW1.out]; rfl), Lib.hid (heap_alloc_new w _), b1 _ _⟩
    case round =>
      obtain ⟨j, q, rfl, rfl, hgj, hjL, hq1, HQ, HE, hb⟩ := hrel
      have HB := Lib.hid hb
      clear hb
      obtain ⟨r0, -⟩ := rowc HE.out
      by_cases hlt : j < L
      · obtain ⟨a, y, k', n', s', x', ks', vs', A1, c1, rfl, hS, hky, hvs, ht, hyb, hkb, hin', hcell⟩ := (HI.out.below HB.out).item (i := j) (by rw [← HL.out]; exact hlt)
        by_cases hle : (q : Int) ≤ m
        · obtain ⟨Q, HQQ⟩ : ∃ Q : Nat, Hid (cut (m - q) (wgt (.mk k' n' s' x' ks' vs')) = Q) := by
            refine ⟨(cut (m - q) (wgt (.mk k' n' s' x' ks' vs'))).toNat, Lib.hid ?_⟩
            unfold cut
            split <;> omega
          have ihj : Calls Tryz.prog 92 #[vV k' n' s' x' A1 vs'.length c1, .int .i64 (m - q)] wr (LtQ wr Q) := HQQ.out ▸ ih _ (List.mem_of_getElem? hvs) wr S _ ht (m - q) (by omega) (by omega)
          have HD := Lib.hid (wgts_drop hvs)
          have hQ : (q : Int) + Q ≤ m + 1 := by
            rw [← HQQ.out]
            unfold cut
            split <;> omega
          clear hky hvs ht hin' hyb hkb hS
          obtain ⟨p0, p1, p2, p3, p4, p5, p6, p7⟩ := hcell
          go_wp2_with (fail)
          refine ihj.mono ?_
          rintro e w1 ⟨rfl, hb1⟩
          have HE1 := Lib.hid (carry hb1 HE.out)
          have HB1 := Lib.hid (bs HB.out hb1)
          clear hb1 r0
          obtain ⟨r1, -⟩ := rowc HE1.out
          go_wp2_with (fail)
          go_roundg (L - j)
          case rel =>
            refine ⟨j + 1, q + Q, by go_num, by go_num, by omega, by omega, by push_cast; omega, Lib.hid ?_, HE1, HB1.out⟩
            have e1 := HQQ.out
            rw [← HQ.out, HD.out]
            unfold cut at e1 ⊢
            split at e1 <;> split <;> split <;> push_cast at * <;> omega
          case measure => omega
        · have e : W = (q : Int) := by
            rw [← HQ.out]
            unfold cut
            split <;> push_cast at * <;> omega
          clear hky hvs ht hin' hyb hkb hS hcell
          go_wp2_with (fail)
          go_ret
          exact ⟨by first | rfl | (rw [e]; rfl), HB.out⟩
      · obtain rfl : j = L := by omega
        have e : W = (q : Int) := by
          rw [← HQ.out, show vs.drop j = [] from List.drop_eq_nil_of_le (Nat.le_of_eq HL.out.symm), wgts_nil]
          unfold cut
          split <;> push_cast at * <;> omega
        go_wp2_with (fail)
        go_ret
        exact ⟨by first | rfl | (rw [e]; rfl), HB.out⟩
  · have hw : cut m (wgt (.mk k n s x ks vs)) = 1 := by
      rw [wgt_not h4]
      unfold cut
      split <;> omega
    rw [hw]
    clear hw hin hk
    go_enter Tryz.func92, Tryz.ntmps92
    go_wp2_with (fail)
    go_loopg [5, 6] 1 (fun gk a i wr => a = .int .i64 1 ∧ i = .int .i64 0 ∧ gk = 1 ∧ Hid (wr.heap[w.heap.size]? = some (.cells #[.int .i64 k, .int .i64 n, .string s, .int .i64 x, .slice A L c] IV (0, 0))) ∧ Below w.heap.size w wr)
    case atStart => exact ⟨rfl, rfl, rfl, Lib.hid (heap_alloc_new w _), b1 _ _⟩
    case round =>
      obtain ⟨rfl, rfl, rfl, HE, hb⟩ := hrel
      have HB := Lib.hid hb
      clear hb
      obtain ⟨r0, -⟩ := rowc HE.out
      go_wp2_with (fail)
      go_ret
      exact ⟨rfl, HB.out⟩

def lightB (t : Tr) : Bool := decide (wgt t ≤ 200)
theorem light_i (t : Tr) (w : World) (S : Nat → Prop) (v : Value) (h : TIn w S t v) : Calls Tryz.prog 169 #[v] w (BoQ w (lightB t)) := by
  have SP : ∀ o : Obj, Calls Tryz.prog 215 #[.int .i64 200, v] (w.alloc o) (LtQ (w.alloc o) (lft 200 (wgt t))) := fun o => spare_i t _ S v (h.below' (b1 w o)) 200 (by omega) (by omega)
  obtain ⟨N, HN⟩ : ∃ N, Hid (wgt t = N) := ⟨_, Lib.hid rfl⟩
  unfold lightB
  rw [HN.out] at SP ⊢
  obtain ⟨k, n, s, x, ks, vs⟩ := t
  obtain ⟨A, c, rfl, hk, hin⟩ := h.out
  clear h hk hin
  by_cases hle : N ≤ 200
  · rw [decide_eq_true hle]
    obtain ⟨r, hr, e⟩ : ∃ r : Int, 0 ≤ r ∧ lft 200 N = r := ⟨_, by unfold lft; split <;> omega, rfl⟩
    rw [e] at SP
    clear e
    go_enter Tryz.func169, Tryz.ntmps169
    go_wp2_with (fail)
    refine (SP _).mono ?_
    rintro e w1 ⟨rfl, hb1⟩
    have HB1 := Lib.hid (bs (b1 _ _) hb1)
    clear hb1
    go_wp2_with (fail)
    go_ret
    exact ⟨rfl, HB1.out⟩
  · rw [decide_eq_false hle]
    have e : lft 200 N = -1 := by unfold lft; split <;> omega
    rw [e] at SP
    go_enter Tryz.func169, Tryz.ntmps169
    go_wp2_with (fail)
    refine (SP _).mono ?_
    rintro e w1 ⟨rfl, hb1⟩
    have HB1 := Lib.hid (bs (b1 _ _) hb1)
    clear hb1
    go_wp2_with (fail)
    go_ret
    exact ⟨rfl, HB1.out⟩

end Go.Proofs.YtbgffmiffmmohaaGreatDoor.tree

/-
  IsKey of the project and of the model.
  Conditions: the key's text has at most 2^48 bytes; the package variables of the library's reading of numbers hold what the program's text lays.
-/
namespace Go.Proofs.YtbgffmiffmmohaaGreatDoor.tree
open Go.ChangeShapes Go.WideShapes Go.ChangeAt Go.RowKit
set_option linter.unusedVariables false

def num (s : ByteArray) : Bool := (dec.pr (-1000000000) 1000000000 s.data.toList).2
def keyB (y : Ky) : Bool := if y.text then decide (y.num = 0) && decide (y.str.size ≤ 400) && !num y.str else nums.inr y.num (-1000000000) 1000000000 && decide (y.str.size = 0)

def KeyQ (w : World) (b : Bool) (e : Ending) (w' : World) : Prop := e = .returned (.bool b) ∧ Below w.heap.size w w'
theorem empty_of {s : ByteArray} (h : s.size = 0) : s = ⟨#[]⟩ := by
  obtain ⟨a⟩ := s
  have : a = #[] := Array.eq_empty_of_size_eq_zero h
  rw [this]
theorem list_of {s : ByteArray} (h : s.size ≠ 0) : ¬ s.toList = [] ∧ s.toList.isEmpty = false := by
  have h1 : ¬ s.toList = [] := fun hh => h (by
    rw [ByteArray.toList_eq] at hh
    have : s.data.toList.length = 0 := by rw [hh]; rfl
    simpa using this)
  exact ⟨h1, by cases hl : s.toList with
    | nil => exact absurd hl h1
    | cons a l => rfl⟩

set_option maxHeartbeats 800000 in
theorem isKey_i (y : Ky) (hs : y.str.size ≤ 281474976710656) (w : World) (hE : prs.Env w) : Calls Tryz.prog 72 #[kyV y] w (KeyQ w (keyB y)) := by
  obtain ⟨b, m, s⟩ := y
  replace hs : s.size ≤ 281474976710656 := hs
  have HE := Lib.hid hE
  clear hE
  cases b
  · have e : keyB ⟨false, m, s⟩ = (nums.inr m (-1000000000) 1000000000 && decide (s.size = 0)) := rfl
    rw [e]
    clear e
    unfold kyV
    obtain ⟨q, HQ⟩ : ∃ q, Hid (nums.inr m (-1000000000) 1000000000 = q) := ⟨_, Lib.hid rfl⟩
    have IR : ∀ w, Calls Tryz.prog 151 #[.int .i64 m, .int .i64 (-1000000000), .int .i64 1000000000] w fun e w' => e = .returned (.bool q) ∧ w = w' := fun w => HQ.out ▸ nums.implInRange m (-1000000000) 1000000000 w
    rw [HQ.out]
    by_cases h0 : s.size = 0
    · obtain rfl := empty_of h0
      cases q
      all_goals
        go_enter Tryz.func72, Tryz.ntmps72
        go_wp2_with (fail)
        refine (IR _).mono ?_
        rintro e w1 ⟨rfl, rfl⟩
        go_wp2_with (fail)
        go_ret
        exact ⟨rfl, b1 _ _⟩
    · obtain ⟨l1, l2⟩ := list_of h0
      rw [show decide (s.size = 0) = false from decide_eq_false h0]
      clear h0
      cases q
      all_goals
        go_enter Tryz.func72, Tryz.ntmps72
        go_wp2_with (fail)
        refine (IR _).mono ?_
        rintro e w1 ⟨rfl, rfl⟩
        go_wp2_with (fail)
        go_ret
        exact ⟨rfl, b1 _ _⟩
  · have e : keyB ⟨true, m, s⟩ = (decide (m = 0) && decide (s.size ≤ 400) && !num s) := rfl
    rw [e]
    clear e
    unfold kyV
    obtain ⟨⟨x1, x2⟩, HX⟩ : ∃ x, Hid (dec.pr (-1000000000) 1000000000 s.data.toList = x) := ⟨_, Lib.hid rfl⟩
    have hn : num s = x2 := by unfold num; rw [HX.out]
    rw [hn]
    have PS : Hid (∀ w, prs.Env w → Calls Tryz.prog 155 #[.string s] w fun e w' => e = .returned (.tuple #[.int .i64 x1, .bool x2]) ∧ Below w.heap.size w w') := Lib.hid fun w hE => by
      have := prs.implParseSigned s hs w hE
      rw [HX.out] at this
      exact this
    clear hn
    by_cases h0 : m = 0
    · subst h0
      by_cases h4 : s.size ≤ 400
      · rw [show decide (s.size ≤ 400) = true from decide_eq_true h4]
        cases x2
        all_goals
          go_enter Tryz.func72, Tryz.ntmps72
          go_wp2_with (fail)
          refine (PS.out _ (HE.out.stays (b1 _ _))).mono ?_
          rintro e w1 ⟨rfl, hb1⟩
          have HB := Lib.hid (bs (b1 w _) hb1)
          obtain ⟨r1, -⟩ := rowc (carry hb1 (heap_alloc_new w _))
          clear hb1
          go_wp2_with (fail)
          go_ret
          exact ⟨rfl, HB.out⟩
      · rw [show decide (s.size ≤ 400) = false from decide_eq_false h4]
        have h4' : 400 < s.size := by omega
        clear h4
        go_enter Tryz.func72, Tryz.ntmps72
        go_wp2_with (fail)
        refine (PS.out _ (HE.out.stays (b1 _ _))).mono ?_
        rintro e w1 ⟨rfl, hb1⟩
        have HB := Lib.hid (bs (b1 w _) hb1)
        obtain ⟨r1, -⟩ := rowc (carry hb1 (heap_alloc_new w _))
        clear hb1
        go_wp2_with (fail)
        go_ret
        exact ⟨rfl, HB.out⟩
    · rw [show decide (m = 0) = false from decide_eq_false h0]
      go_enter Tryz.func72, Tryz.ntmps72
      go_wp2_with (fail)
      refine (PS.out _ (HE.out.stays (b1 _ _))).mono ?_
      rintro e w1 ⟨rfl, hb1⟩
      have HB := Lib.hid (bs (b1 w _) hb1)
      obtain ⟨r1, -⟩ := rowc (carry hb1 (heap_alloc_new w _))
      clear hb1
      go_wp2_with (fail)
      go_ret
      exact ⟨rfl, HB.out⟩

set_option maxHeartbeats 800000 in
theorem isKey_s (y : Ky) (hs : y.str.size ≤ 281474976710656) (w : World) (hE : prs.Env w) : Calls Tryz.prog 18 #[kyV y] w (KeyQ w (keyB y)) := by
  obtain ⟨b, m, s⟩ := y
  replace hs : s.size ≤ 281474976710656 := hs
  have HE := Lib.hid hE
  clear hE
  cases b
  · have e : keyB ⟨false, m, s⟩ = (nums.inr m (-1000000000) 1000000000 && decide (s.size = 0)) := rfl
    rw [e]
    clear e
    unfold kyV
    obtain ⟨q, HQ⟩ : ∃ q, Hid (nums.inr m (-1000000000) 1000000000 = q) := ⟨_, Lib.hid rfl⟩
    have IR : ∀ w, Calls Tryz.prog 78 #[.int .i64 m, .int .i64 (-1000000000), .int .i64 1000000000] w fun e w' => e = .returned (.bool q) ∧ w = w' := fun w => HQ.out ▸ nums.l1In m (-1000000000) 1000000000 w
    rw [HQ.out]
    by_cases h0 : s.size = 0
    · obtain rfl := empty_of h0
      cases q
      all_goals
        go_enter Tryz.func18, Tryz.ntmps18
        go_wp2_with (fail)
        refine (IR _).mono ?_
        rintro e w1 ⟨rfl, rfl⟩
        go_wp2_with (fail)
        go_ret
        exact ⟨rfl, b1 _ _⟩
    · obtain ⟨l1, l2⟩ := list_of h0
      rw [show decide (s.size = 0) = false from decide_eq_false h0]
      clear h0
      cases q
      all_goals
        go_enter Tryz.func18, Tryz.ntmps18
        go_wp2_with (fail)
        refine (IR _).mono ?_
        rintro e w1 ⟨rfl, rfl⟩
        go_wp2_with (fail)
        go_ret
        exact ⟨rfl, b1 _ _⟩
  · have e : keyB ⟨true, m, s⟩ = (decide (m = 0) && decide (s.size ≤ 400) && !num s) := rfl
    rw [e]
    clear e
    unfold kyV
    obtain ⟨⟨x1, x2⟩, HX⟩ : ∃ x, Hid (dec.pr (-1000000000) 1000000000 s.data.toList = x) := ⟨_, Lib.hid rfl⟩
    have hn : num s = x2 := by unfold num; rw [HX.out]
    rw [hn]
    have PS : Hid (∀ w, prs.Env w → Calls Tryz.prog 81 #[.string s] w fun e w' => e = .returned (.tuple #[.int .i64 x1, .bool x2]) ∧ Below w.heap.size w w') := Lib.hid fun w hE => by
      have := prs.specParseSigned s hs w
      rw [HX.out] at this
      exact this
    clear hn
    by_cases h0 : m = 0
    · subst h0
      by_cases h4 : s.size ≤ 400
      · rw [show decide (s.size ≤ 400) = true from decide_eq_true h4]
        cases x2
        all_goals
          go_enter Tryz.func18, Tryz.ntmps18
          go_wp2_with (fail)
          refine (PS.out _ (HE.out.stays (b1 _ _))).mono ?_
          rintro e w1 ⟨rfl, hb1⟩
          have HB := Lib.hid (bs (b1 w _) hb1)
          obtain ⟨r1, -⟩ := rowc (carry hb1 (heap_alloc_new w _))
          clear hb1
          go_wp2_with (fail)
          go_ret
          exact ⟨rfl, HB.out⟩
      · rw [show decide (s.size ≤ 400) = false from decide_eq_false h4]
        have h4' : 400 < s.size := by omega
        clear h4
        go_enter Tryz.func18, Tryz.ntmps18
        go_wp2_with (fail)
        refine (PS.out _ (HE.out.stays (b1 _ _))).mono ?_
        rintro e w1 ⟨rfl, hb1⟩
        have HB := Lib.hid (bs (b1 w _) hb1)
        obtain ⟨r1, -⟩ := rowc (carry hb1 (heap_alloc_new w _))
        clear hb1
        go_wp2_with (fail)
        go_ret
        exact ⟨rfl, HB.out⟩
    · rw [show decide (m = 0) = false from decide_eq_false h0]
      go_enter Tryz.func18, Tryz.ntmps18
      go_wp2_with (fail)
      refine (PS.out _ (HE.out.stays (b1 _ _))).mono ?_
      rintro e w1 ⟨rfl, hb1⟩
      have HB := Lib.hid (bs (b1 w _) hb1)
      obtain ⟨r1, -⟩ := rowc (carry hb1 (heap_alloc_new w _))
      clear hb1
      go_wp2_with (fail)
      go_ret
      exact ⟨rfl, HB.out⟩

end Go.Proofs.YtbgffmiffmmohaaGreatDoor.tree

/-
  Whether a key may be one of an array, of the project.
  Conditions: those that each theorem names.
-/
namespace Go.Proofs.YtbgffmiffmmohaaGreatDoor.tree
open Go.ChangeShapes Go.WideShapes Go.ChangeAt Go.RowKit
set_option linter.unusedVariables false

def belowB (y : Ky) (x : Int) : Bool := keyB y && (y.text || decide (y.num < x))
theorem keyBelow_i (y : Ky) (hs : y.str.size ≤ 281474976710656) (x : Int) (w : World) (hE : prs.Env w) : Calls Tryz.prog 204 #[kyV y, .int .i64 x] w (BoQ w (belowB y x)) := by
  obtain ⟨q, HQ⟩ : ∃ q, Hid (keyB y = q) := ⟨_, Lib.hid rfl⟩
  have KI : ∀ o, Calls Tryz.prog 72 #[kyV y] (w.alloc o) (KeyQ (w.alloc o) q) := fun o => HQ.out ▸ isKey_i y hs _ (hE.stays (b1 w o))
  unfold belowB
  rw [HQ.out]
  obtain ⟨b, m, s⟩ := y
  unfold kyV at KI ⊢
  simp only at KI ⊢
  clear hE hs
  have key : ∀ r : Bool, decide (m < x) = r → Calls Tryz.prog 204 #[.agg #[.bool b, .int .i64 m, .string s], .int .i64 x] w (BoQ w (q && (b || r))) := fun r hr => by
    cases r with
    | true =>
      have hr := of_decide_eq_true hr
      cases q <;> cases b
      all_goals
        go_enter Tryz.func204, Tryz.ntmps204
        go_wp2_with (fail)
        refine (KI _).mono ?_
        rintro e w1 ⟨rfl, hb1⟩
        obtain ⟨r1, -⟩ := rowc (carry hb1 (heap_alloc_new w _))
        have HB := Lib.hid (bs (b1 w _) hb1)
        clear hb1
        go_wp2_with (fail)
        go_ret
        exact ⟨rfl, HB.out⟩
    | false =>
      have hr := of_decide_eq_false hr
      cases q <;> cases b
      all_goals
        go_enter Tryz.func204, Tryz.ntmps204
        go_wp2_with (fail)
        refine (KI _).mono ?_
        rintro e w1 ⟨rfl, hb1⟩
        obtain ⟨r1, -⟩ := rowc (carry hb1 (heap_alloc_new w _))
        have HB := Lib.hid (bs (b1 w _) hb1)
        clear hb1
        go_wp2_with (fail)
        go_ret
        exact ⟨rfl, HB.out⟩
  exact key _ rfl

end Go.Proofs.YtbgffmiffmmohaaGreatDoor.tree

/-
  Whether a light value is valid, of the project.
  Conditions: those that each theorem names.
-/
namespace Go.Proofs.YtbgffmiffmmohaaGreatDoor.tree
open Go.ChangeShapes Go.WideShapes Go.ChangeAt Go.RowKit
set_option linter.unusedVariables false

/-- What a value that is no array has to be. -/
def scalB (k n : Int) (s : ByteArray) : Bool := if k = 0 then decide (n = 0) else if k = 1 then nums.inr n 0 1 else if k = 2 then nums.inr n (-1000000000) 1000000000 else if k = 3 then decide (n = 0) && decide (s.size ≤ 400) else if k = 6 ∨ k = 7 ∨ k = 8 then nums.inr n 0 255 else false
def restB (k n : Int) (s : ByteArray) (x : Int) (L : Nat) : Bool := ((decide (k = 3) || decide (s.size = 0)) && (decide (x = 0) && decide (L = 0))) && scalB k n s
mutual
/-- Whether a value is valid, but for its weight. -/
def sndB : Tr → Bool
  | .mk k n s x ks vs => if k = 4 then decide (s.size = 0) && (decide (n = 0) && (nums.inr x 0 1000000001 && itemsB x [] ks vs)) else restB k n s x vs.length
def itemsB (x : Int) : List Ky → List Ky → List Tr → Bool
  | seen, y :: ks, t :: vs => (!decide (y ∈ seen) && (belowB y x && sndB t)) && itemsB x (seen ++ [y]) ks vs
  | _, _, _ => true
end
theorem snd_four (n : Int) (s : ByteArray) (x : Int) (ks : List Ky) (vs : List Tr) : sndB (.mk 4 n s x ks vs) = (decide (s.size = 0) && (decide (n = 0) && (nums.inr x 0 1000000001 && itemsB x [] ks vs))) := by rw [sndB, if_pos rfl]
theorem snd_not {k n : Int} {s : ByteArray} {x : Int} {ks : List Ky} {vs : List Tr} (h : k ≠ 4) : sndB (.mk k n s x ks vs) = restB k n s x vs.length := by rw [sndB, if_neg h]
theorem items_cons (x : Int) (seen : List Ky) (y : Ky) (ks : List Ky) (t : Tr) (vs : List Tr) : itemsB x seen (y :: ks) (t :: vs) = ((!decide (y ∈ seen) && (belowB y x && sndB t)) && itemsB x (seen ++ [y]) ks vs) := by rw [itemsB]
theorem items_nil (x : Int) (seen ks : List Ky) : itemsB x seen ks [] = true := by cases ks <;> rw [itemsB] <;> simp
theorem items_drop {x : Int} {ks : List Ky} {vs : List Tr} {j : Nat} {y : Ky} {t : Tr} (hk : ks[j]? = some y) (hv : vs[j]? = some t) :
    itemsB x (ks.take j) (ks.drop j) (vs.drop j) = ((!decide (y ∈ ks.take j) && (belowB y x && sndB t)) && itemsB x (ks.take (j + 1)) (ks.drop (j + 1)) (vs.drop (j + 1))) := by
  obtain ⟨hj, rfl⟩ := List.getElem?_eq_some_iff.1 hk
  obtain ⟨hj', rfl⟩ := List.getElem?_eq_some_iff.1 hv
  rw [List.drop_eq_getElem_cons hj, List.drop_eq_getElem_cons hj', items_cons, List.take_succ_eq_append_getElem hj]
theorem tots_item : ∀ {ks : List Ky} {vs : List Tr} {j : Nat} {y : Ky} {t : Tr}, ks[j]? = some y → vs[j]? = some t → y.str.size + tot t ≤ tots ks vs
  | [], _, _, _, _, h, _ => by simp at h
  | _ :: _, [], _, _, _, _, h => by simp at h
  | z :: ks, u :: vs, 0, y, t, h, h' => by
    simp at h h'
    subst h h'
    rw [tots_cons]
    omega
  | z :: ks, u :: vs, j + 1, y, t, h, h' => by
    have := tots_item (ks := ks) (vs := vs) (j := j) (by simpa using h) (by simpa using h')
    rw [tots_cons]
    omega

theorem rest_str {k n : Int} {s : ByteArray} {x : Int} {L : Nat} (h : ¬ k = 3) (hs : ¬ s.size = 0) : restB k n s x L = false := by
  unfold restB
  simp [h, hs]
theorem rest_next {k n : Int} {s : ByteArray} {x : Int} {L : Nat} (h : ¬ x = 0) : restB k n s x L = false := by
  unfold restB
  simp [h]
theorem rest_items {k n : Int} {s : ByteArray} {x : Int} {L : Nat} (h : ¬ L = 0) : restB k n s x L = false := by
  unfold restB
  simp [h]
theorem rest_ok {k n : Int} {s : ByteArray} (h : k = 3 ∨ s.size = 0) : restB k n s 0 0 = scalB k n s := by
  unfold restB
  rcases h with h | h <;> simp [h]
theorem ret_dec {p q : Prop} [Decidable p] [Decidable q] (h : p ↔ q) : Ending.returned (.bool (decide p)) = .returned (.bool (decide q)) := by rw [decide_eq_decide.2 h]
theorem inRange_i (n l h : Int) (q : Bool) (hq : nums.inr n l h = q) (w : World) : Calls Tryz.prog 151 #[.int .i64 n, .int .i64 l, .int .i64 h] w fun e w' => e = .returned (.bool q) ∧ w = w' := hq ▸ nums.implInRange n l h w

theorem scal_i (k n : Int) (s : ByteArray) (A : Option Addr) (c : Nat) (h4 : ¬ k = 4) (hs : k = 3 ∨ s.size = 0) (hm : s.size ≤ maxLen) (w : World) :
    Calls Tryz.prog 170 #[vV k n s 0 A 0 c] w (BoQ w (scalB k n s)) := by
  unfold maxLen at hm
  by_cases h3 : k = 3
  · subst h3
    clear h4 hs
    by_cases hn : n = 0
    · subst hn
      have e : scalB 3 0 s = decide (s.size ≤ 400) := by simp [scalB]
      rw [e]
      clear e
      go_enter Tryz.func170, Tryz.ntmps170
      go_wp2_with (fail)
      go_ret
      exact ⟨ret_dec (p := (s.size : Int) ≤ 400) (by omega), b1 _ _⟩
    · have e : scalB 3 n s = false := by simp [scalB, hn]
      rw [e]
      clear e
      go_enter Tryz.func170, Tryz.ntmps170
      go_wp2_with (fail)
      go_ret
      exact ⟨rfl, b1 _ _⟩
  · obtain rfl := empty_of (hs.resolve_left h3)
    clear hs hm
    by_cases h0 : k = 0
    · subst h0
      have e : scalB 0 n ⟨#[]⟩ = decide (n = 0) := rfl
      rw [e]
      clear e h3 h4
      go_enter Tryz.func170, Tryz.ntmps170
      go_wp2_with (fail)
      go_ret
      exact ⟨rfl, b1 _ _⟩
    by_cases h1 : k = 1
    · subst h1
      obtain ⟨q, hq⟩ : ∃ q, scalB 1 n ⟨#[]⟩ = q := ⟨_, rfl⟩
      have IR := inRange_i n 0 1 q hq
      rw [hq]
      clear hq h3 h4 h0
      go_enter Tryz.func170, Tryz.ntmps170
      go_wp2_with (fail)
      refine (IR _).mono ?_
      rintro e w1 ⟨rfl, rfl⟩
      go_wp2_with (fail)
      go_ret
      exact ⟨rfl, b1 _ _⟩
    by_cases h2 : k = 2
    · subst h2
      obtain ⟨q, hq⟩ : ∃ q, scalB 2 n ⟨#[]⟩ = q := ⟨_, rfl⟩
      have IR := inRange_i n (-1000000000) 1000000000 q hq
      rw [hq]
      clear hq h3 h4 h0 h1
      go_enter Tryz.func170, Tryz.ntmps170
      go_wp2_with (fail)
      refine (IR _).mono ?_
      rintro e w1 ⟨rfl, rfl⟩
      go_wp2_with (fail)
      go_ret
      exact ⟨rfl, b1 _ _⟩
    by_cases h678 : k = 6 ∨ k = 7 ∨ k = 8
    · obtain ⟨q, hq⟩ : ∃ q, nums.inr n 0 255 = q := ⟨_, rfl⟩
      have IR := inRange_i n 0 255 q hq
      have e : scalB k n ⟨#[]⟩ = q := by
        unfold scalB
        rw [if_neg h0, if_neg h1, if_neg h2, if_neg h3, if_pos h678, hq]
      rw [e]
      clear hq e h3 h4 h0 h1 h2
      rcases h678 with rfl | rfl | rfl
      all_goals
        go_enter Tryz.func170, Tryz.ntmps170
        go_wp2_with (fail)
        refine (IR _).mono ?_
        rintro e w1 ⟨rfl, rfl⟩
        go_wp2_with (fail)
        go_ret
        exact ⟨rfl, b1 _ _⟩
    · have e : scalB k n ⟨#[]⟩ = false := by
        unfold scalB
        rw [if_neg h0, if_neg h1, if_neg h2, if_neg h3, if_neg h678]
      rw [e]
      clear e
      have h6 : ¬ k = 6 := fun h => h678 (.inl h)
      have h7 : ¬ k = 7 := fun h => h678 (.inr (.inl h))
      have h8 : ¬ k = 8 := fun h => h678 (.inr (.inr h))
      clear h678
      go_enter Tryz.func170, Tryz.ntmps170
      go_wp2_with (fail)
      go_ret
      exact ⟨rfl, b1 _ _⟩

theorem rest_i (k n : Int) (s : ByteArray) (x : Int) (A : Option Addr) (L c : Nat) (h4 : ¬ k = 4) (hm : s.size ≤ maxLen) (hL : L ≤ maxLen) (w : World) :
    Calls Tryz.prog 170 #[vV k n s x A L c] w (BoQ w (restB k n s x L)) := by
  by_cases hs : k = 3 ∨ s.size = 0
  · by_cases hx : x = 0
    · subst hx
      by_cases h0 : L = 0
      · subst h0
        rw [rest_ok hs]
        exact scal_i k n s A c h4 hs hm w
      · rw [rest_items h0]
        unfold maxLen at hL
        have h0' : ((L : Int) != 0) = true := by simp; omega
        have h4' : (k != 4) = true := by simp [h4]
        by_cases h3 : k = 3
        · subst h3
          clear hs h4'
          go_enter Tryz.func170, Tryz.ntmps170
          go_wp2_with (fail)
          go_ret
          exact ⟨rfl, b1 _ _⟩
        · obtain rfl := empty_of (hs.resolve_left h3)
          clear hs hm
          go_enter Tryz.func170, Tryz.ntmps170
          go_wp2_with (fail)
          go_ret
          exact ⟨rfl, b1 _ _⟩
    · rw [rest_next hx]
      by_cases h3 : k = 3
      · subst h3
        clear hs
        go_enter Tryz.func170, Tryz.ntmps170
        go_wp2_with (fail)
        go_ret
        exact ⟨rfl, b1 _ _⟩
      · obtain rfl := empty_of (hs.resolve_left h3)
        clear hs hm
        go_enter Tryz.func170, Tryz.ntmps170
        go_wp2_with (fail)
        go_ret
        exact ⟨rfl, b1 _ _⟩
  · have h3 : ¬ k = 3 := fun h => hs (.inl h)
    have h0 : ¬ s.size = 0 := fun h => hs (.inr h)
    rw [rest_str h3 h0]
    obtain ⟨l1, l2⟩ := list_of h0
    clear hs
    go_enter Tryz.func170, Tryz.ntmps170
    go_wp2_with (fail)
    go_ret
    exact ⟨rfl, b1 _ _⟩

end Go.Proofs.YtbgffmiffmmohaaGreatDoor.tree

/-
  Whether a light value is valid, of the project: the items of an array.
  Conditions: the keys' texts have at most 2^48 bytes; the package variables of the library's reading of numbers hold what the program's text lays.
-/
namespace Go.Proofs.YtbgffmiffmmohaaGreatDoor.tree
open Go.ChangeShapes Go.WideShapes Go.ChangeAt Go.RowKit
set_option linter.unusedVariables false

theorem kzero (w : World) : (zeroValue 4).run Tryz.prog w = .ok (.bool false) w := by kernel_rfl
theorem kgot_some (z v : Value) : raw.Got false z (some v) = v := rfl
theorem kgot_none (z : Value) : raw.Got false z none = z := rfl
theorem kalH {w : World} {b : Nat} {f : Value → Option Value} (h : raw.Holds w GK b f) (o : Obj) : raw.Holds (w.alloc o) GK b f :=
  h.kept (Below.heap_alloc w o b h.lt) (fun _ hx => hx)
def SeenK (l : List Ky) (e : Value → Option Value) : Prop := ∀ y : Ky, e (kyV y) = if y ∈ l then some (.bool true) else none
theorem SeenK.push {l : List Ky} {e : Value → Option Value} (h : SeenK l e) (y : Ky) : SeenK (l ++ [y]) (raw.put e (kyV y) (.bool true)) := fun z => by
  by_cases hz : z = y
  · subst hz
    rw [raw.put_same]
    simp
  · rw [raw.put_other (fun e => hz (ky_inj e)), h z]
    simp [hz]

def SoI (t : Tr) : Prop := tot t ≤ 281474976710656 → ∀ (w : World) (S : Nat → Prop) (v : Value), prs.Env w → TIn w S t v → Calls Tryz.prog 170 #[v] w (BoQ w (sndB t))

set_option maxHeartbeats 1000000 in
theorem soundItems (n : Int) (s : ByteArray) (x : Int) (ks : List Ky) (vs : List Tr) (ih : ∀ t ∈ vs, SoI t) (A : Option Addr) (c : Nat) (w : World) (S : Nat → Prop) (hE : prs.Env w) (h : IsIn w S ks vs A) (hN : tots ks vs ≤ 281474976710656) :
    Calls Tryz.prog 216 #[vV 4 n s x A vs.length c] w (BoQ w (itemsB x [] ks vs)) := by
  obtain ⟨L, HL⟩ : ∃ L, Hid (L = vs.length) := ⟨_, Lib.hid rfl⟩
  have hm : L ≤ maxLen := by rw [HL.out]; exact h.2.1
  unfold maxLen at hm
  have HKL : Hid (ks.length = L) := Lib.hid (by rw [HL.out]; exact h.1)
  rw [← HL.out]
  have HI := Lib.hid h
  have HEN := Lib.hid hE
  clear h hE
  obtain ⟨W, HW⟩ : ∃ W, Hid (itemsB x [] ks vs = W) := ⟨_, Lib.hid rfl⟩
  rw [HW.out]
  have hmm := @run_makeMap Tryz.prog
  go_enter Tryz.func216, Tryz.ntmps216
  go_wp2_with (fail)
  clear hmm
  go_loopg [10] (L + 1) (fun gk i wr => ∃ (j : Nat) (e : Value → Option Value), i = .int .i64 j ∧ gk + j = L + 1 ∧ j ≤ L ∧ Hid (itemsB x (ks.take j) (ks.drop j) (vs.drop j) = W) ∧
    Hid (wr.heap[w.heap.size]? = some (.cells #[.int .i64 4, .int .i64 n, .string s, .int .i64 x, .slice A L c] IV (0, 0))) ∧ Hid (SeenK (ks.take j) e) ∧ raw.Holds wr GK (w.heap.size + 1) e ∧ Below w.heap.size w wr ∧ w.heap.size + 1 < wr.heap.size)
  case atStart =>
    have h1 := raw.Holds.made (w.alloc (.cells #[.int .i64 4, .int .i64 n, .string s, .int .i64 x, .slice A L c] IV)) GK
    have z1 : (w.alloc (.cells #[.int .i64 4, .int .i64 n, .string s, .int .i64 x, .slice A L c] IV)).heap.size = w.heap.size + 1 := by simp
    rw [z1] at h1
    exact ⟨0, fun _ => none, rfl, by omega, by omega, Lib.hid HW.out, Lib.hid (heap_alloc2_old w _ _), Lib.hid (fun y => by simp), h1, b2 _ _ _, h1.lt⟩
  case round =>
    obtain ⟨j, e, rfl, hgj, hjL, HQ, HE, HS, hm1, hb, hz⟩ := hrel
    have HB := Lib.hid hb
    have HZ := Lib.hid hz
    clear hb hz
    obtain ⟨r0, -⟩ := rowc HE.out
    by_cases hlt : j < L
    · obtain ⟨a, y, k', n', s', x', ks', vs', A1, c1, rfl, hS, hky, hvs, ht, hyb, hkb, hin', hcell⟩ := (HI.out.below HB.out).item (i := j) (by rw [← HL.out]; exact hlt)
      have htm := tots_item hky hvs
      have hys : y.str.size ≤ 281474976710656 := by omega
      have htt : tot (.mk k' n' s' x' ks' vs') ≤ 281474976710656 := by omega
      have HD := Lib.hid ((items_drop (x := x) hky hvs).symm.trans HQ.out)
      have HTK : Hid (ks.take (j + 1) = ks.take j ++ [y]) := Lib.hid (by
        obtain ⟨hj, rfl⟩ := List.getElem?_eq_some_iff.1 hky
        exact List.take_succ_eq_append_getElem hj)
      have hm2 := fun o => kalH hm1 o
      have hkk : ∀ w' : World, GK w' (.agg #[.bool y.text, .int .i64 y.num, .string y.str]) := fun _ => ⟨y, rfl⟩
      obtain ⟨q1, HQ1⟩ : ∃ q, Hid (belowB y x = q) := ⟨_, Lib.hid rfl⟩
      obtain ⟨q2, HQ2⟩ : ∃ q, Hid (sndB (.mk k' n' s' x' ks' vs') = q) := ⟨_, Lib.hid rfl⟩
      have KB : ∀ w' : World, Below wr.heap.size wr w' → Calls Tryz.prog 204 #[.agg #[.bool y.text, .int .i64 y.num, .string y.str], .int .i64 x] w' (BoQ w' q1) := fun w' hb' => HQ1.out ▸ keyBelow_i y hys x w' (HEN.out.stays (bs HB.out hb'))
      have ihj : ∀ w' : World, Below wr.heap.size wr w' → Calls Tryz.prog 170 #[vV k' n' s' x' A1 vs'.length c1] w' (BoQ w' q2) := fun w' hb' => HQ2.out ▸ ih _ (List.mem_of_getElem? hvs) htt w' S _ (HEN.out.stays (bs HB.out hb')) (ht.below' hb')
      rw [HQ1.out, HQ2.out] at HD
      obtain ⟨L1, HL1⟩ : ∃ L1, Hid (L1 = vs'.length) := ⟨_, Lib.hid rfl⟩
      rw [← HL1.out] at hcell ihj
      clear hky hvs ht hin' hyb hkb hS htm hys htt
      obtain ⟨p0, p1, p2, p3, p4, p5, p6, p7⟩ := hcell
      obtain ⟨NI, hNI⟩ : ∃ N, N = wr.heap.size := ⟨_, rfl⟩
      by_cases hsn : y ∈ ks.take j
      · have hek : e (.agg #[.bool y.text, .int .i64 y.num, .string y.str]) = some (.bool true) := (HS.out y).trans (if_pos hsn)
        have HEK := Lib.hid hek
        have HF : Hid (false = W) := Lib.hid (by have := HD.out; rw [decide_eq_true hsn] at this; simpa using this)
        clear hsn hek hm1
        go_wp2_with (first | (at_lookup; refine raw.wpList_lookup_to _ rfl _ _ 214 false rfl (hm2 _) good_ky Tryz.underlying214 (kzero _) rfl rfl (hkk _) HEK.out (kgot_some _ _) ?_) | fail)
        go_ret
        exact ⟨by rw [← HF.out]; rfl, bs HB.out (b1 _ _)⟩
      · have hek : e (.agg #[.bool y.text, .int .i64 y.num, .string y.str]) = none := (HS.out y).trans (if_neg hsn)
        have HEK := Lib.hid hek
        have HD2 : Hid (((q1 && q2) && itemsB x (ks.take (j + 1)) (ks.drop (j + 1)) (vs.drop (j + 1))) = W) := Lib.hid (by have := HD.out; rw [decide_eq_false hsn] at this; simpa using this)
        clear hsn hek hm1 HD
        have bx : ∀ o, (wr.alloc o).cell? ⟨w.heap.size, 3, none⟩ = some (.int .i64 x) := fun o => (rowc (keepAlloc (o' := o) HE.out)).1 3
        go_wp2_with (first | (at_lookup; refine raw.wpList_lookup_to _ rfl _ _ 214 false rfl (hm2 _) good_ky Tryz.underlying214 (kzero _) rfl rfl (hkk _) HEK.out (kgot_none _) ?_) | fail)
        refine (KB _ (b1 _ _)).mono ?_
        rintro e1 w1 ⟨rfl, hb1⟩
        have eI := carry hb1 (heap_alloc_new wr _)
        rw [← hNI] at eI ⊢
        have EI := Lib.hid eI
        obtain ⟨rI, -⟩ := rowc eI
        have hB1 := bs (b1 wr _) hb1
        have HB1 := Lib.hid hB1
        have hm3 : raw.Holds w1 GK (w.heap.size + 1) e := (hm2 _).kept (hb1.block _ (hm2 _).lt) (fun _ hx => hx)
        have hbIH := Lib.hid hb1
        clear hb1 eI hB1 hm2 r0 bx hNI
        cases q1 with
        | false =>
          have HF : Hid (false = W) := HD2
          go_wp2_with (fail)
          go_ret
          exact ⟨by rw [← HF.out]; rfl, bs HB.out HB1.out⟩
        | true =>
          go_wp2_with (fail)
          refine (ihj _ HB1.out).mono ?_
          rintro e2 w2 ⟨rfl, hb2⟩
          have eI2 := carry hb2 EI.out
          have EI2 := Lib.hid eI2
          obtain ⟨rI2, -⟩ := rowc eI2
          have hm4 : raw.Holds w2 GK (w.heap.size + 1) e := hm3.kept (hb2.block _ hm3.lt) (fun _ hx => hx)
          have HB2 := Lib.hid (bs HB1.out hb2)
          clear hb2 eI2 rI hm3
          cases q2 with
          | false =>
            have HF : Hid (false = W) := HD2
            go_wp2_with (fail)
            go_ret
            exact ⟨by rw [← HF.out]; rfl, bs HB.out HB2.out⟩
          | true =>
            have HF : Hid (itemsB x (ks.take (j + 1)) (ks.drop (j + 1)) (vs.drop (j + 1)) = W) := HD2
            go_wp2_with (first
              | (at_mapUpdate; refine raw.wpList_update _ rfl _ _ _ 214 rfl hm4 good_ky gk_stays Tryz.underlying214 rfl rfl rfl (hkk _) ?_
                 intro w4 hm14 hgr4
                 have HM14 := Lib.hid hm14
                 have HGR4 := Lib.hid hgr4
                 clear hm14 hgr4)
              | fail)
            go_roundg (L - j)
            case rel =>
              have hE2 := carry HB2.out HE.out
              have z4 := HB2.out.size
              have z5 := HZ.out
              refine ⟨j + 1, _, by go_num, by omega, by omega, HF, Lib.hid ((HGR4.out.block _ (Array.getElem?_eq_some_iff.1 hE2).1 (by intro h; injection h; omega)).trans hE2), Lib.hid (by rw [HTK.out]; exact HS.out.push y), HM14.out, ?_, HM14.out.lt⟩
              exact (bs HB.out HB2.out).grown HGR4.out (by omega) (fun k hk => by obtain rfl := Option.some.inj hk; omega)
            case measure => omega
    · obtain rfl : j = L := by omega
      have HF : Hid (true = W) := Lib.hid (by rw [← HQ.out, show vs.drop j = [] from List.drop_eq_nil_of_le (Nat.le_of_eq HL.out.symm), items_nil])
      clear hm1
      go_wp2_with (fail)
      go_ret
      exact ⟨by rw [← HF.out]; rfl, HB.out⟩

end Go.Proofs.YtbgffmiffmmohaaGreatDoor.tree

/-
  IsValue of the project.
  Conditions: the value has at most 2^48 letters and items; the package variables of the library's reading of numbers hold what the program's text lays.
-/
namespace Go.Proofs.YtbgffmiffmmohaaGreatDoor.tree
open Go.ChangeShapes Go.WideShapes Go.ChangeAt Go.RowKit
set_option linter.unusedVariables false

theorem sound_i : ∀ t, SoI t := Tr.ind fun k n s x ks vs ih hN w S v hE h => by
  obtain ⟨A, c, rfl, ⟨-, -, -, hs⟩, hin⟩ := h.out
  clear h
  rw [tot] at hN
  by_cases h4 : k = 4
  · subst h4
    have SI : ∀ o, Calls Tryz.prog 216 #[vV 4 n s x A vs.length c] (w.alloc o) (BoQ (w.alloc o) (itemsB x [] ks vs)) := fun o => soundItems n s x ks vs ih A c _ S (hE.stays (b1 w o)) (hin.below (b1 w o)) (by omega)
    rw [snd_four]
    obtain ⟨q, HQ⟩ : ∃ q, Hid (itemsB x [] ks vs = q) := ⟨_, Lib.hid rfl⟩
    obtain ⟨q1, HQ1⟩ : ∃ q, Hid (nums.inr x 0 1000000001 = q) := ⟨_, Lib.hid rfl⟩
    have IR := inRange_i x 0 1000000001 q1 HQ1.out
    rw [HQ.out] at SI ⊢
    rw [HQ1.out]
    have hm : vs.length ≤ maxLen := hin.2.1
    obtain ⟨L, HL⟩ : ∃ L, Hid (L = vs.length) := ⟨_, Lib.hid rfl⟩
    rw [← HL.out] at SI hm ⊢
    unfold maxLen at hm hs
    clear hin hE hN ih
    by_cases h0 : s.size = 0
    · obtain rfl := empty_of h0
      by_cases hn : n = 0
      · subst hn
        cases q1 with
        | false =>
          go_enter Tryz.func170, Tryz.ntmps170
          go_wp2_with (fail)
          refine (IR _).mono ?_
          rintro e w1 ⟨rfl, rfl⟩
          go_wp2_with (fail)
          go_ret
          exact ⟨rfl, b1 _ _⟩
        | true =>
          go_enter Tryz.func170, Tryz.ntmps170
          go_wp2_with (fail)
          refine (IR _).mono ?_
          rintro e w1 ⟨rfl, rfl⟩
          go_wp2_with (fail)
          refine (SI _).mono ?_
          rintro e w2 ⟨rfl, hb2⟩
          have HB := Lib.hid (bs (b1 _ _) hb2)
          clear hb2
          go_wp2_with (fail)
          go_ret
          exact ⟨rfl, HB.out⟩
      · have e : (decide ((⟨#[]⟩ : ByteArray).size = 0) && (decide (n = 0) && (q1 && q))) = false := by rw [decide_eq_false hn]; simp
        rw [e]
        clear e
        go_enter Tryz.func170, Tryz.ntmps170
        go_wp2_with (fail)
        go_ret
        exact ⟨rfl, b1 _ _⟩
    · have e : (decide (s.size = 0) && (decide (n = 0) && (q1 && q))) = false := by rw [decide_eq_false h0]; rfl
      rw [e]
      obtain ⟨l1, l2⟩ := list_of h0
      clear e
      go_enter Tryz.func170, Tryz.ntmps170
      go_wp2_with (fail)
      go_ret
      exact ⟨rfl, b1 _ _⟩
  · rw [snd_not h4]
    exact rest_i k n s x A vs.length c h4 hs hin.2.1 w

def valB (t : Tr) : Bool := lightB t && sndB t
theorem isValue_i (t : Tr) (hN : tot t ≤ 281474976710656) (w : World) (S : Nat → Prop) (v : Value) (hE : prs.Env w) (h : TIn w S t v) : Calls Tryz.prog 90 #[v] w (BoQ w (valB t)) := by
  have LI : ∀ o, Calls Tryz.prog 169 #[v] (w.alloc o) (BoQ (w.alloc o) (lightB t)) := fun o => light_i t _ S v (h.below' (b1 w o))
  have SI : ∀ w', Below w.heap.size w w' → Calls Tryz.prog 170 #[v] w' (BoQ w' (sndB t)) := fun w' hb => sound_i t hN w' S v (hE.stays hb) (h.below' hb)
  unfold valB
  obtain ⟨q1, HQ1⟩ : ∃ q, Hid (lightB t = q) := ⟨_, Lib.hid rfl⟩
  obtain ⟨q2, HQ2⟩ : ∃ q, Hid (sndB t = q) := ⟨_, Lib.hid rfl⟩
  rw [HQ1.out] at LI ⊢
  rw [HQ2.out] at SI ⊢
  obtain ⟨k, n, s, x, ks, vs⟩ := t
  obtain ⟨A, c, rfl, hk, hin⟩ := h.out
  clear h hk hin hE hN
  cases q1 with
  | false =>
    go_enter Tryz.func90, Tryz.ntmps90
    go_wp2_with (fail)
    refine (LI _).mono ?_
    rintro e w1 ⟨rfl, hb1⟩
    have HB := Lib.hid (bs (b1 _ _) hb1)
    clear hb1
    go_wp2_with (fail)
    go_ret
    exact ⟨rfl, HB.out⟩
  | true =>
    go_enter Tryz.func90, Tryz.ntmps90
    go_wp2_with (fail)
    refine (LI _).mono ?_
    rintro e w1 ⟨rfl, hb1⟩
    obtain ⟨r1, -⟩ := rowc (carry hb1 (heap_alloc_new w _))
    have HB := Lib.hid (bs (b1 _ _) hb1)
    clear hb1
    go_wp2_with (fail)
    refine (SI _ HB.out).mono ?_
    rintro e w2 ⟨rfl, hb2⟩
    have HB2 := Lib.hid (bs HB.out hb2)
    clear hb2
    go_wp2_with (fail)
    go_ret
    exact ⟨rfl, HB2.out⟩

end Go.Proofs.YtbgffmiffmmohaaGreatDoor.tree

/-
  The live slots of a table, as lists.
  Conditions: none.
-/
namespace Go.Proofs.YtbgffmiffmmohaaGreatDoor.tree
open Go.ChangeShapes Go.WideShapes Go.ChangeAt Go.RowKit
set_option linter.unusedVariables false

abbrev IT : TypeId := 27
/-- The live slots. -/
def liv (sl : List Sl) : List Sl := sl.filter (fun t => t.live)
def livK (sl : List Sl) : List Ky := (liv sl).map (fun t => t.key)
def livV (sl : List Sl) : List Tr := (liv sl).map (fun t => t.val)
/-- The array that a table stands for. -/
def tvT (x : Int) (sl : List Sl) : Tr := .mk 4 0 ⟨#[]⟩ x (livK sl) (livV sl)
theorem liv_take {sl : List Sl} {j : Nat} {t : Sl} (h : sl[j]? = some t) : liv (sl.take (j + 1)) = liv (sl.take j) ++ (if t.live then [t] else []) := by
  unfold liv
  rw [List.take_add_one, h, List.filter_append]
  cases ht : t.live <;> simp [ht]
theorem liv_len (sl : List Sl) : (liv sl).length ≤ sl.length := List.length_filter_le _ _


end Go.Proofs.YtbgffmiffmmohaaGreatDoor.tree

/-
  What the weight of the array that a handle stands for leaves of a limit; the rounds in which the weights of a heap's blocks are found.
  Conditions: none.
-/
namespace Go.Proofs.YtbgffmiffmmohaaGreatDoor.tree
open Go.ChangeShapes Go.WideShapes Go.ChangeAt Go.RowKit
set_option linter.unusedVariables false

/-- The live values of the block with a number. -/
def valsAt (bl : List Bk) (n : Int) : List Tr := match bl[n.toNat]? with
  | some k => livV k.slots
  | none => []
def spr (bl : List Bk) : Nat → Int → Tr → Int
  | 0, l, _ => l - 1
  | f + 1, l, .mk k n _ _ _ _ => if k = 5 then (valsAt bl n).foldl (fun a x => if a < 0 then a else spr bl f a x) (l - 1) else l - 1
/-- A row of values. -/
def sprs (bl : List Bk) (f : Nat) (ts : List Tr) (a : Int) : Int := ts.foldl (fun a x => if a < 0 then a else spr bl f a x) a
theorem spr_not (bl : List Bk) (f : Nat) (l : Int) {k n : Int} {s : ByteArray} {x : Int} {ks : List Ky} {vs : List Tr} (h : ¬ k = 5) : spr bl (f + 1) l (.mk k n s x ks vs) = l - 1 := by rw [spr, if_neg h]
theorem spr_five (bl : List Bk) (f : Nat) (l n : Int) (s : ByteArray) (x : Int) (ks : List Ky) (vs : List Tr) : spr bl (f + 1) l (.mk 5 n s x ks vs) = sprs bl f (valsAt bl n) (l - 1) := by rw [spr, if_pos rfl]; rfl
theorem sprs_nil (bl : List Bk) (f : Nat) (a : Int) : sprs bl f [] a = a := rfl
theorem sprs_cons (bl : List Bk) (f : Nat) (t : Tr) (ts : List Tr) (a : Int) : sprs bl f (t :: ts) a = sprs bl f ts (if a < 0 then a else spr bl f a t) := rfl
theorem sprs_neg (bl : List Bk) (f : Nat) : ∀ (ts : List Tr) (a : Int), a < 0 → sprs bl f ts a = a
  | [], a, _ => rfl
  | t :: ts, a, h => by rw [sprs_cons, if_pos h]; exact sprs_neg bl f ts a h
theorem sprs_take {bl : List Bk} {f : Nat} {ts : List Tr} {j : Nat} {t : Tr} {a : Int} (h : ts[j]? = some t) : sprs bl f (ts.take (j + 1)) a = (if sprs bl f (ts.take j) a < 0 then sprs bl f (ts.take j) a else spr bl f (sprs bl f (ts.take j) a) t) := by
  rw [List.take_add_one, h]
  show List.foldl _ _ (ts.take j ++ [t]) = _
  rw [List.foldl_append]
  rfl
theorem sprs_stop {bl : List Bk} {f : Nat} {ts : List Tr} {j : Nat} {a : Int} (h : sprs bl f (ts.take j) a < 0) : sprs bl f ts a = sprs bl f (ts.take j) a := by
  have e : sprs bl f ts a = sprs bl f (ts.drop j) (sprs bl f (ts.take j) a) := by
    conv => lhs; rw [← List.take_append_drop j ts]
    unfold sprs
    rw [List.foldl_append]
  rw [e]
  exact sprs_neg bl f _ _ h
mutual
theorem spr_le (bl : List Bk) : ∀ (f : Nat) (l : Int) (t : Tr), spr bl f l t ≤ l - 1
  | 0, l, t => by rw [spr]; omega
  | f + 1, l, .mk k n s x ks vs => by
    by_cases h : k = 5
    · subst h
      rw [spr_five]
      exact sprs_le bl f _ _
    · rw [spr_not bl f l h]; omega
theorem sprs_le (bl : List Bk) : ∀ (f : Nat) (ts : List Tr) (a : Int), sprs bl f ts a ≤ a
  | f, [], a => by rw [sprs_nil]; omega
  | f, t :: ts, a => by
    rw [sprs_cons]
    split
    · exact sprs_le bl f ts a
    · have h1 := spr_le bl f a t
      have h2 := sprs_le bl f ts (spr bl f a t)
      omega
end
mutual
theorem spr_ge (bl : List Bk) : ∀ (f : Nat) (l : Int) (t : Tr), 0 ≤ l → -1 ≤ spr bl f l t
  | 0, l, t, h => by rw [spr]; omega
  | f + 1, l, .mk k n s x ks vs, h => by
    by_cases h5 : k = 5
    · subst h5
      rw [spr_five]
      exact sprs_ge bl f _ _ (by omega)
    · rw [spr_not bl f l h5]; omega
theorem sprs_ge (bl : List Bk) : ∀ (f : Nat) (ts : List Tr) (a : Int), -1 ≤ a → -1 ≤ sprs bl f ts a
  | f, [], a, h => by rw [sprs_nil]; omega
  | f, t :: ts, a, h => by
    rw [sprs_cons]
    split
    · exact sprs_ge bl f ts a h
    · exact sprs_ge bl f ts _ (spr_ge bl f a t (by omega))
end
/-- The handle of a block. -/
def hdl (i : Nat) : Tr := .mk 5 i ⟨#[]⟩ 0 [] []
/-- The weight of block i is n. -/
def Ex (bl : List Bk) (i : Nat) (n : Int) : Prop := 1 ≤ n ∧ ∀ (f : Nat) (l : Int), 0 ≤ l → l < f → (spr bl f l (hdl i) < 0 ∧ l < n) ∨ (spr bl f l (hdl i) = l - n ∧ n ≤ l)
/-- The weight of block i is more than r. -/
def Dp (bl : List Bk) (r : Int) (i : Nat) : Prop := ∀ (f : Nat) (l : Int), 0 ≤ l → l < f → l ≤ r → spr bl f l (hdl i) < 0
theorem Dp.mono {bl : List Bk} {r r' : Int} {i : Nat} (h : Dp bl r i) (hr : r' ≤ r) : Dp bl r' i := fun f l h0 h1 h2 => h f l h0 h1 (by omega)
theorem valsAt_at {bl : List Bk} {i : Nat} {k : Bk} (h : bl[i]? = some k) : valsAt bl (i : Int) = livV k.slots := by
  unfold valsAt
  rw [Int.toNat_natCast, h]
/-- What a value weighs, by the weights of blocks. -/
def wv (ws : List Int) : Tr → Int
  | .mk k n _ _ _ _ => if k = 5 then ws[n.toNat]?.getD 0 else 1
def wvs (ws : List Int) (ts : List Tr) : Int := (ts.map (wv ws)).sum
/-- A value whose weight is known: no handle, or one of a block whose weight is. -/
def Kn (bl : List Bk) (ws : List Int) : Tr → Prop
  | .mk k n _ _ _ _ => k = 5 → ∃ i : Nat, n = i ∧ ∃ v, ws[i]? = some v ∧ Ex bl i v
theorem spr_num (bl : List Bk) (f : Nat) (l : Int) (i : Nat) (s : ByteArray) (x : Int) (ks : List Ky) (vs : List Tr) : spr bl f l (.mk 5 i s x ks vs) = spr bl f l (hdl i) := by
  cases f with
  | zero => rw [hdl, spr, spr]
  | succ f => rw [hdl, spr_five, spr_five]
theorem kn_val {bl : List Bk} {ws : List Int} {t : Tr} (h : Kn bl ws t) : 1 ≤ wv ws t ∧ ∀ (f : Nat) (l : Int), 0 ≤ l → l < f → (spr bl f l t < 0 ∧ l < wv ws t) ∨ (spr bl f l t = l - wv ws t ∧ wv ws t ≤ l) := by
  obtain ⟨k, n, s, x, ks, vs⟩ := t
  by_cases h5 : k = 5
  · subst h5
    obtain ⟨i, rfl, v, hv, he⟩ := h rfl
    have e : wv ws (.mk 5 (i : Int) s x ks vs) = v := by rw [wv, if_pos rfl, Int.toNat_natCast, hv]; rfl
    rw [e]
    refine ⟨he.1, fun f l h0 h1 => ?_⟩
    rw [spr_num]
    exact he.2 f l h0 h1
  · have e : wv ws (.mk k n s x ks vs) = 1 := by rw [wv, if_neg h5]
    rw [e]
    refine ⟨by omega, fun f l h0 h1 => ?_⟩
    cases f with
    | zero => exact absurd h1 (by simp; omega)
    | succ f =>
      rw [spr_not bl f l h5]
      by_cases hl : l = 0
      · exact .inl (by omega)
      · exact .inr ⟨rfl, by omega⟩
theorem kn_vals {bl : List Bk} {ws : List Int} : ∀ {ts : List Tr}, (∀ t ∈ ts, Kn bl ws t) → 0 ≤ wvs ws ts ∧ ∀ (f : Nat) (a : Int), 0 ≤ a → a < f → (sprs bl f ts a < 0 ∧ a < wvs ws ts) ∨ (sprs bl f ts a = a - wvs ws ts ∧ wvs ws ts ≤ a)
  | [], _ => ⟨by simp [wvs], fun f a h0 h1 => .inr ⟨by rw [sprs_nil]; simp [wvs], by simpa [wvs] using h0⟩⟩
  | t :: ts, h => by
    have h1 := kn_val (h t (by simp))
    have h2 := kn_vals (ts := ts) fun u hu => h u (by simp [hu])
    have e : wvs ws (t :: ts) = wv ws t + wvs ws ts := by simp [wvs]
    rw [e]
    refine ⟨by omega, fun f a h0 hf => ?_⟩
    rw [sprs_cons, if_neg (by omega)]
    rcases h1.2 f a h0 hf with ⟨ha, hb⟩ | ⟨ha, hb⟩
    · refine .inl ⟨?_, by omega⟩
      rw [sprs_neg bl f ts _ ha]
      exact ha
    · rw [ha]
      rcases h2.2 f (a - wv ws t) (by omega) (by omega) with ⟨hc, hd⟩ | ⟨hc, hd⟩
      · exact .inl ⟨hc, by omega⟩
      · exact .inr ⟨by rw [hc]; omega, by omega⟩
/-- A block whose values' weights are known weighs 1 more than they. -/
theorem ex_block {bl : List Bk} {ws : List Int} {i : Nat} {k : Bk} (hk : bl[i]? = some k) (h : ∀ t ∈ livV k.slots, Kn bl ws t) : Ex bl i (1 + wvs ws (livV k.slots)) := by
  have h1 := kn_vals h
  refine ⟨by omega, fun f l h0 hf => ?_⟩
  cases f with
  | zero => exact absurd hf (by simp; omega)
  | succ f =>
    rw [hdl, spr_five, valsAt_at hk]
    by_cases hl : l = 0
    · refine .inl ⟨?_, by omega⟩
      rw [sprs_neg bl f _ _ (by omega)]
      omega
    · rcases h1.2 f (l - 1) (by omega) (by omega) with ⟨ha, hb⟩ | ⟨ha, hb⟩
      · exact .inl ⟨ha, by omega⟩
      · exact .inr ⟨by rw [ha]; omega, by omega⟩
/-- A block that leads to one whose weight is more than r weighs more than r + 1. -/
theorem dp_block {bl : List Bk} {i c : Nat} {k : Bk} {r : Int} (hk : bl[i]? = some k) {s : ByteArray} {x : Int} {ks : List Ky} {vs : List Tr} (hm : Tr.mk 5 (c : Int) s x ks vs ∈ livV k.slots) (h : Dp bl r c) : Dp bl (r + 1) i := fun f l h0 hf hl => by
  cases f with
  | zero => exact absurd hf (by simp; omega)
  | succ f =>
    rw [hdl, spr_five, valsAt_at hk]
    have key : ∀ (ts : List Tr) (a : Int), Tr.mk 5 (c : Int) s x ks vs ∈ ts → a ≤ r → a < f → sprs bl f ts a < 0 := by
      intro ts
      induction ts with
      | nil => intro a hm; simp at hm
      | cons t ts ih =>
        intro a hm ha haf
        rw [sprs_cons]
        split
        · rename_i h'
          rw [sprs_neg bl f ts a h']; exact h'
        · rename_i h'
          rcases List.mem_cons.1 hm with e | hm
          · rw [← e, spr_num]
            have := h f a (by omega) haf ha
            rw [sprs_neg bl f ts _ this]
            exact this
          · have := spr_le bl f a t
            exact ih _ hm (by omega) (by omega)
    exact key _ _ hm (by omega) (by omega)
theorem dp_zero {bl : List Bk} (i : Nat) : Dp bl 0 i := fun f l h0 hf hl => by
  cases f with
  | zero => exact absurd hf (by simp; omega)
  | succ f =>
    have := spr_le bl (f + 1) l (hdl i)
    omega
/-- No block weighs more than 200. -/
def Lt (bl : List Bk) : Prop := ∀ i, i < bl.length → 0 ≤ spr bl 201 200 (hdl i)
theorem ex_lt {bl : List Bk} {i : Nat} {n : Int} (h : Ex bl i n) (hn : n ≤ 200) : 0 ≤ spr bl 201 200 (hdl i) := by
  rcases h.2 201 200 (by omega) (by omega) with ⟨_, h2⟩ | ⟨h1, _⟩ <;> omega
theorem ex_gt {bl : List Bk} {i : Nat} {n : Int} (h : Ex bl i n) (hn : 200 < n) : spr bl 201 200 (hdl i) < 0 := by
  rcases h.2 201 200 (by omega) (by omega) with ⟨h1, _⟩ | ⟨h1, h2⟩ <;> omega
theorem spr_free {bl : List Bk} {i : Nat} {k : Bk} (hk : bl[i]? = some k) (hs : k.slots = []) : spr bl 201 200 (hdl i) = 199 := by
  rw [hdl, spr_five, valsAt_at hk, hs]
  rfl

end Go.Proofs.YtbgffmiffmmohaaGreatDoor.tree

/-
  A value without items; a call that gives back a value and writes nothing that was there.
  Conditions: those that each theorem names.
-/
namespace Go.Proofs.YtbgffmiffmmohaaGreatDoor.tree
open Go.ChangeShapes Go.WideShapes Go.ChangeAt Go.RowKit
set_option linter.unusedVariables false

theorem IsIn.nil (w : World) (S : Nat → Prop) (A : Option Addr) : IsIn w S [] [] A := ⟨rfl, by simp, fun _ => #[], fun i hi => absurd hi (by simp), fun i hi => absurd hi (by simp)⟩
/-- A value with no items. -/
theorem flat {k n x : Int} {s : ByteArray} (hk : I64 k ∧ I64 n ∧ I64 x ∧ s.size ≤ maxLen) (w : World) (S : Nat → Prop) (A : Option Addr) (c : Nat) (hc : c ≤ maxLen) : TIn w S (.mk k n s x [] []) (vV k n s x A 0 c) := TIn.of c hk (IsIn.nil w S A) ⟨Nat.zero_le _, hc⟩

def GivesQ (w : World) (v : Value) (e : Ending) (w' : World) : Prop := e = .returned v ∧ Below w.heap.size w w'

end Go.Proofs.YtbgffmiffmmohaaGreatDoor.tree

/-
  The digest of a key, of the project and of the model.
  Conditions: the key's text has at most 2^47 bytes.
-/
namespace Go.Proofs.YtbgffmiffmmohaaGreatDoor.tree
open Go.ChangeShapes Go.WideShapes Go.ChangeAt Go.RowKit
set_option linter.unusedVariables false

/-- The digest of a key. -/
def kh (y : Ky) : Int := if y.text then dig.fold 11 (mem.txt y.str) else y.num % 2147483647
theorem kh_in (y : Ky) : 0 ≤ kh y ∧ kh y ≤ 2147483646 := by
  unfold kh
  split
  · exact dig.fold_in dig.in11 _
  · omega
def KhQ (w : World) (x : Int) (e : Ending) (w' : World) : Prop := e = .returned (.int .i64 x) ∧ Below w.heap.size w w'

theorem keyHash_i (y : Ky) (hs : y.str.size ≤ 140737488355328) (w : World) : Calls Tryz.prog 231 #[kyV y] w (KhQ w (kh y)) := by
  obtain ⟨b, n, s⟩ := y
  replace hs : s.size ≤ 140737488355328 := hs
  have HT := hsh.implText s hs
  have HM := hsh.implMod31 n
  unfold kyV
  cases b
  · obtain ⟨q, HQ⟩ : ∃ q, Hid (n % 2147483647 = q) := ⟨_, Lib.hid rfl⟩
    rw [show kh ⟨false, n, s⟩ = q from HQ.out]
    rw [HQ.out] at HM
    go_enter Tryz.func231, Tryz.ntmps231
    go_wp2_with (fail)
    refine (HM _).mono ?_
    rintro e w1 ⟨rfl, rfl⟩
    go_wp2_with (fail)
    go_ret
    exact ⟨rfl, b1 _ _⟩
  · obtain ⟨q, HQ⟩ : ∃ q, Hid (dig.fold 11 (mem.txt s) = q) := ⟨_, Lib.hid rfl⟩
    rw [show kh ⟨true, n, s⟩ = q from HQ.out]
    rw [HQ.out] at HT
    go_enter Tryz.func231, Tryz.ntmps231
    go_wp2_with (fail)
    refine (HT _).mono ?_
    rintro e w1 ⟨rfl, hb⟩
    have HB := Lib.hid (bs (b1 w _) hb)
    clear hb
    go_wp2_with (fail)
    go_ret
    exact ⟨rfl, HB.out⟩

theorem keyHash_s (y : Ky) (hs : y.str.size ≤ 140737488355328) (w : World) : Calls Tryz.prog 79 #[kyV y] w (KhQ w (kh y)) := by
  obtain ⟨b, n, s⟩ := y
  replace hs : s.size ≤ 140737488355328 := hs
  have HT := hsh.specText s hs
  have HM := hsh.specMod31 n
  unfold kyV
  cases b
  · obtain ⟨q, HQ⟩ : ∃ q, Hid (n % 2147483647 = q) := ⟨_, Lib.hid rfl⟩
    rw [show kh ⟨false, n, s⟩ = q from HQ.out]
    rw [HQ.out] at HM
    go_enter Tryz.func79, Tryz.ntmps79
    go_wp2_with (fail)
    refine (HM _).mono ?_
    rintro e w1 ⟨rfl, rfl⟩
    go_wp2_with (fail)
    go_ret
    exact ⟨rfl, b1 _ _⟩
  · obtain ⟨q, HQ⟩ : ∃ q, Hid (dig.fold 11 (mem.txt s) = q) := ⟨_, Lib.hid rfl⟩
    rw [show kh ⟨true, n, s⟩ = q from HQ.out]
    rw [HQ.out] at HT
    go_enter Tryz.func79, Tryz.ntmps79
    go_wp2_with (fail)
    refine (HT _).mono ?_
    rintro e w1 ⟨rfl, rfl⟩
    go_wp2_with (fail)
    go_ret
    exact ⟨rfl, b1 _ _⟩

end Go.Proofs.YtbgffmiffmmohaaGreatDoor.tree

/-
  What makes a table sound, as a matter of lists; where a key's live slot is.
  Conditions: none.
-/
namespace Go.Proofs.YtbgffmiffmmohaaGreatDoor.tree
open Go.ChangeShapes Go.WideShapes Go.ChangeAt Go.RowKit
set_option linter.unusedVariables false

/-- The bucket of a key among n. -/
def bk (n : Nat) (y : Ky) : Nat := (kh y % (n : Int)).toNat
theorem bk_lt {n : Nat} (h : 0 < n) (y : Ky) : bk n y < n := by
  unfold bk
  have h1 := Int.emod_nonneg (kh y) (show (n : Int) ≠ 0 by omega)
  have h2 := Int.emod_lt_of_pos (kh y) (show (0 : Int) < n by omega)
  omega
theorem bk_int {n : Nat} (h : 0 < n) (y : Ky) : kh y % (n : Int) = (bk n y : Int) := by
  unfold bk
  have h1 := Int.emod_nonneg (kh y) (show (n : Int) ≠ 0 by omega)
  omega
/-- The heads of the chains after the first j slots. -/
def hs (n : Nat) (sl : List Sl) : Nat → List Int
  | 0 => List.replicate n (-1)
  | j + 1 => match sl[j]? with
    | some t => (hs n sl j).set (bk n t.key) j
    | none => hs n sl j
theorem hs_succ {n : Nat} {sl : List Sl} {j : Nat} {t : Sl} (h : sl[j]? = some t) : hs n sl (j + 1) = (hs n sl j).set (bk n t.key) j := by simp [hs, h]
theorem hs_len (n : Nat) (sl : List Sl) (j : Nat) : (hs n sl j).length = n := by
  induction j with
  | zero => simp [hs]
  | succ j ih =>
    rw [hs]
    split
    · rw [List.length_set]; exact ih
    · exact ih
/-- The last slot of a bucket among the first j. -/
def last (n : Nat) (sl : List Sl) (b : Nat) : Nat → Int
  | 0 => -1
  | j + 1 => match sl[j]? with
    | some t => if bk n t.key = b then j else last n sl b j
    | none => last n sl b j
theorem hs_get {n : Nat} {sl : List Sl} {b : Nat} (h : b < n) : ∀ j, (hs n sl j)[b]? = some (last n sl b j)
  | 0 => by simp [hs, last, h]
  | j + 1 => by
    have ih := hs_get (sl := sl) h j
    rw [hs, last]
    cases hj : sl[j]? with
    | none => exact ih
    | some t =>
      simp only
      by_cases e : bk n t.key = b
      · subst e
        rw [if_pos rfl, List.getElem?_set_self (by rw [hs_len]; exact h)]
      · rw [if_neg e, List.getElem?_set_ne e]
        exact ih
/-- The slot to which the slot j of a key is linked. -/
def lk (n : Nat) (sl : List Sl) (j : Nat) (y : Ky) : Int := ((hs n sl j)[bk n y]?).getD (-1)
theorem lk_zero (sl : List Sl) (j : Nat) (y : Ky) : lk 0 sl j y = -1 := by
  unfold lk
  rw [List.getElem?_eq_none (by rw [hs_len]; exact Nat.zero_le _)]
  rfl
theorem lk_pos {n : Nat} (h : 0 < n) (sl : List Sl) (j : Nat) (y : Ky) : lk n sl j y = last n sl (bk n y) j := by
  unfold lk
  rw [hs_get (bk_lt h y)]
  rfl
theorem last_bd (n : Nat) (sl : List Sl) (b : Nat) : ∀ j, -1 ≤ last n sl b j ∧ last n sl b j < j
  | 0 => by simp [last]
  | j + 1 => by
    have ih := last_bd n sl b j
    rw [last]
    split
    · split
      · omega
      · omega
    · omega

/-- The live slot of a key among the first j; -1 if there is none. -/
def fd (sl : List Sl) (y : Ky) : Nat → Int
  | 0 => -1
  | j + 1 => match sl[j]? with
    | some t => if t.live = true ∧ t.key = y then j else fd sl y j
    | none => fd sl y j
theorem fd_succ {sl : List Sl} {y : Ky} {j : Nat} {t : Sl} (h : sl[j]? = some t) : fd sl y (j + 1) = if t.live = true ∧ t.key = y then (j : Int) else fd sl y j := by simp [fd, h]
theorem fd_bd (sl : List Sl) (y : Ky) : ∀ j, -1 ≤ fd sl y j ∧ fd sl y j < j
  | 0 => by simp [fd]
  | j + 1 => by
    have ih := fd_bd sl y j
    rw [fd]
    split
    · split
      · omega
      · omega
    · omega
/-- Where the last slot of the key's bucket is, the search goes on. -/
theorem last_fd {n : Nat} {sl : List Sl} {y : Ky} {b : Nat} (hb : bk n y = b) : ∀ J, J ≤ sl.length → (last n sl b J = -1 ∧ fd sl y J = -1) ∨ ∃ i t, i < J ∧ last n sl b J = (i : Int) ∧ sl[i]? = some t ∧ bk n t.key = b ∧ fd sl y J = fd sl y (i + 1)
  | 0, _ => .inl ⟨rfl, rfl⟩
  | J + 1, h => by
    obtain ⟨tJ, ht⟩ : ∃ t, sl[J]? = some t := ⟨_, List.getElem?_eq_getElem (by omega)⟩
    rcases last_fd (sl := sl) hb J (by omega) with ih | ih
    all_goals
      by_cases e : bk n tJ.key = b
      · exact .inr ⟨J, _, Nat.lt_succ_self _, by simp [last, ht, e], ht, e, rfl⟩
      · have e2 : ¬ (tJ.live = true ∧ tJ.key = y) := fun h2 => e (by rw [h2.2]; exact hb)
        have e3 : fd sl y (J + 1) = fd sl y J := by rw [fd_succ ht, if_neg e2]
        have e4 : last n sl b (J + 1) = last n sl b J := by simp [last, ht, e]
        rw [e3, e4]
        first
          | exact .inl ih
          | (obtain ⟨i, t, h1, h2⟩ := ih; exact .inr ⟨i, t, Nat.lt_succ_of_lt h1, h2⟩)

/-- The value of a slot that is free. -/
def zeroT : Tr → Prop
  | .mk k n s x ks vs => k = 0 ∧ n = 0 ∧ s.size = 0 ∧ x = 0 ∧ vs.length = 0
def soundS (x : Int) (sl : List Sl) (j : Nat) (t : Sl) : Prop := (keyB t.key && (t.key.text || decide (t.key.num < x))) = true ∧ (t.live = true → t.key ∉ livK (sl.take j)) ∧ (t.live = false → zeroT t.val)
/-- The key of the slot i of a packed table. -/
def ixK (i : Nat) : Ky := ⟨false, i, ⟨#[]⟩⟩
def linkS (b : Bool) (n : Nat) (sl : List Sl) (j : Nat) (t : Sl) : Prop := (b = true ∨ t.key = ixK j) ∧ t.link = lk n sl j t.key
def p2 (n : Nat) : Prop := n = 8 ∨ n = 16 ∨ n = 32 ∨ n = 64 ∨ n = 128 ∨ n = 256 ∨ n = 512 ∨ n = 1024
def sizeP (b : Bool) (n m : Nat) (x : Int) : Prop := (b = true → p2 n ∧ m ≤ n) ∧ (b = false → n = 0 ∧ (m : Int) ≤ x ∧ m ≤ 1024)
def rowS (x : Int) (sl : List Sl) : Prop := ∀ j t, sl[j]? = some t → soundS x sl j t
def rowL (b : Bool) (n : Nat) (sl : List Sl) : Prop := ∀ j t, sl[j]? = some t → linkS b n sl j t
/-- A table is sound. -/
def tabOk (b : Bool) (l : List Int) (sl : List Sl) (x k : Int) : Prop :=
  (0 ≤ x ∧ x ≤ 1000000001) ∧ sizeP b l.length sl.length x ∧ (rowS x sl ∧ ((livK sl).length : Int) = k) ∧ (rowL b l.length sl ∧ hs l.length sl sl.length = l)
theorem tabOk.len {b : Bool} {l : List Int} {sl : List Sl} {x k : Int} (h : tabOk b l sl x k) : sl.length ≤ 1024 ∧ l.length ≤ 1024 := by
  obtain ⟨-, ⟨h1, h2⟩, -⟩ := h
  cases b with
  | true => obtain ⟨h3, h4⟩ := h1 rfl; unfold p2 at h3; omega
  | false => obtain ⟨h3, h4, h5⟩ := h2 rfl; omega

theorem livK_take {sl : List Sl} {j : Nat} {t : Sl} (h : sl[j]? = some t) : livK (sl.take (j + 1)) = livK (sl.take j) ++ (if t.live then [t.key] else []) := by
  unfold livK
  rw [liv_take h, List.map_append]
  cases t.live <;> simp
theorem livK_len (sl : List Sl) : (livK sl).length ≤ sl.length := by
  unfold livK
  rw [List.length_map]
  exact liv_len sl
theorem mem_livK {sl : List Sl} {y : Ky} : y ∈ livK sl ↔ ∃ (i : Nat) (t : Sl), sl[i]? = some t ∧ t.live = true ∧ t.key = y := by
  unfold livK liv
  simp only [List.mem_map, List.mem_filter]
  constructor
  · rintro ⟨t, ⟨h1, h2⟩, h3⟩
    obtain ⟨i, hi⟩ := List.mem_iff_getElem?.1 h1
    exact ⟨i, t, hi, h2, h3⟩
  · rintro ⟨i, t, h1, h2, h3⟩
    exact ⟨t, ⟨List.mem_of_getElem? h1, h2⟩, h3⟩
/-- Keys that are their places do not stand twice. -/
theorem packed_new {sl : List Sl} {j : Nat} (h : ∀ i t, i < j → sl[i]? = some t → t.key = ixK i) : ixK j ∉ livK (sl.take j) := fun hm => by
  obtain ⟨i, t, h1, -, h3⟩ := mem_livK.1 hm
  have hi : i < j := by
    have := (List.getElem?_eq_some_iff.1 h1).1
    rw [List.length_take] at this
    omega
  rw [List.getElem?_take, if_pos hi] at h1
  have := h i t hi h1
  rw [h3] at this
  unfold ixK at this
  injection this with _ e _
  omega
theorem fd_packed {sl : List Sl} (h : ∀ i t, sl[i]? = some t → t.key = ixK i) (y : Ky) : ∀ J, J ≤ sl.length → fd sl y J = -1 ∨ ∃ i t, i < J ∧ sl[i]? = some t ∧ t.live = true ∧ t.key = y ∧ y = ixK i ∧ fd sl y J = i
  | 0, _ => .inl rfl
  | J + 1, hJ => by
    obtain ⟨tJ, ht⟩ : ∃ t, sl[J]? = some t := ⟨_, List.getElem?_eq_getElem (by omega)⟩
    rw [fd_succ ht]
    by_cases e : tJ.live = true ∧ tJ.key = y
    · rw [if_pos e]
      exact .inr ⟨J, _, Nat.lt_succ_self _, ht, e.1, e.2, by rw [← e.2]; exact h _ _ ht, rfl⟩
    · rw [if_neg e]
      rcases fd_packed h y J (by omega) with ih | ⟨i, t, h1, h2⟩
      · exact .inl ih
      · exact .inr ⟨i, t, by omega, h2⟩
/-- In a packed table the key's number is the place. -/
theorem fd_at {sl : List Sl} (h : ∀ i t, sl[i]? = some t → t.key = ixK i) {y : Ky} {i : Nat} {t : Sl} (ht : sl[i]? = some t) (hn : y.num = i) : fd sl y sl.length = if t.live = true ∧ t.key = y then (i : Int) else -1 := by
  have hi := (List.getElem?_eq_some_iff.1 ht).1
  rcases fd_packed h y sl.length (Nat.le_refl _) with h0 | ⟨i', t', h1, h2, h3, h4, h5, h6⟩
  · rw [h0]
    split
    · rename_i e
      exfalso
      have key : ∀ J, i < J → J ≤ sl.length → fd sl y J ≠ -1 := by
        intro J
        induction J with
        | zero => intro h; omega
        | succ J ih =>
          intro h1 h2
          obtain ⟨tJ, hs⟩ : ∃ t, sl[J]? = some t := ⟨_, List.getElem?_eq_getElem (by omega)⟩
          rw [fd_succ hs]
          split
          · omega
          · rename_i e2
            by_cases hJ : i = J
            · subst hJ
              rw [ht] at hs
              obtain rfl := Option.some.inj hs
              exact absurd e e2
            · exact ih (by omega) (by omega)
      exact key _ hi (Nat.le_refl _) h0
    · rfl
  · have : i' = i := by
      rw [h5] at hn
      unfold ixK at hn
      simp only at hn
      omega
    subst this
    rw [ht] at h2
    obtain rfl := Option.some.inj h2
    rw [if_pos ⟨h3, h4⟩, h6]
theorem fd_out {sl : List Sl} (h : ∀ i t, sl[i]? = some t → t.key = ixK i) {y : Ky} (hn : ¬ (0 ≤ y.num ∧ y.num ≤ (sl.length : Int) - 1)) : fd sl y sl.length = -1 := by
  rcases fd_packed h y sl.length (Nat.le_refl _) with h0 | ⟨i', t', h1, h2, h3, h4, h5, h6⟩
  · exact h0
  · exfalso
    apply hn
    rw [h5]
    unfold ixK
    simp
    omega

end Go.Proofs.YtbgffmiffmmohaaGreatDoor.tree

/-
  The sizes of a table's heads, and new heads, of the project.
  Conditions: those that each theorem names.
-/
namespace Go.Proofs.YtbgffmiffmmohaaGreatDoor.tree
open Go.ChangeShapes Go.WideShapes Go.ChangeAt Go.RowKit
set_option linter.unusedVariables false

def pcA (x : Int) : Int := IntKind.u64.wrap (bits BinOp.and IntKind.u64 (x / 2) 6148914691236517205 + bits BinOp.and IntKind.u64 x 6148914691236517205)
def pcB (x : Int) : Int := IntKind.u64.wrap (bits BinOp.and IntKind.u64 (x / 4) 3689348814741910323 + bits BinOp.and IntKind.u64 x 3689348814741910323)
def pcC (x : Int) : Int := bits BinOp.and IntKind.u64 (IntKind.u64.wrap (x / 16 + x)) 1085102592571150095
def pcD (x : Int) : Int := IntKind.u64.wrap (x + x / 256)
def pcE (x : Int) : Int := IntKind.u64.wrap (x + x / 65536)
def pcF (x : Int) : Int := IntKind.u64.wrap (x + x / 4294967296)
def pc (n : Nat) : Int := bits BinOp.and IntKind.i64 (wrap64 (pcF (pcE (pcD (pcC (pcB (pcA n))))))) 127
theorem ones64_i (n : Nat) (w : World) : Calls Tryz.prog 226 #[.int .u64 n] w fun e w' => e = .returned (.int .i64 (pc n)) ∧ w' = w := by
  go_enter Tryz.func226, Tryz.ntmps226
  go_wp2
  go_ret
  exact ⟨rfl, rfl⟩
theorem ones_i (n : Nat) (w : World) : Calls Tryz.prog 203 #[.int .u64 n] w fun e w' => e = .returned (.int .i64 (pc n)) ∧ w' = w := by
  obtain ⟨q, HQ⟩ : ∃ q, Hid (pc n = q) := ⟨_, Lib.hid rfl⟩
  have ON := ones64_i n
  rw [HQ.out] at ON ⊢
  go_enter Tryz.func203, Tryz.ntmps203
  go_wp2_with (fail)
  refine (ON _).mono ?_
  rintro e w1 ⟨rfl, rfl⟩
  go_wp2_with (fail)
  go_ret
  exact ⟨rfl, rfl⟩
def p2b (n : Nat) : Bool := [8, 16, 32, 64, 128, 256, 512, 1024].contains n
theorem p2b_iff (n : Nat) : p2b n = true ↔ p2 n := by simp [p2b, p2]
theorem pc_all : ((List.range 1025).all fun n => decide (n < 8) || (decide (pc n = 1) == p2b n)) = true := by kernel_rfl
theorem pc_p2 {n : Nat} (h0 : 8 ≤ n) (h1 : n ≤ 1024) : pc n = 1 ↔ p2 n := by
  have := List.all_eq_true.1 pc_all n (by simp; omega)
  rw [decide_eq_false (show ¬ n < 8 by omega), Bool.false_or, beq_iff_eq] at this
  rw [← p2b_iff, ← this, decide_eq_true_eq]
theorem and_all : ((List.range 1025).all fun n => decide (n < 8) || (decide (bits BinOp.and IntKind.i64 (n : Int) ((n : Int) - 1) = 0) == p2b n)) = true := by kernel_rfl
theorem and_p2 {n : Nat} (h0 : 8 ≤ n) (h1 : n ≤ 1024) : bits BinOp.and IntKind.i64 (n : Int) ((n : Int) - 1) = 0 ↔ p2 n := by
  have := List.all_eq_true.1 and_all n (by simp; omega)
  rw [decide_eq_false (show ¬ n < 8 by omega), Bool.false_or, beq_iff_eq] at this
  rw [← p2b_iff, ← this, decide_eq_true_eq]

def BoP (w : World) (p : Prop) (e : Ending) (w' : World) : Prop := ∃ q : Bool, e = .returned (.bool q) ∧ (q = true ↔ p) ∧ Below w.heap.size w w'
theorem BoP.of {w w' : World} {p : Prop} {q : Bool} (h : q = true ↔ p) (hb : Below w.heap.size w w') : BoP w p (.returned (.bool q)) w' := ⟨q, rfl, h, hb⟩

set_option maxHeartbeats 1000000 in
theorem rightSize_i (b : Bool) (A : Option Addr) (n c : Nat) (B : Option Addr) (m d : Nat) (x k : Int) (hn : n ≤ 1048576) (hm : m ≤ 1048576) (hx : 0 ≤ x) (w : World) :
    Calls Tryz.prog 152 #[tbV b A n c B m d x k] w (BoP w (sizeP b n m x)) := by
  cases b with
  | true =>
    obtain ⟨q, HQ⟩ : ∃ q, Hid (nums.inr n 8 1024 = q) := ⟨_, Lib.hid rfl⟩
    have IR := fun w => HQ.out ▸ nums.implInRange n 8 1024 w
    cases q with
    | false =>
      have HF : Hid (false = true ↔ sizeP true n m x) := Lib.hid ⟨fun h => (by cases h), fun h => by
        have h1 := (h.1 rfl).1
        have h2 := HQ.out
        unfold nums.inr at h2
        unfold p2 at h1
        simp at h2
        omega⟩
      go_enter Tryz.func152, Tryz.ntmps152
      go_wp2_with (fail)
      refine (IR _).mono ?_
      rintro e w1 ⟨rfl, rfl⟩
      go_wp2_with (fail)
      go_ret
      exact BoP.of HF.out (b1 _ _)
    | true =>
      have HN : Hid (8 ≤ n ∧ n ≤ 1024) := Lib.hid (by have h2 := HQ.out; unfold nums.inr at h2; simp at h2; omega)
      have ON := ones_i n
      obtain ⟨z, HZ⟩ : ∃ z, Hid (pc n = z) := ⟨_, Lib.hid rfl⟩
      rw [HZ.out] at ON
      have HP : Hid (z = 1 ↔ p2 n) := Lib.hid (HZ.out ▸ pc_p2 HN.out.1 HN.out.2)
      by_cases hz : z = 1
      · subst hz
        by_cases hmn : m ≤ n
        all_goals
          have HF : Hid (∀ q : Bool, q = decide (m ≤ n) → (q = true ↔ sizeP true n m x)) := Lib.hid (by
            rintro q rfl
            rw [decide_eq_true_eq]
            exact ⟨fun h => ⟨fun _ => ⟨HP.out.1 rfl, h⟩, fun h => by cases h⟩, fun h => (h.1 rfl).2⟩)
          go_enter Tryz.func152, Tryz.ntmps152
          go_wp2_with (fail)
          refine (IR _).mono ?_
          rintro e w1 ⟨rfl, rfl⟩
          go_wp2_with (fail)
          refine (ON _).mono ?_
          rintro e w1 ⟨rfl, rfl⟩
          go_wp2_with (fail)
          go_ret
          exact BoP.of (HF.out _ (by simp [hmn])) (b1 _ _)
      · have hz1 : (z == 1) = false := by simp [hz]
        have HF : Hid (false = true ↔ sizeP true n m x) := Lib.hid ⟨fun h => (by cases h), fun h => absurd (HP.out.2 (h.1 rfl).1) hz⟩
        clear hz
        go_enter Tryz.func152, Tryz.ntmps152
        go_wp2_with (fail)
        refine (IR _).mono ?_
        rintro e w1 ⟨rfl, rfl⟩
        go_wp2_with (fail)
        refine (ON _).mono ?_
        rintro e w1 ⟨rfl, rfl⟩
        go_wp2_with (fail)
        go_ret
        exact BoP.of HF.out (b1 _ _)
  | false =>
    by_cases h0 : n = 0
    · subst h0
      obtain ⟨z, HZ⟩ : ∃ z, Hid (nums.mn x 1024 = z) := ⟨_, Lib.hid rfl⟩
      have MI := fun w => HZ.out ▸ nums.implMin x 1024 w
      have HP : Hid ((m : Int) ≤ z ↔ sizeP false 0 m x) := Lib.hid (by
        rw [← HZ.out]
        unfold nums.mn
        constructor
        · intro h
          refine ⟨fun h => (by cases h), fun _ => ⟨rfl, ?_⟩⟩
          split at h <;> omega
        · intro h
          obtain ⟨-, h2, h3⟩ := h.2 rfl
          split <;> omega)
      by_cases hz : (m : Int) ≤ z
      all_goals
        go_enter Tryz.func152, Tryz.ntmps152
        go_wp2_with (fail)
        have e2 : (w.alloc (.cells #[.bool false, .slice A 0 c, .slice B m d, .int .i64 x, .int .i64 k] IT)).cell? ⟨w.heap.size, 2, none⟩ = some (.slice B m d) := (rowc (heap_alloc_new w _)).1 2
        have e3 : (w.alloc (.cells #[.bool false, .slice A 0 c, .slice B m d, .int .i64 x, .int .i64 k] IT)).cell? ⟨w.heap.size, 3, none⟩ = some (.int .i64 x) := (rowc (heap_alloc_new w _)).1 3
        go_region_held3 (fun w' => w'.cell? ⟨w.heap.size, 2, none⟩ = some (.slice B m d) ∧ w'.cell? ⟨w.heap.size, 3, none⟩ = some (.int .i64 x)) (first | go_keep | exact ⟨e2, e3⟩) (first | (go_at_call 111; refine (MI _).mono ?_; rintro e w1 ⟨rfl, rfl⟩))
        go_wp2_with (fail)
        go_ret
        exact BoP.of (by rw [← HP.out]; simp [hz]) (b1 _ _).drew
    · have HF : Hid (false = true ↔ sizeP false n m x) := Lib.hid ⟨fun h => (by cases h), fun h => absurd (h.2 rfl).1 h0⟩
      have h0' : ((n : Int) == 0) = false := by simp; omega
      clear h0
      go_enter Tryz.func152, Tryz.ntmps152
      go_wp2_with (fail)
      go_quiet ((fail))
      go_wp2_with (fail)
      go_ret
      exact BoP.of HF.out (bs (b1 _ _) (kbelow_drew _ _))

end Go.Proofs.YtbgffmiffmmohaaGreatDoor.tree

/-
  The laws' comparison of two tables that read alike.
  Conditions: those that each theorem names.
-/
namespace Go.Proofs.YtbgffmiffmmohaaGreatDoor.tree
open Go.ChangeShapes Go.WideShapes Go.ChangeAt Go.RowKit
set_option linter.unusedVariables false

theorem eqSlot (y : Ky) (k n : Int) (s : ByteArray) (x : Int) (A A' : Option Addr) (L c c' : Nat) (b : Bool) (l : Int) (w : World)
    (ih : ∀ w' : World, Below w.heap.size w w' → Calls Tryz.prog 33 #[vV k n s x A L c, vV k n s x A' L c'] w' (TrueQ w')) :
    Calls Tryz.prog 178 #[sV y k n s x A L c b l, sV y k n s x A' L c' b l] w (TrueQ w) := by
  obtain ⟨yb, m, ys⟩ := y
  unfold sV
  go_enter Tryz.func178, Tryz.ntmps178
  go_wp2_with (fail)
  refine (eqKey ⟨yb, m, ys⟩ _).mono ?_
  rintro e w1 ⟨rfl, hb1⟩
  obtain ⟨hc, hf⟩ := bcell hb1
  have HB := Lib.hid hb1
  clear hb1
  go_wp2_with (fail)
  refine (ih _ (bs (b2 _ _ _) HB.out)).mono ?_
  rintro e w2 ⟨rfl, hb2⟩
  obtain ⟨hc2, hf2⟩ := bcell (bs HB.out hb2)
  have HB2 := Lib.hid hb2
  clear hb2 hc hf
  go_wp2_with (fail)
  go_ret
  exact ⟨rfl, bs (bs (b2 _ _ _) HB.out) HB2.out⟩

set_option maxRecDepth 100000 in
theorem eqSlots (sl : List Sl) (hm : sl.length ≤ maxLen) (A A' : Option Addr) (c c' : Nat) (w : World) (S S' : Nat → Prop) (h : SIn w S sl A) (h' : SIn w S' sl A') :
    Calls Tryz.prog 98 #[.slice A sl.length c, .slice A' sl.length c'] w (TrueQ w) := by
  obtain ⟨L, HL⟩ : ∃ L, Hid (L = sl.length) := ⟨_, Lib.hid rfl⟩
  rw [← HL.out] at hm ⊢
  unfold maxLen at hm
  have HA := Lib.hid h
  have HA' := Lib.hid h'
  clear h h'
  go_enter Tryz.func98, Tryz.ntmps98
  go_wp2_with (fail)
  go_loopg [5] (L + 1) (fun gk i wr => ∃ j : Nat, i = .int .i64 j ∧ gk + j = L + 1 ∧ j ≤ L ∧ Below w.heap.size w wr)
  case atStart => exact ⟨0, rfl, by omega, by omega, Below.refl _ _⟩
  case round =>
    obtain ⟨j, rfl, hgj, hjL, hb⟩ := hrel
    have HB := Lib.hid hb
    clear hb
    by_cases hlt : j < L
    · obtain ⟨t, ht⟩ : ∃ t, sl[j]? = some t := ⟨_, List.getElem?_eq_getElem (by rw [← HL.out]; exact hlt)⟩
      obtain ⟨a, k, n, s, x, ks', vs', A1, c1, rfl, -, hk, hl, hv, hT, hcell⟩ := HA.out.below HB.out j t ht
      obtain ⟨a', k', n', s', x', ks2, vs2, A2, c2, rfl, -, -, -, hv', hT', hcell'⟩ := HA'.out.below HB.out j t ht
      obtain ⟨y, tv, lb, ll⟩ := t
      simp only at hk hl hv hT hcell hv' hT' hcell'
      subst hv
      obtain ⟨rfl, rfl, rfl, rfl, rfl, rfl⟩ : k = k' ∧ n = n' ∧ s = s' ∧ x = x' ∧ ks' = ks2 ∧ vs' = vs2 := by simpa using hv'
      have ihj : ∀ w', Below wr.heap.size wr w' → Calls Tryz.prog 33 #[vV k n s x A1 vs'.length c1, vV k n s x A2 vs'.length c2] w' (TrueQ w') := fun w' hb' => eqV _ w' S S' _ _ (hT.below' hb') (hT'.below' hb')
      clear ht hT hT' hv' hk hl
      obtain ⟨p0, p1, p2, p3, p4, p5, p6, p7, p8, p9⟩ := hcell
      obtain ⟨q0, q1, q2, q3, q4, q5, q6, q7, q8, q9⟩ := hcell'
      go_wp2_with (fail)
      go_region_with ((go_at_call 178; refine (eqSlot y k n s x A1 A2 vs'.length c1 c2 lb ll _ ?_).mono ?_; exact fun w' hb' => ihj w' (((Below.refl wr.heap.size wr).drew).trans hb'); rintro e w1 ⟨rfl, hb1⟩; have HB1 := Lib.hid hb1; clear hb1))
      all_goals
        go_wp2_with (fail)
        go_roundg (L - j)
        case rel => exact ⟨j + 1, by go_num, by omega, by omega, bs (bs HB.out ((Below.refl _ _).drew)) HB1.out⟩
        case measure => omega
    · go_wp2_with (fail)
      go_ret
      exact ⟨rfl, HB.out⟩

/-- Two tables that read alike are equal. -/
theorem eqTable {l : List Int} {sl : List Sl} {b : Bool} {A A' : Option Addr} {n c c' : Nat} {B B' : Option Addr} {m d d' : Nat} {x k : Int} {w : World} {S S' : Nat → Prop} (h : TbIn w S l sl A n c B m d x k) (h' : TbIn w S' l sl A' n c' B' m d' x k) (hn : n ≤ 17592186044416) :
    Calls Tryz.prog 32 #[tbV b A n c B m d x k, tbV b A' n c' B' m d' x k] w (TrueQ w) := by
  obtain ⟨hh, -, rfl, hcap, hS, -, -⟩ := h
  obtain ⟨hh', -, -, hcap', hS', -, -⟩ := h'
  have Z1 := fun w' (hb : Below w.heap.size w w') => ints.eqInts A A' n c c' l hn w' (hh.below hb) (hh'.below hb)
  have Z2 := fun w' (hb : Below w.heap.size w w') => eqSlots sl (Nat.le_trans hcap.1 hcap.2) B B' d d' w' S S' (hS.below hb) (hS'.below hb)
  obtain ⟨m, HM⟩ : ∃ m, Hid (sl.length = m) := ⟨_, Lib.hid rfl⟩
  rw [HM.out] at Z2 ⊢
  have HZ1 := Lib.hid Z1
  have HZ2 := Lib.hid Z2
  clear Z1 Z2 hh hh' hcap hcap' hS hS' hn
  go_enter Tryz.func32, Tryz.ntmps32
  go_wp2_with (fail)
  refine (HZ1.out _ (b2 _ _ _)).mono ?_
  rintro e w1 ⟨rfl, hg1⟩
  have hb1 := mem.below_of_none hg1
  obtain ⟨hc, hf⟩ := bcell hb1
  have HB := Lib.hid (bs (b2 w _ _) hb1)
  clear hg1
  have HB1 := Lib.hid hb1
  clear hb1
  go_wp2_with (fail)
  refine (HZ2.out _ HB.out).mono ?_
  rintro e w2 ⟨rfl, hb2⟩
  obtain ⟨hc2, hf2⟩ := bcell (bs HB1.out hb2)
  have HB2 := Lib.hid (bs HB.out hb2)
  clear hb2 hc hf
  go_wp2_with (fail)
  go_ret
  exact ⟨rfl, HB2.out⟩

end Go.Proofs.YtbgffmiffmmohaaGreatDoor.tree

/-
  The laws' comparison of two heaps that read alike.
  Conditions: those that each theorem names.
-/
namespace Go.Proofs.YtbgffmiffmmohaaGreatDoor.tree
open Go.ChangeShapes Go.WideShapes Go.ChangeAt Go.RowKit
set_option linter.unusedVariables false

set_option maxRecDepth 100000 in
theorem eqBlock {l : List Int} {sl : List Sl} (rf : Int) (b : Bool) {A A' : Option Addr} {n c c' : Nat} {B B' : Option Addr} {m d d' : Nat} {x k : Int} {w : World} {S S' : Nat → Prop} (h : TbIn w S l sl A n c B m d x k) (h' : TbIn w S' l sl A' n c' B' m d' x k) (hn : n ≤ 17592186044416) (w1 : World) (hb : Below w.heap.size w w1) :
    Calls Tryz.prog 190 #[bkV rf b A n c B m d x k, bkV rf b A' n c' B' m d' x k] w1 (TrueQ w1) := by
  have Z := Lib.hid (fun w' (hb : Below w.heap.size w w') => eqTable (b := b) (h.below hb) (h'.below hb) hn)
  have HB0 := Lib.hid hb
  clear h h' hn hb
  go_enter Tryz.func190, Tryz.ntmps190
  go_wp2_with (fail)
  refine (Z.out _ (bs HB0.out (b2 w1 _ _))).mono ?_
  rintro e w2 ⟨rfl, hb2⟩
  have HB := Lib.hid (bs (b2 w1 _ _) hb2)
  clear hb2
  go_wp2_with (fail)
  go_ret
  exact ⟨rfl, HB.out⟩

set_option maxHeartbeats 1600000 in
set_option maxRecDepth 100000 in
theorem eqBlocks (bl : List Bk) (hm : bl.length ≤ maxLen) (hh : ∀ k ∈ bl, k.heads.length ≤ 17592186044416) (A A' : Option Addr) (c c' : Nat) (w : World) (S S' : Nat → Prop) (h : HIn w S bl A) (h' : HIn w S' bl A') :
    Calls Tryz.prog 123 #[.slice A bl.length c, .slice A' bl.length c'] w (TrueQ w) := by
  obtain ⟨L, HL⟩ : ∃ L, Hid (L = bl.length) := ⟨_, Lib.hid rfl⟩
  rw [← HL.out] at hm ⊢
  unfold maxLen at hm
  have HA := Lib.hid h
  have HA' := Lib.hid h'
  have HHN := Lib.hid hh
  clear h h' hh
  go_enter Tryz.func123, Tryz.ntmps123
  go_wp2_with (fail)
  go_loopg [5] (L + 1) (fun gk i wr => ∃ j : Nat, i = .int .i64 j ∧ gk + j = L + 1 ∧ j ≤ L ∧ Below w.heap.size w wr)
  case atStart => exact ⟨0, rfl, by omega, by omega, Below.refl _ _⟩
  case round =>
    obtain ⟨j, rfl, hgj, hjL, hb⟩ := hrel
    have HB := Lib.hid hb
    clear hb
    by_cases hlt : j < L
    · obtain ⟨k, hk⟩ : ∃ k, bl[j]? = some k := ⟨_, List.getElem?_eq_getElem (by rw [← HL.out]; exact hlt)⟩
      have hhn := HHN.out k (List.mem_of_getElem? hk)
      obtain ⟨a, A1, n, c1, B1, m, d1, rfl, -, -, hT, hcell⟩ := HA.out.below HB.out j k hk
      obtain ⟨a', A2, n2, c2, B2, m2, d2, rfl, -, -, hT', hcell'⟩ := HA'.out.below HB.out j k hk
      obtain rfl : n = n2 := by rw [← hT.heads.len, ← hT'.heads.len]
      obtain rfl : m = m2 := by rw [← hT.len, ← hT'.len]
      rw [hT.heads.len] at hhn
      obtain ⟨rf, hs, l, sl, x, ct⟩ := k
      simp only at hT hcell hT' hcell'
      have Z : Hid (∀ w', Below wr.heap.size wr w' → Calls Tryz.prog 190 #[bkV rf hs A1 n c1 B1 m d1 x ct, bkV rf hs A2 n c2 B2 m d2 x ct] w' (TrueQ w')) := Lib.hid (fun w' hb' => eqBlock rf hs hT hT' hhn w' hb')
      obtain ⟨p0, p1, p2, p3, p4, p5⟩ := hcell
      obtain ⟨q0, q1, q2, q3, q4, q5⟩ := hcell'
      clear hk hT hT' hhn
      go_wp2_with (fail)
      go_region_with ((go_at_call 190; refine (Z.out _ ?_).mono ?_; exact ((Below.refl wr.heap.size wr).drew); rintro e w1 ⟨rfl, hb1⟩; have HB1 := Lib.hid hb1; clear hb1))
      all_goals
        go_wp2_with (fail)
        go_roundg (L - j)
        case rel => exact ⟨j + 1, by go_num, by omega, by omega, bs (bs HB.out ((Below.refl _ _).drew)) HB1.out⟩
        case measure => omega
    · go_wp2_with (fail)
      go_ret
      exact ⟨rfl, HB.out⟩

/-- Two heaps that read alike are equal. -/
theorem eqHeap (bl : List Bk) (hm : bl.length ≤ maxLen) (hh : ∀ k ∈ bl, k.heads.length ≤ 17592186044416) (A A' : Option Addr) (c c' : Nat) (w : World) (S S' : Nat → Prop) (h : HIn w S bl A) (h' : HIn w S' bl A') :
    Calls Tryz.prog 48 #[hpV A bl.length c, hpV A' bl.length c'] w (TrueQ w) := by
  have Z : Hid (∀ w', Below w.heap.size w w' → Calls Tryz.prog 123 #[.slice A bl.length c, .slice A' bl.length c'] w' (TrueQ w')) := Lib.hid (fun w' hb => eqBlocks bl hm hh A A' c c' w' S S' (h.below hb) (h'.below hb))
  obtain ⟨L, HL⟩ : ∃ L, Hid (bl.length = L) := ⟨_, Lib.hid rfl⟩
  rw [HL.out] at Z ⊢
  clear h h' hm hh
  go_enter Tryz.func48, Tryz.ntmps48
  go_wp2_with (fail)
  refine (Z.out _ (by first | exact b2 w _ _ | exact Below.refl _ _)).mono ?_
  rintro e w1 ⟨rfl, hb1⟩
  have HB : Hid (Below w.heap.size w w1) := Lib.hid (by first | exact hb1 | exact bs (b2 w _ _) hb1)
  clear hb1
  go_wp2_with (fail)
  go_ret
  exact ⟨rfl, HB.out⟩

end Go.Proofs.YtbgffmiffmmohaaGreatDoor.tree

