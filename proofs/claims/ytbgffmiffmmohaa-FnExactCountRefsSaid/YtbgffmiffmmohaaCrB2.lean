/-
  What the texts behind this one use: 10 parts of one proof.
  Conditions: those that each theorem names.
-/
import Derived.Test.YtbgffmiffmmohaaCrB1
import Derived.Test.YtbgffmiffmmohaaCrSTreeEq
/-
  Tables: the slots of a table that came in, as a list; how they lie in memory.
  Conditions: those that each theorem names.
-/
namespace Go.Proofs.Ytbgffmiffmmohaa.tree
open Go.ChangeShapes Go.WideShapes Go.ChangeAt Go.RowKit Go.Deep
set_option linter.unusedVariables false

structure Sl where
  key : Ky
  val : Tr
  live : Bool
  link : Int

/-- The ten cells of a slot at q. -/
structure At10 (w : World) (q : Addr) (y : Ky) (k n : Int) (s : ByteArray) (x : Int) (A : Option Addr) (L c : Nat) (b : Bool) (l : Int) : Prop where
  c0 : w.cell? q = some (.bool y.text)
  c1 : w.cell? ⟨q.block, q.off + 1, none⟩ = some (.int .i64 y.num)
  c2 : w.cell? ⟨q.block, q.off + 2, none⟩ = some (.string y.str)
  c3 : w.cell? ⟨q.block, q.off + 3, none⟩ = some (.int .i64 k)
  c4 : w.cell? ⟨q.block, q.off + 4, none⟩ = some (.int .i64 n)
  c5 : w.cell? ⟨q.block, q.off + 5, none⟩ = some (.string s)
  c6 : w.cell? ⟨q.block, q.off + 6, none⟩ = some (.int .i64 x)
  c7 : w.cell? ⟨q.block, q.off + 7, none⟩ = some (.slice A L c)
  c8 : w.cell? ⟨q.block, q.off + 8, none⟩ = some (.bool b)
  c9 : w.cell? ⟨q.block, q.off + 9, none⟩ = some (.int .i64 l)
theorem At10.stays {w w' : World} {q : Addr} {y : Ky} {k n x l : Int} {s : ByteArray} {A : Option Addr} {L c : Nat} {b : Bool} (hb : q.block < w.heap.size → w'.heap[q.block]? = w.heap[q.block]?) (h : At10 w q y k n s x A L c b l) : At10 w' q y k n s x A L c b l :=
  ⟨cell_stays hb h.c0, cell_stays hb h.c1, cell_stays hb h.c2, cell_stays hb h.c3, cell_stays hb h.c4, cell_stays hb h.c5, cell_stays hb h.c6, cell_stays hb h.c7, cell_stays hb h.c8, cell_stays hb h.c9⟩

/-- The slots at A. -/
def SIn (w : World) (S : Nat → Prop) (sl : List Sl) (A : Option Addr) : Prop :=
  ∀ i t, sl[i]? = some t → ∃ a k n s x ks vs A' c', A = some a ∧ S a.block ∧ (I64 t.key.num ∧ t.key.str.size ≤ maxLen) ∧ I64 t.link ∧ t.val = .mk k n s x ks vs ∧ TIn w S t.val (vV k n s x A' vs.length c') ∧ At10 w (a.add (i * 10)) t.key k n s x A' vs.length c' t.live t.link
theorem SIn.stays {w w' : World} {S S' : Nat → Prop} (hS : ∀ b, S b → S' b) (hb : ∀ b, S b → b < w.heap.size → w'.heap[b]? = w.heap[b]?) {sl : List Sl} {A : Option Addr} (h : SIn w S sl A) : SIn w' S' sl A := fun i t ht => by
  obtain ⟨a, k, n, s, x, ks, vs, A', c', e, hSa, hk, hl, hv, hT, hc⟩ := h i t ht
  exact ⟨a, k, n, s, x, ks, vs, A', c', e, hS _ hSa, hk, hl, hv, hT.stays hS hb, hc.stays (fun hlt => hb _ (by rw [mem.add_block]; exact hSa) hlt)⟩
theorem SIn.below {w w' : World} (hb : Below w.heap.size w w') {S : Nat → Prop} {sl : List Sl} {A : Option Addr} (h : SIn w S sl A) : SIn w' S sl A := h.stays (fun _ h => h) (fun b _ hlt => hb.block b hlt)

section
variable {H : Type} {enc : TypeId × Value → H} {P : Program} {w : World} {base : Nat} {spare : Nat → Bool} {held : Bool}
structure TypesS (P : Program) (tSS tSl tK tV : TypeId) : Prop where
  slots : P.underlying tSS = some (.slice tSl)
  slot : ∃ g0 g1 g2 g3 : Field, P.underlying tSl = some (.struct #[g0, g1, g2, g3]) ∧ g0.type = tK ∧ g1.type = tV ∧ P.underlying g2.type = some .bool ∧ P.underlying g3.type = some (.int .i64) ∧ g0.offset = 0 ∧ g1.offset = 3 ∧ g2.offset = 8 ∧ g3.offset = 9 ∧ P.cellsOf g2.type = 1 ∧ P.cellsOf g3.type = 1
  cS : P.cellsOf tSl = 10

theorem open_slots {tV tE tK tS tSS tSl : TypeId} (T : Types P tV tE tK tS) (TS : TypesS P tSS tSl tK tV) {fuel : Nat} {c0 : Value} {x : DataW H × List MemPlace} (h : DataW.trod enc P w base spare held fuel tSS [c0] = some x) :
    ∃ A n c sl, c0 = .slice A n c ∧ List.length sl = n ∧ (n ≤ c ∧ c ≤ maxLen) ∧ SIn w (fun _ => True) sl A := by
  rcases DataW.trod_slice TS.slots h with ⟨hc4, _⟩ | ⟨a, len, cap, elems, rest, m, hfm, hc4, _, hbs, hlc, hcm, hel, hat, _⟩
  · simp at hc4
    subst hc4
    exact ⟨none, 0, 0, [], rfl, rfl, ⟨Nat.le_refl _, Nat.zero_le _⟩, fun i t ht => by simp at ht⟩
  · simp at hc4
    subst hc4
    have each : ∀ i, i < len → ∃ t : Sl, ∃ k n s x ks vs A' c', (I64 t.key.num ∧ t.key.str.size ≤ maxLen) ∧ I64 t.link ∧ t.val = .mk k n s x ks vs ∧ TIn w (fun _ => True) t.val (vV k n s x A' vs.length c') ∧ At10 w (a.add (i * 10)) t.key k n s x A' vs.length c' t.live t.link := by
      intro i hi
      have hi2 := hat i hi
      rw [List.getElem?_eq_getElem (by omega)] at hi2
      obtain ⟨cs', hcs, htr⟩ := Option.bind_eq_some_iff.1 hi2
      rw [TS.cS] at hcs
      obtain ⟨_, hcl, hcat⟩ := World.cells?_some hcs
      obtain ⟨g0, g1, g2, g3, hue, hg0, hg1, hg2, hg3, q0, q1, q2, q3, z2, z3⟩ := TS.slot
      obtain ⟨ys, n2, hn2, hy, hl2, hyl, hall2⟩ := DataW.trod_struct hue htr
      have hyl4 : ys.length = 4 := hyl
      match cs', hcl with
      | [d0, d1, d2, d3, d4, d5, d6, d7, d8, d9], _ =>
        have r0 := hall2 0 g0 rfl
        have r1 := hall2 1 g1 rfl
        have r2 := hall2 2 g2 rfl
        have r3 := hall2 3 g3 rfl
        rw [hg0, q0, T.cK] at r0
        rw [hg1, q1, T.cV] at r1
        rw [q2, z2] at r2
        rw [q3, z3] at r3
        obtain ⟨y, hk3, hkn, hks⟩ := open_key T (r0.trans (List.getElem?_eq_getElem (by omega)))
        obtain ⟨t, ht⟩ := open_tree T n2 _ _ (r1.trans (List.getElem?_eq_getElem (by omega)))
        obtain ⟨b, hb, _⟩ := DataW.trod_bool hg2 (r2.trans (List.getElem?_eq_getElem (by omega)))
        obtain ⟨l, hlk, _, hlw⟩ := DataW.trod_int hg3 (r3.trans (List.getElem?_eq_getElem (by omega)))
        simp at hk3 hb hlk
        obtain ⟨rfl, rfl, rfl⟩ := hk3
        subst hb hlk
        obtain ⟨k, n, s, x, ks, vs⟩ := t
        obtain ⟨A', c', e, -, -⟩ := ht.out
        have e' : d3 = .int .i64 k ∧ d4 = .int .i64 n ∧ d5 = .string s ∧ d6 = .int .i64 x ∧ d7 = .slice A' vs.length c' := by simpa using e
        obtain ⟨rfl, rfl, rfl, rfl, rfl⟩ := e'
        have at' : ∀ j, j < 10 → w.cell? (a.add (i * 10 + j)) = ([.bool y.text, .int .i64 y.num, .string y.str, .int .i64 k, .int .i64 n, .string s, .int .i64 x, .slice A' vs.length c', .bool b, .int .i64 l] : List Value)[j]? := fun j hj => by
          have := hcat j hj
          rwa [add_add'] at this
        have sp : ∀ j, j ≠ 0 → a.add (i * 10 + j) = ⟨(a.add (i * 10)).block, (a.add (i * 10)).off + j, none⟩ := fun j hj => by rw [← add_add', add_pos _ _ hj]
        have at2 : ∀ j, j ≠ 0 → j < 10 → w.cell? ⟨(a.add (i * 10)).block, (a.add (i * 10)).off + j, none⟩ = _ := fun j h0 hj => (congrArg w.cell? (sp j h0)).symm.trans (at' j hj)
        exact ⟨⟨y, .mk k n s x ks vs, b, l⟩, k, n, s, x, ks, vs, A', c', ⟨hkn, hks⟩, wf_i64 hlw, rfl, ht, ⟨at' 0 (by omega), at2 1 (by omega) (by omega), at2 2 (by omega) (by omega), at2 3 (by omega) (by omega), at2 4 (by omega) (by omega), at2 5 (by omega) (by omega), at2 6 (by omega) (by omega), at2 7 (by omega) (by omega), at2 8 (by omega) (by omega), at2 9 (by omega) (by omega)⟩⟩
    refine ⟨some a, len, cap, (List.range len).map (fun i => if hi : i < len then (each i hi).choose else ⟨⟨false, 0, ⟨#[]⟩⟩, .mk 0 0 ⟨#[]⟩ 0 [] [], false, 0⟩), rfl, by simp, ⟨hlc, hcm⟩, fun i t ht => ?_⟩
    rw [List.getElem?_map] at ht
    obtain ⟨i', hi', rfl⟩ := Option.map_eq_some_iff.1 ht
    have hil : i < len := by
      have := (List.getElem?_eq_some_iff.1 hi').1
      simpa using this
    rw [List.getElem?_range hil] at hi'
    obtain rfl := Option.some.inj hi'
    simp only [dif_pos hil]
    obtain ⟨k, n, s, x, ks, vs, A', c', h⟩ := (each i hil).choose_spec
    exact ⟨a, k, n, s, x, ks, vs, A', c', rfl, trivial, h⟩

structure TypesT (P : Program) (tT tI tE tSS : TypeId) : Prop where
  table : ∃ f0 f1 f2 f3 f4 : Field, P.underlying tT = some (.struct #[f0, f1, f2, f3, f4]) ∧ P.underlying f0.type = some .bool ∧ f1.type = tI ∧ f2.type = tSS ∧ P.underlying f3.type = some (.int .i64) ∧ P.underlying f4.type = some (.int .i64) ∧ oneCellFields P #[f0, f1, f2, f3, f4] = true
  heads : P.underlying tI = some (.slice tE)
  elem : P.underlying tE = some (.int .i64)
  cE : P.cellsOf tE = 1
  cT : P.cellsOf tT = 5
end

/-- A table, written out. -/
abbrev tbV (b : Bool) (A : Option Addr) (n c : Nat) (B : Option Addr) (m d : Nat) (x k : Int) : Value := .agg #[.bool b, .slice A n c, .slice B m d, .int .i64 x, .int .i64 k]
/-- A table that reads as its heads and slots. -/
structure TbIn (w : World) (S : Nat → Prop) (l : List Int) (sl : List Sl) (A : Option Addr) (n c : Nat) (B : Option Addr) (m d : Nat) (x k : Int) : Prop where
  heads : imem.RdI w A n l
  hn : n ≤ maxLen
  len : sl.length = m
  cap : m ≤ d ∧ d ≤ maxLen
  slots : SIn w S sl B
  next : I64 x
  count : I64 k

section
variable {H : Type} {enc : TypeId × Value → H} {P : Program} {w : World}
theorem open_tab {tV tE tK tS tSS tSl tT tI tIE : TypeId} (T : Types P tV tE tK tS) (TS : TypesS P tSS tSl tK tV) (TT : TypesT P tT tI tIE tSS) {fuel : Nat} {cs : List Value} {x : DataW H × List MemPlace} (h : DataW.trod enc P w 0 (fun _ => true) true fuel tT cs = some x) :
    ∃ b A n c B m d nx ct l sl, Value.agg cs.toArray = tbV b A n c B m d nx ct ∧ TbIn w (fun _ => True) l sl A n c B m d nx ct := by
  obtain ⟨f0, f1, f2, f3, f4, hu, h0, h1, h2, h3, h4, hone⟩ := TT.table
  obtain ⟨xs, n, hn, hx, hl, hxl, hall⟩ := DataW.trod_struct hu h
  rw [TT.cT] at hl
  match cs, hl with
  | [c0, c1, c2, c3, c4], _ =>
    obtain ⟨o0, k0⟩ := hone_of hone 0 f0 rfl
    obtain ⟨o1, k1⟩ := hone_of hone 1 f1 rfl
    obtain ⟨o2, k2⟩ := hone_of hone 2 f2 rfl
    obtain ⟨o3, k3⟩ := hone_of hone 3 f3 rfl
    obtain ⟨o4, k4⟩ := hone_of hone 4 f4 rfl
    have hxl5 : xs.length = 5 := hxl
    have e0 := hall 0 f0 rfl
    have e1 := hall 1 f1 rfl
    have e2 := hall 2 f2 rfl
    have e3 := hall 3 f3 rfl
    have e4 := hall 4 f4 rfl
    rw [one_of k0 o0 (by simp)] at e0
    rw [one_of k1 o1 (by simp)] at e1
    rw [one_of k2 o2 (by simp)] at e2
    rw [one_of k3 o3 (by simp)] at e3
    rw [one_of k4 o4 (by simp)] at e4
    obtain ⟨b, hb, _⟩ := DataW.trod_bool h0 (e0.trans (List.getElem?_eq_getElem (by omega)))
    obtain ⟨nx, hnx, _, hw3⟩ := DataW.trod_int h3 (e3.trans (List.getElem?_eq_getElem (by omega)))
    obtain ⟨ct, hct, _, hw4⟩ := DataW.trod_int h4 (e4.trans (List.getElem?_eq_getElem (by omega)))
    rw [h2] at e2
    obtain ⟨B, m, d, sl, hB, hsl, hcap, hS⟩ := open_slots T TS (e2.trans (List.getElem?_eq_getElem (by omega)))
    rw [h1] at e1
    simp at hb hnx hct hB
    subst hb hnx hct hB
    rcases open_ints TT.heads TT.elem TT.cE (e1.trans (List.getElem?_eq_getElem (by omega))) with ⟨hc1, _⟩ | ⟨a, len, cap, zs, hc1, _, hlc, hm, hz, _, hcell, hwz⟩
    · simp at hc1
      subst hc1
      exact ⟨b, none, 0, 0, B, m, d, nx, ct, [], sl, rfl, ⟨⟨rfl, fun hn => absurd hn (by omega)⟩, Nat.zero_le _, hsl, hcap, hS, wf_i64 hw3, wf_i64 hw4⟩⟩
    · simp at hc1
      subst hc1
      simp only [if_true] at hz
      refine ⟨b, some a, len, cap, B, m, d, nx, ct, zs.take len, sl, rfl, ⟨⟨by rw [List.length_take]; omega, fun hn => ⟨a, rfl, fun j x hx => ?_⟩⟩, by omega, hsl, hcap, hS, wf_i64 hw3, wf_i64 hw4⟩⟩
      have hj : j < len := by
        have := (List.getElem?_eq_some_iff.1 hx).1
        rw [List.length_take] at this
        omega
      rw [List.getElem?_take, if_pos hj] at hx
      have hcj := hcell j (by omega)
      rw [hcj]
      simp [List.getD, hx]
end

abbrev LT : TypeId := 68
theorem typesS : TypesS Try.prog 66 104 LK LV where
  slots := Try.underlying66
  slot := ⟨_, _, _, _, Try.underlying104, by kernel_rfl, by kernel_rfl, by kernel_rfl, by kernel_rfl, by kernel_rfl, by kernel_rfl, by kernel_rfl, by kernel_rfl, by kernel_rfl, by kernel_rfl⟩
  cS := by kernel_rfl
theorem typesT : TypesT Try.prog LT 28 3 66 where
  table := ⟨_, _, _, _, _, Try.underlying68, by kernel_rfl, by kernel_rfl, by kernel_rfl, by kernel_rfl, by kernel_rfl, by kernel_rfl⟩
  heads := Try.underlying28
  elem := Try.underlying3
  cE := by kernel_rfl
  cT := by kernel_rfl

set_option maxRecDepth 100000 in
theorem open_table {H : Type} {enc : TypeId × Value → H} {W : World} {base : Nat} {v : Value} {d : DataW H} {ps : List MemPlace} (hval : Value.okWide Try.prog W .any base LT v) (h : DataW.Trod enc Try.prog W 0 (fun _ => true) true LT v d ps) :
    ∃ b A n c B m d nx ct l sl, v = tbV b A n c B m d nx ct ∧ TbIn W (fun _ => True) l sl A n c B m d nx ct := by
  obtain ⟨cs, rfl, hsz⟩ := okWide_struct Try.underlying68 hval
  obtain ⟨fuel, hf⟩ := h
  exact open_tab opt.types typesS typesT hf

end Go.Proofs.Ytbgffmiffmmohaa.tree

/-
  The laws' size of a value, and how many values a tree holds.
  Conditions: those that each theorem names.
-/
namespace Go.Proofs.Ytbgffmiffmmohaa.tree
open Go.ChangeShapes Go.WideShapes Go.ChangeAt Go.RowKit
set_option linter.unusedVariables false

mutual
/-- Letters and items, all that is in a value. -/
def tot : Tr → Nat
  | .mk _ _ s _ ks vs => s.size + (vs.length + tots ks vs)
def tots : List Ky → List Tr → Nat
  | y :: ks, t :: vs => y.str.size + tot t + tots ks vs
  | _, _ => 0
end
mutual
/-- How many values a tree is. -/
def cnt : Tr → Nat
  | .mk _ _ _ _ _ vs => 1 + cnts vs
def cnts : List Tr → Nat
  | [] => 0
  | t :: vs => cnt t + cnts vs
end
mutual
/-- Each item has its key. -/
def fits : Tr → Prop
  | .mk _ _ _ _ ks vs => ks.length = vs.length ∧ fitss vs
def fitss : List Tr → Prop
  | [] => True
  | t :: vs => fits t ∧ fitss vs
end
theorem tots_cons (y : Ky) (ks : List Ky) (t : Tr) (vs : List Tr) : tots (y :: ks) (t :: vs) = y.str.size + tot t + tots ks vs := by rw [tots]
theorem tots_drop {ks : List Ky} {vs : List Tr} {j : Nat} {y : Ky} {t : Tr} (hk : ks[j]? = some y) (hv : vs[j]? = some t) : tots (ks.drop j) (vs.drop j) = y.str.size + tot t + tots (ks.drop (j + 1)) (vs.drop (j + 1)) := by
  obtain ⟨hj, rfl⟩ := List.getElem?_eq_some_iff.1 hk
  obtain ⟨hj', rfl⟩ := List.getElem?_eq_some_iff.1 hv
  rw [List.drop_eq_getElem_cons hj, List.drop_eq_getElem_cons hj', tots_cons]
theorem fitss_of : ∀ {vs : List Tr}, (∀ t ∈ vs, fits t) → fitss vs
  | [], _ => by rw [fitss]; trivial
  | t :: vs, h => by rw [fitss]; exact ⟨h t (by simp), fitss_of fun u hu => h u (by simp [hu])⟩
theorem TIn.fits {w : World} {S : Nat → Prop} {t : Tr} {v : Value} (h : TIn w S t v) : fits t := by
  induction h with
  | mk k n s x ks vs A cap C hk hl hm hcap hc ht ih =>
    rw [tree.fits]
    refine ⟨hl, fitss_of fun t h => ?_⟩
    obtain ⟨i, hi, rfl⟩ := List.mem_iff_getElem.1 h
    exact ih i hi
mutual
theorem cnt_tot : ∀ t, fits t → cnt t ≤ tot t + 1
  | .mk _ _ s _ ks vs, h => by
    rw [fits] at h
    have := cnts_tots ks vs h.1 h.2
    rw [cnt, tot]
    omega
theorem cnts_tots : ∀ (ks : List Ky) (vs : List Tr), ks.length = vs.length → fitss vs → cnts vs ≤ vs.length + tots ks vs
  | _, [], _, _ => by simp [cnts]
  | [], t :: vs, h, _ => by simp at h
  | y :: ks, t :: vs, h, hf => by
    rw [fitss] at hf
    have h1 := cnt_tot t hf.1
    have h2 := cnts_tots ks vs (by simpa using h) hf.2
    rw [cnts, tots, List.length_cons]
    omega
end

def SzOk (left : Int) (T : Nat) (r : Int) : Prop := -1 ≤ r ∧ r ≤ left ∧ (0 ≤ r → r + T = left)
def SzQ (left : Int) (T : Nat) (w : World) (e : Ending) (w' : World) : Prop := ∃ r : Int, e = .returned (.int .i64 r) ∧ SzOk left T r ∧ Below w.heap.size w w'

theorem szKey (y : Ky) (hy : y.str.size ≤ maxLen) (left : Int) (h0 : 0 ≤ left) (h1 : left ≤ 1048576) (w : World) :
    Calls Try.prog 47 #[kyV y, .int .i64 left] w (SzQ left y.str.size w) := by
  obtain ⟨b, n, s⟩ := y
  replace hy : s.size ≤ maxLen := hy
  show Calls _ _ _ _ (SzQ left s.size w)
  unfold kyV
  unfold maxLen at hy
  by_cases hlt : left - s.size < 0
  · go_enter Try.func47, Try.ntmps47
    go_wp2
    go_ret
    exact ⟨-1, rfl, ⟨by omega, by omega, fun h => by omega⟩, b1 _ _⟩
  · have hge : ¬ (left < s.size) := by omega
    go_enter Try.func47, Try.ntmps47
    go_wp2
    go_ret
    exact ⟨left - s.size, rfl, ⟨by omega, by omega, fun h => by omega⟩, b1 _ _⟩

def SzV (t : Tr) : Prop := ∀ (w : World) (S : Nat → Prop) (v : Value), TIn w S t v → ∀ left : Int, 0 ≤ left → left ≤ 1048576 → Calls Try.prog 18 #[v, .int .i64 left] w (SzQ left (tot t) w)

theorem szEntry (y : Ky) (hy : y.str.size ≤ maxLen) (k n : Int) (s : ByteArray) (x : Int) (A : Option Addr) (L c : Nat) (T : Nat) (left : Int) (h0 : 0 ≤ left) (h1 : left ≤ 1048576) (w : World)
    (ih : ∀ (w' : World) (left' : Int), Below w.heap.size w w' → 0 ≤ left' → left' ≤ 1048576 → Calls Try.prog 18 #[vV k n s x A L c, .int .i64 left'] w' (SzQ left' T w')) :
    Calls Try.prog 39 #[eV y k n s x A L c, .int .i64 left] w (SzQ left (y.str.size + T) w) := by
  obtain ⟨b, m, ys⟩ := y
  have K := szKey ⟨b, m, ys⟩ hy left h0 h1
  show Calls _ _ _ _ (SzQ left (ys.size + T) w)
  replace K : ∀ w, Calls Try.prog 47 #[kyV ⟨b, m, ys⟩, .int .i64 left] w (SzQ left ys.size w) := K
  unfold eV
  go_enter Try.func39, Try.ntmps39
  go_wp2_with (fail)
  refine (K _).mono ?_
  rintro e w1 ⟨r, rfl, ⟨hr1, hr2, hr3⟩, hb1⟩
  obtain ⟨hc, hf⟩ := bcell hb1
  have HB := Lib.hid hb1
  have HR := Lib.hid hr3
  clear hb1 hr3
  by_cases hr : r < 0
  · go_wp2_with (fail)
    go_ret
    exact ⟨-1, rfl, ⟨by omega, by omega, fun h => by omega⟩, bs (b1 _ _) HB.out⟩
  · have hr0 : 0 ≤ r := by omega
    go_wp2_with (fail)
    refine (ih _ r (bs (b1 _ _) HB.out) hr0 (by omega)).mono ?_
    rintro e w2 ⟨r2, rfl, ⟨hs1, hs2, hs3⟩, hb2⟩
    have HB2 := Lib.hid hb2
    have HR2 := Lib.hid hs3
    clear hb2 hs3
    by_cases hq : r2 < 0
    · go_wp2_with (fail)
      go_ret
      exact ⟨-1, rfl, ⟨by omega, by omega, fun h => by omega⟩, bs (bs (b1 _ _) HB.out) HB2.out⟩
    · have hq0 : 0 ≤ r2 := by omega
      go_wp2_with (fail)
      go_ret
      refine ⟨r2, rfl, ⟨by omega, by omega, fun h => ?_⟩, bs (bs (b1 _ _) HB.out) HB2.out⟩
      have a1 := HR.out hr0
      have a2 := HR2.out h
      omega

theorem szItems (ks : List Ky) (vs : List Tr) (ih : ∀ t ∈ vs, SzV t) (A : Option Addr) (c : Nat) (w : World) (S : Nat → Prop) (h : IsIn w S ks vs A) (left : Int) (h0 : 0 ≤ left) (h1 : left ≤ 1048576) :
    Calls Try.prog 30 #[.slice A vs.length c, .int .i64 left] w (SzQ left (vs.length + tots ks vs) w) := by
  obtain ⟨L, HL⟩ : ∃ L, Hid (L = vs.length) := ⟨_, Lib.hid rfl⟩
  have hm : L ≤ maxLen := by rw [HL.out]; exact h.2.1
  unfold maxLen at hm
  rw [← HL.out]
  by_cases hlt : left - L < 0
  · go_enter Try.func30, Try.ntmps30
    go_wp2_with (fail)
    go_ret
    exact ⟨-1, rfl, ⟨by omega, by omega, fun h => by omega⟩, Below.refl _ _⟩
  have hge : ¬ (left < L) := by omega
  clear hlt
  go_enter Try.func30, Try.ntmps30
  go_wp2_with (fail)
  go_loopg [1, 5] (L + 1) (fun gk l i wr => ∃ (j : Nat) (r : Int), l = .int .i64 r ∧ i = .int .i64 j ∧ gk + j = L + 1 ∧ j ≤ L ∧ 0 ≤ r ∧ r ≤ left ∧ Hid (r + tots ks vs = left - L + tots (ks.drop j) (vs.drop j)) ∧ Below w.heap.size w wr)
  case atStart => exact ⟨0, left - L, rfl, rfl, by omega, by omega, by omega, by omega, Lib.hid (by simp), Below.refl _ _⟩
  case round =>
    obtain ⟨j, r, rfl, rfl, hgj, hjL, hr0, hr1, HR, hb⟩ := hrel
    have HB := Lib.hid hb
    clear hb
    by_cases hlt : j < L
    · obtain ⟨a, y, k, n, s, x, ks', vs', A1, c1, rfl, hS, hky, hvs, ht, hyb, hkb, hin, hcell⟩ := (h.below HB.out).item (i := j) (by rw [← HL.out]; exact hlt)
      have ihj : ∀ (w' : World) (left' : Int), Below wr.heap.size wr w' → 0 ≤ left' → left' ≤ 1048576 → Calls Try.prog 18 #[vV k n s x A1 vs'.length c1, .int .i64 left'] w' (SzQ left' (tot (.mk k n s x ks' vs')) w') := fun w' l' hb' a0 a1 => ih _ (List.mem_of_getElem? hvs) w' S _ (ht.below' hb') l' a0 a1
      have HT := Lib.hid (tots_drop hky hvs)
      have hys := hyb.2
      clear hky hvs ht hin hyb hkb hS
      obtain ⟨p0, p1, p2, p3, p4, p5, p6, p7⟩ := hcell
      go_wp2_with (fail)
      refine (szEntry y hys k n s x A1 vs'.length c1 _ r hr0 (by omega) _ ihj).mono ?_
      rintro e w1 ⟨r2, rfl, ⟨hs1, hs2, hs3⟩, hb1⟩
      have HB1 := Lib.hid hb1
      have HR2 := Lib.hid hs3
      clear hb1 hs3
      by_cases hq : r2 < 0
      · go_wp2_with (fail)
        go_ret
        exact ⟨-1, rfl, ⟨by omega, by omega, fun h => by omega⟩, bs HB.out HB1.out⟩
      · have hq0 : 0 ≤ r2 := by omega
        go_wp2_with (fail)
        go_roundg (L - j)
        case rel =>
          refine ⟨j + 1, r2, rfl, by go_num, by omega, by omega, hq0, by omega, Lib.hid ?_, bs HB.out HB1.out⟩
          have a1 := HR.out
          have a2 := HR2.out hq0
          have a3 := HT.out
          omega
        case measure => omega
    · go_wp2_with (fail)
      go_ret
      refine ⟨r, rfl, ⟨by omega, by omega, fun _ => ?_⟩, HB.out⟩
      have a1 := HR.out
      have e : tots (ks.drop j) (vs.drop j) = 0 := by
        rw [show vs.drop j = [] from List.drop_eq_nil_of_le (by rw [← HL.out]; omega)]
        cases ks.drop j <;> rfl
      rw [e] at a1
      push_cast
      omega

theorem szV : ∀ t, SzV t := Tr.ind fun k n s x ks vs ih w S v h left h0 h1 => by
  obtain ⟨A, c, rfl, ⟨_, _, _, hs⟩, hin⟩ := h.out
  clear h
  have hT : tot (.mk k n s x ks vs) = s.size + (vs.length + tots ks vs) := by rw [tot]
  rw [hT]
  clear hT
  unfold maxLen at hs
  by_cases hlt : left - s.size < 0
  · go_enter Try.func18, Try.ntmps18
    go_wp2_with (fail)
    go_ret
    exact ⟨-1, rfl, ⟨by omega, by omega, fun h => by omega⟩, b1 _ _⟩
  have hge : ¬ (left < s.size) := by omega
  clear hlt
  go_enter Try.func18, Try.ntmps18
  go_wp2_with (fail)
  refine (szItems ks vs ih A c _ S (hin.below (b1 _ _)) (left - s.size) (by omega) (by omega)).mono ?_
  rintro e w1 ⟨r, rfl, ⟨hr1, hr2, hr3⟩, hb1⟩
  have HB1 := Lib.hid hb1
  have HR := Lib.hid hr3
  clear hb1 hr3
  by_cases hr : r < 0
  · go_wp2_with (fail)
    go_ret
    exact ⟨-1, rfl, ⟨by omega, by omega, fun h => by omega⟩, bs (b1 _ _) HB1.out⟩
  · have hr0 : 0 ≤ r := by omega
    go_wp2_with (fail)
    go_ret
    refine ⟨r, rfl, ⟨by omega, by omega, fun h => ?_⟩, bs (b1 _ _) HB1.out⟩
    have a1 := HR.out h
    push_cast at a1 ⊢
    omega

end Go.Proofs.Ytbgffmiffmmohaa.tree

/-
  The laws' size of a table.
  Conditions: those that each theorem names.
-/
namespace Go.Proofs.Ytbgffmiffmmohaa.tree
open Go.ChangeShapes Go.WideShapes Go.ChangeAt Go.RowKit
set_option linter.unusedVariables false

/-- Letters and items of slots. -/
def totS : List Sl → Nat
  | [] => 0
  | t :: sl => t.key.str.size + tot t.val + totS sl
theorem totS_drop {sl : List Sl} {j : Nat} {t : Sl} (h : sl[j]? = some t) : totS (sl.drop j) = t.key.str.size + tot t.val + totS (sl.drop (j + 1)) := by
  obtain ⟨hj, rfl⟩ := List.getElem?_eq_some_iff.1 h
  rw [List.drop_eq_getElem_cons hj, totS]
/-- The ten cells of a slot. -/
abbrev sV (y : Ky) (k n : Int) (s : ByteArray) (x : Int) (A : Option Addr) (L c : Nat) (b : Bool) (l : Int) : Value := .agg #[.bool y.text, .int .i64 y.num, .string y.str, .int .i64 k, .int .i64 n, .string s, .int .i64 x, .slice A L c, .bool b, .int .i64 l]

theorem szSlot (y : Ky) (hy : y.str.size ≤ maxLen) (k n : Int) (s : ByteArray) (x : Int) (A : Option Addr) (L c : Nat) (b : Bool) (l : Int) (T : Nat) (left : Int) (h0 : 0 ≤ left) (h1 : left ≤ 1048576) (w : World)
    (ih : ∀ (w' : World) (left' : Int), Below w.heap.size w w' → 0 ≤ left' → left' ≤ 1048576 → Calls Try.prog 18 #[vV k n s x A L c, .int .i64 left'] w' (SzQ left' T w')) :
    Calls Try.prog 53 #[sV y k n s x A L c b l, .int .i64 left] w (SzQ left (y.str.size + T) w) := by
  obtain ⟨yb, m, ys⟩ := y
  have K := szKey ⟨yb, m, ys⟩ hy left h0 h1
  show Calls _ _ _ _ (SzQ left (ys.size + T) w)
  replace K : ∀ w, Calls Try.prog 47 #[kyV ⟨yb, m, ys⟩, .int .i64 left] w (SzQ left ys.size w) := K
  unfold sV
  go_enter Try.func53, Try.ntmps53
  go_wp2_with (fail)
  refine (K _).mono ?_
  rintro e w1 ⟨r, rfl, ⟨hr1, hr2, hr3⟩, hb1⟩
  obtain ⟨hc, hf⟩ := bcell hb1
  have HB := Lib.hid hb1
  have HR := Lib.hid hr3
  clear hb1 hr3
  by_cases hr : r < 0
  · go_wp2_with (fail)
    go_ret
    exact ⟨-1, rfl, ⟨by omega, by omega, fun h => by omega⟩, bs (b1 _ _) HB.out⟩
  · have hr0 : 0 ≤ r := by omega
    go_wp2_with (fail)
    refine (ih _ r (bs (b1 _ _) HB.out) hr0 (by omega)).mono ?_
    rintro e w2 ⟨r2, rfl, ⟨hs1, hs2, hs3⟩, hb2⟩
    have HB2 := Lib.hid hb2
    have HR2 := Lib.hid hs3
    clear hb2 hs3
    by_cases hq : r2 < 0
    · go_wp2_with (fail)
      go_ret
      exact ⟨-1, rfl, ⟨by omega, by omega, fun h => by omega⟩, bs (bs (b1 _ _) HB.out) HB2.out⟩
    · have hq0 : 0 ≤ r2 := by omega
      go_wp2_with (fail)
      go_ret
      refine ⟨r2, rfl, ⟨by omega, by omega, fun h => ?_⟩, bs (bs (b1 _ _) HB.out) HB2.out⟩
      have a1 := HR.out hr0
      have a2 := HR2.out h
      omega

theorem szSlots (sl : List Sl) (hm : sl.length ≤ maxLen) (A : Option Addr) (c : Nat) (w : World) (S : Nat → Prop) (h : SIn w S sl A) (left : Int) (h0 : 0 ≤ left) (h1 : left ≤ 1048576) :
    Calls Try.prog 46 #[.slice A sl.length c, .int .i64 left] w (SzQ left (sl.length + totS sl) w) := by
  obtain ⟨L, HL⟩ : ∃ L, Hid (L = sl.length) := ⟨_, Lib.hid rfl⟩
  rw [← HL.out] at hm ⊢
  unfold maxLen at hm
  by_cases hlt : left - L < 0
  · go_enter Try.func46, Try.ntmps46
    go_wp2_with (fail)
    go_ret
    exact ⟨-1, rfl, ⟨by omega, by omega, fun h => by omega⟩, Below.refl _ _⟩
  have hge : ¬ (left < L) := by omega
  have HH := Lib.hid h
  clear hlt h
  go_enter Try.func46, Try.ntmps46
  go_wp2_with (fail)
  go_loopg [1, 5] (L + 1) (fun gk l i wr => ∃ (j : Nat) (r : Int), l = .int .i64 r ∧ i = .int .i64 j ∧ gk + j = L + 1 ∧ j ≤ L ∧ 0 ≤ r ∧ r ≤ left ∧ Hid (r + totS sl = left - L + totS (sl.drop j)) ∧ Below w.heap.size w wr)
  case atStart => exact ⟨0, left - L, rfl, rfl, by omega, by omega, by omega, by omega, Lib.hid (by simp), Below.refl _ _⟩
  case round =>
    obtain ⟨j, r, rfl, rfl, hgj, hjL, hr0, hr1, HR, hb⟩ := hrel
    have HB := Lib.hid hb
    clear hb
    by_cases hlt : j < L
    · obtain ⟨t, ht⟩ : ∃ t, sl[j]? = some t := ⟨_, List.getElem?_eq_getElem (by rw [← HL.out]; exact hlt)⟩
      obtain ⟨a, k, n, s, x, ks', vs', A1, c1, rfl, -, hk, hl, hv, hT, hcell⟩ := HH.out.below HB.out j t ht
      have HT := Lib.hid (totS_drop ht)
      obtain ⟨y, tv, lb, ll⟩ := t
      simp only at hk hl hv hT hcell HT
      subst hv
      have hys := hk.2
      have ihj : ∀ (w' : World) (left' : Int), Below wr.heap.size wr w' → 0 ≤ left' → left' ≤ 1048576 → Calls Try.prog 18 #[vV k n s x A1 vs'.length c1, .int .i64 left'] w' (SzQ left' (tot (.mk k n s x ks' vs')) w') := fun w' l' hb' a0 a1 => szV _ w' S _ (hT.below' hb') l' a0 a1
      clear ht hT hk hl
      obtain ⟨p0, p1, p2, p3, p4, p5, p6, p7, p8, p9⟩ := hcell
      go_wp2_with (fail)
      refine (szSlot y hys k n s x A1 vs'.length c1 lb ll _ r hr0 (by omega) _ ihj).mono ?_
      rintro e w1 ⟨r2, rfl, ⟨hs1, hs2, hs3⟩, hb1⟩
      have HB1 := Lib.hid hb1
      have HR2 := Lib.hid hs3
      clear hb1 hs3
      by_cases hq : r2 < 0
      · go_wp2_with (fail)
        go_ret
        exact ⟨-1, rfl, ⟨by omega, by omega, fun h => by omega⟩, bs HB.out HB1.out⟩
      · have hq0 : 0 ≤ r2 := by omega
        go_wp2_with (fail)
        go_roundg (L - j)
        case rel =>
          refine ⟨j + 1, r2, rfl, by go_num, by omega, by omega, hq0, by omega, Lib.hid ?_, bs HB.out HB1.out⟩
          have a1 := HR.out
          have a2 := HR2.out hq0
          have a3 := HT.out
          omega
        case measure => omega
    · go_wp2_with (fail)
      go_ret
      refine ⟨r, rfl, ⟨by omega, by omega, fun _ => ?_⟩, HB.out⟩
      have a1 := HR.out
      have e : totS (sl.drop j) = 0 := by
        rw [show sl.drop j = [] from List.drop_eq_nil_of_le (by rw [← HL.out]; omega)]
        rfl
      rw [e] at a1
      push_cast
      omega

theorem szInts (A : Option Addr) (n c : Nat) (hn : n ≤ maxLen) (w : World) (left : Int) (h0 : 0 ≤ left) (h1 : left ≤ 1048576) :
    Calls Try.prog 45 #[.slice A n c, .int .i64 left] w (SzQ left n w) := by
  unfold maxLen at hn
  by_cases hlt : left - n < 0
  · go_enter Try.func45, Try.ntmps45
    go_wp2_with (fail)
    go_ret
    exact ⟨-1, rfl, ⟨by omega, by omega, fun h => by omega⟩, Below.refl _ _⟩
  · have hge : ¬ (left < n) := by omega
    go_enter Try.func45, Try.ntmps45
    go_wp2_with (fail)
    go_ret
    exact ⟨left - n, rfl, ⟨by omega, by omega, fun h => by omega⟩, Below.refl _ _⟩

/-- The laws' size of a table. -/
theorem szTable {l : List Int} {sl : List Sl} {b : Bool} {A : Option Addr} {n c : Nat} {B : Option Addr} {m d : Nat} {x k : Int} {w : World} {S : Nat → Prop} (h : TbIn w S l sl A n c B m d x k) (left : Int) (h0 : 0 ≤ left) (h1 : left ≤ 1048576) (w' : World) (hb : Below w.heap.size w w') :
    Calls Try.prog 38 #[tbV b A n c B m d x k, .int .i64 left] w' (SzQ left (n + (m + totS sl)) w') := by
  obtain ⟨-, hn, rfl, hcap, hS, -, -⟩ := h
  have Z1 := fun w => szInts A n c hn w left h0 h1
  have Z2 := fun w'' (hb : Below w.heap.size w w'') r h0 h1 => szSlots sl (Nat.le_trans hcap.1 hcap.2) B d w'' S (hS.below hb) r h0 h1
  obtain ⟨m, HM⟩ : ∃ m, Hid (sl.length = m) := ⟨_, Lib.hid rfl⟩
  obtain ⟨T, HT⟩ : ∃ T, Hid (m + totS sl = T) := ⟨_, Lib.hid rfl⟩
  rw [HM.out, HT.out] at Z2 ⊢
  have HZ2 := Lib.hid Z2
  have HB0 := Lib.hid hb
  clear Z2 hcap hS hb hn
  go_enter Try.func38, Try.ntmps38
  go_wp2_with (fail)
  refine (Z1 _).mono ?_
  rintro e w1 ⟨r, rfl, ⟨hr1, hr2, hr3⟩, hb1⟩
  obtain ⟨hc, hf⟩ := bcell hb1
  have HB := Lib.hid (bs (b1 w' _) hb1)
  have HR := Lib.hid hr3
  clear hb1 hr3
  by_cases hr : r < 0
  · go_wp2_with (fail)
    go_ret
    exact ⟨-1, rfl, ⟨by omega, by omega, fun h => by omega⟩, HB.out⟩
  · have hr0 : 0 ≤ r := by omega
    go_wp2_with (fail)
    refine (HZ2.out _ (bs HB0.out HB.out) r hr0 (by omega)).mono ?_
    rintro e w2 ⟨r2, rfl, ⟨hs1, hs2, hs3⟩, hb2⟩
    have HB2 := Lib.hid (bs HB.out hb2)
    have HR2 := Lib.hid hs3
    clear hb2 hs3
    by_cases hq : r2 < 0
    · go_wp2_with (fail)
      go_ret
      exact ⟨-1, rfl, ⟨by omega, by omega, fun h => by omega⟩, HB2.out⟩
    · have hq0 : 0 ≤ r2 := by omega
      go_wp2_with (fail)
      go_ret
      refine ⟨r2, rfl, ⟨by omega, by omega, fun h => ?_⟩, HB2.out⟩
      have a1 := HR.out hr0
      have a2 := HR2.out h
      omega

end Go.Proofs.Ytbgffmiffmmohaa.tree

/-
  Heaps: the blocks of a heap that came in, as a list; how they lie in memory.
  Conditions: those that each theorem names.
-/
namespace Go.Proofs.Ytbgffmiffmmohaa.tree
open Go.ChangeShapes Go.WideShapes Go.ChangeAt Go.RowKit Go.Deep
set_option linter.unusedVariables false

structure Bk where
  refs : Int
  hashed : Bool
  heads : List Int
  slots : List Sl
  next : Int
  count : Int

/-- The six cells of a block at q. -/
structure At6 (w : World) (q : Addr) (r : Int) (b : Bool) (A : Option Addr) (n c : Nat) (B : Option Addr) (m d : Nat) (x k : Int) : Prop where
  c0 : w.cell? q = some (.int .i64 r)
  c1 : w.cell? ⟨q.block, q.off + 1, none⟩ = some (.bool b)
  c2 : w.cell? ⟨q.block, q.off + 2, none⟩ = some (.slice A n c)
  c3 : w.cell? ⟨q.block, q.off + 3, none⟩ = some (.slice B m d)
  c4 : w.cell? ⟨q.block, q.off + 4, none⟩ = some (.int .i64 x)
  c5 : w.cell? ⟨q.block, q.off + 5, none⟩ = some (.int .i64 k)
theorem At6.stays {w w' : World} {q : Addr} {r x k : Int} {b : Bool} {A B : Option Addr} {n c m d : Nat} (hb : q.block < w.heap.size → w'.heap[q.block]? = w.heap[q.block]?) (h : At6 w q r b A n c B m d x k) : At6 w' q r b A n c B m d x k :=
  ⟨cell_stays hb h.c0, cell_stays hb h.c1, cell_stays hb h.c2, cell_stays hb h.c3, cell_stays hb h.c4, cell_stays hb h.c5⟩
theorem TbIn.below {w w' : World} (hb : Below w.heap.size w w') {S : Nat → Prop} {l : List Int} {sl : List Sl} {A B : Option Addr} {n c m d : Nat} {x k : Int} (h : TbIn w S l sl A n c B m d x k) : TbIn w' S l sl A n c B m d x k :=
  ⟨h.heads.below hb, h.hn, h.len, h.cap, h.slots.below hb, h.next, h.count⟩

/-- The blocks at A. -/
def HIn (w : World) (S : Nat → Prop) (bl : List Bk) (A : Option Addr) : Prop :=
  ∀ i k, bl[i]? = some k → ∃ a A' n c B m d, A = some a ∧ S a.block ∧ I64 k.refs ∧ TbIn w S k.heads k.slots A' n c B m d k.next k.count ∧ At6 w (a.add (i * 6)) k.refs k.hashed A' n c B m d k.next k.count
theorem HIn.below {w w' : World} (hb : Below w.heap.size w w') {S : Nat → Prop} {bl : List Bk} {A : Option Addr} (h : HIn w S bl A) : HIn w' S bl A := fun i k hk => by
  obtain ⟨a, A', n, c, B, m, d, e, hS, hr, hT, hc⟩ := h i k hk
  exact ⟨a, A', n, c, B, m, d, e, hS, hr, hT.below hb, hc.stays fun hlt => hb.block _ hlt⟩

/-- A heap, written out. -/
abbrev hpV (A : Option Addr) (n c : Nat) : Value := .agg #[.slice A n c]
/-- A block, written out. -/
abbrev bkV (r : Int) (b : Bool) (A : Option Addr) (n c : Nat) (B : Option Addr) (m d : Nat) (x k : Int) : Value := .agg #[.int .i64 r, .bool b, .slice A n c, .slice B m d, .int .i64 x, .int .i64 k]

structure TypesH (P : Program) (tH tBS tB tT : TypeId) : Prop where
  heap : ∃ f0 : Field, P.underlying tH = some (.struct #[f0]) ∧ f0.type = tBS ∧ f0.offset = 0
  blocks : P.underlying tBS = some (.slice tB)
  block : ∃ g0 g1 : Field, P.underlying tB = some (.struct #[g0, g1]) ∧ P.underlying g0.type = some (.int .i64) ∧ g1.type = tT ∧ g0.offset = 0 ∧ g1.offset = 1 ∧ P.cellsOf g0.type = 1
  cB : P.cellsOf tB = 6
  cS : P.cellsOf tBS = 1
  cH : P.cellsOf tH = 1

section
variable {H : Type} {enc : TypeId × Value → H} {P : Program} {w : World}
theorem open_blocks {tV tE tK tS tSS tSl tT tI tIE tH tBS tB : TypeId} (T : Types P tV tE tK tS) (TS : TypesS P tSS tSl tK tV) (TT : TypesT P tT tI tIE tSS) (TH : TypesH P tH tBS tB tT) {fuel : Nat} {c0 : Value} {x : DataW H × List MemPlace} (h : DataW.trod enc P w 0 (fun _ => true) true fuel tBS [c0] = some x) :
    ∃ A c bl, c0 = .slice A (List.length bl) c ∧ (bl.length ≤ c ∧ c ≤ maxLen) ∧ HIn w (fun _ => True) bl A := by
  rcases DataW.trod_slice TH.blocks h with ⟨hc4, _⟩ | ⟨a, len, cap, elems, rest, m, hfm, hc4, _, hbs, hlc, hcm, hel, hat, _⟩
  · simp at hc4
    subst hc4
    exact ⟨none, 0, [], rfl, ⟨Nat.le_refl _, Nat.zero_le _⟩, fun i t ht => by simp at ht⟩
  · simp at hc4
    subst hc4
    have each : ∀ i, i < len → ∃ k : Bk, ∃ A' n c B m d, I64 k.refs ∧ TbIn w (fun _ => True) k.heads k.slots A' n c B m d k.next k.count ∧ At6 w (a.add (i * 6)) k.refs k.hashed A' n c B m d k.next k.count := by
      intro i hi
      have hi2 := hat i hi
      rw [List.getElem?_eq_getElem (by omega)] at hi2
      obtain ⟨cs', hcs, htr⟩ := Option.bind_eq_some_iff.1 hi2
      rw [TH.cB] at hcs
      obtain ⟨_, hcl, hcat⟩ := World.cells?_some hcs
      obtain ⟨g0, g1, hue, hg0, hg1, q0, q1, z0⟩ := TH.block
      obtain ⟨ys, n2, hn2, hy, hl2, hyl, hall2⟩ := DataW.trod_struct hue htr
      have hyl2 : ys.length = 2 := hyl
      match cs', hcl with
      | [d0, d1, d2, d3, d4, d5], _ =>
        have r0 := hall2 0 g0 rfl
        have r1 := hall2 1 g1 rfl
        rw [q0, z0] at r0
        rw [hg1, q1, TT.cT] at r1
        obtain ⟨r, hr, _, hrw⟩ := DataW.trod_int hg0 (r0.trans (List.getElem?_eq_getElem (by omega)))
        obtain ⟨b, A', n, c, B, m', d, nx, ct, l, sl, ev, hT⟩ := open_tab T TS TT (r1.trans (List.getElem?_eq_getElem (by omega)))
        simp at hr
        subst hr
        have e' : d1 = .bool b ∧ d2 = .slice A' n c ∧ d3 = .slice B m' d ∧ d4 = .int .i64 nx ∧ d5 = .int .i64 ct := by simpa using ev
        obtain ⟨rfl, rfl, rfl, rfl, rfl⟩ := e'
        have at' : ∀ j, j < 6 → w.cell? (a.add (i * 6 + j)) = ([.int .i64 r, .bool b, .slice A' n c, .slice B m' d, .int .i64 nx, .int .i64 ct] : List Value)[j]? := fun j hj => by
          have := hcat j hj
          rwa [add_add'] at this
        have sp : ∀ j, j ≠ 0 → a.add (i * 6 + j) = ⟨(a.add (i * 6)).block, (a.add (i * 6)).off + j, none⟩ := fun j hj => by rw [← add_add', add_pos _ _ hj]
        have at2 : ∀ j, j ≠ 0 → j < 6 → w.cell? ⟨(a.add (i * 6)).block, (a.add (i * 6)).off + j, none⟩ = _ := fun j h0 hj => (congrArg w.cell? (sp j h0)).symm.trans (at' j hj)
        exact ⟨⟨r, b, l, sl, nx, ct⟩, A', n, c, B, m', d, wf_i64 hrw, hT, ⟨at' 0 (by omega), at2 1 (by omega) (by omega), at2 2 (by omega) (by omega), at2 3 (by omega) (by omega), at2 4 (by omega) (by omega), at2 5 (by omega) (by omega)⟩⟩
    refine ⟨some a, cap, (List.range len).map (fun i => if hi : i < len then (each i hi).choose else ⟨0, false, [], [], 0, 0⟩), by simp, ⟨by simpa using hlc, hcm⟩, fun i t ht => ?_⟩
    rw [List.getElem?_map] at ht
    obtain ⟨i', hi', rfl⟩ := Option.map_eq_some_iff.1 ht
    have hil : i < len := by
      have := (List.getElem?_eq_some_iff.1 hi').1
      simpa using this
    rw [List.getElem?_range hil] at hi'
    obtain rfl := Option.some.inj hi'
    simp only [dif_pos hil]
    obtain ⟨A', n, c, B, m', d, h1, h2, h3⟩ := (each i hil).choose_spec
    exact ⟨a, A', n, c, B, m', d, rfl, trivial, h1, h2, h3⟩
theorem open_hp {tV tE tK tS tSS tSl tT tI tIE tH tBS tB : TypeId} (T : Types P tV tE tK tS) (TS : TypesS P tSS tSl tK tV) (TT : TypesT P tT tI tIE tSS) (TH : TypesH P tH tBS tB tT) {fuel : Nat} {cs : List Value} {x : DataW H × List MemPlace} (h : DataW.trod enc P w 0 (fun _ => true) true fuel tH cs = some x) :
    ∃ A c bl, Value.agg cs.toArray = hpV A (List.length bl) c ∧ (bl.length ≤ c ∧ c ≤ maxLen) ∧ HIn w (fun _ => True) bl A := by
  obtain ⟨f0, hu, h0, q0⟩ := TH.heap
  obtain ⟨xs, n, hn, hx, hl, hxl, hall⟩ := DataW.trod_struct hu h
  rw [TH.cH] at hl
  match cs, hl with
  | [c0], _ =>
    have hxl1 : xs.length = 1 := hxl
    have e0 := hall 0 f0 rfl
    rw [h0, q0, TH.cS] at e0
    obtain ⟨A, c, bl, hA, hc, hH⟩ := open_blocks T TS TT TH (e0.trans (List.getElem?_eq_getElem (by omega)))
    subst hA
    exact ⟨A, c, bl, rfl, hc, hH⟩
end

abbrev LH : TypeId := 24
theorem typesH : TypesH Try.prog LH 22 70 LT where
  heap := ⟨_, Try.underlying24, by kernel_rfl, by kernel_rfl⟩
  blocks := Try.underlying22
  block := ⟨_, _, Try.underlying70, by kernel_rfl, by kernel_rfl, by kernel_rfl, by kernel_rfl, by kernel_rfl⟩
  cB := by kernel_rfl
  cS := by kernel_rfl
  cH := by kernel_rfl

set_option maxRecDepth 100000 in
theorem open_heap {H : Type} {enc : TypeId × Value → H} {W : World} {base : Nat} {v : Value} {d : DataW H} {ps : List MemPlace} (hval : Value.okWide Try.prog W .any base LH v) (h : DataW.Trod enc Try.prog W 0 (fun _ => true) true LH v d ps) :
    ∃ A c bl, v = hpV A (List.length bl) c ∧ (bl.length ≤ c ∧ c ≤ maxLen) ∧ HIn W (fun _ => True) bl A := by
  obtain ⟨cs, rfl, hsz⟩ := okWide_struct Try.underlying24 hval
  obtain ⟨fuel, hf⟩ := h
  exact open_hp opt.types typesS typesT typesH hf

end Go.Proofs.Ytbgffmiffmmohaa.tree

/-
  The live slots of a table, as lists.
  Conditions: none.
-/
namespace Go.Proofs.Ytbgffmiffmmohaa.tree
open Go.ChangeShapes Go.WideShapes Go.ChangeAt Go.RowKit
set_option linter.unusedVariables false

abbrev IT : TypeId := 56
/-- The live slots. -/
def liv (sl : List Sl) : List Sl := sl.filter (fun t => t.live)
def livK (sl : List Sl) : List Ky := (liv sl).map (fun t => t.key)
def livV (sl : List Sl) : List Tr := (liv sl).map (fun t => t.val)
/-- The array that a table stands for. -/
def tvT (x : Int) (sl : List Sl) : Tr := .mk 4 0 ⟨#[]⟩ x (livK sl) (livV sl)
theorem liv_take {sl : List Sl} {j : Nat} {t : Sl} (h : sl[j]? = some t) : liv (sl.take (j + 1)) = liv (sl.take j) ++ (if t.live then [t] else []) := by
  unfold liv
  rw [List.take_add_one, h, List.filter_append]
  cases ht : t.live <;> simp [ht]
theorem liv_len (sl : List Sl) : (liv sl).length ≤ sl.length := List.length_filter_le _ _


end Go.Proofs.Ytbgffmiffmmohaa.tree

/-
  References to blocks, counted: as lists of integers.
  Conditions: none.
-/
namespace Go.Proofs.Ytbgffmiffmmohaa.tree
open Go.ChangeShapes Go.WideShapes Go.ChangeAt Go.RowKit
set_option linter.unusedVariables false

/-- One more reference to block n. -/
def bump (cs : List Int) (n : Int) : List Int := if 0 ≤ n ∧ n < cs.length then cs.set n.toNat (cs[n.toNat]?.getD 0 + 1) else cs
def addO (cs : List Int) : Tr → List Int
  | .mk k n _ _ _ _ => if k = 5 then bump cs n else cs
/-- The references of a list of values, put to the counts. -/
def addR (cs : List Int) (ts : List Tr) : List Int := ts.foldl addO cs
/-- What a live slot puts to the counts. -/
def addS (cs : List Int) (t : Sl) : List Int := if t.live then addO cs t.val else cs
/-- The references of some roots and of all blocks' live values. -/
def refsB (cs : List Int) (bl : List Bk) : List Int := bl.foldl (fun cs k => addR cs (livV k.slots)) cs
def refsOf (bl : List Bk) (roots : List Tr) : List Int := refsB (addR (List.replicate bl.length 0) roots) bl

theorem bump_len (cs : List Int) (n : Int) : (bump cs n).length = cs.length := by unfold bump; split <;> simp
theorem bump_in {cs : List Int} {j : Nat} {v : Int} (h : cs[j]? = some v) : bump cs (j : Int) = cs.set j (v + 1) := by
  have hj := (List.getElem?_eq_some_iff.1 h).1
  unfold bump
  rw [if_pos ⟨by omega, by omega⟩, Int.toNat_natCast, h]
  rfl
theorem bump_out {cs : List Int} {n : Int} (h : ¬ (0 ≤ n ∧ n < cs.length)) : bump cs n = cs := by unfold bump; rw [if_neg h]
theorem addO_not {cs : List Int} {k n : Int} {s : ByteArray} {x : Int} {ks : List Ky} {vs : List Tr} (h : ¬ k = 5) : addO cs (.mk k n s x ks vs) = cs := by rw [addO, if_neg h]
theorem addO_five (cs : List Int) (n : Int) (s : ByteArray) (x : Int) (ks : List Ky) (vs : List Tr) : addO cs (.mk 5 n s x ks vs) = bump cs n := by rw [addO, if_pos rfl]
theorem addO_len (cs : List Int) (t : Tr) : (addO cs t).length = cs.length := by
  obtain ⟨k, n, s, x, ks, vs⟩ := t
  rw [addO]
  split
  · exact bump_len _ _
  · rfl
theorem addR_len : ∀ (ts : List Tr) (cs : List Int), (addR cs ts).length = cs.length
  | [], cs => rfl
  | t :: ts, cs => by rw [addR, List.foldl_cons]; exact (addR_len ts (addO cs t)).trans (addO_len cs t)
theorem addR_take {cs : List Int} {ts : List Tr} {j : Nat} {t : Tr} (h : ts[j]? = some t) : addR cs (ts.take (j + 1)) = addO (addR cs (ts.take j)) t := by
  rw [List.take_add_one, h]
  simp [addR, List.foldl_append]
/-- All counts lie between 0 and M. -/
def Upto (cs : List Int) (M : Int) : Prop := ∀ (i : Nat) (v : Int), cs[i]? = some v → 0 ≤ v ∧ v ≤ M
theorem Upto.mono {cs : List Int} {M M' : Int} (h : Upto cs M) (hM : M ≤ M') : Upto cs M' := fun i v hv => ⟨(h i v hv).1, by have := (h i v hv).2; omega⟩
theorem Upto.bump {cs : List Int} {M : Int} (h : Upto cs M) (n : Int) : Upto (bump cs n) (M + 1) := fun i v hv => by
  unfold tree.bump at hv
  split at hv
  · rename_i hc
    rw [List.getElem?_set] at hv
    split at hv
    · rename_i he
      split at hv
      · obtain rfl := Option.some.inj hv
        have hj : n.toNat < cs.length := by omega
        rw [List.getElem?_eq_getElem hj, Option.getD_some]
        have := h n.toNat _ (List.getElem?_eq_getElem hj)
        omega
      · cases hv
    · have := h i v hv
      omega
  · have := h i v hv
    omega
theorem Upto.addO {cs : List Int} {M : Int} (h : Upto cs M) (t : Tr) : Upto (addO cs t) (M + 1) := by
  obtain ⟨k, n, s, x, ks, vs⟩ := t
  rw [tree.addO]
  split
  · exact h.bump n
  · exact h.mono (by omega)
theorem Upto.addR : ∀ (ts : List Tr) {cs : List Int} {M : Int}, Upto cs M → Upto (addR cs ts) (M + ts.length)
  | [], cs, M, h => h.mono (by simp)
  | t :: ts, cs, M, h => by
    rw [tree.addR, List.foldl_cons]
    exact (Upto.addR ts (h.addO t)).mono (by simp; omega)
theorem Upto.zero (L : Nat) : Upto (List.replicate L 0) 0 := fun i v hv => by
  rw [List.getElem?_replicate] at hv
  split at hv
  · obtain rfl := Option.some.inj hv; omega
  · cases hv
theorem addS_take {cs : List Int} {sl : List Sl} {j : Nat} {t : Sl} (h : sl[j]? = some t) : addR cs (livV (sl.take (j + 1))) = addS (addR cs (livV (sl.take j))) t := by
  unfold livV addS
  rw [liv_take h]
  cases t.live <;> simp [addR, List.foldl_append]
theorem livV_len (sl : List Sl) : (livV sl).length ≤ sl.length := by unfold livV; rw [List.length_map]; exact liv_len sl
theorem refsB_take {cs : List Int} {bl : List Bk} {j : Nat} {k : Bk} (h : bl[j]? = some k) : refsB cs (bl.take (j + 1)) = addR (refsB cs (bl.take j)) (livV k.slots) := by
  rw [List.take_add_one, h]
  simp [refsB, List.foldl_append]
theorem refsB_len : ∀ (bl : List Bk) (cs : List Int), (refsB cs bl).length = cs.length
  | [], cs => rfl
  | k :: bl, cs => by rw [refsB, List.foldl_cons]; exact (refsB_len bl _).trans (addR_len _ cs)
/-- How many slots blocks have. -/
def slB : List Bk → Nat
  | [] => 0
  | k :: bl => k.slots.length + slB bl
theorem slB_take : ∀ {bl : List Bk} {j : Nat} {k : Bk}, bl[j]? = some k → slB (bl.take (j + 1)) = slB (bl.take j) + k.slots.length
  | [], j, _, h => by simp at h
  | k0 :: bl, 0, k, h => by
    obtain rfl : k0 = k := by simpa using h
    simp [slB]
  | k0 :: bl, j + 1, k, h => by
    have := slB_take (bl := bl) (j := j) (k := k) (by simpa using h)
    rw [List.take_succ_cons, List.take_succ_cons, slB, slB, this]
    omega
theorem slB_le : ∀ (bl : List Bk) (j : Nat), slB (bl.take j) ≤ slB bl
  | [], j => by simp
  | k :: bl, 0 => by simp [slB]
  | k :: bl, j + 1 => by have := slB_le bl j; rw [List.take_succ_cons, slB, slB]; omega

end Go.Proofs.Ytbgffmiffmmohaa.tree

/-
  A value without items; a call that gives back a value and writes nothing that was there.
  Conditions: those that each theorem names.
-/
namespace Go.Proofs.Ytbgffmiffmmohaa.tree
open Go.ChangeShapes Go.WideShapes Go.ChangeAt Go.RowKit
set_option linter.unusedVariables false

theorem IsIn.nil (w : World) (S : Nat → Prop) (A : Option Addr) : IsIn w S [] [] A := ⟨rfl, by simp, fun _ => #[], fun i hi => absurd hi (by simp), fun i hi => absurd hi (by simp)⟩
/-- A value with no items. -/
theorem flat {k n x : Int} {s : ByteArray} (hk : I64 k ∧ I64 n ∧ I64 x ∧ s.size ≤ maxLen) (w : World) (S : Nat → Prop) (A : Option Addr) (c : Nat) (hc : c ≤ maxLen) : TIn w S (.mk k n s x [] []) (vV k n s x A 0 c) := TIn.of c hk (IsIn.nil w S A) ⟨Nat.zero_le _, hc⟩

def GivesQ (w : World) (v : Value) (e : Ending) (w' : World) : Prop := e = .returned v ∧ Below w.heap.size w w'

end Go.Proofs.Ytbgffmiffmmohaa.tree

/-
  The laws' size of a heap.
  Conditions: those that each theorem names.
-/
namespace Go.Proofs.Ytbgffmiffmmohaa.tree
open Go.ChangeShapes Go.WideShapes Go.ChangeAt Go.RowKit
set_option linter.unusedVariables false

/-- Heads, slots, letters and items of a block. -/
def szB (k : Bk) : Nat := k.heads.length + (k.slots.length + totS k.slots)
/-- Those of all blocks. -/
def totB : List Bk → Nat
  | [] => 0
  | k :: bl => szB k + totB bl
theorem totB_drop {bl : List Bk} {j : Nat} {k : Bk} (h : bl[j]? = some k) : totB (bl.drop j) = szB k + totB (bl.drop (j + 1)) := by
  obtain ⟨hj, rfl⟩ := List.getElem?_eq_some_iff.1 h
  rw [List.drop_eq_getElem_cons hj, totB]
theorem totB_mem : ∀ {bl : List Bk} {j : Nat} {k : Bk}, bl[j]? = some k → szB k ≤ totB bl
  | [], j, _, h => by simp at h
  | k0 :: bl, 0, k, h => by
    obtain rfl : k0 = k := by simpa using h
    rw [totB]; omega
  | k0 :: bl, j + 1, k, h => by
    have := totB_mem (bl := bl) (j := j) (k := k) (by simpa using h)
    rw [totB]; omega

theorem szBlock {w : World} {S : Nat → Prop} {l : List Int} {sl : List Sl} {A B : Option Addr} {n c m d : Nat} {x k : Int} (rf : Int) (hs : Bool) (h : TbIn w S l sl A n c B m d x k) (left : Int) (h0 : 0 ≤ left) (h1 : left ≤ 1048576) (w' : World) (hb : Below w.heap.size w w') :
    Calls Try.prog 29 #[bkV rf hs A n c B m d x k, .int .i64 left] w' (SzQ left (n + (m + totS sl)) w') := by
  have Z := Lib.hid (fun w'' (hb : Below w.heap.size w w'') => szTable (b := hs) h left h0 h1 w'' hb)
  obtain ⟨T, HT⟩ : ∃ T, Hid (n + (m + totS sl) = T) := ⟨_, Lib.hid rfl⟩
  rw [HT.out] at Z ⊢
  have HB0 := Lib.hid hb
  clear h hb
  go_enter Try.func29, Try.ntmps29
  go_wp2_with (fail)
  refine (Z.out _ (bs HB0.out (b1 w' _))).mono ?_
  rintro e w1 ⟨r, rfl, ⟨hr1, hr2, hr3⟩, hb1⟩
  have HB := Lib.hid (bs (b1 w' _) hb1)
  have HR := Lib.hid hr3
  clear hb1 hr3
  by_cases hr : r < 0
  · go_wp2_with (fail)
    go_ret
    exact ⟨-1, rfl, ⟨by omega, by omega, fun h => by omega⟩, HB.out⟩
  · have hr0 : 0 ≤ r := by omega
    go_wp2_with (fail)
    go_ret
    exact ⟨r, rfl, ⟨by omega, by omega, fun h => HR.out h⟩, HB.out⟩

set_option maxRecDepth 100000 in
theorem szBlocks (bl : List Bk) (hm : bl.length ≤ maxLen) (A : Option Addr) (c : Nat) (w : World) (S : Nat → Prop) (h : HIn w S bl A) (left : Int) (h0 : 0 ≤ left) (h1 : left ≤ 1048576) :
    Calls Try.prog 17 #[.slice A bl.length c, .int .i64 left] w (SzQ left (bl.length + totB bl) w) := by
  obtain ⟨L, HL⟩ : ∃ L, Hid (L = bl.length) := ⟨_, Lib.hid rfl⟩
  rw [← HL.out] at hm ⊢
  unfold maxLen at hm
  by_cases hlt : left - L < 0
  · go_enter Try.func17, Try.ntmps17
    go_wp2_with (fail)
    go_ret
    exact ⟨-1, rfl, ⟨by omega, by omega, fun h => by omega⟩, Below.refl _ _⟩
  have hge : ¬ (left < L) := by omega
  have HH := Lib.hid h
  clear hlt h
  go_enter Try.func17, Try.ntmps17
  go_wp2_with (fail)
  go_loopg [1, 5] (L + 1) (fun gk l i wr => ∃ (j : Nat) (r : Int), l = .int .i64 r ∧ i = .int .i64 j ∧ gk + j = L + 1 ∧ j ≤ L ∧ 0 ≤ r ∧ r ≤ left ∧ Hid (r + totB bl = left - L + totB (bl.drop j)) ∧ Below w.heap.size w wr)
  case atStart => exact ⟨0, left - L, rfl, rfl, by omega, by omega, by omega, by omega, Lib.hid (by simp), Below.refl _ _⟩
  case round =>
    obtain ⟨j, r, rfl, rfl, hgj, hjL, hr0, hr1, HR, hb⟩ := hrel
    have HB := Lib.hid hb
    clear hb
    by_cases hlt : j < L
    · obtain ⟨k, hk⟩ : ∃ k, bl[j]? = some k := ⟨_, List.getElem?_eq_getElem (by rw [← HL.out]; exact hlt)⟩
      obtain ⟨a, A', n, c', B, m, d, rfl, -, -, hT, hcell⟩ := HH.out.below HB.out j k hk
      have HT := Lib.hid (totB_drop hk)
      have hsz : n + (m + totS k.slots) = szB k := by rw [szB, hT.heads.len, hT.len]
      obtain ⟨rf, hs, l, sl, x, ct⟩ := k
      simp only at hT hcell hsz
      have Z : Hid (Calls Try.prog 29 #[bkV rf hs A' n c' B m d x ct, .int .i64 r] wr (SzQ r (n + (m + totS sl)) wr)) := Lib.hid (szBlock rf hs hT r hr0 (by omega) wr (Below.refl _ _))
      rw [hsz] at Z
      obtain ⟨p0, p1, p2, p3, p4, p5⟩ := hcell
      clear hk hT hsz
      go_wp2_with (fail)
      refine Z.out.mono ?_
      rintro e w1 ⟨r2, rfl, ⟨hs1, hs2, hs3⟩, hb1⟩
      have HB1 := Lib.hid hb1
      have HR2 := Lib.hid hs3
      clear hb1 hs3 p0 p1 p2 p3 p4 p5
      by_cases hq : r2 < 0
      · go_wp2_with (fail)
        go_ret
        exact ⟨-1, rfl, ⟨by omega, by omega, fun h => by omega⟩, bs HB.out HB1.out⟩
      · have hq0 : 0 ≤ r2 := by omega
        go_wp2_with (fail)
        go_roundg (L - j)
        case rel =>
          refine ⟨j + 1, r2, rfl, by go_num, by omega, by omega, hq0, by omega, Lib.hid ?_, bs HB.out HB1.out⟩
          have a1 := HR.out
          have a2 := HR2.out hq0
          have a3 := HT.out
          omega
        case measure => omega
    · go_wp2_with (fail)
      go_ret
      refine ⟨r, rfl, ⟨by omega, by omega, fun _ => ?_⟩, HB.out⟩
      have a1 := HR.out
      have e : totB (bl.drop j) = 0 := by
        rw [show bl.drop j = [] from List.drop_eq_nil_of_le (by rw [← HL.out]; omega)]
        rfl
      rw [e] at a1
      push_cast
      omega

/-- The laws' size of a heap. -/
theorem szHeap (bl : List Bk) (hm : bl.length ≤ maxLen) (A : Option Addr) (c : Nat) (w : World) (S : Nat → Prop) (h : HIn w S bl A) (left : Int) (h0 : 0 ≤ left) (h1 : left ≤ 1048576) :
    Calls Try.prog 4 #[hpV A bl.length c, .int .i64 left] w (SzQ left (bl.length + totB bl) w) := by
  have Z : Hid (∀ w', Below w.heap.size w w' → Calls Try.prog 17 #[.slice A bl.length c, .int .i64 left] w' (SzQ left (bl.length + totB bl) w')) := Lib.hid (fun w' hb => szBlocks bl hm A c w' S (h.below hb) left h0 h1)
  obtain ⟨L, HL⟩ : ∃ L, Hid (bl.length = L) := ⟨_, Lib.hid rfl⟩
  obtain ⟨T, HT⟩ : ∃ T, Hid (L + totB bl = T) := ⟨_, Lib.hid rfl⟩
  rw [HL.out, HT.out] at Z ⊢
  clear h hm
  go_enter Try.func4, Try.ntmps4
  go_wp2_with (fail)
  refine (Z.out _ (by first | exact b1 w _ | exact Below.refl _ _)).mono ?_
  rintro e w1 ⟨r, rfl, ⟨hr1, hr2, hr3⟩, hb1⟩
  have HB : Hid (Below w.heap.size w w1) := Lib.hid (by first | exact hb1 | exact bs (b1 w _) hb1)
  have HR := Lib.hid hr3
  clear hb1 hr3
  by_cases hr : r < 0
  · go_wp2_with (fail)
    go_ret
    exact ⟨-1, rfl, ⟨by omega, by omega, fun h => by omega⟩, HB.out⟩
  · have hr0 : 0 ≤ r := by omega
    go_wp2_with (fail)
    go_ret
    exact ⟨r, rfl, ⟨by omega, by omega, fun h => HR.out h⟩, HB.out⟩

end Go.Proofs.Ytbgffmiffmmohaa.tree

/-
  The laws' comparison of two tables that read alike.
  Conditions: those that each theorem names.
-/
namespace Go.Proofs.Ytbgffmiffmmohaa.tree
open Go.ChangeShapes Go.WideShapes Go.ChangeAt Go.RowKit
set_option linter.unusedVariables false

theorem eqSlot (y : Ky) (k n : Int) (s : ByteArray) (x : Int) (A A' : Option Addr) (L c c' : Nat) (b : Bool) (l : Int) (w : World)
    (ih : ∀ w' : World, Below w.heap.size w w' → Calls Try.prog 25 #[vV k n s x A L c, vV k n s x A' L c'] w' (TrueQ w')) :
    Calls Try.prog 55 #[sV y k n s x A L c b l, sV y k n s x A' L c' b l] w (TrueQ w) := by
  obtain ⟨yb, m, ys⟩ := y
  unfold sV
  go_enter Try.func55, Try.ntmps55
  go_wp2_with (fail)
  refine (eqKey ⟨yb, m, ys⟩ _).mono ?_
  rintro e w1 ⟨rfl, hb1⟩
  obtain ⟨hc, hf⟩ := bcell hb1
  have HB := Lib.hid hb1
  clear hb1
  go_wp2_with (fail)
  refine (ih _ (bs (b2 _ _ _) HB.out)).mono ?_
  rintro e w2 ⟨rfl, hb2⟩
  obtain ⟨hc2, hf2⟩ := bcell (bs HB.out hb2)
  have HB2 := Lib.hid hb2
  clear hb2 hc hf
  go_wp2_with (fail)
  go_ret
  exact ⟨rfl, bs (bs (b2 _ _ _) HB.out) HB2.out⟩

set_option maxRecDepth 100000 in
theorem eqSlots (sl : List Sl) (hm : sl.length ≤ maxLen) (A A' : Option Addr) (c c' : Nat) (w : World) (S S' : Nat → Prop) (h : SIn w S sl A) (h' : SIn w S' sl A') :
    Calls Try.prog 51 #[.slice A sl.length c, .slice A' sl.length c'] w (TrueQ w) := by
  obtain ⟨L, HL⟩ : ∃ L, Hid (L = sl.length) := ⟨_, Lib.hid rfl⟩
  rw [← HL.out] at hm ⊢
  unfold maxLen at hm
  have HA := Lib.hid h
  have HA' := Lib.hid h'
  clear h h'
  go_enter Try.func51, Try.ntmps51
  go_wp2_with (fail)
  go_loopg [5] (L + 1) (fun gk i wr => ∃ j : Nat, i = .int .i64 j ∧ gk + j = L + 1 ∧ j ≤ L ∧ Below w.heap.size w wr)
  case atStart => exact ⟨0, rfl, by omega, by omega, Below.refl _ _⟩
  case round =>
    obtain ⟨j, rfl, hgj, hjL, hb⟩ := hrel
    have HB := Lib.hid hb
    clear hb
    by_cases hlt : j < L
    · obtain ⟨t, ht⟩ : ∃ t, sl[j]? = some t := ⟨_, List.getElem?_eq_getElem (by rw [← HL.out]; exact hlt)⟩
      obtain ⟨a, k, n, s, x, ks', vs', A1, c1, rfl, -, hk, hl, hv, hT, hcell⟩ := HA.out.below HB.out j t ht
      obtain ⟨a', k', n', s', x', ks2, vs2, A2, c2, rfl, -, -, -, hv', hT', hcell'⟩ := HA'.out.below HB.out j t ht
      obtain ⟨y, tv, lb, ll⟩ := t
      simp only at hk hl hv hT hcell hv' hT' hcell'
      subst hv
      obtain ⟨rfl, rfl, rfl, rfl, rfl, rfl⟩ : k = k' ∧ n = n' ∧ s = s' ∧ x = x' ∧ ks' = ks2 ∧ vs' = vs2 := by simpa using hv'
      have ihj : ∀ w', Below wr.heap.size wr w' → Calls Try.prog 25 #[vV k n s x A1 vs'.length c1, vV k n s x A2 vs'.length c2] w' (TrueQ w') := fun w' hb' => eqV _ w' S S' _ _ (hT.below' hb') (hT'.below' hb')
      clear ht hT hT' hv' hk hl
      obtain ⟨p0, p1, p2, p3, p4, p5, p6, p7, p8, p9⟩ := hcell
      obtain ⟨q0, q1, q2, q3, q4, q5, q6, q7, q8, q9⟩ := hcell'
      go_wp2_with (fail)
      go_region_with ((go_at_call 55; refine (eqSlot y k n s x A1 A2 vs'.length c1 c2 lb ll _ ?_).mono ?_; exact fun w' hb' => ihj w' (((Below.refl wr.heap.size wr).drew).trans hb'); rintro e w1 ⟨rfl, hb1⟩; have HB1 := Lib.hid hb1; clear hb1))
      all_goals
        go_wp2_with (fail)
        go_roundg (L - j)
        case rel => exact ⟨j + 1, by go_num, by omega, by omega, bs (bs HB.out ((Below.refl _ _).drew)) HB1.out⟩
        case measure => omega
    · go_wp2_with (fail)
      go_ret
      exact ⟨rfl, HB.out⟩

/-- Two tables that read alike are equal. -/
theorem eqTable {l : List Int} {sl : List Sl} {b : Bool} {A A' : Option Addr} {n c c' : Nat} {B B' : Option Addr} {m d d' : Nat} {x k : Int} {w : World} {S S' : Nat → Prop} (h : TbIn w S l sl A n c B m d x k) (h' : TbIn w S' l sl A' n c' B' m d' x k) (hn : n ≤ 17592186044416) :
    Calls Try.prog 43 #[tbV b A n c B m d x k, tbV b A' n c' B' m d' x k] w (TrueQ w) := by
  obtain ⟨hh, -, rfl, hcap, hS, -, -⟩ := h
  obtain ⟨hh', -, -, hcap', hS', -, -⟩ := h'
  have Z1 := fun w' (hb : Below w.heap.size w w') => ints.eqInts A A' n c c' l hn w' (hh.below hb) (hh'.below hb)
  have Z2 := fun w' (hb : Below w.heap.size w w') => eqSlots sl (Nat.le_trans hcap.1 hcap.2) B B' d d' w' S S' (hS.below hb) (hS'.below hb)
  obtain ⟨m, HM⟩ : ∃ m, Hid (sl.length = m) := ⟨_, Lib.hid rfl⟩
  rw [HM.out] at Z2 ⊢
  have HZ1 := Lib.hid Z1
  have HZ2 := Lib.hid Z2
  clear Z1 Z2 hh hh' hcap hcap' hS hS' hn
  go_enter Try.func43, Try.ntmps43
  go_wp2_with (fail)
  refine (HZ1.out _ (b2 _ _ _)).mono ?_
  rintro e w1 ⟨rfl, hg1⟩
  have hb1 := mem.below_of_none hg1
  obtain ⟨hc, hf⟩ := bcell hb1
  have HB := Lib.hid (bs (b2 w _ _) hb1)
  clear hg1
  have HB1 := Lib.hid hb1
  clear hb1
  go_wp2_with (fail)
  refine (HZ2.out _ HB.out).mono ?_
  rintro e w2 ⟨rfl, hb2⟩
  obtain ⟨hc2, hf2⟩ := bcell (bs HB1.out hb2)
  have HB2 := Lib.hid (bs HB.out hb2)
  clear hb2 hc hf
  go_wp2_with (fail)
  go_ret
  exact ⟨rfl, HB2.out⟩

end Go.Proofs.Ytbgffmiffmmohaa.tree

/-
  The laws' comparison of two heaps that read alike.
  Conditions: those that each theorem names.
-/
namespace Go.Proofs.Ytbgffmiffmmohaa.tree
open Go.ChangeShapes Go.WideShapes Go.ChangeAt Go.RowKit
set_option linter.unusedVariables false

set_option maxRecDepth 100000 in
theorem eqBlock {l : List Int} {sl : List Sl} (rf : Int) (b : Bool) {A A' : Option Addr} {n c c' : Nat} {B B' : Option Addr} {m d d' : Nat} {x k : Int} {w : World} {S S' : Nat → Prop} (h : TbIn w S l sl A n c B m d x k) (h' : TbIn w S' l sl A' n c' B' m d' x k) (hn : n ≤ 17592186044416) (w1 : World) (hb : Below w.heap.size w w1) :
    Calls Try.prog 35 #[bkV rf b A n c B m d x k, bkV rf b A' n c' B' m d' x k] w1 (TrueQ w1) := by
  have Z := Lib.hid (fun w' (hb : Below w.heap.size w w') => eqTable (b := b) (h.below hb) (h'.below hb) hn)
  have HB0 := Lib.hid hb
  clear h h' hn hb
  go_enter Try.func35, Try.ntmps35
  go_wp2_with (fail)
  refine (Z.out _ (bs HB0.out (b2 w1 _ _))).mono ?_
  rintro e w2 ⟨rfl, hb2⟩
  have HB := Lib.hid (bs (b2 w1 _ _) hb2)
  clear hb2
  go_wp2_with (fail)
  go_ret
  exact ⟨rfl, HB.out⟩

set_option maxHeartbeats 1600000 in
set_option maxRecDepth 100000 in
theorem eqBlocks (bl : List Bk) (hm : bl.length ≤ maxLen) (hh : ∀ k ∈ bl, k.heads.length ≤ 17592186044416) (A A' : Option Addr) (c c' : Nat) (w : World) (S S' : Nat → Prop) (h : HIn w S bl A) (h' : HIn w S' bl A') :
    Calls Try.prog 24 #[.slice A bl.length c, .slice A' bl.length c'] w (TrueQ w) := by
  obtain ⟨L, HL⟩ : ∃ L, Hid (L = bl.length) := ⟨_, Lib.hid rfl⟩
  rw [← HL.out] at hm ⊢
  unfold maxLen at hm
  have HA := Lib.hid h
  have HA' := Lib.hid h'
  have HHN := Lib.hid hh
  clear h h' hh
  go_enter Try.func24, Try.ntmps24
  go_wp2_with (fail)
  go_loopg [5] (L + 1) (fun gk i wr => ∃ j : Nat, i = .int .i64 j ∧ gk + j = L + 1 ∧ j ≤ L ∧ Below w.heap.size w wr)
  case atStart => exact ⟨0, rfl, by omega, by omega, Below.refl _ _⟩
  case round =>
    obtain ⟨j, rfl, hgj, hjL, hb⟩ := hrel
    have HB := Lib.hid hb
    clear hb
    by_cases hlt : j < L
    · obtain ⟨k, hk⟩ : ∃ k, bl[j]? = some k := ⟨_, List.getElem?_eq_getElem (by rw [← HL.out]; exact hlt)⟩
      have hhn := HHN.out k (List.mem_of_getElem? hk)
      obtain ⟨a, A1, n, c1, B1, m, d1, rfl, -, -, hT, hcell⟩ := HA.out.below HB.out j k hk
      obtain ⟨a', A2, n2, c2, B2, m2, d2, rfl, -, -, hT', hcell'⟩ := HA'.out.below HB.out j k hk
      obtain rfl : n = n2 := by rw [← hT.heads.len, ← hT'.heads.len]
      obtain rfl : m = m2 := by rw [← hT.len, ← hT'.len]
      rw [hT.heads.len] at hhn
      obtain ⟨rf, hs, l, sl, x, ct⟩ := k
      simp only at hT hcell hT' hcell'
      have Z : Hid (∀ w', Below wr.heap.size wr w' → Calls Try.prog 35 #[bkV rf hs A1 n c1 B1 m d1 x ct, bkV rf hs A2 n c2 B2 m d2 x ct] w' (TrueQ w')) := Lib.hid (fun w' hb' => eqBlock rf hs hT hT' hhn w' hb')
      obtain ⟨p0, p1, p2, p3, p4, p5⟩ := hcell
      obtain ⟨q0, q1, q2, q3, q4, q5⟩ := hcell'
      clear hk hT hT' hhn
      go_wp2_with (fail)
      go_region_with ((go_at_call 35; refine (Z.out _ ?_).mono ?_; exact ((Below.refl wr.heap.size wr).drew); rintro e w1 ⟨rfl, hb1⟩; have HB1 := Lib.hid hb1; clear hb1))
      all_goals
        go_wp2_with (fail)
        go_roundg (L - j)
        case rel => exact ⟨j + 1, by go_num, by omega, by omega, bs (bs HB.out ((Below.refl _ _).drew)) HB1.out⟩
        case measure => omega
    · go_wp2_with (fail)
      go_ret
      exact ⟨rfl, HB.out⟩

/-- Two heaps that read alike are equal. -/
theorem eqHeap (bl : List Bk) (hm : bl.length ≤ maxLen) (hh : ∀ k ∈ bl, k.heads.length ≤ 17592186044416) (A A' : Option Addr) (c c' : Nat) (w : World) (S S' : Nat → Prop) (h : HIn w S bl A) (h' : HIn w S' bl A') :
    Calls Try.prog 11 #[hpV A bl.length c, hpV A' bl.length c'] w (TrueQ w) := by
  have Z : Hid (∀ w', Below w.heap.size w w' → Calls Try.prog 24 #[.slice A bl.length c, .slice A' bl.length c'] w' (TrueQ w')) := Lib.hid (fun w' hb => eqBlocks bl hm hh A A' c c' w' S S' (h.below hb) (h'.below hb))
  obtain ⟨L, HL⟩ : ∃ L, Hid (bl.length = L) := ⟨_, Lib.hid rfl⟩
  rw [HL.out] at Z ⊢
  clear h h' hm hh
  go_enter Try.func11, Try.ntmps11
  go_wp2_with (fail)
  refine (Z.out _ (by first | exact b2 w _ _ | exact Below.refl _ _)).mono ?_
  rintro e w1 ⟨rfl, hb1⟩
  have HB : Hid (Below w.heap.size w w1) := Lib.hid (by first | exact hb1 | exact bs (b2 w _ _) hb1)
  clear hb1
  go_wp2_with (fail)
  go_ret
  exact ⟨rfl, HB.out⟩

end Go.Proofs.Ytbgffmiffmmohaa.tree

