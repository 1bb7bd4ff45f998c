/-
  What the texts behind this one use: 15 parts of one proof.
  Conditions: those that each theorem names.
-/
import Derived.Test.YtplfekpagonbbaaGreatDoorFiSB1
import Derived.Test.YtplfekpagonbbaaGreatDoorFiSSTreeEq
import Derived.Laws.StructEq
import Derived.Test.YtplfekpagonbbaaGreatDoorRows
import Derived.Test.YtplfekpagonbbaaGreatDoorShelf
import Derived.WalkKit
import Derived.ProofKit
import Derived.IntWalk
import Derived.Lib.Hide
import Derived.Lib.SmallJoins
import Derived.BigQuiet
import Derived.Deep.QuietTactic
import Derived.WalkLawsBesides
import Derived.Lib.IndexBytes
import Derived.ArgAppend
import Derived.Deep.RegionHeld3
import Derived.Deep.CutBlock
import Derived.Deep.DeepCutAuto
import Derived.Deep.LoopGhost
import Derived.Laws.CopyOwn
import Derived.Deep.RegionWith
import Derived.Laws.CopyRow
import Derived.Laws.OwnMore
/-
  Tables: the slots of a table that came in, as a list; how they lie in memory.
  Conditions: those that each theorem names.
-/
namespace Go.Proofs.YtplfekpagonbbaaGreatDoor.tree
open Go.ChangeShapes Go.WideShapes Go.ChangeAt Go.RowKit Go.Deep
set_option linter.unusedVariables false

structure Sl where
  key : Ky
  val : Tr
  live : Bool
  link : Int

/-- The ten cells of a slot at q. -/
structure At10 (w : World) (q : Addr) (y : Ky) (k n : Int) (s : ByteArray) (x : Int) (A : Option Addr) (L c : Nat) (b : Bool) (l : Int) : Prop where
  c0 : w.cell? q = some (.bool y.text)
  c1 : w.cell? ⟨q.block, q.off + 1, none⟩ = some (.int .i64 y.num)
  c2 : w.cell? ⟨q.block, q.off + 2, none⟩ = some (.string y.str)
  c3 : w.cell? ⟨q.block, q.off + 3, none⟩ = some (.int .i64 k)
  c4 : w.cell? ⟨q.block, q.off + 4, none⟩ = some (.int .i64 n)
  c5 : w.cell? ⟨q.block, q.off + 5, none⟩ = some (.string s)
  c6 : w.cell? ⟨q.block, q.off + 6, none⟩ = some (.int .i64 x)
  c7 : w.cell? ⟨q.block, q.off + 7, none⟩ = some (.slice A L c)
  c8 : w.cell? ⟨q.block, q.off + 8, none⟩ = some (.bool b)
  c9 : w.cell? ⟨q.block, q.off + 9, none⟩ = some (.int .i64 l)
theorem At10.stays {w w' : World} {q : Addr} {y : Ky} {k n x l : Int} {s : ByteArray} {A : Option Addr} {L c : Nat} {b : Bool} (hb : q.block < w.heap.size → w'.heap[q.block]? = w.heap[q.block]?) (h : At10 w q y k n s x A L c b l) : At10 w' q y k n s x A L c b l :=
  ⟨cell_stays hb h.c0, cell_stays hb h.c1, cell_stays hb h.c2, cell_stays hb h.c3, cell_stays hb h.c4, cell_stays hb h.c5, cell_stays hb h.c6, cell_stays hb h.c7, cell_stays hb h.c8, cell_stays hb h.c9⟩

/-- The slots at A. -/
def SIn (w : World) (S : Nat → Prop) (sl : List Sl) (A : Option Addr) : Prop :=
  ∀ i t, sl[i]? = some t → ∃ a k n s x ks vs A' c', A = some a ∧ S a.block ∧ (I64 t.key.num ∧ t.key.str.size ≤ maxLen) ∧ I64 t.link ∧ t.val = .mk k n s x ks vs ∧ TIn w S t.val (vV k n s x A' vs.length c') ∧ At10 w (a.add (i * 10)) t.key k n s x A' vs.length c' t.live t.link
theorem SIn.stays {w w' : World} {S S' : Nat → Prop} (hS : ∀ b, S b → S' b) (hb : ∀ b, S b → b < w.heap.size → w'.heap[b]? = w.heap[b]?) {sl : List Sl} {A : Option Addr} (h : SIn w S sl A) : SIn w' S' sl A := fun i t ht => by
  obtain ⟨a, k, n, s, x, ks, vs, A', c', e, hSa, hk, hl, hv, hT, hc⟩ := h i t ht
  exact ⟨a, k, n, s, x, ks, vs, A', c', e, hS _ hSa, hk, hl, hv, hT.stays hS hb, hc.stays (fun hlt => hb _ (by rw [mem.add_block]; exact hSa) hlt)⟩
theorem SIn.below {w w' : World} (hb : Below w.heap.size w w') {S : Nat → Prop} {sl : List Sl} {A : Option Addr} (h : SIn w S sl A) : SIn w' S sl A := h.stays (fun _ h => h) (fun b _ hlt => hb.block b hlt)

section
variable {H : Type} {enc : TypeId × Value → H} {P : Program} {w : World} {base : Nat} {spare : Nat → Bool} {held : Bool}
structure TypesS (P : Program) (tSS tSl tK tV : TypeId) : Prop where
  slots : P.underlying tSS = some (.slice tSl)
  slot : ∃ g0 g1 g2 g3 : Field, P.underlying tSl = some (.struct #[g0, g1, g2, g3]) ∧ g0.type = tK ∧ g1.type = tV ∧ P.underlying g2.type = some .bool ∧ P.underlying g3.type = some (.int .i64) ∧ g0.offset = 0 ∧ g1.offset = 3 ∧ g2.offset = 8 ∧ g3.offset = 9 ∧ P.cellsOf g2.type = 1 ∧ P.cellsOf g3.type = 1
  cS : P.cellsOf tSl = 10

theorem open_slots {tV tE tK tS tSS tSl : TypeId} (T : Types P tV tE tK tS) (TS : TypesS P tSS tSl tK tV) {fuel : Nat} {c0 : Value} {x : DataW H × List MemPlace} (h : DataW.trod enc P w base spare held fuel tSS [c0] = some x) :
    ∃ A n c sl, c0 = .slice A n c ∧ List.length sl = n ∧ (n ≤ c ∧ c ≤ maxLen) ∧ SIn w (fun _ => True) sl A := by
  rcases DataW.trod_slice TS.slots h with ⟨hc4, _⟩ | ⟨a, len, cap, elems, rest, m, hfm, hc4, _, hbs, hlc, hcm, hel, hat, _⟩
  · simp at hc4
    subst hc4
    exact ⟨none, 0, 0, [], rfl, rfl, ⟨Nat.le_refl _, Nat.zero_le _⟩, fun i t ht => by simp at ht⟩
  · simp at hc4
    subst hc4
    have each : ∀ i, i < len → ∃ t : Sl, ∃ k n s x ks vs A' c', (I64 t.key.num ∧ t.key.str.size ≤ maxLen) ∧ I64 t.link ∧ t.val = .mk k n s x ks vs ∧ TIn w (fun _ => True) t.val (vV k n s x A' vs.length c') ∧ At10 w (a.add (i * 10)) t.key k n s x A' vs.length c' t.live t.link := by
      intro i hi
      have hi2 := hat i hi
      rw [List.getElem?_eq_getElem (by omega)] at hi2
      obtain ⟨cs', hcs, htr⟩ := Option.bind_eq_some_iff.1 hi2
      rw [TS.cS] at hcs
      obtain ⟨_, hcl, hcat⟩ := World.cells?_some hcs
      obtain ⟨g0, g1, g2, g3, hue, hg0, hg1, hg2, hg3, q0, q1, q2, q3, z2, z3⟩ := TS.slot
      obtain ⟨ys, n2, hn2, hy, hl2, hyl, hall2⟩ := DataW.trod_struct hue htr
      have hyl4 : ys.length = 4 := hyl
      match cs', hcl with
      | [d0, d1, d2, d3, d4, d5, d6, d7, d8, d9], _ =>
        have r0 := hall2 0 g0 rfl
        have r1 := hall2 1 g1 rfl
        have r2 := hall2 2 g2 rfl
        have r3 := hall2 3 g3 rfl
        rw [hg0, q0, T.cK] at r0
        rw [hg1, q1, T.cV] at r1
        rw [q2, z2] at r2
        rw [q3, z3] at r3
        obtain ⟨y, hk3, hkn, hks⟩ := open_key T (r0.trans (List.getElem?_eq_getElem (by omega)))
        obtain ⟨t, ht⟩ := open_tree T n2 _ _ (r1.trans (List.getElem?_eq_getElem (by omega)))
        obtain ⟨b, hb, _⟩ := DataW.trod_bool hg2 (r2.trans (List.getElem?_eq_getElem (by omega)))
        obtain ⟨l, hlk, _, hlw⟩ := DataW.trod_int hg3 (r3.trans (List.getElem?_eq_getElem (by omega)))
        simp at hk3 hb hlk
        obtain ⟨rfl, rfl, rfl⟩ := hk3
        subst hb hlk
        obtain ⟨k, n, s, x, ks, vs⟩ := t
        obtain ⟨A', c', e, -, -⟩ := ht.out
        have e' : d3 = .int .i64 k ∧ d4 = .int .i64 n ∧ d5 = .string s ∧ d6 = .int .i64 x ∧ d7 = .slice A' vs.length c' := by simpa using e
        obtain ⟨rfl, rfl, rfl, rfl, rfl⟩ := e'
        have at' : ∀ j, j < 10 → w.cell? (a.add (i * 10 + j)) = ([.bool y.text, .int .i64 y.num, .string y.str, .int .i64 k, .int .i64 n, .string s, .int .i64 x, .slice A' vs.length c', .bool b, .int .i64 l] : List Value)[j]? := fun j hj => by
          have := hcat j hj
          rwa [add_add'] at this
        have sp : ∀ j, j ≠ 0 → a.add (i * 10 + j) = ⟨(a.add (i * 10)).block, (a.add (i * 10)).off + j, none⟩ := fun j hj => by rw [← add_add', add_pos _ _ hj]
        have at2 : ∀ j, j ≠ 0 → j < 10 → w.cell? ⟨(a.add (i * 10)).block, (a.add (i * 10)).off + j, none⟩ = _ := fun j h0 hj => (congrArg w.cell? (sp j h0)).symm.trans (at' j hj)
        exact ⟨⟨y, .mk k n s x ks vs, b, l⟩, k, n, s, x, ks, vs, A', c', ⟨hkn, hks⟩, wf_i64 hlw, rfl, ht, ⟨at' 0 (by omega), at2 1 (by omega) (by omega), at2 2 (by omega) (by omega), at2 3 (by omega) (by omega), at2 4 (by omega) (by omega), at2 5 (by omega) (by omega), at2 6 (by omega) (by omega), at2 7 (by omega) (by omega), at2 8 (by omega) (by omega), at2 9 (by omega) (by omega)⟩⟩
    refine ⟨some a, len, cap, (List.range len).map (fun i => if hi : i < len then (each i hi).choose else ⟨⟨false, 0, ⟨#[]⟩⟩, .mk 0 0 ⟨#[]⟩ 0 [] [], false, 0⟩), rfl, by simp, ⟨hlc, hcm⟩, fun i t ht => ?_⟩
    rw [List.getElem?_map] at ht
    obtain ⟨i', hi', rfl⟩ := Option.map_eq_some_iff.1 ht
    have hil : i < len := by
      have := (List.getElem?_eq_some_iff.1 hi').1
      simpa using this
    rw [List.getElem?_range hil] at hi'
    obtain rfl := Option.some.inj hi'
    simp only [dif_pos hil]
    obtain ⟨k, n, s, x, ks, vs, A', c', h⟩ := (each i hil).choose_spec
    exact ⟨a, k, n, s, x, ks, vs, A', c', rfl, trivial, h⟩

structure TypesT (P : Program) (tT tI tE tSS : TypeId) : Prop where
  table : ∃ f0 f1 f2 f3 f4 : Field, P.underlying tT = some (.struct #[f0, f1, f2, f3, f4]) ∧ P.underlying f0.type = some .bool ∧ f1.type = tI ∧ f2.type = tSS ∧ P.underlying f3.type = some (.int .i64) ∧ P.underlying f4.type = some (.int .i64) ∧ oneCellFields P #[f0, f1, f2, f3, f4] = true
  heads : P.underlying tI = some (.slice tE)
  elem : P.underlying tE = some (.int .i64)
  cE : P.cellsOf tE = 1
  cT : P.cellsOf tT = 5
end

/-- A table, written out. -/
abbrev tbV (b : Bool) (A : Option Addr) (n c : Nat) (B : Option Addr) (m d : Nat) (x k : Int) : Value := .agg #[.bool b, .slice A n c, .slice B m d, .int .i64 x, .int .i64 k]
/-- A table that reads as its heads and slots. -/
structure TbIn (w : World) (S : Nat → Prop) (l : List Int) (sl : List Sl) (A : Option Addr) (n c : Nat) (B : Option Addr) (m d : Nat) (x k : Int) : Prop where
  heads : imem.RdI w A n l
  hn : n ≤ maxLen
  len : sl.length = m
  cap : m ≤ d ∧ d ≤ maxLen
  slots : SIn w S sl B
  next : I64 x
  count : I64 k

section
variable {H : Type} {enc : TypeId × Value → H} {P : Program} {w : World}
theorem open_tab {tV tE tK tS tSS tSl tT tI tIE : TypeId} (T : Types P tV tE tK tS) (TS : TypesS P tSS tSl tK tV) (TT : TypesT P tT tI tIE tSS) {fuel : Nat} {cs : List Value} {x : DataW H × List MemPlace} (h : DataW.trod enc P w 0 (fun _ => true) true fuel tT cs = some x) :
    ∃ b A n c B m d nx ct l sl, Value.agg cs.toArray = tbV b A n c B m d nx ct ∧ TbIn w (fun _ => True) l sl A n c B m d nx ct := by
  obtain ⟨f0, f1, f2, f3, f4, hu, h0, h1, h2, h3, h4, hone⟩ := TT.table
  obtain ⟨xs, n, hn, hx, hl, hxl, hall⟩ := DataW.trod_struct hu h
  rw [TT.cT] at hl
  match cs, hl with
  | [c0, c1, c2, c3, c4], _ =>
    obtain ⟨o0, k0⟩ := hone_of hone 0 f0 rfl
    obtain ⟨o1, k1⟩ := hone_of hone 1 f1 rfl
    obtain ⟨o2, k2⟩ := hone_of hone 2 f2 rfl
    obtain ⟨o3, k3⟩ := hone_of hone 3 f3 rfl
    obtain ⟨o4, k4⟩ := hone_of hone 4 f4 rfl
    have hxl5 : xs.length = 5 := hxl
    have e0 := hall 0 f0 rfl
    have e1 := hall 1 f1 rfl
    have e2 := hall 2 f2 rfl
    have e3 := hall 3 f3 rfl
    have e4 := hall 4 f4 rfl
    rw [one_of k0 o0 (by simp)] at e0
    rw [one_of k1 o1 (by simp)] at e1
    rw [one_of k2 o2 (by simp)] at e2
    rw [one_of k3 o3 (by simp)] at e3
    rw [one_of k4 o4 (by simp)] at e4
    obtain ⟨b, hb, _⟩ := DataW.trod_bool h0 (e0.trans (List.getElem?_eq_getElem (by omega)))
    obtain ⟨nx, hnx, _, hw3⟩ := DataW.trod_int h3 (e3.trans (List.getElem?_eq_getElem (by omega)))
    obtain ⟨ct, hct, _, hw4⟩ := DataW.trod_int h4 (e4.trans (List.getElem?_eq_getElem (by omega)))
    rw [h2] at e2
    obtain ⟨B, m, d, sl, hB, hsl, hcap, hS⟩ := open_slots T TS (e2.trans (List.getElem?_eq_getElem (by omega)))
    rw [h1] at e1
    simp at hb hnx hct hB
    subst hb hnx hct hB
    rcases open_ints TT.heads TT.elem TT.cE (e1.trans (List.getElem?_eq_getElem (by omega))) with ⟨hc1, _⟩ | ⟨a, len, cap, zs, hc1, _, hlc, hm, hz, _, hcell, hwz⟩
    · simp at hc1
      subst hc1
      exact ⟨b, none, 0, 0, B, m, d, nx, ct, [], sl, rfl, ⟨⟨rfl, fun hn => absurd hn (by omega)⟩, Nat.zero_le _, hsl, hcap, hS, wf_i64 hw3, wf_i64 hw4⟩⟩
    · simp at hc1
      subst hc1
      simp only [if_true] at hz
      refine ⟨b, some a, len, cap, B, m, d, nx, ct, zs.take len, sl, rfl, ⟨⟨by rw [List.length_take]; omega, fun hn => ⟨a, rfl, fun j x hx => ?_⟩⟩, by omega, hsl, hcap, hS, wf_i64 hw3, wf_i64 hw4⟩⟩
      have hj : j < len := by
        have := (List.getElem?_eq_some_iff.1 hx).1
        rw [List.length_take] at this
        omega
      rw [List.getElem?_take, if_pos hj] at hx
      have hcj := hcell j (by omega)
      rw [hcj]
      simp [List.getD, hx]
end

abbrev LT : TypeId := 55
theorem typesS : TypesS Tryz.prog 53 134 LK LV where
  slots := Tryz.underlying53
  slot := ⟨_, _, _, _, Tryz.underlying134, by kernel_rfl, by kernel_rfl, by kernel_rfl, by kernel_rfl, by kernel_rfl, by kernel_rfl, by kernel_rfl, by kernel_rfl, by kernel_rfl, by kernel_rfl⟩
  cS := by kernel_rfl
theorem typesT : TypesT Tryz.prog LT 24 3 53 where
  table := ⟨_, _, _, _, _, Tryz.underlying55, by kernel_rfl, by kernel_rfl, by kernel_rfl, by kernel_rfl, by kernel_rfl, by kernel_rfl⟩
  heads := Tryz.underlying24
  elem := Tryz.underlying3
  cE := by kernel_rfl
  cT := by kernel_rfl

set_option maxRecDepth 100000 in
theorem open_table {H : Type} {enc : TypeId × Value → H} {W : World} {base : Nat} {v : Value} {d : DataW H} {ps : List MemPlace} (hval : Value.okWide Tryz.prog W .any base LT v) (h : DataW.Trod enc Tryz.prog W 0 (fun _ => true) true LT v d ps) :
    ∃ b A n c B m d nx ct l sl, v = tbV b A n c B m d nx ct ∧ TbIn W (fun _ => True) l sl A n c B m d nx ct := by
  obtain ⟨cs, rfl, hsz⟩ := okWide_struct Tryz.underlying55 hval
  obtain ⟨fuel, hf⟩ := h
  exact open_tab opt.types typesS typesT hf

end Go.Proofs.YtplfekpagonbbaaGreatDoor.tree

/-
  The live slots of a table, as lists.
  Conditions: none.
-/
namespace Go.Proofs.YtplfekpagonbbaaGreatDoor.tree
open Go.ChangeShapes Go.WideShapes Go.ChangeAt Go.RowKit
set_option linter.unusedVariables false

abbrev IT : TypeId := 27
/-- The live slots. -/
def liv (sl : List Sl) : List Sl := sl.filter (fun t => t.live)
def livK (sl : List Sl) : List Ky := (liv sl).map (fun t => t.key)
def livV (sl : List Sl) : List Tr := (liv sl).map (fun t => t.val)
/-- The array that a table stands for. -/
def tvT (x : Int) (sl : List Sl) : Tr := .mk 4 0 ⟨#[]⟩ x (livK sl) (livV sl)
theorem liv_take {sl : List Sl} {j : Nat} {t : Sl} (h : sl[j]? = some t) : liv (sl.take (j + 1)) = liv (sl.take j) ++ (if t.live then [t] else []) := by
  unfold liv
  rw [List.take_add_one, h, List.filter_append]
  cases ht : t.live <;> simp [ht]
theorem liv_len (sl : List Sl) : (liv sl).length ≤ sl.length := List.length_filter_le _ _


end Go.Proofs.YtplfekpagonbbaaGreatDoor.tree

/-
  The digest of a key, of the project and of the model.
  Conditions: the key's text has at most 2^47 bytes.
-/
namespace Go.Proofs.YtplfekpagonbbaaGreatDoor.tree
open Go.ChangeShapes Go.WideShapes Go.ChangeAt Go.RowKit
set_option linter.unusedVariables false

/-- The digest of a key. -/
def kh (y : Ky) : Int := if y.text then dig.fold 11 (mem.txt y.str) else y.num % 2147483647
theorem kh_in (y : Ky) : 0 ≤ kh y ∧ kh y ≤ 2147483646 := by
  unfold kh
  split
  · exact dig.fold_in dig.in11 _
  · omega
def KhQ (w : World) (x : Int) (e : Ending) (w' : World) : Prop := e = .returned (.int .i64 x) ∧ Below w.heap.size w w'

theorem keyHash_i (y : Ky) (hs : y.str.size ≤ 140737488355328) (w : World) : Calls Tryz.prog 153 #[kyV y] w (KhQ w (kh y)) := by
  obtain ⟨b, n, s⟩ := y
  replace hs : s.size ≤ 140737488355328 := hs
  have HT := hsh.implText s hs
  have HM := hsh.implMod31 n
  unfold kyV
  cases b
  · obtain ⟨q, HQ⟩ : ∃ q, Hid (n % 2147483647 = q) := ⟨_, Lib.hid rfl⟩
    rw [show kh ⟨false, n, s⟩ = q from HQ.out]
    rw [HQ.out] at HM
    go_enter Tryz.func153, Tryz.ntmps153
    go_wp2_with (fail)
    refine (HM _).mono ?_
    rintro e w1 ⟨rfl, rfl⟩
    go_wp2_with (fail)
    go_ret
    exact ⟨rfl, b1 _ _⟩
  · obtain ⟨q, HQ⟩ : ∃ q, Hid (dig.fold 11 (mem.txt s) = q) := ⟨_, Lib.hid rfl⟩
    rw [show kh ⟨true, n, s⟩ = q from HQ.out]
    rw [HQ.out] at HT
    go_enter Tryz.func153, Tryz.ntmps153
    go_wp2_with (fail)
    refine (HT _).mono ?_
    rintro e w1 ⟨rfl, hb⟩
    have HB := Lib.hid (bs (b1 w _) hb)
    clear hb
    go_wp2_with (fail)
    go_ret
    exact ⟨rfl, HB.out⟩

theorem keyHash_s (y : Ky) (hs : y.str.size ≤ 140737488355328) (w : World) : Calls Tryz.prog 55 #[kyV y] w (KhQ w (kh y)) := by
  obtain ⟨b, n, s⟩ := y
  replace hs : s.size ≤ 140737488355328 := hs
  have HT := hsh.specText s hs
  have HM := hsh.specMod31 n
  unfold kyV
  cases b
  · obtain ⟨q, HQ⟩ : ∃ q, Hid (n % 2147483647 = q) := ⟨_, Lib.hid rfl⟩
    rw [show kh ⟨false, n, s⟩ = q from HQ.out]
    rw [HQ.out] at HM
    go_enter Tryz.func55, Tryz.ntmps55
    go_wp2_with (fail)
    refine (HM _).mono ?_
    rintro e w1 ⟨rfl, rfl⟩
    go_wp2_with (fail)
    go_ret
    exact ⟨rfl, b1 _ _⟩
  · obtain ⟨q, HQ⟩ : ∃ q, Hid (dig.fold 11 (mem.txt s) = q) := ⟨_, Lib.hid rfl⟩
    rw [show kh ⟨true, n, s⟩ = q from HQ.out]
    rw [HQ.out] at HT
    go_enter Tryz.func55, Tryz.ntmps55
    go_wp2_with (fail)
    refine (HT _).mono ?_
    rintro e w1 ⟨rfl, rfl⟩
    go_wp2_with (fail)
    go_ret
    exact ⟨rfl, b1 _ _⟩

end Go.Proofs.YtplfekpagonbbaaGreatDoor.tree

/-
  Two keys compared, and keys as the keys of a map.
  Conditions: those that each theorem names.
-/
namespace Go.Proofs.YtplfekpagonbbaaGreatDoor.tree
open Go.ChangeShapes Go.WideShapes Go.ChangeAt Go.RowKit
set_option linter.unusedVariables false

instance : DecidableEq Ky := fun a b =>
  match a, b with
  | ⟨t, n, s⟩, ⟨t', n', s'⟩ => if h : t = t' ∧ n = n' ∧ s.data.toList = s'.data.toList then .isTrue (by
      obtain ⟨rfl, rfl, h⟩ := h
      obtain ⟨⟨s⟩⟩ := s
      obtain ⟨⟨s'⟩⟩ := s'
      simp at h
      subst h
      rfl) else .isFalse (fun e => h (by cases e; exact ⟨rfl, rfl, rfl⟩))

theorem kpart1 {P : Program} {w : World} {t : TypeId} {d : TypeDesc} (h : P.underlying t = some d) (hd : (match d with | .struct _ | .array _ _ => true | _ => false) = false) {cs : Array Value} {off : Nat} {v : Value} (hx : cs[off]? = some v) : (part t cs off).run P w = .ok v w := by
  cases d <;> simp_all [part, isAgg, run_underlying h]
theorem bytes_ne {s s' : ByteArray} (h : ¬ s.data.toList = s'.data.toList) : (s.toList == s'.toList) = false ∧ ¬ s.toList = s'.toList := by
  have h1 : ¬ s.toList = s'.toList := fun hh => h (by rwa [ByteArray.toList_eq, ByteArray.toList_eq] at hh)
  exact ⟨beq_false_of_ne h1, h1⟩
theorem bytes_same {s s' : ByteArray} (h : s.data.toList = s'.data.toList) : s = s' := by
  obtain ⟨⟨s⟩⟩ := s
  obtain ⟨⟨s'⟩⟩ := s'
  simp at h
  subst h
  rfl
theorem ik_desc : ∃ f0 f1 f2 : Field, Tryz.prog.underlying IK = some (.struct #[f0, f1, f2]) ∧ f0.name ≠ "_" ∧ f1.name ≠ "_" ∧ f2.name ≠ "_" ∧ f0.type = 4 ∧ f1.type = 3 ∧ f2.type = 9 ∧ f0.offset = 0 ∧ f1.offset = 1 ∧ f2.offset = 2 :=
  ⟨_, _, _, Tryz.underlying29, by decide, by decide, by decide, rfl, rfl, rfl, rfl, rfl, rfl⟩
theorem ik_held : Tryz.prog.stoodInHeld IK = false := by kernel_rfl
theorem ky_eq (d : Nat) (w : World) (y y' : Ky) : (Op.equalIn (d + 2) IK (kyV y) (kyV y')).run Tryz.prog w = .ok (decide (y = y')) w := by
  obtain ⟨b, n, s⟩ := y
  obtain ⟨b', n', s'⟩ := y'
  obtain ⟨f0, f1, f2, hu, n0, n1, n2, t0, t1, t2, o0, o1, o2⟩ := ik_desc
  have hf : Tryz.prog.fieldsOf IK = #[f0, f1, f2] := by simp [Program.fieldsOf, hu]
  have hb := run_equalIn_bool' (P := Tryz.prog) w d 4 b b' Tryz.underlying4
  have hi := run_equalIn_int (P := Tryz.prog) w d 3 .i64 .i64 n n' Tryz.underlying3
  have hs := run_equalIn_string (P := Tryz.prog) w d 9 s s' Tryz.underlying9
  have pa : ∀ (cs : Array Value) (v : Value), cs[0]? = some v → (part 4 cs 0).run Tryz.prog w = .ok v w := fun cs v h => kpart1 Tryz.underlying4 rfl h
  have pb : ∀ (cs : Array Value) (v : Value), cs[1]? = some v → (part 3 cs 1).run Tryz.prog w = .ok v w := fun cs v h => kpart1 Tryz.underlying3 rfl h
  have pc : ∀ (cs : Array Value) (v : Value), cs[2]? = some v → (part 9 cs 2).run Tryz.prog w = .ok v w := fun cs v h => kpart1 Tryz.underlying9 rfl h
  unfold kyV
  rw [run_equalIn_struct w (d + 1) IK _ _ (by rw [hf]; exact hu) ik_held, hf]
  have e1 := pa #[.bool b, .int .i64 n, .string s] _ rfl
  have e2 := pa #[.bool b', .int .i64 n', .string s'] _ rfl
  have e3 := pb #[.bool b, .int .i64 n, .string s] _ rfl
  have e4 := pb #[.bool b', .int .i64 n', .string s'] _ rfl
  have e5 := pc #[.bool b, .int .i64 n, .string s] _ rfl
  have e6 := pc #[.bool b', .int .i64 n', .string s'] _ rfl
  have key : decide ((⟨b, n, s⟩ : Ky) = ⟨b', n', s'⟩) = ((b == b') && ((n == n') && (s.toList == s'.toList))) := by
    rw [Bool.eq_iff_iff]
    simp only [decide_eq_true_eq, Ky.mk.injEq, Bool.and_eq_true, beq_iff_eq]
    constructor
    · rintro ⟨rfl, rfl, rfl⟩; exact ⟨rfl, rfl, rfl⟩
    · rintro ⟨rfl, rfl, h⟩
      refine ⟨rfl, rfl, bytes_same ?_⟩
      simp only [ByteArray.toList_eq] at h
      exact h
  rw [key]
  generalize hq1 : (b == b') = q1 at *
  generalize hq2 : (n == n') = q2 at *
  generalize hq3 : (s.toList == s'.toList) = q3 at *
  cases q1 <;> cases q2 <;> cases q3 <;> simp [Op.eqFields, n0, n1, n2, t0, t1, t2, o0, o1, o2, e1, e2, e3, e4, e5, e6, hb, hi, hs, Result.andThen]
theorem ky_neq (w : World) (y y' : Ky) : (binOp .neq IK (kyV y) (kyV y')).run Tryz.prog w = .ok (.bool (!decide (y = y'))) w := by
  have := ky_eq 9998 w y y'
  unfold kyV at this ⊢
  rw [run_neq_struct, this]
  rfl

theorem ky_eql (w : World) (y y' : Ky) : (binOp .eql IK (kyV y) (kyV y')).run Tryz.prog w = .ok (.bool (decide (y = y'))) w := by
  have := ky_eq 9998 w y y'
  unfold kyV at this ⊢
  rw [run_eql_struct, this]
  rfl

def GK (w : World) (v : Value) : Prop := ∃ y : Ky, v = kyV y
theorem ky_inj {y y' : Ky} (h : kyV y = kyV y') : y = y' := by
  obtain ⟨b, n, s⟩ := y
  obtain ⟨b', n', s'⟩ := y'
  simp [kyV] at h
  obtain ⟨rfl, rfl, rfl⟩ := h
  rfl
theorem ky_check (d : Nat) (w : World) (em : Bool) (y : Ky) : (Instr.checkKey em (d + 2) IK (kyV y)).run Tryz.prog w = .ok () w := by
  obtain ⟨b, n, s⟩ := y
  obtain ⟨f0, f1, f2, hu, n0, n1, n2, t0, t1, t2, o0, o1, o2⟩ := ik_desc
  have pa : (part 4 #[.bool b, .int .i64 n, .string s] 0).run Tryz.prog w = .ok (.bool b) w := kpart1 Tryz.underlying4 rfl rfl
  have pb : (part 3 #[.bool b, .int .i64 n, .string s] 1).run Tryz.prog w = .ok (.int .i64 n) w := kpart1 Tryz.underlying3 rfl rfl
  have pc : (part 9 #[.bool b, .int .i64 n, .string s] 2).run Tryz.prog w = .ok (.string s) w := kpart1 Tryz.underlying9 rfl rfl
  unfold kyV
  simp [Instr.checkKey, run_underlying hu, n0, n1, n2, t0, t1, t2, o0, o1, o2, pa, pb, pc, run_underlying Tryz.underlying4, run_underlying Tryz.underlying3, run_underlying Tryz.underlying9, Result.andThen]
theorem ky_same (d : Nat) (b : Bool) (n : Int) (s : ByteArray) : Instr.sameBits (d + 2) (.agg #[.bool b, .int .i64 n, .string s]) (.agg #[.bool b, .int .i64 n, .string s]) = true := by
  simp [Instr.sameBits]
  first | rfl | (obtain ⟨a⟩ := s; show (a == a) = true; simp) | exact beq_iff_eq.2 rfl
theorem good_ky : raw.Good Tryz.prog IK GK where
  wide := by
    obtain ⟨f0, f1, f2, hu, _⟩ := ik_desc
    rw [hu]
  check := fun w em x ⟨y, e⟩ => e ▸ ky_check 9998 w em y
  eq := fun w x x' ⟨y, e⟩ ⟨y', e'⟩ => ⟨decide (y = y'), by rw [e, e']; exact ky_eq 9998 w y y', by rw [e, e', decide_eq_true_eq]; exact ⟨fun h => h ▸ rfl, ky_inj⟩⟩
  same := fun w x ⟨y, e⟩ => by
    rw [e]
    obtain ⟨b, n, s⟩ := y
    exact ky_same 9998 b n s
theorem gk_stays : raw.Stays GK := fun _ _ _ _ _ _ h => h

end Go.Proofs.YtplfekpagonbbaaGreatDoor.tree

/-
  What the project's FormatInt and the model's FormatInt return: the decimal numeral, for every integer.
  Conditions: the library's table of powers of ten holds what its text lays.
-/
namespace Go.Proofs.YtplfekpagonbbaaGreatDoor.fmt
open Go.ChangeShapes Go.WideShapes Go.ChangeAt Go.RowKit Go.Sort Go.Lib
set_option linter.unusedVariables false

def Tab (w : World) : Prop := Lib.TabIs Tryz.prog w "internal/strconv.uint64pow10" .u64 Lib.pow10Tab

theorem gTab : Tryz.prog.globalNamed "internal/strconv.uint64pow10" = some 2 := by kernel_rfl
theorem Tab.stays {w w' : World} (h : Tab w) (hb : Below w.heap.size w w') : Tab w' := Joins.tab_stays gTab h hb (Nat.le_refl _)

theorem below_grow (w : World) (k : Nat) (os : Array Obj) : Below w.heap.size w (grow (w.drewN k) os) :=
  ⟨rfl, rfl, rfl, by show w.heap.size ≤ (w.heap ++ os).size; simp, fun j hj => heap_grow_old (w.drewN k) os hj⟩

def num (n : Int) : Value := .string ⟨(Lib.itoa n).toArray⟩

theorem libItoa (n : Int) (h0 : -9223372036854775808 ≤ n) (h1 : n ≤ 9223372036854775807) (w : World) (hT : Tab w) :
    Calls Tryz.prog 156 #[.int .i64 n] w fun e w' => e = .returned (num n) ∧ Below w.heap.size w w' :=
  (Tryz.strconv_Itoa n h0 h1 w hT).mono fun e w' ⟨he, k, os, hw⟩ => ⟨he, hw ▸ below_grow w k os⟩

theorem implFormat (n : Int) (h0 : -9223372036854775808 ≤ n) (h1 : n ≤ 9223372036854775807) (w : World) (hT : Tab w) :
    Calls Tryz.prog 150 #[.int .i64 n] w fun e w' => e = .returned (num n) ∧ Below w.heap.size w w' := by
  have HT := Lib.hid hT; clear hT
  go_enter Tryz.func150, Tryz.ntmps150
  go_wp2_with (go_at_call 156; refine (libItoa n h0 h1 _ HT.out).mono ?_; rintro e w' ⟨rfl, hb⟩)
  go_ret
  exact ⟨rfl, hb⟩

/-- What is left to write (u), and what stands behind it (l), are the numeral of a. -/
def Rest (a : Nat) (u : Int) (l : List UInt8) : Prop := if u = 0 then l = Lib.decDigits a else Lib.decDigits u.natAbs ++ l = Lib.decDigits a
theorem Rest.start' {n : Int} (h : n ≠ 0) : Rest n.natAbs n [] := by
  unfold Rest
  rw [if_neg (by omega), List.append_nil]
theorem bytes_cons (b : UInt8) (l : List UInt8) : (⟨#[b]⟩ : ByteArray) ++ ⟨l.toArray⟩ = ⟨(b :: l).toArray⟩ := by
  apply ByteArray.ext
  apply Array.toList_inj.1
  rw [Joins.data_append]
  rfl
theorem Rest.start {n : Int} (h : 1 ≤ n) : Rest n.natAbs n [] := by
  unfold Rest
  rw [if_neg (by omega), List.append_nil]
theorem Rest.done {a : Nat} {l : List UInt8} (h : Rest a 0 l) : l = Lib.decDigits a := by
  unfold Rest at h
  rwa [if_pos rfl] at h
theorem Rest.step {a : Nat} {u v : Int} {l : List UInt8} (h : Rest a u l) (hu : u ≠ 0) (hv : v.natAbs = u.natAbs / 10) : Rest a v (UInt8.ofNat (48 + u.natAbs % 10) :: l) := by
  unfold Rest at h ⊢
  rw [if_neg hu] at h
  rw [← h]
  by_cases h10 : u.natAbs < 10
  · rw [if_pos (by omega), Lib.decDigits_one h10, Nat.mod_eq_of_lt h10]
    rfl
  · rw [if_neg (by omega), dec.decDigits_step h10, hv, List.append_assoc]
    rfl

theorem Rest.len {a : Nat} {u : Int} {l : List UInt8} (h : Rest a u l) (ha : a ≤ 9223372036854775808) : l.length ≤ 20 := by
  have h1 := decDigits_length a
  have h2 := dec.nDigits_le 20 a (by omega) (by have : (10 : Nat) ^ 20 = 100000000000000000000 := by decide
                                                omega)
  unfold Rest at h
  split at h
  · rw [h]; omega
  · have := congrArg List.length h
    rw [List.length_append] at this
    omega

theorem tneg (u : Int) (h : u ≤ 0) : u.tdiv 10 = -((-u) / 10) ∧ u.tmod 10 = -((-u) % 10) := by
  obtain ⟨v, rfl⟩ : ∃ v : Int, u = -v := ⟨-u, by omega⟩
  rw [Int.neg_tdiv, Int.neg_tmod, Int.neg_neg, Int.tdiv_eq_ediv_of_nonneg (by omega), Int.tmod_eq_emod_of_nonneg (by omega)]
  exact ⟨rfl, rfl⟩

theorem run_byte_string {P : Program} (src dst e : TypeId) (v : Int) (h0 : 0 ≤ v) (h1 : v ≤ 255) (hs : P.underlying src = some (.slice e)) (he : P.underlying e = some (.int .u8)) (hd : P.underlying dst = some .string) (w : World) :
    (convert src dst (.slice (some ⟨w.heap.size, 0, none⟩) 1 1)).run P (w.alloc (.cells #[.int .u8 v] e)) = .ok (.string ⟨#[UInt8.ofNat v.toNat]⟩) (w.alloc (.cells #[.int .u8 v] e)) :=
  run_convert_bytes_back (P := P) _ src dst e ⟨w.heap.size, 0, none⟩ 1 [UInt8.ofNat v.toNat] hs he hd (fun j hj => by
    obtain rfl : j = 0 := by simp at hj; omega
    have hv : ((UInt8.ofNat v.toNat).toNat : Int) = v := by rw [UInt8.toNat_ofNat']; omega
    simp only [List.getElem_cons_zero, hv]
    exact World.cell?_alloc_new _ _ _ 0)

theorem specFormat_pos (n : Int) (h0 : 1 ≤ n) (h1 : n ≤ 9223372036854775807) (w : World) :
    Calls Tryz.prog 141 #[.int .i64 n] w fun e w' => e = .returned (num n) ∧ Below w.heap.size w w' := by
  have hz : (n == 0) = false := by rw [beq_eq_false_iff_ne]; omega
  go_enter Tryz.func141, Tryz.ntmps141
  go_wp2
  go_loopw [3, 4] (fun s x wr => ∃ (u : Int) (l : List UInt8), 0 ≤ u ∧ u ≤ n ∧ x = .int .i64 u ∧ s = .string ⟨l.toArray⟩ ∧ Rest n.natAbs u l ∧ Below w.heap.size w wr) (fun _ x _ => (RowKit.intOf x).toNat)
  case atStart => exact ⟨n, [], by omega, by omega, rfl, rfl, Rest.start h0, Below.refl _ _⟩
  case round =>
    obtain ⟨u, l, hu0, hu1, rfl, rfl, hR, hb⟩ := hrel
    have hl := hR.len (by omega)
    by_cases hu : u = 0
    · subst hu
      have HR := Lib.hid hR.done; clear hR
      go_wp2
      go_ret
      exact ⟨by rw [HR.out]; unfold num; rw [dec.itoa_pos' (by omega), show n.toNat = n.natAbs by omega]; rfl, hb⟩
    · have hun : (u == 0) = false := by rw [beq_eq_false_iff_ne]; omega
      have hd0 : 0 ≤ u % 10 := by omega
      have hd9 : u % 10 ≤ 9 := by omega
      have HR := Lib.hid (hR.step hu (v := u / 10) (by omega)); clear hR
      have hcv := run_byte_string (P := Tryz.prog) 22 9 5 (48 + u % 10) (by omega) (by omega) Tryz.underlying22 Tryz.underlying5 Tryz.underlying9
      go_wp2
      refine ⟨⟨u / 10, UInt8.ofNat (48 + u.natAbs % 10) :: l, by omega, by omega, rfl, ?_, HR.out, hb.alloc hb.size _⟩, ?_⟩
      · rw [show (48 + u % 10).toNat = 48 + u.natAbs % 10 by omega]
        exact congrArg Value.string (bytes_cons _ _)
      · simp only [RowKit.intOf]; omega

theorem specFormat_neg (n : Int) (h0 : -9223372036854775808 ≤ n) (h1 : n < 0) (w : World) :
    Calls Tryz.prog 141 #[.int .i64 n] w fun e w' => e = .returned (num n) ∧ Below w.heap.size w w' := by
  have hz : (n == 0) = false := by rw [beq_eq_false_iff_ne]; omega
  go_enter Tryz.func141, Tryz.ntmps141
  go_wp2
  go_loopw [3, 4] (fun s x wr => ∃ (u : Int) (l : List UInt8), u ≤ 0 ∧ n ≤ u ∧ x = .int .i64 u ∧ s = .string ⟨l.toArray⟩ ∧ Rest n.natAbs u l ∧ Below w.heap.size w wr) (fun _ x _ => (RowKit.intOf x).natAbs)
  case atStart => exact ⟨n, [], by omega, by omega, rfl, rfl, Rest.start' (by omega), Below.refl _ _⟩
  case round =>
    obtain ⟨u, l, hu0, hu1, rfl, rfl, hR, hb⟩ := hrel
    have hl := hR.len (by omega)
    by_cases hu : u = 0
    · subst hu
      have HR := Lib.hid hR.done; clear hR
      go_wp2
      go_ret
      exact ⟨by rw [HR.out]; unfold num; rw [dec.itoa_neg' (by omega)]; exact congrArg (fun s => Ending.returned (Value.string s)) (bytes_cons _ _), hb⟩
    · have hun : (u == 0) = false := by rw [beq_eq_false_iff_ne]; omega
      obtain ⟨e1, e2⟩ := tneg u hu0
      have HR := Lib.hid (hR.step hu (v := u.tdiv 10) (by rw [e1]; omega)); clear hR
      have hd0 : u.tmod 10 ≤ 0 := by omega
      have hd9 : -9 ≤ u.tmod 10 := by omega
      have hv0 : u.tdiv 10 ≤ 0 := by omega
      have hv9 : u ≤ u.tdiv 10 := by omega
      have hm : (u.tdiv 10).natAbs < u.natAbs := by omega
      have E2 := Lib.hid e2; clear e1 e2
      by_cases hd : u.tmod 10 < 0
      · have hcv := run_byte_string (P := Tryz.prog) 22 9 5 (48 + -u.tmod 10) (by omega) (by omega) Tryz.underlying22 Tryz.underlying5 Tryz.underlying9
        go_wp2
        refine ⟨⟨u.tdiv 10, UInt8.ofNat (48 + u.natAbs % 10) :: l, by omega, by omega, rfl, ?_, HR.out, hb.alloc hb.size _⟩, ?_⟩
        · have e2 := E2.out
          rw [show (48 + -u.tmod 10).toNat = 48 + u.natAbs % 10 by omega]
          exact congrArg Value.string (bytes_cons _ _)
        · simp only [RowKit.intOf]; omega
      · have hz0 : u.tmod 10 = 0 := by omega
        have hcv := run_byte_string (P := Tryz.prog) 22 9 5 48 (by omega) (by omega) Tryz.underlying22 Tryz.underlying5 Tryz.underlying9
        go_wp2
        refine ⟨⟨u.tdiv 10, UInt8.ofNat (48 + u.natAbs % 10) :: l, by omega, by omega, rfl, ?_, HR.out, hb.alloc hb.size _⟩, ?_⟩
        · have e2 := E2.out
          rw [show 48 + u.natAbs % 10 = 48 by omega]
          exact congrArg Value.string (bytes_cons _ _)
        · simp only [RowKit.intOf]; omega

theorem specFormat_zero (w : World) :
    Calls Tryz.prog 141 #[.int .i64 0] w fun e w' => e = .returned (num 0) ∧ Below w.heap.size w w' := by
  go_enter Tryz.func141, Tryz.ntmps141
  go_wp2
  go_ret
  exact ⟨by unfold num; rw [dec.itoa_pos' (by omega)]; show _ = Ending.returned (.string ⟨(decDigits 0).toArray⟩); rw [Lib.decDigits_one (by omega)]; rfl, Below.refl _ _⟩

theorem specFormat (n : Int) (h0 : -9223372036854775808 ≤ n) (h1 : n ≤ 9223372036854775807) (w : World) :
    Calls Tryz.prog 141 #[.int .i64 n] w fun e w' => e = .returned (num n) ∧ Below w.heap.size w w' := by
  by_cases hn : n < 0
  · exact specFormat_neg n h0 hn w
  · by_cases hz : n = 0
    · subst hz; exact specFormat_zero w
    · exact specFormat_pos n (by omega) h1 w

end Go.Proofs.YtplfekpagonbbaaGreatDoor.fmt

/-
  What the project's ParseInt and ParseSigned return: the number whose decimal numeral the text is, if there is one in range, and else 0 and false.
  Conditions: the text has at most 2^48 bytes; the library's table of powers of ten and its two errors hold what its text lays.
-/
namespace Go.Proofs.YtplfekpagonbbaaGreatDoor.prs
open Go.ChangeShapes Go.WideShapes Go.ChangeAt Go.RowKit Go.Sort Go.Lib
set_option linter.unusedVariables false

/-- What the library's reading wants of the world. -/
def Env (w : World) : Prop := fmt.Tab w ∧ (∃ tp p, w.var? Tryz.prog "strconv.ErrSyntax" = some #[.iface tp p]) ∧ (∃ tp p, w.var? Tryz.prog "strconv.ErrRange" = some #[.iface tp p])
theorem gES : Tryz.prog.globalNamed "strconv.ErrSyntax" = some 0 := by kernel_rfl
theorem gER : Tryz.prog.globalNamed "strconv.ErrRange" = some 1 := by kernel_rfl
theorem Env.stays {w w' : World} (h : Env w) (hb : RowKit.Below w.heap.size w w') : Env w' := by
  obtain ⟨h1, ⟨t2, p2, h2⟩, ⟨t3, p3, h3⟩⟩ := h
  exact ⟨h1.stays hb, ⟨t2, p2, Joins.var_stays gES h2 hb (Nat.le_refl _)⟩, ⟨t3, p3, Joins.var_stays gER h3 hb (Nat.le_refl _)⟩⟩

def two (x : Int × Bool) : Value := .tuple #[.int .i64 x.1, .bool x.2]

theorem libAtoi_ok (s : ByteArray) (hl : s.size ≤ 281474976710656) (v : Int) (h : Lib.atoiAll s.data.toList = .ok v) (w : World) :
    Calls Tryz.prog 149 #[.string s] w fun e w' => e = .returned (.tuple #[.int .i64 v, .nilIface]) ∧ RowKit.Below w.heap.size w w' :=
  (Tryz.strconv_Atoi_ok s (by omega) v h w).mono fun e w' ⟨he, hw⟩ => ⟨he, by
    rcases hw with rfl | ⟨t, rfl⟩
    · exact RowKit.Below.refl _ _
    · exact Lib.bytesWorld_below _ _ _⟩

theorem libAtoi_bad (s : ByteArray) (hl : s.size ≤ 281474976710656) (h : ∀ v, Lib.atoiAll s.data.toList ≠ .ok v) (w : World) (hE : Env w) :
    Calls Tryz.prog 149 #[.string s] w fun e w' => ∃ (n : Int) (N : Nat), e = .returned (.tuple #[.int .i64 n, .iface 178 (.pointer (some ⟨N, 0, none⟩))]) ∧ RowKit.Below w.heap.size w w' := by
  obtain ⟨_, ⟨t2, p2, h2⟩, ⟨t3, p3, h3⟩⟩ := hE
  by_cases hr : Lib.atoiAll s.data.toList = .range
  · exact (Tryz.strconv_Atoi_range_var s hl hr t3 p3 w h3).mono fun e w' ⟨N, he, _, _, hb⟩ => ⟨_, N, he, hb⟩
  · exact (Tryz.strconv_Atoi_syntax_var s hl (fun e he => ⟨fun hh => hr (he.trans hh), fun v hh => h v (he.trans hh)⟩) t2 p2 w h2).mono fun e w' ⟨N, he, _, _, hb⟩ => ⟨_, N, he, hb⟩

theorem within (s : ByteArray) (low high : Int) (hl : s.size ≤ 281474976710656) (w : World) (hE : Env w) :
    Calls Tryz.prog 139 #[.string s, .int .i64 low, .int .i64 high] w fun e w' => e = .returned (two (dec.pr low high s.data.toList)) ∧ RowKit.Below w.heap.size w w' := by
  have HE := Lib.hid hE; clear hE
  by_cases hv : ∃ v, Lib.atoiAll s.data.toList = .ok v
  · obtain ⟨v, hv⟩ := hv
    obtain ⟨v0, v1⟩ := Lib.atoiAll_bounds hv
    have hpr : dec.pr low high s.data.toList = if Lib.itoa v = s.data.toList ∧ low ≤ v ∧ v ≤ high then (v, true) else (0, false) := by unfold dec.pr; rw [hv]
    have HV := Lib.hid hv; clear hv
    by_cases hs : Lib.itoa v = s.data.toList
    · have hn : fmt.num v = .string s := by unfold fmt.num; rw [hs, Joins.bytes_eta]
      by_cases hr : nums.inr v low high = true
      · have hp : dec.pr low high s.data.toList = (v, true) := by rw [hpr, if_pos]; unfold nums.inr at hr; simp at hr; exact ⟨hs, hr.1, hr.2⟩
        have HP := Lib.hid hp; have HN := Lib.hid hn; have HR := Lib.hid hr; clear hp hn hr hpr hs
        go_enter Tryz.func139, Tryz.ntmps139
        go_wp2_with (first | (go_at_call 149; refine (libAtoi_ok s hl v HV.out _).mono ?_; rintro e w1 ⟨rfl, hb1⟩) | (go_at_call 150; refine (fmt.implFormat v v0 v1 _ (HE.out.stays hb1).1).mono ?_; rintro e w2 ⟨rfl, hb2⟩; rw [HN.out]) | (go_at_call 98; refine (nums.implInRange _ _ _ _).mono ?_; rintro e w3 ⟨rfl, rfl⟩; rw [HR.out]))
        go_ret2
        exact ⟨by rw [HP.out]; rfl, hb1.trans (hb2.mono hb1.size)⟩
      · have hr' : nums.inr v low high = false := by simpa using hr
        have hp : dec.pr low high s.data.toList = (0, false) := by rw [hpr, if_neg]; unfold nums.inr at hr; simp at hr; intro hh; have := hr hh.2.1; omega
        have HP := Lib.hid hp; have HN := Lib.hid hn; have HR := Lib.hid hr'; clear hp hn hr hr' hpr hs
        go_enter Tryz.func139, Tryz.ntmps139
        go_wp2_with (first | (go_at_call 149; refine (libAtoi_ok s hl v HV.out _).mono ?_; rintro e w1 ⟨rfl, hb1⟩) | (go_at_call 150; refine (fmt.implFormat v v0 v1 _ (HE.out.stays hb1).1).mono ?_; rintro e w2 ⟨rfl, hb2⟩; rw [HN.out]) | (go_at_call 98; refine (nums.implInRange _ _ _ _).mono ?_; rintro e w3 ⟨rfl, rfl⟩; rw [HR.out]))
        go_ret2
        exact ⟨by rw [HP.out]; rfl, hb1.trans (hb2.mono hb1.size)⟩
    · have hp : dec.pr low high s.data.toList = (0, false) := by rw [hpr, if_neg]; exact fun hh => hs hh.1
      obtain ⟨b, hn, hbs⟩ : ∃ b, fmt.num v = .string b ∧ b ≠ s := ⟨_, rfl, fun hh => hs (by rw [← hh])⟩
      have hbs1 : ¬ b.toList = s.toList := fun hh => hbs (by rw [ByteArray.toList_eq, ByteArray.toList_eq] at hh; exact Go.WideShapes.bytes_inj hh)
      have HP := Lib.hid hp; have HN := Lib.hid hn; clear hp hn hpr hs hbs
      go_enter Tryz.func139, Tryz.ntmps139
      go_wp2_with (first | (go_at_call 149; refine (libAtoi_ok s hl v HV.out _).mono ?_; rintro e w1 ⟨rfl, hb1⟩) | (go_at_call 150; refine (fmt.implFormat v v0 v1 _ (HE.out.stays hb1).1).mono ?_; rintro e w2 ⟨rfl, hb2⟩; rw [HN.out]))
      go_ret2
      exact ⟨by rw [HP.out]; rfl, hb1.trans (hb2.mono hb1.size)⟩
  · have hp : dec.pr low high s.data.toList = (0, false) := by
      unfold dec.pr
      split
      · rename_i n hn
        exact absurd ⟨n, hn⟩ hv
      · rfl
    have hv' : ∀ v, Lib.atoiAll s.data.toList ≠ .ok v := fun v hh => hv ⟨v, hh⟩
    have HP := Lib.hid hp; have HV := Lib.hid hv'; clear hp hv hv'
    go_enter Tryz.func139, Tryz.ntmps139
    go_wp2_with (first | (go_at_call 149; refine (libAtoi_bad s hl HV.out _ HE.out).mono ?_; rintro e w1 ⟨n, N, rfl, hb1⟩))
    go_ret2
    exact ⟨by rw [HP.out]; rfl, hb1⟩

end Go.Proofs.YtplfekpagonbbaaGreatDoor.prs

/-
  What the model's ParseInt and ParseSigned return: the same numbers as the project's.
  Conditions: the text has at most 2^48 bytes.
-/
namespace Go.Proofs.YtplfekpagonbbaaGreatDoor.prs
open Go.ChangeShapes Go.WideShapes Go.ChangeAt Go.RowKit Go.Sort Go.Lib
set_option linter.unusedVariables false


theorem implParseSigned (s : ByteArray) (hl : s.size ≤ 281474976710656) (w : World) (hE : Env w) :
    Calls Tryz.prog 102 #[.string s] w fun e w' => e = .returned (two (dec.pr (-1000000000) 1000000000 s.data.toList)) ∧ RowKit.Below w.heap.size w w' := by
  have HE := Lib.hid hE; clear hE
  generalize hp : dec.pr (-1000000000) 1000000000 s.data.toList = x
  have HP := Lib.hid hp; clear hp
  obtain ⟨x1, x2⟩ := x
  go_enter Tryz.func102, Tryz.ntmps102
  go_wp2_with (go_at_call 139; refine (within s (-1000000000) 1000000000 hl _ HE.out).mono ?_; rintro e w1 ⟨rfl, hb1⟩; rw [HP.out]; unfold two)
  go_ret2
  exact ⟨rfl, hb1⟩

theorem val_lt : ∀ (l : List UInt8) (a : Nat), (∀ b ∈ l, dec.isDig b) → dec.valFrom a l < (a + 1) * 10 ^ l.length
  | [], a, _ => by rw [dec.valFrom_nil]; simp
  | b :: l, a, h => by
    have hb : dec.isDig b := h b List.mem_cons_self
    unfold dec.isDig at hb
    have ih := val_lt l (10 * a + (b.toNat - 48)) (fun x hx => h x (List.mem_cons_of_mem _ hx))
    rw [dec.valFrom_cons]
    have e : (10 * a + (b.toNat - 48) + 1) * 10 ^ l.length ≤ (10 * (a + 1)) * 10 ^ l.length := Nat.mul_le_mul_right _ (by omega)
    have e2 : (10 * (a + 1)) * 10 ^ l.length = (a + 1) * 10 ^ (l.length + 1) := by rw [Nat.pow_succ, Nat.mul_comm 10 (a + 1), Nat.mul_assoc, Nat.mul_comm 10]
    rw [List.length_cons]
    omega

theorem val_small {l : List UInt8} (h : ∀ b ∈ l, dec.isDig b) (hl : l.length ≤ 13) : dec.val l < 10000000000000 := by
  have h1 := val_lt l 0 h
  have h2 : 10 ^ l.length ≤ 10 ^ 13 := Nat.pow_le_pow_right (by omega) hl
  have h3 : (10 : Nat) ^ 13 = 10000000000000 := by decide
  unfold dec.val
  omega

/-- After k bytes, all of them digits, the number is u. -/
def Sofar (l : List UInt8) (k u : Nat) : Prop := (∀ b ∈ l.take k, dec.isDig b) ∧ u = dec.val (l.take k)
theorem Sofar.start (l : List UInt8) : Sofar l 0 0 := ⟨by simp, by simp [dec.val, dec.valFrom_nil]⟩
theorem size_eq (s : ByteArray) : s.data.toList.length = s.size := Array.length_toList
theorem Sofar.step {s : ByteArray} {k u : Nat} (h : Sofar s.data.toList k u) (hk : k < s.size) (hd : dec.isDig s[k]) : Sofar s.data.toList (k + 1) (10 * u + (s[k].toNat - 48)) := by
  have e : s.data.toList.take (k + 1) = s.data.toList.take k ++ [s[k]] := by
    rw [List.take_succ_eq_append_getElem (by rw [size_eq]; exact hk)]; rfl
  unfold Sofar
  rw [e]
  refine ⟨fun b hb => ?_, by rw [dec.val_snoc, h.2]⟩
  rcases List.mem_append.1 hb with hb | hb
  · exact h.1 b hb
  · simp only [List.mem_singleton] at hb
    rw [hb]
    exact hd
theorem mem_at {s : ByteArray} {k : Nat} (hk : k < s.size) : s[k] ∈ s.data.toList := by
  have h : s.data.toList[k]'(by rw [size_eq]; exact hk) ∈ s.data.toList := List.getElem_mem _
  exact h
theorem Sofar.all {s : ByteArray} {u : Nat} (h : Sofar s.data.toList s.size u) : (∀ b ∈ s.data.toList, dec.isDig b) ∧ u = dec.val s.data.toList := by
  unfold Sofar at h
  rw [List.take_of_length_le (by rw [size_eq]; omega)] at h
  exact h
theorem Sofar.small {l : List UInt8} {k u : Nat} (h : Sofar l k u) (hk : k ≤ 13) : u < 10000000000000 := by
  rw [h.2]
  exact val_small h.1 (by rw [List.length_take]; omega)

theorem specParse (s : ByteArray) (hl : s.size ≤ 281474976710656) (w : World) :
    Calls Tryz.prog 113 #[.string s] w fun e w' => e = .returned (two (dec.pr 0 1000000000000 s.data.toList)) ∧ RowKit.Below w.heap.size w w' := by
  rw [← dec.sp_eq]
  have hsz : s.data.toList.length = s.size := Array.length_toList
  by_cases hr : nums.inr (s.size : Int) 1 13 = true
  · have hr1 : 1 ≤ s.size ∧ s.size ≤ 13 := by unfold nums.inr at hr; simp at hr; omega
    have HR := Lib.hid hr; clear hr
    have HZ := Lib.hid hsz; clear hsz
    obtain ⟨hr1, hr2⟩ := hr1
    go_enter Tryz.func113, Tryz.ntmps113
    go_wp2_with (go_at_call 54; refine (nums.l1In _ _ _ _).mono ?_; rintro e w1 ⟨rfl, rfl⟩; rw [HR.out])
    go_loop [4, 5] (fun n i => ∃ (k u : Nat) (x : Int), k ≤ s.size ∧ i = .int .i64 k ∧ Sofar s.data.toList k u ∧ 0 ≤ x ∧ x < 10000000000000 ∧ Hid (x = (u : Int)) ∧ n = .int .i64 x) (fun _ i => s.size - (RowKit.intOf i).toNat)
    case atStart => exact ⟨0, 0, 0, by omega, rfl, Sofar.start _, by omega, by omega, rfl, rfl⟩
    case round =>
      obtain ⟨k, u, x, hk, rfl, hS, hx0, hx1, HX, rfl⟩ := hrel
      by_cases hlt : k < s.size
      · have hb0 : (0 : Int) ≤ (s[k].toNat : Int) := by omega
        have hb9 : (s[k].toNat : Int) ≤ 255 := by have := s[k].toNat_lt; omega
        by_cases hd : dec.isDig s[k]
        · have hd' := hd
          unfold dec.isDig at hd'
          obtain ⟨d1, d2⟩ := hd'
          have D1 : (48 : Int) ≤ (s[k].toNat : Int) := by omega
          have D2 : (s[k].toNat : Int) ≤ 57 := by omega
          have hin : nums.inr (s[k].toNat : Int) 48 57 = true := by unfold nums.inr; simp; omega
          have hS' := hS.step hlt hd
          have hu' := hS'.small (by omega)
          have HS := Lib.hid hS'; have HIN := Lib.hid hin; clear hS hS' hin hd
          go_wp2_with (go_at_call 54; refine (nums.l1In _ _ _ _).mono ?_; rintro e w1 ⟨rfl, rfl⟩; rw [HIN.out])
          exact ⟨⟨k + 1, 10 * u + (s[k].toNat - 48), 10 * x + ((s[k].toNat : Int) - 48), by omega, by go_num, HS.out, by omega, by have := HX.out; omega, by have := HX.out; show _ = _; omega, rfl⟩, by simp only [RowKit.intOf]; omega⟩
        · have hin : nums.inr (s[k].toNat : Int) 48 57 = false := by unfold dec.isDig at hd; unfold nums.inr; simp; omega
          have hsp : dec.sp s.data.toList = (0, false) := by
            unfold dec.sp
            rw [if_neg]
            exact fun hh => hd (hh.2.2.1 _ (mem_at hlt))
          have HSP := Lib.hid hsp; have HIN := Lib.hid hin; clear hS hin hd hsp
          go_wp2_with (go_at_call 54; refine (nums.l1In _ _ _ _).mono ?_; rintro e w1 ⟨rfl, rfl⟩; rw [HIN.out])
          go_ret2
          exact ⟨by rw [HSP.out]; rfl, RowKit.Below.refl _ _⟩
      · obtain rfl : k = s.size := by omega
        obtain ⟨ha, hv⟩ := hS.all
        have hz := HZ.out
        have hx := HX.out
        by_cases hm : 1000000000000 < x
        · have hsp : dec.sp s.data.toList = (0, false) := by
            unfold dec.sp
            rw [if_neg]
            exact fun hh => by have := hh.2.2.2.1; omega
          have HSP := Lib.hid hsp; clear hsp ha hv hz hS hx
          go_wp2
          go_ret2
          exact ⟨by rw [HSP.out]; rfl, RowKit.Below.refl _ _⟩
        · by_cases hi : Lib.itoa (u : Int) = s.data.toList
          · have hn : fmt.num x = .string s := by unfold fmt.num; rw [hx, hi, Joins.bytes_eta]
            have hsp : dec.sp s.data.toList = (x, true) := by
              unfold dec.sp
              rw [if_pos, hx, hv]
              exact ⟨by omega, by omega, ha, by omega, by rw [← hv]; exact hi⟩
            have HSP := Lib.hid hsp; have HN := Lib.hid hn; clear hsp ha hv hz hS hi hn hx
            go_wp2_with (go_at_call 141; refine (fmt.specFormat _ (by omega) (by omega) _).mono ?_; rintro e w2 ⟨rfl, hb2⟩; rw [HN.out])
            go_ret2
            exact ⟨by rw [HSP.out]; rfl, hb2⟩
          · have hsp : dec.sp s.data.toList = (0, false) := by
              unfold dec.sp
              rw [if_neg]
              exact fun hh => hi (by rw [hv]; exact hh.2.2.2.2)
            obtain ⟨b, hn, hbs⟩ : ∃ b, fmt.num x = .string b ∧ b ≠ s := ⟨_, rfl, fun hh => hi (by rw [← hh, hx])⟩
            have hbs1 : ¬ b.toList = s.toList := fun hh => hbs (by rw [ByteArray.toList_eq, ByteArray.toList_eq] at hh; exact Go.WideShapes.bytes_inj hh)
            have hbs2 : (b.toList == s.toList) = false := by rw [beq_eq_false_iff_ne]; exact hbs1
            have HSP := Lib.hid hsp; have HN := Lib.hid hn; clear hsp ha hv hz hS hi hn hbs hx
            go_wp2_with (go_at_call 141; refine (fmt.specFormat _ (by omega) (by omega) _).mono ?_; rintro e w2 ⟨rfl, hb2⟩; rw [HN.out])
            go_ret2
            exact ⟨by rw [HSP.out]; rfl, hb2⟩
  · have hr' : nums.inr (s.size : Int) 1 13 = false := by simpa using hr
    have hsp : dec.sp s.data.toList = (0, false) := by
      unfold dec.sp
      rw [if_neg]
      intro hh
      apply hr
      unfold nums.inr
      simp
      omega
    have HSP := Lib.hid hsp; have HR := Lib.hid hr'; clear hr hr' hsp
    go_enter Tryz.func113, Tryz.ntmps113
    go_wp2_with (go_at_call 54; refine (nums.l1In _ _ _ _).mono ?_; rintro e w1 ⟨rfl, rfl⟩; rw [HR.out])
    go_ret2
    exact ⟨by rw [HSP.out]; rfl, RowKit.Below.refl _ _⟩

theorem tail_eq (s : ByteArray) : (s.extract 1 s.size).data.toList = s.data.toList.tail := by
  rw [Lib.extract_to_end]
  exact List.drop_one

theorem specParseSigned (s : ByteArray) (hl : s.size ≤ 281474976710656) (w : World) :
    Calls Tryz.prog 57 #[.string s] w fun e w' => e = .returned (two (dec.pr (-1000000000) 1000000000 s.data.toList)) ∧ RowKit.Below w.heap.size w w' := by
  rw [← dec.sps_eq]
  have hsz := size_eq s
  by_cases hneg : s.data.toList.head? = some 45
  · have h0 : 0 < s.size := by
      rcases Nat.eq_zero_or_pos s.size with h | h
      · have : s.data.toList = [] := List.eq_nil_of_length_eq_zero (by omega)
        rw [this] at hneg
        cases hneg
      · exact h
    have h45 : s[0] = 45 := by
      have : s.data.toList.head? = some s[0] := by
        rw [List.head?_eq_getElem?, List.getElem?_eq_getElem (by omega)]
        rfl
      rw [this] at hneg
      injection hneg
    have hps : dec.sps s.data.toList = if (dec.sp s.data.toList.tail).2 = true ∧ (dec.sp s.data.toList.tail).1 ≤ 1000000000 ∧ (dec.sp s.data.toList.tail).1 ≠ 0 then (-(dec.sp s.data.toList.tail).1, true) else (0, false) := by
      unfold dec.sps
      rw [if_pos hneg]
    have hb := dec.pr_true (low := 0) (high := 1000000000000) (l := s.data.toList.tail)
    rw [dec.sp_eq] at hps
    rw [← tail_eq] at hps hb
    have hes : (s.extract 1 s.size).size ≤ 281474976710656 := by rw [ByteArray.size_extract]; omega
    generalize hx : dec.pr 0 1000000000000 (s.extract 1 s.size).data.toList = x at hps hb
    obtain ⟨n, ok⟩ := x
    have HX := Lib.hid hx; have HES := Lib.hid hes; clear hx hes hneg hsz
    cases ok
    · rw [if_neg (fun hh => by cases hh.1)] at hps
      have HP := Lib.hid hps; clear hps hb
      go_enter Tryz.func57, Tryz.ntmps57
      go_wp2_with (go_at_call 113; refine (specParse _ HES.out _).mono ?_; rintro e w1 ⟨rfl, hb1⟩; rw [HX.out]; unfold two)
      go_ret2
      exact ⟨by rw [HP.out]; rfl, hb1⟩
    · obtain ⟨_, b1, b2⟩ := hb rfl
      simp only at b1 b2
      by_cases hm : n ≤ 1000000000
      · by_cases hz : n = 0
        · subst hz
          rw [if_neg (fun hh => hh.2.2 rfl)] at hps
          have HP := Lib.hid hps; clear hps hb
          go_enter Tryz.func57, Tryz.ntmps57
          go_wp2_with (go_at_call 113; refine (specParse _ HES.out _).mono ?_; rintro e w1 ⟨rfl, hb1⟩; rw [HX.out]; unfold two)
          go_ret2
          exact ⟨by rw [HP.out]; rfl, hb1⟩
        · rw [if_pos ⟨rfl, hm, hz⟩] at hps
          have hz1 : (n == 0) = false := by rw [beq_eq_false_iff_ne]; exact hz
          have HP := Lib.hid hps; clear hps hb
          go_enter Tryz.func57, Tryz.ntmps57
          go_wp2_with (go_at_call 113; refine (specParse _ HES.out _).mono ?_; rintro e w1 ⟨rfl, hb1⟩; rw [HX.out]; unfold two)
          go_ret2
          exact ⟨by rw [HP.out]; rfl, hb1⟩
      · rw [if_neg (fun hh => hm hh.2.1)] at hps
        have HP := Lib.hid hps; clear hps hb
        go_enter Tryz.func57, Tryz.ntmps57
        go_wp2_with (go_at_call 113; refine (specParse _ HES.out _).mono ?_; rintro e w1 ⟨rfl, hb1⟩; rw [HX.out]; unfold two)
        go_ret2
        exact ⟨by rw [HP.out]; rfl, hb1⟩
  · have hps : dec.sps s.data.toList = if (dec.sp s.data.toList).2 = true ∧ (dec.sp s.data.toList).1 ≤ 1000000000 then ((dec.sp s.data.toList).1, true) else (0, false) := by
      unfold dec.sps
      rw [if_neg hneg]
    have hb := dec.pr_true (low := 0) (high := 1000000000000) (l := s.data.toList)
    rw [dec.sp_eq] at hps
    generalize hx : dec.pr 0 1000000000000 s.data.toList = x at hps hb
    obtain ⟨n, ok⟩ := x
    have HX := Lib.hid hx; clear hx
    by_cases h0 : 0 < s.size
    · have h45 : s[0] ≠ 45 := by
        intro h
        apply hneg
        rw [List.head?_eq_getElem?, List.getElem?_eq_getElem (by omega)]
        exact congrArg some h
      have h46 : ((s[0].toNat : Int) == 45) = false := by
        rw [beq_eq_false_iff_ne]
        intro h
        apply h45
        apply UInt8.toNat_inj.1
        have : (45 : UInt8).toNat = 45 := rfl
        omega
      clear hneg hsz h45
      cases ok
      · rw [if_neg (fun hh => by cases hh.1)] at hps
        have HP := Lib.hid hps; clear hps hb
        go_enter Tryz.func57, Tryz.ntmps57
        go_wp2_with (go_at_call 113; refine (specParse _ hl _).mono ?_; rintro e w1 ⟨rfl, hb1⟩; rw [HX.out]; unfold two)
        go_ret2
        exact ⟨by rw [HP.out]; rfl, hb1⟩
      · obtain ⟨_, b1, b2⟩ := hb rfl
        simp only at b1 b2
        by_cases hm : n ≤ 1000000000
        · rw [if_pos ⟨rfl, hm⟩] at hps
          have HP := Lib.hid hps; clear hps hb
          go_enter Tryz.func57, Tryz.ntmps57
          go_wp2_with (go_at_call 113; refine (specParse _ hl _).mono ?_; rintro e w1 ⟨rfl, hb1⟩; rw [HX.out]; unfold two)
          go_ret2
          exact ⟨by rw [HP.out]; rfl, hb1⟩
        · rw [if_neg (fun hh => hm hh.2)] at hps
          have HP := Lib.hid hps; clear hps hb
          go_enter Tryz.func57, Tryz.ntmps57
          go_wp2_with (go_at_call 113; refine (specParse _ hl _).mono ?_; rintro e w1 ⟨rfl, hb1⟩; rw [HX.out]; unfold two)
          go_ret2
          exact ⟨by rw [HP.out]; rfl, hb1⟩
    · have hsz0 : (s.size : Int) ≤ 0 := by omega
      clear hneg hsz
      cases ok
      · rw [if_neg (fun hh => by cases hh.1)] at hps
        have HP := Lib.hid hps; clear hps hb
        go_enter Tryz.func57, Tryz.ntmps57
        go_wp2_with (go_at_call 113; refine (specParse _ hl _).mono ?_; rintro e w1 ⟨rfl, hb1⟩; rw [HX.out]; unfold two)
        go_ret2
        exact ⟨by rw [HP.out]; rfl, hb1⟩
      · obtain ⟨_, b1, b2⟩ := hb rfl
        simp only at b1 b2
        by_cases hm : n ≤ 1000000000
        · rw [if_pos ⟨rfl, hm⟩] at hps
          have HP := Lib.hid hps; clear hps hb
          go_enter Tryz.func57, Tryz.ntmps57
          go_wp2_with (go_at_call 113; refine (specParse _ hl _).mono ?_; rintro e w1 ⟨rfl, hb1⟩; rw [HX.out]; unfold two)
          go_ret2
          exact ⟨by rw [HP.out]; rfl, hb1⟩
        · rw [if_neg (fun hh => hm hh.2)] at hps
          have HP := Lib.hid hps; clear hps hb
          go_enter Tryz.func57, Tryz.ntmps57
          go_wp2_with (go_at_call 113; refine (specParse _ hl _).mono ?_; rintro e w1 ⟨rfl, hb1⟩; rw [HX.out]; unfold two)
          go_ret2
          exact ⟨by rw [HP.out]; rfl, hb1⟩

end Go.Proofs.YtplfekpagonbbaaGreatDoor.prs

/-
  IsKey of the project and of the model.
  Conditions: the key's text has at most 2^48 bytes; the package variables of the library's reading of numbers hold what the program's text lays.
-/
namespace Go.Proofs.YtplfekpagonbbaaGreatDoor.tree
open Go.ChangeShapes Go.WideShapes Go.ChangeAt Go.RowKit
set_option linter.unusedVariables false

def num (s : ByteArray) : Bool := (dec.pr (-1000000000) 1000000000 s.data.toList).2
def keyB (y : Ky) : Bool := if y.text then decide (y.num = 0) && decide (y.str.size ≤ 400) && !num y.str else nums.inr y.num (-1000000000) 1000000000 && decide (y.str.size = 0)

def KeyQ (w : World) (b : Bool) (e : Ending) (w' : World) : Prop := e = .returned (.bool b) ∧ Below w.heap.size w w'
theorem empty_of {s : ByteArray} (h : s.size = 0) : s = ⟨#[]⟩ := by
  obtain ⟨a⟩ := s
  have : a = #[] := Array.eq_empty_of_size_eq_zero h
  rw [this]
theorem list_of {s : ByteArray} (h : s.size ≠ 0) : ¬ s.toList = [] ∧ s.toList.isEmpty = false := by
  have h1 : ¬ s.toList = [] := fun hh => h (by
    rw [ByteArray.toList_eq] at hh
    have : s.data.toList.length = 0 := by rw [hh]; rfl
    simpa using this)
  exact ⟨h1, by cases hl : s.toList with
    | nil => exact absurd hl h1
    | cons a l => rfl⟩

set_option maxHeartbeats 800000 in
theorem isKey_i (y : Ky) (hs : y.str.size ≤ 281474976710656) (w : World) (hE : prs.Env w) : Calls Tryz.prog 49 #[kyV y] w (KeyQ w (keyB y)) := by
  obtain ⟨b, m, s⟩ := y
  replace hs : s.size ≤ 281474976710656 := hs
  have HE := Lib.hid hE
  clear hE
  cases b
  · have e : keyB ⟨false, m, s⟩ = (nums.inr m (-1000000000) 1000000000 && decide (s.size = 0)) := rfl
    rw [e]
    clear e
    unfold kyV
    obtain ⟨q, HQ⟩ : ∃ q, Hid (nums.inr m (-1000000000) 1000000000 = q) := ⟨_, Lib.hid rfl⟩
    have IR : ∀ w, Calls Tryz.prog 98 #[.int .i64 m, .int .i64 (-1000000000), .int .i64 1000000000] w fun e w' => e = .returned (.bool q) ∧ w = w' := fun w => HQ.out ▸ nums.implInRange m (-1000000000) 1000000000 w
    rw [HQ.out]
    by_cases h0 : s.size = 0
    · obtain rfl := empty_of h0
      cases q
      all_goals
        go_enter Tryz.func49, Tryz.ntmps49
        go_wp2_with (fail)
        refine (IR _).mono ?_
        rintro e w1 ⟨rfl, rfl⟩
        go_wp2_with (fail)
        go_ret
        exact ⟨rfl, b1 _ _⟩
    · obtain ⟨l1, l2⟩ := list_of h0
      rw [show decide (s.size = 0) = false from decide_eq_false h0]
      clear h0
      cases q
      all_goals
        go_enter Tryz.func49, Tryz.ntmps49
        go_wp2_with (fail)
        refine (IR _).mono ?_
        rintro e w1 ⟨rfl, rfl⟩
        go_wp2_with (fail)
        go_ret
        exact ⟨rfl, b1 _ _⟩
  · have e : keyB ⟨true, m, s⟩ = (decide (m = 0) && decide (s.size ≤ 400) && !num s) := rfl
    rw [e]
    clear e
    unfold kyV
    obtain ⟨⟨x1, x2⟩, HX⟩ : ∃ x, Hid (dec.pr (-1000000000) 1000000000 s.data.toList = x) := ⟨_, Lib.hid rfl⟩
    have hn : num s = x2 := by unfold num; rw [HX.out]
    rw [hn]
    have PS : Hid (∀ w, prs.Env w → Calls Tryz.prog 102 #[.string s] w fun e w' => e = .returned (.tuple #[.int .i64 x1, .bool x2]) ∧ Below w.heap.size w w') := Lib.hid fun w hE => by
      have := prs.implParseSigned s hs w hE
      rw [HX.out] at this
      exact this
    clear hn
    by_cases h0 : m = 0
    · subst h0
      by_cases h4 : s.size ≤ 400
      · rw [show decide (s.size ≤ 400) = true from decide_eq_true h4]
        cases x2
        all_goals
          go_enter Tryz.func49, Tryz.ntmps49
          go_wp2_with (fail)
          refine (PS.out _ (HE.out.stays (b1 _ _))).mono ?_
          rintro e w1 ⟨rfl, hb1⟩
          have HB := Lib.hid (bs (b1 w _) hb1)
          obtain ⟨r1, -⟩ := rowc (carry hb1 (heap_alloc_new w _))
          clear hb1
          go_wp2_with (fail)
          go_ret
          exact ⟨rfl, HB.out⟩
      · rw [show decide (s.size ≤ 400) = false from decide_eq_false h4]
        have h4' : 400 < s.size := by omega
        clear h4
        go_enter Tryz.func49, Tryz.ntmps49
        go_wp2_with (fail)
        refine (PS.out _ (HE.out.stays (b1 _ _))).mono ?_
        rintro e w1 ⟨rfl, hb1⟩
        have HB := Lib.hid (bs (b1 w _) hb1)
        obtain ⟨r1, -⟩ := rowc (carry hb1 (heap_alloc_new w _))
        clear hb1
        go_wp2_with (fail)
        go_ret
        exact ⟨rfl, HB.out⟩
    · rw [show decide (m = 0) = false from decide_eq_false h0]
      go_enter Tryz.func49, Tryz.ntmps49
      go_wp2_with (fail)
      refine (PS.out _ (HE.out.stays (b1 _ _))).mono ?_
      rintro e w1 ⟨rfl, hb1⟩
      have HB := Lib.hid (bs (b1 w _) hb1)
      obtain ⟨r1, -⟩ := rowc (carry hb1 (heap_alloc_new w _))
      clear hb1
      go_wp2_with (fail)
      go_ret
      exact ⟨rfl, HB.out⟩

set_option maxHeartbeats 800000 in
theorem isKey_s (y : Ky) (hs : y.str.size ≤ 281474976710656) (w : World) (hE : prs.Env w) : Calls Tryz.prog 15 #[kyV y] w (KeyQ w (keyB y)) := by
  obtain ⟨b, m, s⟩ := y
  replace hs : s.size ≤ 281474976710656 := hs
  have HE := Lib.hid hE
  clear hE
  cases b
  · have e : keyB ⟨false, m, s⟩ = (nums.inr m (-1000000000) 1000000000 && decide (s.size = 0)) := rfl
    rw [e]
    clear e
    unfold kyV
    obtain ⟨q, HQ⟩ : ∃ q, Hid (nums.inr m (-1000000000) 1000000000 = q) := ⟨_, Lib.hid rfl⟩
    have IR : ∀ w, Calls Tryz.prog 54 #[.int .i64 m, .int .i64 (-1000000000), .int .i64 1000000000] w fun e w' => e = .returned (.bool q) ∧ w = w' := fun w => HQ.out ▸ nums.l1In m (-1000000000) 1000000000 w
    rw [HQ.out]
    by_cases h0 : s.size = 0
    · obtain rfl := empty_of h0
      cases q
      all_goals
        go_enter Tryz.func15, Tryz.ntmps15
        go_wp2_with (fail)
        refine (IR _).mono ?_
        rintro e w1 ⟨rfl, rfl⟩
        go_wp2_with (fail)
        go_ret
        exact ⟨rfl, b1 _ _⟩
    · obtain ⟨l1, l2⟩ := list_of h0
      rw [show decide (s.size = 0) = false from decide_eq_false h0]
      clear h0
      cases q
      all_goals
        go_enter Tryz.func15, Tryz.ntmps15
        go_wp2_with (fail)
        refine (IR _).mono ?_
        rintro e w1 ⟨rfl, rfl⟩
        go_wp2_with (fail)
        go_ret
        exact ⟨rfl, b1 _ _⟩
  · have e : keyB ⟨true, m, s⟩ = (decide (m = 0) && decide (s.size ≤ 400) && !num s) := rfl
    rw [e]
    clear e
    unfold kyV
    obtain ⟨⟨x1, x2⟩, HX⟩ : ∃ x, Hid (dec.pr (-1000000000) 1000000000 s.data.toList = x) := ⟨_, Lib.hid rfl⟩
    have hn : num s = x2 := by unfold num; rw [HX.out]
    rw [hn]
    have PS : Hid (∀ w, prs.Env w → Calls Tryz.prog 57 #[.string s] w fun e w' => e = .returned (.tuple #[.int .i64 x1, .bool x2]) ∧ Below w.heap.size w w') := Lib.hid fun w hE => by
      have := prs.specParseSigned s hs w
      rw [HX.out] at this
      exact this
    clear hn
    by_cases h0 : m = 0
    · subst h0
      by_cases h4 : s.size ≤ 400
      · rw [show decide (s.size ≤ 400) = true from decide_eq_true h4]
        cases x2
        all_goals
          go_enter Tryz.func15, Tryz.ntmps15
          go_wp2_with (fail)
          refine (PS.out _ (HE.out.stays (b1 _ _))).mono ?_
          rintro e w1 ⟨rfl, hb1⟩
          have HB := Lib.hid (bs (b1 w _) hb1)
          obtain ⟨r1, -⟩ := rowc (carry hb1 (heap_alloc_new w _))
          clear hb1
          go_wp2_with (fail)
          go_ret
          exact ⟨rfl, HB.out⟩
      · rw [show decide (s.size ≤ 400) = false from decide_eq_false h4]
        have h4' : 400 < s.size := by omega
        clear h4
        go_enter Tryz.func15, Tryz.ntmps15
        go_wp2_with (fail)
        refine (PS.out _ (HE.out.stays (b1 _ _))).mono ?_
        rintro e w1 ⟨rfl, hb1⟩
        have HB := Lib.hid (bs (b1 w _) hb1)
        obtain ⟨r1, -⟩ := rowc (carry hb1 (heap_alloc_new w _))
        clear hb1
        go_wp2_with (fail)
        go_ret
        exact ⟨rfl, HB.out⟩
    · rw [show decide (m = 0) = false from decide_eq_false h0]
      go_enter Tryz.func15, Tryz.ntmps15
      go_wp2_with (fail)
      refine (PS.out _ (HE.out.stays (b1 _ _))).mono ?_
      rintro e w1 ⟨rfl, hb1⟩
      have HB := Lib.hid (bs (b1 w _) hb1)
      obtain ⟨r1, -⟩ := rowc (carry hb1 (heap_alloc_new w _))
      clear hb1
      go_wp2_with (fail)
      go_ret
      exact ⟨rfl, HB.out⟩

end Go.Proofs.YtplfekpagonbbaaGreatDoor.tree

/-
  What makes a table sound, as a matter of lists; where a key's live slot is.
  Conditions: none.
-/
namespace Go.Proofs.YtplfekpagonbbaaGreatDoor.tree
open Go.ChangeShapes Go.WideShapes Go.ChangeAt Go.RowKit
set_option linter.unusedVariables false

/-- The bucket of a key among n. -/
def bk (n : Nat) (y : Ky) : Nat := (kh y % (n : Int)).toNat
theorem bk_lt {n : Nat} (h : 0 < n) (y : Ky) : bk n y < n := by
  unfold bk
  have h1 := Int.emod_nonneg (kh y) (show (n : Int) ≠ 0 by omega)
  have h2 := Int.emod_lt_of_pos (kh y) (show (0 : Int) < n by omega)
  omega
theorem bk_int {n : Nat} (h : 0 < n) (y : Ky) : kh y % (n : Int) = (bk n y : Int) := by
  unfold bk
  have h1 := Int.emod_nonneg (kh y) (show (n : Int) ≠ 0 by omega)
  omega
/-- The heads of the chains after the first j slots. -/
def hs (n : Nat) (sl : List Sl) : Nat → List Int
  | 0 => List.replicate n (-1)
  | j + 1 => match sl[j]? with
    | some t => (hs n sl j).set (bk n t.key) j
    | none => hs n sl j
theorem hs_succ {n : Nat} {sl : List Sl} {j : Nat} {t : Sl} (h : sl[j]? = some t) : hs n sl (j + 1) = (hs n sl j).set (bk n t.key) j := by simp [hs, h]
theorem hs_len (n : Nat) (sl : List Sl) (j : Nat) : (hs n sl j).length = n := by
  induction j with
  | zero => simp [hs]
  | succ j ih =>
    rw [hs]
    split
    · rw [List.length_set]; exact ih
    · exact ih
/-- The last slot of a bucket among the first j. -/
def last (n : Nat) (sl : List Sl) (b : Nat) : Nat → Int
  | 0 => -1
  | j + 1 => match sl[j]? with
    | some t => if bk n t.key = b then j else last n sl b j
    | none => last n sl b j
theorem hs_get {n : Nat} {sl : List Sl} {b : Nat} (h : b < n) : ∀ j, (hs n sl j)[b]? = some (last n sl b j)
  | 0 => by simp [hs, last, h]
  | j + 1 => by
    have ih := hs_get (sl := sl) h j
    rw [hs, last]
    cases hj : sl[j]? with
    | none => exact ih
    | some t =>
      simp only
      by_cases e : bk n t.key = b
      · subst e
        rw [if_pos rfl, List.getElem?_set_self (by rw [hs_len]; exact h)]
      · rw [if_neg e, List.getElem?_set_ne e]
        exact ih
/-- The slot to which the slot j of a key is linked. -/
def lk (n : Nat) (sl : List Sl) (j : Nat) (y : Ky) : Int := ((hs n sl j)[bk n y]?).getD (-1)
theorem lk_zero (sl : List Sl) (j : Nat) (y : Ky) : lk 0 sl j y = -1 := by
  unfold lk
  rw [List.getElem?_eq_none (by rw [hs_len]; exact Nat.zero_le _)]
  rfl
theorem lk_pos {n : Nat} (h : 0 < n) (sl : List Sl) (j : Nat) (y : Ky) : lk n sl j y = last n sl (bk n y) j := by
  unfold lk
  rw [hs_get (bk_lt h y)]
  rfl
theorem last_bd (n : Nat) (sl : List Sl) (b : Nat) : ∀ j, -1 ≤ last n sl b j ∧ last n sl b j < j
  | 0 => by simp [last]
  | j + 1 => by
    have ih := last_bd n sl b j
    rw [last]
    split
    · split
      · omega
      · omega
    · omega

/-- The live slot of a key among the first j; -1 if there is none. -/
def fd (sl : List Sl) (y : Ky) : Nat → Int
  | 0 => -1
  | j + 1 => match sl[j]? with
    | some t => if t.live = true ∧ t.key = y then j else fd sl y j
    | none => fd sl y j
theorem fd_succ {sl : List Sl} {y : Ky} {j : Nat} {t : Sl} (h : sl[j]? = some t) : fd sl y (j + 1) = if t.live = true ∧ t.key = y then (j : Int) else fd sl y j := by simp [fd, h]
theorem fd_bd (sl : List Sl) (y : Ky) : ∀ j, -1 ≤ fd sl y j ∧ fd sl y j < j
  | 0 => by simp [fd]
  | j + 1 => by
    have ih := fd_bd sl y j
    rw [fd]
    split
    · split
      · omega
      · omega
    · omega
/-- Where the last slot of the key's bucket is, the search goes on. -/
theorem last_fd {n : Nat} {sl : List Sl} {y : Ky} {b : Nat} (hb : bk n y = b) : ∀ J, J ≤ sl.length → (last n sl b J = -1 ∧ fd sl y J = -1) ∨ ∃ i t, i < J ∧ last n sl b J = (i : Int) ∧ sl[i]? = some t ∧ bk n t.key = b ∧ fd sl y J = fd sl y (i + 1)
  | 0, _ => .inl ⟨rfl, rfl⟩
  | J + 1, h => by
    obtain ⟨tJ, ht⟩ : ∃ t, sl[J]? = some t := ⟨_, List.getElem?_eq_getElem (by omega)⟩
    rcases last_fd (sl := sl) hb J (by omega) with ih | ih
    all_goals
      by_cases e : bk n tJ.key = b
      · exact .inr ⟨J, _, Nat.lt_succ_self _, by simp [last, ht, e], ht, e, rfl⟩
      · have e2 : ¬ (tJ.live = true ∧ tJ.key = y) := fun h2 => e (by rw [h2.2]; exact hb)
        have e3 : fd sl y (J + 1) = fd sl y J := by rw [fd_succ ht, if_neg e2]
        have e4 : last n sl b (J + 1) = last n sl b J := by simp [last, ht, e]
        rw [e3, e4]
        first
          | exact .inl ih
          | (obtain ⟨i, t, h1, h2⟩ := ih; exact .inr ⟨i, t, Nat.lt_succ_of_lt h1, h2⟩)

/-- The value of a slot that is free. -/
def zeroT : Tr → Prop
  | .mk k n s x ks vs => k = 0 ∧ n = 0 ∧ s.size = 0 ∧ x = 0 ∧ vs.length = 0
def soundS (x : Int) (sl : List Sl) (j : Nat) (t : Sl) : Prop := (keyB t.key && (t.key.text || decide (t.key.num < x))) = true ∧ (t.live = true → t.key ∉ livK (sl.take j)) ∧ (t.live = false → zeroT t.val)
/-- The key of the slot i of a packed table. -/
def ixK (i : Nat) : Ky := ⟨false, i, ⟨#[]⟩⟩
def linkS (b : Bool) (n : Nat) (sl : List Sl) (j : Nat) (t : Sl) : Prop := (b = true ∨ t.key = ixK j) ∧ t.link = lk n sl j t.key
def p2 (n : Nat) : Prop := n = 8 ∨ n = 16 ∨ n = 32 ∨ n = 64 ∨ n = 128 ∨ n = 256 ∨ n = 512 ∨ n = 1024
def sizeP (b : Bool) (n m : Nat) (x : Int) : Prop := (b = true → p2 n ∧ m ≤ n) ∧ (b = false → n = 0 ∧ (m : Int) ≤ x ∧ m ≤ 1024)
def rowS (x : Int) (sl : List Sl) : Prop := ∀ j t, sl[j]? = some t → soundS x sl j t
def rowL (b : Bool) (n : Nat) (sl : List Sl) : Prop := ∀ j t, sl[j]? = some t → linkS b n sl j t
/-- A table is sound. -/
def tabOk (b : Bool) (l : List Int) (sl : List Sl) (x k : Int) : Prop :=
  (0 ≤ x ∧ x ≤ 1000000001) ∧ sizeP b l.length sl.length x ∧ (rowS x sl ∧ ((livK sl).length : Int) = k) ∧ (rowL b l.length sl ∧ hs l.length sl sl.length = l)
theorem tabOk.len {b : Bool} {l : List Int} {sl : List Sl} {x k : Int} (h : tabOk b l sl x k) : sl.length ≤ 1024 ∧ l.length ≤ 1024 := by
  obtain ⟨-, ⟨h1, h2⟩, -⟩ := h
  cases b with
  | true => obtain ⟨h3, h4⟩ := h1 rfl; unfold p2 at h3; omega
  | false => obtain ⟨h3, h4, h5⟩ := h2 rfl; omega

theorem livK_take {sl : List Sl} {j : Nat} {t : Sl} (h : sl[j]? = some t) : livK (sl.take (j + 1)) = livK (sl.take j) ++ (if t.live then [t.key] else []) := by
  unfold livK
  rw [liv_take h, List.map_append]
  cases t.live <;> simp
theorem livK_len (sl : List Sl) : (livK sl).length ≤ sl.length := by
  unfold livK
  rw [List.length_map]
  exact liv_len sl
theorem mem_livK {sl : List Sl} {y : Ky} : y ∈ livK sl ↔ ∃ (i : Nat) (t : Sl), sl[i]? = some t ∧ t.live = true ∧ t.key = y := by
  unfold livK liv
  simp only [List.mem_map, List.mem_filter]
  constructor
  · rintro ⟨t, ⟨h1, h2⟩, h3⟩
    obtain ⟨i, hi⟩ := List.mem_iff_getElem?.1 h1
    exact ⟨i, t, hi, h2, h3⟩
  · rintro ⟨i, t, h1, h2, h3⟩
    exact ⟨t, ⟨List.mem_of_getElem? h1, h2⟩, h3⟩
/-- Keys that are their places do not stand twice. -/
theorem packed_new {sl : List Sl} {j : Nat} (h : ∀ i t, i < j → sl[i]? = some t → t.key = ixK i) : ixK j ∉ livK (sl.take j) := fun hm => by
  obtain ⟨i, t, h1, -, h3⟩ := mem_livK.1 hm
  have hi : i < j := by
    have := (List.getElem?_eq_some_iff.1 h1).1
    rw [List.length_take] at this
    omega
  rw [List.getElem?_take, if_pos hi] at h1
  have := h i t hi h1
  rw [h3] at this
  unfold ixK at this
  injection this with _ e _
  omega
theorem fd_packed {sl : List Sl} (h : ∀ i t, sl[i]? = some t → t.key = ixK i) (y : Ky) : ∀ J, J ≤ sl.length → fd sl y J = -1 ∨ ∃ i t, i < J ∧ sl[i]? = some t ∧ t.live = true ∧ t.key = y ∧ y = ixK i ∧ fd sl y J = i
  | 0, _ => .inl rfl
  | J + 1, hJ => by
    obtain ⟨tJ, ht⟩ : ∃ t, sl[J]? = some t := ⟨_, List.getElem?_eq_getElem (by omega)⟩
    rw [fd_succ ht]
    by_cases e : tJ.live = true ∧ tJ.key = y
    · rw [if_pos e]
      exact .inr ⟨J, _, Nat.lt_succ_self _, ht, e.1, e.2, by rw [← e.2]; exact h _ _ ht, rfl⟩
    · rw [if_neg e]
      rcases fd_packed h y J (by omega) with ih | ⟨i, t, h1, h2⟩
      · exact .inl ih
      · exact .inr ⟨i, t, by omega, h2⟩
/-- In a packed table the key's number is the place. -/
theorem fd_at {sl : List Sl} (h : ∀ i t, sl[i]? = some t → t.key = ixK i) {y : Ky} {i : Nat} {t : Sl} (ht : sl[i]? = some t) (hn : y.num = i) : fd sl y sl.length = if t.live = true ∧ t.key = y then (i : Int) else -1 := by
  have hi := (List.getElem?_eq_some_iff.1 ht).1
  rcases fd_packed h y sl.length (Nat.le_refl _) with h0 | ⟨i', t', h1, h2, h3, h4, h5, h6⟩
  · rw [h0]
    split
    · rename_i e
      exfalso
      have key : ∀ J, i < J → J ≤ sl.length → fd sl y J ≠ -1 := by
        intro J
        induction J with
        | zero => intro h; omega
        | succ J ih =>
          intro h1 h2
          obtain ⟨tJ, hs⟩ : ∃ t, sl[J]? = some t := ⟨_, List.getElem?_eq_getElem (by omega)⟩
          rw [fd_succ hs]
          split
          · omega
          · rename_i e2
            by_cases hJ : i = J
            · subst hJ
              rw [ht] at hs
              obtain rfl := Option.some.inj hs
              exact absurd e e2
            · exact ih (by omega) (by omega)
      exact key _ hi (Nat.le_refl _) h0
    · rfl
  · have : i' = i := by
      rw [h5] at hn
      unfold ixK at hn
      simp only at hn
      omega
    subst this
    rw [ht] at h2
    obtain rfl := Option.some.inj h2
    rw [if_pos ⟨h3, h4⟩, h6]
theorem fd_out {sl : List Sl} (h : ∀ i t, sl[i]? = some t → t.key = ixK i) {y : Ky} (hn : ¬ (0 ≤ y.num ∧ y.num ≤ (sl.length : Int) - 1)) : fd sl y sl.length = -1 := by
  rcases fd_packed h y sl.length (Nat.le_refl _) with h0 | ⟨i', t', h1, h2, h3, h4, h5, h6⟩
  · exact h0
  · exfalso
    apply hn
    rw [h5]
    unfold ixK
    simp
    omega

end Go.Proofs.YtplfekpagonbbaaGreatDoor.tree

/-
  The chain of a bucket, as a list; a search along it finds the live slot of a key. An own list of numbers that begins in an array of eight.
  Conditions: those that each theorem names.
-/
namespace Go.Proofs.YtplfekpagonbbaaGreatDoor.tree
open Go.ChangeShapes Go.WideShapes Go.ChangeAt Go.RowKit
set_option linter.unusedVariables false

/-- The slots of a bucket among the first j, the last one first. -/
def chn (n : Nat) (sl : List Sl) (b : Nat) : Nat → List Int
  | 0 => []
  | j + 1 => match sl[j]? with
    | some t => if bk n t.key = b then (j : Int) :: chn n sl b j else chn n sl b j
    | none => chn n sl b j
/-- The first of some slots that is live and has the key; -1 if there is none. -/
def sr (sl : List Sl) (y : Ky) : List Int → Int
  | [] => -1
  | i :: r => match sl[i.toNat]? with
    | some t => if t.live = true ∧ t.key = y then i else sr sl y r
    | none => sr sl y r
theorem sr_cons {sl : List Sl} {y : Ky} {i : Nat} {t : Sl} (h : sl[i]? = some t) (r : List Int) : sr sl y ((i : Int) :: r) = if t.live = true ∧ t.key = y then (i : Int) else sr sl y r := by
  rw [sr]
  simp [h]
theorem chn_in {n : Nat} {sl : List Sl} {b : Nat} : ∀ J, ∀ i ∈ chn n sl b J, 0 ≤ i ∧ i < J
  | 0, i, h => by simp [chn] at h
  | J + 1, i, h => by
    rw [chn] at h
    split at h
    · split at h
      · rcases List.mem_cons.1 h with rfl | h
        · omega
        · have := chn_in J i h; omega
      · have := chn_in J i h; omega
    · have := chn_in J i h; omega
theorem chn_len {n : Nat} {sl : List Sl} {b : Nat} : ∀ J, (chn n sl b J).length ≤ J
  | 0 => by simp [chn]
  | J + 1 => by
    have := chn_len (n := n) (sl := sl) (b := b) J
    rw [chn]
    split
    · split
      · rw [List.length_cons]; omega
      · omega
    · omega
theorem chn_fd {n : Nat} {sl : List Sl} {y : Ky} : ∀ J, J ≤ sl.length → sr sl y (chn n sl (bk n y) J) = fd sl y J
  | 0, _ => rfl
  | J + 1, h => by
    obtain ⟨t, ht⟩ : ∃ t, sl[J]? = some t := ⟨_, List.getElem?_eq_getElem (by omega)⟩
    have ih := chn_fd (n := n) (sl := sl) (y := y) J (by omega)
    rw [fd_succ ht, chn, ht]
    simp only
    by_cases e : bk n t.key = bk n y
    · rw [if_pos e, sr_cons ht, ih]
    · rw [if_neg e, ih]
      have e2 : ¬ (t.live = true ∧ t.key = y) := fun h2 => e (by rw [h2.2])
      rw [if_neg e2]
/-- The last slot of a bucket heads its chain. -/
theorem last_chn {n : Nat} {sl : List Sl} {b : Nat} : ∀ J, J ≤ sl.length → (last n sl b J = -1 ∧ chn n sl b J = []) ∨ ∃ i t, i < J ∧ last n sl b J = (i : Int) ∧ sl[i]? = some t ∧ bk n t.key = b ∧ chn n sl b J = (i : Int) :: chn n sl b i
  | 0, _ => .inl ⟨rfl, rfl⟩
  | J + 1, h => by
    obtain ⟨tJ, ht⟩ : ∃ t, sl[J]? = some t := ⟨_, List.getElem?_eq_getElem (by omega)⟩
    rcases last_chn (n := n) (sl := sl) (b := b) J (by omega) with ih | ih
    all_goals
      by_cases e : bk n tJ.key = b
      · exact .inr ⟨J, _, Nat.lt_succ_self _, by simp [last, ht, e], ht, e, by simp [chn, ht, e]⟩
      · have e3 : chn n sl b (J + 1) = chn n sl b J := by simp [chn, ht, e]
        have e4 : last n sl b (J + 1) = last n sl b J := by simp [last, ht, e]
        rw [e3, e4]
        first
          | exact .inl ih
          | (obtain ⟨i, t, h1, h2⟩ := ih; exact .inr ⟨i, t, Nat.lt_succ_of_lt h1, h2⟩)

abbrev T8 : TypeId := 130
/-- A list of numbers that the call has made: it lies in an array of eight, or where append has moved it. -/
def OwnC (w : World) (g lo : Nat) (A : Option Addr) (n c : Nat) (l : List Int) : Prop :=
  (l.length = n ∧ ∃ cur, A = some ⟨g, 0, none⟩ ∧ c = 8 ∧ w.heap[g]? = some (.cells cur T8 (0, 0)) ∧ cur.size = 8 ∧ n ≤ 8 ∧ cur.toList.take n = imem.ics l) ∨ imem.OwnI w lo A n c l
theorem OwnC.len {w : World} {g lo n c : Nat} {A : Option Addr} {l : List Int} (h : OwnC w g lo A n c l) : l.length = n := by
  rcases h with h | h
  · exact h.1
  · exact h.len
theorem OwnC.rd {w : World} {g lo n c : Nat} {A : Option Addr} {l : List Int} (h : OwnC w g lo A n c l) : imem.RdI w A n l := by
  rcases h with ⟨hl, cur, rfl, rfl, hg, hs, hn, ht⟩ | h
  · refine ⟨hl, fun _ => ⟨_, rfl, fun j v hv => ?_⟩⟩
    have hj : j < n := by have := (List.getElem?_eq_some_iff.1 hv).1; omega
    rw [Addr.add_lit, Nat.zero_add, cell_of_row _ _ j _ _ _ hg]
    have := imem.ics_get hv
    rw [← ht, List.getElem?_take, if_pos hj] at this
    simpa using this
  · exact h.rd
theorem OwnC.block {w : World} {g lo n c : Nat} {A : Option Addr} {l : List Int} (h : OwnC w g lo A n c l) : ∀ k, (Value.slice A n c).ownBlock = some k → (k = g ∨ lo ≤ k) ∧ k < w.heap.size := by
  rcases h with ⟨hl, cur, rfl, rfl, hg, hs, hn, ht⟩ | h
  · intro k hk
    obtain rfl := Option.some.inj hk
    exact ⟨.inl rfl, (Array.getElem?_eq_some_iff.1 hg).1⟩
  · intro k hk; obtain ⟨h1, h2⟩ := h.block k hk; exact ⟨.inr h1, h2⟩
theorem OwnC.below {w w' : World} {g lo n c : Nat} {A : Option Addr} {l : List Int} (h : OwnC w g lo A n c l) (hb : Below w.heap.size w w') : OwnC w' g lo A n c l := by
  rcases h with ⟨hl, cur, rfl, rfl, hg, hr⟩ | h
  · exact .inl ⟨hl, cur, rfl, rfl, carry hb hg, hr⟩
  · exact .inr (h.below hb)
theorem OwnC.made (w : World) (lo g : Nat) (cur : Array Value) (hg : w.heap[g]? = some (.cells cur T8 (0, 0))) (hs : cur.size = 8) : OwnC w g lo (some ⟨g, 0, none⟩) 0 8 [] :=
  .inl ⟨rfl, cur, rfl, rfl, hg, hs, by omega, by simp [imem.ics]⟩
theorem int_info8 : ∃ i, Tryz.prog.info? 3 = some i ∧ i.zero = some (.int .i64 0) ∧ i.size = 1 ∧ i.bytes = 8 := by
  have := imem.i64row
  cases h : Tryz.prog.info? 3 with
  | none => rw [h] at this; simp at this
  | some i => rw [h] at this; simp at this; exact ⟨i, rfl, this⟩
theorem gb1 {w w' : World} {r : Option Nat} (h : w.grownBy w' none) : w.grownBy w' r := ⟨h.os, h.tape, h.output, h.size, fun k hk _ => h.block k hk (fun e => by cases e)⟩
/-- append of one number. -/
theorem wpList_appendC (w : World) {ops : Array Oper} {rest : List Oper} {o : Oper} {a : Act} {Q : Exit → Act → World → Prop} (hgd : o.guard = none) (s x : Operand)
    (ho : o.op = .call { callee := .builtin .append, args := #[s, x], argTypes := #[24, 24] })
    (g lo : Nat) (A : Option Addr) (n c : Nat) (l : List Int) (hs : a.eval s = .slice A n c) (hown : OwnC w g lo A n c l) (ad : Addr) (v : Int) (hx : a.eval x = .slice (some ad) 1 1) (hc : w.cell? ad = some (.int .i64 v)) (hb : n + 1 ≤ 17592186044416) (hlo : lo ≤ w.heap.size)
    (h : ∀ A' c' w', OwnC w' g lo A' (n + 1) c' (l ++ [v]) → w.grownBy w' (Value.slice A n c).ownBlock → wpList Tryz.prog ops Q rest (a.put o.dst (.slice A' (n + 1) c')) w') : wpList Tryz.prog ops Q (o :: rest) a w := by
  obtain ⟨i, hi, hz, hsz, hby⟩ := int_info8
  have hnews : ∀ j u, [Value.int .i64 v][j]? = some u → w.cell? (ad.add j) = some u := fun j u hu => by
    cases j with
    | zero => simp at hu; subst hu; rw [show ad.add 0 = ad by unfold Addr.add; rw [if_pos rfl]]; exact hc
    | succ j => simp at hu
  rcases hown with ⟨hl, cur, rfl, rfl, hg, hcs, hn8, ht⟩ | hown
  · by_cases hfull : n < 8
    · refine wpList_plain hgd fun K hK => ?_
      have hf := run_firstCells_some (P := Tryz.prog) w i.size 1 ad 1 1 [.int .i64 v] (by rw [hsz]; rfl) hnews
      have hst := run_storeCells_at Tryz.prog g (n * i.size) T8 [.int .i64 v] 0 cur w hg (by rw [hsz]; simp; omega) (by simp [Value.oneCell'])
      simp only [Nat.add_zero] at hst
      have hrun : (Builtin.append_ #[24, 24] o.type #[.slice (some ⟨g, 0, none⟩) n 8, .slice (some ad) 1 1]).run Tryz.prog w = .ok (.slice (some ⟨g, 0, none⟩) (n + 1) 8) (w.setRow g (cur.toList.take (n * i.size) ++ [Value.int .i64 v] ++ cur.toList.drop (n * i.size + [Value.int .i64 v].length)).toArray) := by
        simp [Builtin.append_, run_underlying Tryz.underlying24, sizeOf, typeInfo, hi, Builtin.lenOf, show n + 1 ≤ 8 by omega, hf, Addr.add_lit, hst]
      unfold Oper.wp
      simp [execOp, ho, resolve, invoke, builtin, hs, hx, hrun, Result.andThen]
      refine hK _ _ (h (some ⟨g, 0, none⟩) 8 _ (.inl ⟨by simp [hl], _, rfl, rfl, setRow_heap _ _ _ _ _ _ hg, ?_, by omega, ?_⟩) ⟨rfl, rfl, rfl, by simp [World.setRow], fun k hk hne => Go.setRow_other _ _ _ _ (fun e => hne (by rw [e]; rfl))⟩)
      · rw [hsz]; simp; omega
      · rw [hsz, Nat.mul_one]
        rw [ht, imem.ics_app]
        have hil : (imem.ics l).length = n := by rw [imem.ics_len, hl]
        simp only []
        rw [List.take_append, hil, List.take_of_length_le (by rw [hil]; omega), show n + 1 - n = 1 by omega]
        simp [imem.ics]
    · obtain rfl : n = 8 := by omega
      refine wpList_append_grows w hgd s x 24 ho 3 i (.int .i64 0) 1 8 Tryz.underlying24 hi hz hsz hby rfl (by omega) (some ⟨g, 0, none⟩) 8 8 (imem.ics l) hs (fun e => by cases e) (by rw [imem.ics_len, hl]) (fun b hb j u hu => ?_) ad 1 1 [.int .i64 v] hx rfl hnews (by simp [Value.oneCell']) (by omega) (by unfold maxLen; omega) (by omega) ?_
      · obtain rfl := Option.some.inj hb
        rw [Addr.add_lit, Nat.zero_add, cell_of_row _ _ j _ _ _ hg]
        have hj : j < 8 := by have := (List.getElem?_eq_some_iff.1 hu).1; rw [imem.ics_len] at this; omega
        rw [← ht, List.getElem?_take, if_pos hj] at hu
        simpa using hu
      · intro v' w' h1 h2
        rw [show imem.ics l ++ [Value.int .i64 v] = imem.ics (l ++ [v]) by rw [imem.ics_app]; rfl] at h1
        obtain ⟨A', c', rfl, h3⟩ := imem.owni_mk h1
        exact h A' c' w' (.inr (h3.less hlo)) (gb1 h2)
  · exact imem.append_rdi hgd s x 24 ho i Tryz.underlying24 hi hz hsz hby lo A n c l hs hown (some ad) 1 1 [v] hx ⟨rfl, fun _ => ⟨ad, rfl, fun j u hu => by
      cases j with
      | zero => simp at hu; subst hu; rw [show ad.add 0 = ad by unfold Addr.add; rw [if_pos rfl]]; exact hc
      | succ j => simp at hu⟩⟩ hb hlo (fun A' c' w' h1 h2 h3 => h A' c' w' (.inr h1) h3)

theorem gtrans {w wr w' : World} {g : Nat} {ob : Option Nat} (h : w.grownBy wr (some g)) (k : wr.grownBy w' ob) (hob : ∀ j, ob = some j → j = g ∨ w.heap.size ≤ j) : w.grownBy w' (some g) :=
  ⟨k.os.trans h.os, k.tape.trans h.tape, k.output.trans h.output, Nat.le_trans h.size k.size, fun i hi hne => (k.block i (Nat.lt_of_lt_of_le hi h.size) (fun e => by
    rcases hob i e.symm with e2 | e2
    · exact hne (by rw [e2])
    · omega)).trans (h.block i hi hne)⟩

end Go.Proofs.YtplfekpagonbbaaGreatDoor.tree

/-
  Where a key stands first among the items, of the model.
  Conditions: those that each theorem names.
-/
namespace Go.Proofs.YtplfekpagonbbaaGreatDoor.tree
open Go.ChangeShapes Go.WideShapes Go.ChangeAt Go.RowKit
set_option linter.unusedVariables false

def LtQ (w : World) (x : Int) (e : Ending) (w' : World) : Prop := e = .returned (.int .i64 x) ∧ Below w.heap.size w w'
def BoQ (w : World) (b : Bool) (e : Ending) (w' : World) : Prop := e = .returned (.bool b) ∧ Below w.heap.size w w'
def pos : List Ky → Ky → Nat → Int
  | [], _, _ => -1
  | z :: ks, y, i => if z = y then i else pos ks y (i + 1)
theorem pos_first : ∀ (ks : List Ky) (y : Ky) (i j : Nat), ks[j]? = some y → (pos ks y i = (i : Int) + j ↔ y ∉ ks.take j)
  | [], y, i, j, h => by simp at h
  | z :: ks, y, i, 0, h => by
    simp at h
    subst h
    simp [pos]
  | z :: ks, y, i, j + 1, h => by
    have ih := pos_first ks y (i + 1) j (by simpa using h)
    rw [pos, List.take_succ_cons, List.mem_cons]
    by_cases hz : z = y
    · subst hz
      simp
      omega
    · rw [if_neg hz]
      rw [show (i : Int) + ((j + 1 : Nat) : Int) = ((i + 1 : Nat) : Int) + (j : Int) by push_cast; omega, ih]
      simp [Ne.symm hz]
theorem pos_bd : ∀ (ks : List Ky) (y : Ky) (i : Nat), -1 ≤ pos ks y i ∧ pos ks y i ≤ i + ks.length
  | [], y, i => by simp [pos]
  | z :: ks, y, i => by
    have := pos_bd ks y (i + 1)
    rw [pos]
    split
    · simp; omega
    · push_cast at *; simp; omega
theorem pos_drop {ks : List Ky} {j : Nat} {z y : Ky} (h : ks[j]? = some z) : pos (ks.drop j) y j = if z = y then (j : Int) else pos (ks.drop (j + 1)) y (j + 1) := by
  obtain ⟨hj, rfl⟩ := List.getElem?_eq_some_iff.1 h
  rw [List.drop_eq_getElem_cons hj, pos]

theorem kdrew_heap (w : World) : ∀ n, (w.drewN n).heap = w.heap
  | 0 => rfl
  | n + 1 => (kdrew_heap w n)
theorem kbelow_drew (w : World) : ∀ n, Below w.heap.size w (w.drewN n)
  | 0 => Below.refl _ _
  | n + 1 => (kbelow_drew w n).drew

def CutF (wr : World) (b : Bool) (N : Nat) (C D : Array Value) (v : Value) (wx : World) : Prop :=
  v = .bool b ∧ Below wr.heap.size wr wx ∧ wx.heap[N]? = some (.cells C IV (0, 0)) ∧ wx.heap[N + 1]? = some (.cells D IK (0, 0))

set_option maxHeartbeats 800000 in
theorem find_s (n : Int) (s : ByteArray) (x : Int) (ks : List Ky) (vs : List Tr) (A : Option Addr) (c : Nat) (y : Ky) (w : World) (S : Nat → Prop) (h : IsIn w S ks vs A) :
    Calls Tryz.prog 96 #[vV 4 n s x A vs.length c, kyV y] w (LtQ w (pos ks y 0)) := by
  obtain ⟨L, HL⟩ : ∃ L, Hid (L = vs.length) := ⟨_, Lib.hid rfl⟩
  have hm : L ≤ maxLen := by rw [HL.out]; exact h.2.1
  have hkl : Hid (ks.length = L) := Lib.hid (by rw [HL.out]; exact h.1)
  unfold maxLen at hm
  rw [← HL.out]
  have HI := Lib.hid h
  clear h
  obtain ⟨W, HW⟩ : ∃ W, Hid (pos ks y 0 = W) := ⟨_, Lib.hid rfl⟩
  rw [HW.out]
  obtain ⟨yb, yn, ys⟩ := y
  unfold kyV
  go_enter Tryz.func96, Tryz.ntmps96
  go_wp2_with (fail)
  go_loopg [5] (L + 1) (fun gk i wr => ∃ j : Nat, i = .int .i64 j ∧ gk + j = L + 1 ∧ j ≤ L ∧ Hid (pos (ks.drop j) ⟨yb, yn, ys⟩ j = W) ∧
    Hid (wr.heap[w.heap.size]? = some (.cells #[.int .i64 4, .int .i64 n, .string s, .int .i64 x, .slice A L c] IV (0, 0))) ∧ Hid (wr.heap[w.heap.size + 1]? = some (.cells #[.bool yb, .int .i64 yn, .string ys] IK (0, 0))) ∧ Below w.heap.size w wr)
  case atStart => exact ⟨0, rfl, by omega, by omega, Lib.hid HW.out, Lib.hid (heap_alloc2_old w _ _), Lib.hid (heap_alloc2_new w _ _), b2 _ _ _⟩
  case round =>
    obtain ⟨j, rfl, hgj, hjL, HQ, HE, HE', hb⟩ := hrel
    have HB := Lib.hid hb
    clear hb
    obtain ⟨r0, -⟩ := rowc HE.out
    obtain ⟨r1, -⟩ := rowc HE'.out
    by_cases hlt : j < L
    · obtain ⟨a, y1, k1, n1, s1, x1, ks1, vs1, A1, c1, rfl, hS, hky, hvs, ht, hyb, hkb, hin1, hcell⟩ := (HI.out.below HB.out).item (i := j) (by rw [← HL.out]; exact hlt)
      have HD := Lib.hid ((pos_drop (y := ⟨yb, yn, ys⟩) hky).symm.trans HQ.out)
      obtain ⟨b, HBB⟩ : ∃ b, Hid (decide (y1 = ⟨yb, yn, ys⟩) = b) := ⟨_, Lib.hid rfl⟩
      have NE := fun w => ky_eql w y1 ⟨yb, yn, ys⟩
      rw [HBB.out] at NE
      unfold kyV at NE
      simp only at NE
      clear hky hvs ht hyb hkb hin1 hS
      obtain ⟨p0, p1, p2, p3, p4, p5, p6, p7⟩ := hcell
      go_upto_region 4 with fail
      go_cut [25] (fun v wx => CutF wr b w.heap.size #[.int .i64 4, .int .i64 n, .string s, .int .i64 x, .slice (some a) L c] #[.bool yb, .int .i64 yn, .string ys] v wx)
      case first =>
        go_quiet ((fail))
        all_goals
          go_wp2_with (fail)
          go_meet
          exact ⟨rfl, kbelow_drew _ _, (kdrew_heap _ _).symm ▸ HE.out, (kdrew_heap _ _).symm ▸ HE'.out⟩
      case rest =>
        obtain ⟨rfl, hbc, hx0, hx1⟩ := hcut
        have HBc := Lib.hid (bs HB.out hbc)
        have HX0 := Lib.hid hx0
        have HX1 := Lib.hid hx1
        clear hbc hx0 hx1 p0 p1 p2 p3 p4 p5 p6 p7 NE
        cases b with
        | true =>
          have e : W = (j : Int) := by rw [← HD.out, if_pos (of_decide_eq_true HBB.out)]
          go_wp2_with (fail)
          go_ret
          exact ⟨by first | rfl | (rw [e]; rfl), HBc.out⟩
        | false =>
          have HF : Hid (pos (ks.drop (j + 1)) ⟨yb, yn, ys⟩ (j + 1) = W) := Lib.hid (by have := HD.out; rw [if_neg (of_decide_eq_false HBB.out)] at this; exact this)
          go_wp2_with (fail)
          go_roundg (L - j)
          case rel => exact ⟨j + 1, by go_num, by omega, by omega, HF, HX0, HX1, HBc.out⟩
          case measure => omega
    · obtain rfl : j = L := by omega
      have e : W = -1 := by rw [← HQ.out, show ks.drop j = [] from List.drop_eq_nil_of_le (Nat.le_of_eq hkl.out)]; rfl
      go_wp2_with (fail)
      go_ret
      exact ⟨by first | rfl | (rw [e]; rfl), HB.out⟩

end Go.Proofs.YtplfekpagonbbaaGreatDoor.tree

/-
  The sizes of a table's heads, and new heads, of the project.
  Conditions: those that each theorem names.
-/
namespace Go.Proofs.YtplfekpagonbbaaGreatDoor.tree
open Go.ChangeShapes Go.WideShapes Go.ChangeAt Go.RowKit
set_option linter.unusedVariables false

def pcA (x : Int) : Int := IntKind.u64.wrap (bits BinOp.and IntKind.u64 (x / 2) 6148914691236517205 + bits BinOp.and IntKind.u64 x 6148914691236517205)
def pcB (x : Int) : Int := IntKind.u64.wrap (bits BinOp.and IntKind.u64 (x / 4) 3689348814741910323 + bits BinOp.and IntKind.u64 x 3689348814741910323)
def pcC (x : Int) : Int := bits BinOp.and IntKind.u64 (IntKind.u64.wrap (x / 16 + x)) 1085102592571150095
def pcD (x : Int) : Int := IntKind.u64.wrap (x + x / 256)
def pcE (x : Int) : Int := IntKind.u64.wrap (x + x / 65536)
def pcF (x : Int) : Int := IntKind.u64.wrap (x + x / 4294967296)
def pc (n : Nat) : Int := bits BinOp.and IntKind.i64 (wrap64 (pcF (pcE (pcD (pcC (pcB (pcA n))))))) 127
theorem ones64_i (n : Nat) (w : World) : Calls Tryz.prog 148 #[.int .u64 n] w fun e w' => e = .returned (.int .i64 (pc n)) ∧ w' = w := by
  go_enter Tryz.func148, Tryz.ntmps148
  go_wp2
  go_ret
  exact ⟨rfl, rfl⟩
theorem ones_i (n : Nat) (w : World) : Calls Tryz.prog 134 #[.int .u64 n] w fun e w' => e = .returned (.int .i64 (pc n)) ∧ w' = w := by
  obtain ⟨q, HQ⟩ : ∃ q, Hid (pc n = q) := ⟨_, Lib.hid rfl⟩
  have ON := ones64_i n
  rw [HQ.out] at ON ⊢
  go_enter Tryz.func134, Tryz.ntmps134
  go_wp2_with (fail)
  refine (ON _).mono ?_
  rintro e w1 ⟨rfl, rfl⟩
  go_wp2_with (fail)
  go_ret
  exact ⟨rfl, rfl⟩
def p2b (n : Nat) : Bool := [8, 16, 32, 64, 128, 256, 512, 1024].contains n
theorem p2b_iff (n : Nat) : p2b n = true ↔ p2 n := by simp [p2b, p2]
theorem pc_all : ((List.range 1025).all fun n => decide (n < 8) || (decide (pc n = 1) == p2b n)) = true := by kernel_rfl
theorem pc_p2 {n : Nat} (h0 : 8 ≤ n) (h1 : n ≤ 1024) : pc n = 1 ↔ p2 n := by
  have := List.all_eq_true.1 pc_all n (by simp; omega)
  rw [decide_eq_false (show ¬ n < 8 by omega), Bool.false_or, beq_iff_eq] at this
  rw [← p2b_iff, ← this, decide_eq_true_eq]
theorem and_all : ((List.range 1025).all fun n => decide (n < 8) || (decide (bits BinOp.and IntKind.i64 (n : Int) ((n : Int) - 1) = 0) == p2b n)) = true := by kernel_rfl
theorem and_p2 {n : Nat} (h0 : 8 ≤ n) (h1 : n ≤ 1024) : bits BinOp.and IntKind.i64 (n : Int) ((n : Int) - 1) = 0 ↔ p2 n := by
  have := List.all_eq_true.1 and_all n (by simp; omega)
  rw [decide_eq_false (show ¬ n < 8 by omega), Bool.false_or, beq_iff_eq] at this
  rw [← p2b_iff, ← this, decide_eq_true_eq]

def BoP (w : World) (p : Prop) (e : Ending) (w' : World) : Prop := ∃ q : Bool, e = .returned (.bool q) ∧ (q = true ↔ p) ∧ Below w.heap.size w w'
theorem BoP.of {w w' : World} {p : Prop} {q : Bool} (h : q = true ↔ p) (hb : Below w.heap.size w w') : BoP w p (.returned (.bool q)) w' := ⟨q, rfl, h, hb⟩

set_option maxHeartbeats 1000000 in
theorem rightSize_i (b : Bool) (A : Option Addr) (n c : Nat) (B : Option Addr) (m d : Nat) (x k : Int) (hn : n ≤ 1048576) (hm : m ≤ 1048576) (hx : 0 ≤ x) (w : World) :
    Calls Tryz.prog 99 #[tbV b A n c B m d x k] w (BoP w (sizeP b n m x)) := by
  cases b with
  | true =>
    obtain ⟨q, HQ⟩ : ∃ q, Hid (nums.inr n 8 1024 = q) := ⟨_, Lib.hid rfl⟩
    have IR := fun w => HQ.out ▸ nums.implInRange n 8 1024 w
    cases q with
    | false =>
      have HF : Hid (false = true ↔ sizeP true n m x) := Lib.hid ⟨fun h => (by cases h), fun h => by
        have h1 := (h.1 rfl).1
        have h2 := HQ.out
        unfold nums.inr at h2
        unfold p2 at h1
        simp at h2
        omega⟩
      go_enter Tryz.func99, Tryz.ntmps99
      go_wp2_with (fail)
      refine (IR _).mono ?_
      rintro e w1 ⟨rfl, rfl⟩
      go_wp2_with (fail)
      go_ret
      exact BoP.of HF.out (b1 _ _)
    | true =>
      have HN : Hid (8 ≤ n ∧ n ≤ 1024) := Lib.hid (by have h2 := HQ.out; unfold nums.inr at h2; simp at h2; omega)
      have ON := ones_i n
      obtain ⟨z, HZ⟩ : ∃ z, Hid (pc n = z) := ⟨_, Lib.hid rfl⟩
      rw [HZ.out] at ON
      have HP : Hid (z = 1 ↔ p2 n) := Lib.hid (HZ.out ▸ pc_p2 HN.out.1 HN.out.2)
      by_cases hz : z = 1
      · subst hz
        by_cases hmn : m ≤ n
        all_goals
          have HF : Hid (∀ q : Bool, q = decide (m ≤ n) → (q = true ↔ sizeP true n m x)) := Lib.hid (by
            rintro q rfl
            rw [decide_eq_true_eq]
            exact ⟨fun h => ⟨fun _ => ⟨HP.out.1 rfl, h⟩, fun h => by cases h⟩, fun h => (h.1 rfl).2⟩)
          go_enter Tryz.func99, Tryz.ntmps99
          go_wp2_with (fail)
          refine (IR _).mono ?_
          rintro e w1 ⟨rfl, rfl⟩
          go_wp2_with (fail)
          refine (ON _).mono ?_
          rintro e w1 ⟨rfl, rfl⟩
          go_wp2_with (fail)
          go_ret
          exact BoP.of (HF.out _ (by simp [hmn])) (b1 _ _)
      · have hz1 : (z == 1) = false := by simp [hz]
        have HF : Hid (false = true ↔ sizeP true n m x) := Lib.hid ⟨fun h => (by cases h), fun h => absurd (HP.out.2 (h.1 rfl).1) hz⟩
        clear hz
        go_enter Tryz.func99, Tryz.ntmps99
        go_wp2_with (fail)
        refine (IR _).mono ?_
        rintro e w1 ⟨rfl, rfl⟩
        go_wp2_with (fail)
        refine (ON _).mono ?_
        rintro e w1 ⟨rfl, rfl⟩
        go_wp2_with (fail)
        go_ret
        exact BoP.of HF.out (b1 _ _)
  | false =>
    by_cases h0 : n = 0
    · subst h0
      obtain ⟨z, HZ⟩ : ∃ z, Hid (nums.mn x 1024 = z) := ⟨_, Lib.hid rfl⟩
      have MI := fun w => HZ.out ▸ nums.implMin x 1024 w
      have HP : Hid ((m : Int) ≤ z ↔ sizeP false 0 m x) := Lib.hid (by
        rw [← HZ.out]
        unfold nums.mn
        constructor
        · intro h
          refine ⟨fun h => (by cases h), fun _ => ⟨rfl, ?_⟩⟩
          split at h <;> omega
        · intro h
          obtain ⟨-, h2, h3⟩ := h.2 rfl
          split <;> omega)
      by_cases hz : (m : Int) ≤ z
      all_goals
        go_enter Tryz.func99, Tryz.ntmps99
        go_wp2_with (fail)
        have e2 : (w.alloc (.cells #[.bool false, .slice A 0 c, .slice B m d, .int .i64 x, .int .i64 k] IT)).cell? ⟨w.heap.size, 2, none⟩ = some (.slice B m d) := (rowc (heap_alloc_new w _)).1 2
        have e3 : (w.alloc (.cells #[.bool false, .slice A 0 c, .slice B m d, .int .i64 x, .int .i64 k] IT)).cell? ⟨w.heap.size, 3, none⟩ = some (.int .i64 x) := (rowc (heap_alloc_new w _)).1 3
        go_region_held3 (fun w' => w'.cell? ⟨w.heap.size, 2, none⟩ = some (.slice B m d) ∧ w'.cell? ⟨w.heap.size, 3, none⟩ = some (.int .i64 x)) (first | go_keep | exact ⟨e2, e3⟩) (first | (go_at_call 135; refine (MI _).mono ?_; rintro e w1 ⟨rfl, rfl⟩))
        go_wp2_with (fail)
        go_ret
        exact BoP.of (by rw [← HP.out]; simp [hz]) (b1 _ _).drew
    · have HF : Hid (false = true ↔ sizeP false n m x) := Lib.hid ⟨fun h => (by cases h), fun h => absurd (h.2 rfl).1 h0⟩
      have h0' : ((n : Int) == 0) = false := by simp; omega
      clear h0
      go_enter Tryz.func99, Tryz.ntmps99
      go_wp2_with (fail)
      go_quiet ((fail))
      go_wp2_with (fail)
      go_ret
      exact BoP.of HF.out (bs (b1 _ _) (kbelow_drew _ _))

end Go.Proofs.YtplfekpagonbbaaGreatDoor.tree

/-
  New heads, and a slot linked to its chain, of the project.
  Conditions: those that each theorem names.
-/
namespace Go.Proofs.YtplfekpagonbbaaGreatDoor.tree
open Go.ChangeShapes Go.WideShapes Go.ChangeAt Go.RowKit
set_option linter.unusedVariables false

def rwK (K n : Nat) : Array Value := (List.replicate K (Value.int .i64 (-1)) ++ List.replicate (n - K) (Value.int .i64 0)).toArray
theorem rwK_size {K n : Nat} (h : K ≤ n) : (rwK K n).size = n := by simp [rwK]; omega
theorem rwK_next {K q n : Nat} (h : K + q ≤ n) : ((rwK K n).toList.take K ++ (List.replicate q (Value.int .i64 (-1)) ++ (rwK K n).toList.drop (K + q))).toArray = rwK (K + q) n := by
  unfold rwK
  congr 1
  rw [List.take_left' (by simp), List.drop_append, List.drop_eq_nil_of_le (by simp), List.nil_append, List.length_replicate, List.drop_replicate, ← List.append_assoc, List.replicate_append_replicate, show n - K - (K + q - K) = n - (K + q) by omega]
theorem rwK_get {K n j : Nat} {v : Value} (h : (List.replicate K (Value.int .i64 (-1)))[j]? = some v) : (rwK K n)[j]? = some v := by
  have hj := (List.getElem?_eq_some_iff.1 h).1
  rw [List.length_replicate] at hj
  unfold rwK
  rw [List.getElem?_toArray, List.getElem?_append_left (by simpa using hj)]
  exact h
theorem rwK_own {w : World} {lo g n : Nat} (hg : w.heap[g]? = some (.cells (rwK n n) 3 (0, 0))) (hl : lo ≤ g) (hn : n ≤ 1048576) : imem.OwnI w lo (some ⟨g, 0, none⟩) n n (List.replicate n (-1)) :=
  ⟨by simp, by simp [imem.ics], .inr ⟨g, n, _, rfl, hl, hg, Nat.le_refl _, by unfold maxLen; omega, by rw [rwK_size (Nat.le_refl _)]; omega, by simp [rwK, imem.ics]⟩⟩
theorem int_info : ∃ i, Tryz.prog.info? 3 = some i ∧ i.zero = some (.int .i64 0) ∧ i.size = 1 ∧ i.bytes = 8 := by
  have := imem.i64row
  cases h : Tryz.prog.info? 3 with
  | none => rw [h] at this; simp at this
  | some i => rw [h] at this; simp at this; exact ⟨i, rfl, this⟩

def NewQ (w : World) (n : Nat) (e : Ending) (w' : World) : Prop := ∃ g, e = .returned (.slice (some ⟨g, 0, none⟩) n n) ∧ w.heap.size ≤ g ∧ imem.OwnI w' w.heap.size (some ⟨g, 0, none⟩) n n (List.replicate n (-1)) ∧ Below w.heap.size w w'

set_option maxRecDepth 100000 in
set_option maxHeartbeats 2000000 in
theorem repeat_i (n : Nat) (hn : n ≤ 1048576) (g0 : Nat) (w : World) (h0 : w.cell? ⟨g0, 0, none⟩ = some (.int .i64 (-1))) :
    Calls Tryz.prog 142 #[.slice (some ⟨g0, 0, none⟩) 1 1, .int .i64 n] w (NewQ w n) := by
  obtain ⟨i0, hi, hz, hs, hby⟩ := int_info
  have hsz : (Tryz.prog.info? 3).map (·.size) = some 1 := by rw [hi]; exact congrArg some hs
  have MU := fun w => Tryz.bits_Mul 1 n (by omega) (by omega) w
  rw [Nat.one_mul, Nat.div_eq_of_lt (by omega), Nat.mod_eq_of_lt (by omega)] at MU
  have hmk := run_make (P := Tryz.prog) w 24 3 i0 _ Tryz.underlying24 hi hz .i64 .i64 n n (by omega) (Int.le_refl _) (by rw [hby]; omega) (by omega)
  rw [hs, Nat.mul_one] at hmk
  simp only [Int.toNat_natCast] at hmk
  rw [show madeCells (Value.int .i64 0).cells n = rwK 0 n by
    have := toList_madeCells_one (.int .i64 0) n
    rw [show (Value.int .i64 0).cells = #[.int .i64 0] from rfl]
    apply Array.toList_inj.1
    rw [this]
    simp [rwK]] at hmk
  have hse : ∀ w', (sizeOf (Tryz.prog.elem 24)).run Tryz.prog w' = .ok 1 w' := fun w' => by
    have : Tryz.prog.elem 24 = 3 := by kernel_rfl
    simp [sizeOf, typeInfo, this, hi, hs]
  have HSE := Lib.hid hse
  have HSZ := Lib.hid hsz
  clear hi hz hs hby hse hsz
  rcases Nat.eq_zero_or_pos n with hz | hp
  · subst hz
    have hc := run_copy_none (P := Tryz.prog) (w.alloc (.cells (rwK 0 0) 3)) 24 24 3 3 (some ⟨w.heap.size, 0, none⟩) (some ⟨g0, 0, none⟩) 0 0 1 1 Tryz.underlying24 HSZ.out (by decide)
    have hmk0 : (Instr.makeSlice 24 (.int .i64 0) (.int .i64 0)).run Tryz.prog w = .ok (.slice (some ⟨w.heap.size, 0, none⟩) 0 0) (w.alloc (.cells (rwK 0 0) 3)) := hmk
    clear hmk
    go_enter Tryz.func142, Tryz.ntmps142
    go_wp2_with (fail)
    refine (MU _).mono ?_
    rintro e w1 ⟨rfl, rfl⟩
    go_wp2_with (fail)
    go_loopg [8] 0 (fun gk s wr => s = .int .i64 0 ∧ wr = w1.alloc (.cells (rwK 0 0) 3))
    case atStart => exact ⟨rfl, rfl⟩
    case round =>
      obtain ⟨rfl, rfl⟩ := hrel
      go_wp2_with (fail)
      go_ret
      exact ⟨_, rfl, Nat.le_refl _, rwK_own (heap_alloc_new _ _) (Nat.le_refl _) (by omega), b1 _ _⟩
  · obtain ⟨row, HROW⟩ : ∃ r, Hid (r = rwK 0 n) := ⟨_, Lib.hid rfl⟩
    rw [← HROW.out] at hmk
    have hc := run_copy_row (P := Tryz.prog) (w.alloc (.cells row 3)) 24 24 3 3 w.heap.size 0 n n ⟨g0, 0, none⟩ 1 1 row 3 [.int .i64 (-1)] Tryz.underlying24 HSZ.out (heap_alloc_new _ _) (by show 1 = Nat.min 1 n; simp only [Nat.min_def]; split <;> omega)
      (fun j v hv => by
        cases j with
        | zero => simp at hv; subst hv; rw [show (⟨g0, 0, none⟩ : Addr).add 0 = ⟨g0, 0, none⟩ by unfold Addr.add; rw [if_pos rfl]]; exact cell_stays (fun hl => (b1 w _).block _ hl) h0
        | succ j => simp at hv) (by rw [HROW.out, rwK_size (Nat.zero_le _)]; simp; omega) (by simp [Value.oneCell'])
    rw [show (row.toList.take 0 ++ [Value.int .i64 (-1)] ++ row.toList.drop (0 + [Value.int .i64 (-1)].length)).toArray = rwK 1 n by
      have := rwK_next (K := 0) (q := 1) (n := n) (by omega)
      rw [HROW.out, List.append_assoc]
      exact this] at hc
    obtain ⟨w2, HW2⟩ : ∃ W, Hid (W = (w.alloc (.cells row 3)).setRow w.heap.size (rwK 1 n)) := ⟨_, Lib.hid rfl⟩
    rw [← HW2.out] at hc
    have HB2 : Hid (Below w.heap.size w w2) := Lib.hid (HW2.out ▸ below_setRow (b1 w _) (Nat.le_refl _) _)
    have HG2 : Hid (w2.heap[w.heap.size]? = some (.cells (rwK 1 n) 3 (0, 0))) := Lib.hid (HW2.out ▸ setRow_heap _ _ _ _ _ _ (heap_alloc_new _ _))
    clear h0
    go_enter Tryz.func142, Tryz.ntmps142
    go_wp2_with (fail)
    refine (MU _).mono ?_
    rintro e w1 ⟨rfl, rfl⟩
    go_wp2_with (fail)
    clear hc hmk
    have hlo := HB2.out.size
    obtain ⟨g, HG⟩ : ∃ g, Hid (w1.heap.size = g) := ⟨_, Lib.hid rfl⟩
    rw [HG.out] at HG2 HB2 hlo ⊢
    go_loopg [8] n (fun gk s wr => ∃ K : Nat, s = .int .i64 K ∧ n - K ≤ gk ∧ 1 ≤ K ∧ K ≤ n ∧ Hid (wr.heap[g]? = some (.cells (rwK K n) 3 (0, 0))) ∧ Hid (Below g w1 wr))
    case atStart => exact ⟨1, rfl, by omega, by omega, by omega, HG2, HB2⟩
    case round =>
      obtain ⟨K, rfl, hgk, hK1, hKn, HR, HB⟩ := hrel
      clear HG2 HB2 HW2 hlo
      by_cases hlt : K < n
      · obtain ⟨q, HQ⟩ : ∃ q, Hid (q = if K ≤ n - K then K else n - K) := ⟨_, Lib.hid rfl⟩
        have hq : 1 ≤ q ∧ K + q ≤ n := by rw [HQ.out]; split <;> omega
        have hs1 : ∀ w', (Instr.slice 24 (.slice (some ⟨g, 0, none⟩) n n) (some (.int .i64 K)) none none).run Tryz.prog w' = .ok (.slice (some ⟨g, K, none⟩) (n - K) (n - K)) w' := fun w' => by
          rw [run_slice_l (P := Tryz.prog) w' 24 _ n n (by kernel_rfl) .i64 (K : Int) (by omega) (by omega), HSE.out]
          simp [Result.andThen, sliced, show n ≠ K by omega, Addr.add_lit]
        have hs2 : ∀ w', (Instr.slice 24 (.slice (some ⟨g, 0, none⟩) n n) none (some (.int .i64 K)) none).run Tryz.prog w' = .ok (.slice (some ⟨g, 0, none⟩) K n) w' := fun w' => by
          rw [run_slice_h (P := Tryz.prog) w' 24 (some ⟨g, 0, none⟩) n n (by kernel_rfl) .i64 (K : Int) (by omega) (by omega), HSE.out]
          have h0 : (⟨g, 0, none⟩ : Addr).add 0 = ⟨g, 0, none⟩ := by unfold Addr.add; rw [if_pos rfl]
          simp [Result.andThen, sliced, h0]
        have hcp := run_copy_row (P := Tryz.prog) wr.drew 24 24 3 3 g K (n - K) (n - K) ⟨g, 0, none⟩ K n (rwK K n) 3 (List.replicate q (.int .i64 (-1))) Tryz.underlying24 HSZ.out HR.out (by rw [List.length_replicate, HQ.out]; simp only [Nat.min_def])
          (fun j v hv => by
            have hj := (List.getElem?_eq_some_iff.1 hv).1
            rw [List.length_replicate] at hj
            have hv2 : (List.replicate K (Value.int .i64 (-1)))[j]? = some v := by
              rw [List.getElem?_replicate, if_pos hj] at hv
              rw [List.getElem?_replicate, if_pos (by have := HQ.out; split at this <;> omega)]
              exact hv
            have := rwK_get (n := n) hv2
            rw [Addr.add_lit, Nat.zero_add]
            exact (cell_of_row _ _ j _ _ _ (show wr.drew.heap[g]? = _ from HR.out)).trans this) (by rw [List.length_replicate, rwK_size hKn]; omega) (fun v hv => by rw [List.mem_replicate] at hv; rw [hv.2]; rfl)
        rw [List.length_replicate, List.append_assoc, rwK_next hq.2] at hcp
        obtain ⟨w3, HW3⟩ : ∃ W, Hid (W = wr.drew.setRow g (rwK (K + q) n)) := ⟨_, Lib.hid rfl⟩
        rw [← HW3.out] at hcp
        have HB3 : Hid (Below g w1 w3) := Lib.hid (HW3.out ▸ below_setRow HB.out.drew (Nat.le_refl _) _)
        have HR3 : Hid (w3.heap[g]? = some (.cells (rwK (K + q) n) 3 (0, 0))) := Lib.hid (HW3.out ▸ setRow_heap _ _ _ _ _ _ (show wr.drew.heap[g]? = _ from HR.out))
        clear HSE HSZ
        go_wp2_with (fail)
        go_region
        go_wp2_with (fail)
        go_roundg (n - (K + q))
        case rel => exact ⟨K + q, by go_num, by omega, by omega, by omega, HR3, HB3⟩
        case measure => omega
      · obtain rfl : K = n := by omega
        go_wp2_with (fail)
        go_ret
        exact ⟨g, rfl, Nat.le_of_eq HG.out, rwK_own HR.out (Nat.le_of_eq HG.out) hn, HG.out.symm ▸ HB.out⟩

theorem newHeads_i (n : Nat) (hn : n ≤ 1048576) (w : World) : Calls Tryz.prog 115 #[.int .i64 n] w (NewQ w n) := by
  have RE := fun o : Obj => fun h => repeat_i n hn w.heap.size (w.alloc o) h
  go_enter Tryz.func115, Tryz.ntmps115
  go_wp2_with (fail)
  refine (RE _ ((rowc (heap_alloc_new w _)).1 0)).mono ?_
  rintro e w1 ⟨g, rfl, hg, ho, hb⟩
  have HO := Lib.hid ho
  have HB := Lib.hid (bs (b1 w _) hb)
  have hz : w.heap.size ≤ g := by simp at hg; omega
  clear ho hb hg
  go_wp2_with (fail)
  go_ret
  exact ⟨g, rfl, hz, HO.out.less (by simp), HB.out⟩

theorem bucketOf_i (n : Nat) (h0 : 0 < n) (hn : n ≤ 1048576) (y : Ky) (hs : y.str.size ≤ 140737488355328) (w : World) : Calls Tryz.prog 143 #[kyV y, .int .i64 n] w (LtQ w (bk n y)) := by
  obtain ⟨q, HQ⟩ : ∃ q : Nat, Hid (bk n y = q) := ⟨_, Lib.hid rfl⟩
  obtain ⟨z, HZ⟩ : ∃ z, Hid (kh y = z) := ⟨_, Lib.hid rfl⟩
  have KH := keyHash_i y hs
  have hmd : mdl.md z n = (q : Int) := by
    unfold mdl.md
    rw [if_pos (mdl.inr_of (by omega) (by omega)), ← HZ.out, bk_int h0, HQ.out]
  have MO := fun w => mdl.implMod z n w
  rw [hmd] at MO
  rw [HZ.out] at KH
  rw [HQ.out]
  obtain ⟨yb, yn, ys⟩ := y
  unfold kyV at KH ⊢
  clear hmd
  go_enter Tryz.func143, Tryz.ntmps143
  go_wp2_with (fail)
  refine (KH _).mono ?_
  rintro e w1 ⟨rfl, hb⟩
  have HB := Lib.hid (bs (b1 w _) hb)
  clear hb
  go_wp2_with (fail)
  refine (MO _).mono ?_
  rintro e w2 ⟨rfl, rfl⟩
  go_wp2_with (fail)
  go_ret
  exact ⟨rfl, HB.out⟩

theorem gb {w w' : World} (h : Below w.heap.size w w') (r : Option Nat) : w.grownBy w' r := ⟨h.os, h.tape, h.output, h.size, fun k hk _ => h.block k hk⟩
def LkQ (w : World) (lo : Nat) (A : Option Addr) (n c : Nat) (v : Int) (h' : List Int) (e : Ending) (w' : World) : Prop := e = .returned (.int .i64 v) ∧ imem.OwnI w' lo A n c h' ∧ w.grownBy w' (Value.slice A n c).ownBlock

theorem linkSlot_i (n c : Nat) (hn : n ≤ 1048576) (A : Option Addr) (h : List Int) (lo : Nat) (y : Ky) (hs : y.str.size ≤ 140737488355328) (i : Nat) (w : World) (ho : imem.OwnI w lo A n c h) :
    Calls Tryz.prog 137 #[.slice A n c, kyV y, .int .i64 i] w (LkQ w lo A n c ((h[bk n y]?).getD (-1)) (h.set (bk n y) i)) := by
  rcases Nat.eq_zero_or_pos n with hz | hp
  · subst hz
    have h0 : h = [] := List.eq_nil_of_length_eq_zero ho.len
    subst h0
    have HO := Lib.hid ho
    obtain ⟨yb, yn, ys⟩ := y
    unfold kyV
    clear ho hs hn
    go_enter Tryz.func137, Tryz.ntmps137
    go_wp2_with (fail)
    go_ret
    exact ⟨rfl, HO.out.alloc _, World.grownBy_alloc _ _ _⟩
  · obtain ⟨g, rfl, hlg, hgs, hob⟩ := ho.head hp
    have BK := fun w => bucketOf_i n hp hn y hs w
    have hq := bk_lt hp y
    obtain ⟨q, HQ⟩ : ∃ q : Nat, Hid (bk n y = q) := ⟨_, Lib.hid rfl⟩
    rw [HQ.out] at BK hq ⊢
    have hl := ho.len
    obtain ⟨v, hv⟩ : ∃ v, h[q]? = some v := ⟨_, List.getElem?_eq_getElem (by omega)⟩
    have hc : w.cell? ⟨g, q, none⟩ = some (.int .i64 v) := by
      have := ho.row.cellAt q (by omega)
      rw [this]
      exact imem.ics_get hv
    have hfz : w.frozen? ⟨g, q, none⟩ = false := ho.row.frozenAt q
    rw [hv, Option.getD_some]
    have HO := Lib.hid ho
    have HGS := Lib.hid hgs
    have hn1 : ((n : Int) == 0) = false := by simp; omega
    have hqi : (q : Int) < (n : Int) := by omega
    obtain ⟨yb, yn, ys⟩ := y
    unfold kyV at BK ⊢
    have HC := Lib.hid hc
    have HFZ := Lib.hid hfz
    clear ho hs hl hv hgs hc hfz
    go_enter Tryz.func137, Tryz.ntmps137
    go_wp2_with (fail)
    refine (BK _).mono ?_
    rintro e w1 ⟨rfl, hb⟩
    have HB := Lib.hid (bs (b1 w _) hb)
    have hc1 : w1.cell? ⟨g, q, none⟩ = some (.int .i64 v) := cell_stays (fun hl => HB.out.block _ hl) HC.out
    have HO1 := Lib.hid (HO.out.below HB.out)
    have hf1 : w1.frozen? ⟨g, q, none⟩ = false := HO1.out.row.frozenAt q
    clear hb
    go_wp2_with (fail)
    go_ret
    obtain ⟨h1, h2⟩ := HO1.out.set q i
    exact ⟨rfl, h1, by rw [hob]; exact mem.grown_trans (gb HB.out _) h2⟩

end Go.Proofs.YtplfekpagonbbaaGreatDoor.tree

/-
  What the law's helpers on slices of integers return: a copy, and the test of two.
  Conditions: the slices have at most 2^44 integers.
-/
namespace Go.Proofs.YtplfekpagonbbaaGreatDoor.ints
open Go.ChangeShapes Go.WideShapes Go.ChangeAt Go.RowKit mem imem
set_option linter.unusedVariables false

/-- A new slice of integers that reads as l. -/
def MadeI (w : World) (l : List Int) (e : Ending) (w' : World) : Prop := ∃ A n c, e = .returned (.slice A n c) ∧ OwnI w' w.heap.size A n c l ∧ w.grownBy w' none

theorem toInts (A : Option Addr) (n c : Nat) (l : List Int) (hn : n ≤ 17592186044416) (w : World) (hA : RdI w A n l) :
    Calls Tryz.prog 73 #[.slice A n c] w (MadeI w l) := by
  have hl := hA.len
  obtain ⟨i0, hi, hz0, hz1, hz2⟩ := info_parts i64row
  have HA := Lib.hid hA; have HL := Lib.hid hl; have HZ := Lib.hid hz2; clear hA hl hz2
  go_enter Tryz.func73, Tryz.ntmps73
  go_wp2_with (at_make; refine wpList_make_full _ rfl _ _ 24 rfl w.heap.size 3 i0 (.int .i64 0) 1 Tryz.underlying24 hi hz0 hz1 _ _ _ _ n rfl rfl rfl rfl (by have := HZ.out; rw [this]; omega) (by unfold maxLen; omega) (Nat.le_refl _) ?_)
  intro w1 hown hg
  have ho : OwnI w1 w.heap.size (some ⟨w.heap.size, 0, none⟩) n n (List.replicate n 0) := ⟨List.length_replicate, by rw [ics_zero, ← toList_madeCells_one, ← Nat.mul_one n]; simpa using hown⟩
  have HO := Lib.hid ho; have HG := Lib.hid hg; clear ho hown hg
  go_wp2
  go_loopg [4] n (fun gk i wr => ∃ (k : Nat) (m : List Int), i = .int .i64 k ∧ gk + k = n ∧ OwnI wr w.heap.size (some ⟨w.heap.size, 0, none⟩) n n m ∧ Filled l m k ∧ w.grownBy wr none)
  case atStart => exact ⟨0, _, rfl, by omega, HO.out, Filled.start _ _ (by rw [List.length_replicate]; exact HL.out.symm), HG.out⟩
  case round =>
    obtain ⟨k, m, rfl, hk, ho, hf, hg⟩ := hrel
    have hr := HA.out.grown hg (Off.none_ _ _)
    by_cases hlt : k < n
    · obtain ⟨a, v, rfl, hv, hc⟩ := hr.at_ hlt
      obtain ⟨⟨u, hcu⟩, hfu⟩ := ho.cellk hlt
      obtain ⟨ho1, hg1⟩ := ho.set k v
      have hf1 := hf.step hv
      have hgg : w.grownBy (wr.setCell ⟨w.heap.size, k, none⟩ (.int .i64 v)) none := ⟨hg1.os.trans hg.os, hg1.tape.trans hg.tape, hg1.output.trans hg.output, Nat.le_trans hg.size hg1.size, fun j hj hne => (hg1.block j (Nat.lt_of_lt_of_le hj hg.size) (by intro e; injection e with e; omega)).trans (hg.block j hj hne)⟩
      have H1 := Lib.hid ho1; have H2 := Lib.hid hf1; have H3 := Lib.hid hgg; have HK := Lib.hid hk
      clear ho hr hg hf ho1 hg1 hf1 hgg hv hk
      go_wp2
      go_roundg (n - (k + 1))
      case measure => have := HK.out; omega
      case rel => exact ⟨k + 1, _, by go_num, by have := HK.out; omega, H1.out, H2.out, H3.out⟩
    · have hm : m = l := hf.all (by have := HL.out; omega)
      subst hm
      have H1 := Lib.hid ho; have H3 := Lib.hid hg; have HK := Lib.hid hk
      clear ho hr hg hf hk
      go_wp2
      go_ret
      exact ⟨_, _, _, rfl, H1.out, H3.out⟩

/-- A call that answers b and only makes memory. -/
def BoolQ (w : World) (b : Bool) (e : Ending) (w' : World) : Prop := e = .returned (.bool b) ∧ w.grownBy w' none

/-- Two slices that read alike. -/
theorem eqInts (A B : Option Addr) (n c d : Nat) (l : List Int) (hn : n ≤ 17592186044416) (w : World) (hA : RdI w A n l) (hB : RdI w B n l) :
    Calls Tryz.prog 75 #[.slice A n c, .slice B n d] w (BoolQ w true) := by
  have HA := Lib.hid hA; have HB := Lib.hid hB; clear hA hB
  go_enter Tryz.func75, Tryz.ntmps75
  go_wp2
  go_loopg [5] n (fun gk i wr => ∃ (k : Nat), i = .int .i64 k ∧ gk + k = n ∧ w.grownBy wr none)
  case atStart => exact ⟨0, rfl, by omega, World.grownBy.refl _ _⟩
  case round =>
    obtain ⟨k, rfl, hk, hg⟩ := hrel
    by_cases hlt : k < n
    · obtain ⟨a, v, rfl, hv, hc⟩ := (HA.out.grown hg (Off.none_ _ _)).at_ hlt
      obtain ⟨b, v', rfl, hv', hc'⟩ := (HB.out.grown hg (Off.none_ _ _)).at_ hlt
      obtain rfl : v = v' := Option.some.inj (hv.symm.trans hv')
      have HG := Lib.hid hg; have HK := Lib.hid hk
      clear hg hk hv hv'
      go_wp2
      go_quiet (fail)
      go_wp2
      go_roundg (n - (k + 1))
      case measure => have := HK.out; omega
      case rel => exact ⟨k + 1, by go_num, by have := HK.out; omega, grown_draws HG.out _⟩
    · have HG := Lib.hid hg; have HK := Lib.hid hk
      clear hg hk
      go_wp2
      go_ret
      exact ⟨rfl, HG.out⟩

end Go.Proofs.YtplfekpagonbbaaGreatDoor.ints

/-
  A value without items; a call that gives back a value and writes nothing that was there.
  Conditions: those that each theorem names.
-/
namespace Go.Proofs.YtplfekpagonbbaaGreatDoor.tree
open Go.ChangeShapes Go.WideShapes Go.ChangeAt Go.RowKit
set_option linter.unusedVariables false

theorem IsIn.nil (w : World) (S : Nat → Prop) (A : Option Addr) : IsIn w S [] [] A := ⟨rfl, by simp, fun _ => #[], fun i hi => absurd hi (by simp), fun i hi => absurd hi (by simp)⟩
/-- A value with no items. -/
theorem flat {k n x : Int} {s : ByteArray} (hk : I64 k ∧ I64 n ∧ I64 x ∧ s.size ≤ maxLen) (w : World) (S : Nat → Prop) (A : Option Addr) (c : Nat) (hc : c ≤ maxLen) : TIn w S (.mk k n s x [] []) (vV k n s x A 0 c) := TIn.of c hk (IsIn.nil w S A) ⟨Nat.zero_le _, hc⟩

def GivesQ (w : World) (v : Value) (e : Ending) (w' : World) : Prop := e = .returned v ∧ Below w.heap.size w w'

end Go.Proofs.YtplfekpagonbbaaGreatDoor.tree

