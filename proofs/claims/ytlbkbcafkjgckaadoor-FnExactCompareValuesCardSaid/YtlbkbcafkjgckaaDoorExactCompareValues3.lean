/-
  What the texts behind this one use: 18 of the parts of one proof.
  Conditions: those that each theorem names.
-/
import Derived.Test.YtlbkbcafkjgckaaDoorRows
import Derived.Stop.LaidErr
import Derived.Stop.LaidTwo
import Derived.LaidMore
import Derived.LaidHandle
import Derived.Deep.DeepCutAuto
import Derived.Deep.RegionWith
import Derived.BigQuiet
import Derived.Maps.AppendAt
import Derived.WalkKit
import Derived.ProofKit
import Derived.IntWalk
import Derived.Lib.Hide
import Derived.Deep.QuietTactic
import Derived.WalkLawsBesides
import Derived.Test.YtlbkbcafkjgckaaDoorExactCompareValues1
import Derived.Test.YtlbkbcafkjgckaaDoorExactCompareValues2
/-
  The list of arrays that are being compared, as it lies in memory.
  Conditions: those that each theorem names.
-/
namespace Go.Proofs.YtlbkbcafkjgckaaDoor.tree
open Go.ChangeShapes Go.WideShapes Go.ChangeAt Go.RowKit
set_option linter.unusedVariables false

def CRow (w : World) (B : Nat) (way : Value) (G : List Mt) : Prop := w.ownsRow B MG 4 way G.length (G.reverse.flatMap Mt.cells)

theorem cells9_len (G : List Mt) : (G.flatMap Mt.cells).length = G.length * 4 := by
  induction G with
  | nil => rfl
  | cons V l ih => rw [List.flatMap_cons, List.length_append, ih, List.length_cons]; simp [Mt.cells]; omega
theorem cells9_rev (V : Mt) (l : List Mt) : (V :: l).reverse.flatMap Mt.cells = l.reverse.flatMap Mt.cells ++ V.cells := by simp

theorem CRow.top {w : World} {B : Nat} {way : Value} {V : Mt} {l : List Mt} (h : CRow w B way (V :: l)) :
    ∃ g c cur, way = .slice (some ⟨g, 0, none⟩) (l.length + 1) c ∧ B ≤ g ∧ w.heap[g]? = some (.cells cur MG (0, 0)) ∧ l.length + 1 ≤ c ∧ c ≤ maxLen ∧ cur.size = c * 4 ∧ ∀ q, q < 4 → cur[l.length * 4 + q]? = V.cells[q]? := by
  obtain ⟨h1, h2⟩ := h
  rcases h2 with ⟨_, h0⟩ | ⟨g, cap, cur, rfl, hB, hg, hn, hm, hs, htake⟩
  · simp at h0
  · refine ⟨g, cap, cur, rfl, hB, hg, hn, hm, hs, fun q hq => ?_⟩
    have hl : (l.reverse.flatMap Mt.cells).length = l.length * 4 := by rw [cells9_len, List.length_reverse]
    have e : (cur.toList.take ((V :: l).length * 4))[l.length * 4 + q]? = V.cells[q]? := by
      rw [htake, cells9_rev, List.getElem?_append_right (by omega), hl]
      congr 1
      omega
    rw [List.getElem?_take_of_lt (by simp; omega)] at e
    rw [← e]
    simp

theorem CRow.pop {w : World} {B g c : Nat} {n : Nat} {V : Mt} {l : List Mt} (h : CRow w B (.slice (some ⟨g, 0, none⟩) n c) (V :: l)) : CRow w B (.slice (some ⟨g, 0, none⟩) l.length c) l := by
  obtain ⟨h1, h2⟩ := h
  rcases h2 with ⟨h0, _⟩ | ⟨g', cap, cur, he, hB, hg, hn, hm, hs, htake⟩
  · cases h0
  · simp at he
    obtain ⟨rfl, -, rfl⟩ := he
    have hl : (l.reverse.flatMap Mt.cells).length = l.length * 4 := by rw [cells9_len, List.length_reverse]
    refine ⟨hl, .inr ⟨g, c, cur, rfl, hB, hg, by simp at hn; omega, hm, hs, ?_⟩⟩
    have := congrArg (List.take (l.length * 4)) htake
    rw [List.take_take, cells9_rev, List.take_append_of_le_length (by omega), List.take_of_length_le (l := List.flatMap _ _) (by omega)] at this
    rw [← this]
    congr 1
    simp


theorem CRow.nil {w : World} {B : Nat} {way : Value} (h : CRow w B way []) : ∃ A c, way = .slice A 0 c := by
  rcases h.2 with ⟨h0, _⟩ | ⟨g, cap, cur, h0, _⟩
  · exact ⟨none, 0, h0⟩
  · exact ⟨_, cap, h0⟩
theorem CRow.below {w w' : World} {B : Nat} {way : Value} {P : List Mt} (h : CRow w B way P) (hb : Below w.heap.size w w') : CRow w' B way P :=
  World.ownsRow.kept h (mem.none_of_below hb) (by
    cases e : way.ownBlock with
    | none => exact .inl rfl
    | some k => exact .inr (by simp))
theorem CRow.own {w : World} {B : Nat} {way : Value} {P : List Mt} (h : CRow w B way P) : ∀ k, way.ownBlock = some k → B ≤ k ∧ k < w.heap.size ∧ Plain w k := fun k e => by
  rcases h.2 with ⟨h0, _⟩ | ⟨g, cap, cur, h0, hB, hg, _⟩
  · rw [h0] at e; cases e
  · rw [h0] at e
    injection e with e
    obtain rfl : g = k := e
    exact ⟨hB, (Array.getElem?_eq_some_iff.1 hg).1, _, _, hg⟩
theorem CRow.keptN {w w' : World} {B b : Nat} {way : Value} {P : List Mt} (h : CRow w B way P) (hg : w.grownBy w' (some b)) (hb : ¬ Plain w b) : CRow w' B way P :=
  World.ownsRow.kept h hg (by
    cases e : way.ownBlock with
    | none => exact .inl rfl
    | some k =>
      refine .inr (fun h2 => ?_)
      have := (h.own k e).2.2
      injection h2 with h2
      exact hb (h2 ▸ this))
theorem CRow.set {w w' : World} {B g c n : Nat} {V V' : Mt} {l : List Mt} {cur arr : Array Value} (h : CRow w B (.slice (some ⟨g, 0, none⟩) n c) (V :: l)) (hg : w.heap[g]? = some (.cells cur MG (0, 0))) (hg' : w'.heap[g]? = some (.cells arr MG (0, 0)))
    (hs : arr.size = cur.size) (hlo : ∀ j, j < l.length * 4 → arr[j]? = cur[j]?) (hat : ∀ q, q < 4 → arr[l.length * 4 + q]? = V'.cells[q]?) : CRow w' B (.slice (some ⟨g, 0, none⟩) n c) (V' :: l) := by
  obtain ⟨h1, h2⟩ := h
  rcases h2 with ⟨h0, _⟩ | ⟨g', cap, cur', he, hB, hg2, hnc, hm, hsz, htake⟩
  · cases h0
  · simp at he
    obtain ⟨rfl, rfl, rfl⟩ := he
    rw [hg] at hg2
    simp at hg2
    obtain rfl := hg2
    have hl : (l.reverse.flatMap Mt.cells).length = l.length * 4 := by rw [cells9_len, List.length_reverse]
    refine ⟨by rw [cells9_rev, List.length_append, hl]; simp [Mt.cells]; omega, .inr ⟨g, c, arr, by simp, hB, hg', by simpa using hnc, hm, by omega, ?_⟩⟩
    refine List.ext_getElem? fun j => ?_
    simp only [List.length_cons] at htake hnc ⊢
    by_cases hj : j < l.length * 4
    · rw [List.getElem?_take_of_lt (by omega), cells9_rev, List.getElem?_append_left (by omega), Array.getElem?_toList, hlo j hj]
      have := congrArg (fun z => z[j]?) htake
      rw [List.getElem?_take_of_lt (by omega), cells9_rev, List.getElem?_append_left (by omega), Array.getElem?_toList] at this
      exact this
    · by_cases hj4 : j < l.length * 4 + 4
      · obtain ⟨q, rfl⟩ : ∃ q, j = l.length * 4 + q := ⟨j - l.length * 4, by omega⟩
        rw [List.getElem?_take_of_lt (by omega), cells9_rev, List.getElem?_append_right (by omega), hl, Array.getElem?_toList, hat q (by omega), Nat.add_sub_cancel_left]
      · rw [List.getElem?_eq_none (by simp; omega), List.getElem?_eq_none (by rw [cells9_rev, List.length_append, hl]; simp [Mt.cells]; omega)]

/-- What taking an item leaves, apart from what it gives. -/
structure Tk (wr w4 : World) (g m : Nat) (cur : Array Value) (F : Mt) (R1 : Option Addr) (L1 c1 : Nat) : Prop where
  fr : Fr (fun b => b = g ∨ b = F.b) wr w4
  st : ∃ (p : Nat) (arr : Array Value) (f : Value → Option Value), p ≤ F.vs'.length ∧ w4.heap[g]? = some (.cells arr MG (0, 0)) ∧ arr.size = cur.size ∧ arr[m * 4]? = some (.slice R1 L1 c1) ∧ arr[m * 4 + 2]? = some (.int .i64 p) ∧ (∀ j, j ≠ m * 4 → j ≠ m * 4 + 2 → arr[j]? = cur[j]?) ∧ raw.Holds w4 GK F.b f ∧ FirstK (F.ks'.take p) f
theorem hold_np {w : World} {G : World → Value → Prop} {b : Nat} {f : Value → Option Value} (h : raw.Holds w G b f) : ¬ Plain w b := fun ⟨cs, t, hc⟩ => by
  obtain ⟨es, ck, hb, -⟩ := h
  rw [hc] at hb
  cases hb

section
variable {R : Int} {B E : Nat} {w wr w4 : World} {F : Mt} {G : List Mt} {e : Value → Option Value} {g c n : Nat} {cur : Array Value} {y : Ky} {kt : List Ky} {t : Tr} {ts : List Tr} {R1 : Option Addr} {c1 : Nat}
theorem CSt.took (hst : CSt R B wr 0 (F :: G) e) (hrow : CRow wr B (.slice (some ⟨g, 0, none⟩) n c) (F :: G)) (hm1 : raw.Holds wr (G2 B) E e) (hE : ∀ X ∈ F :: G, E < X.b) (hB : w.heap.size ≤ B) (hEb : w.heap.size ≤ E) (hb : Below w.heap.size w wr)
    (hgB : B ≤ g) (hg : wr.heap[g]? = some (.cells cur MG (0, 0))) (hq : ∀ q, q < 4 → cur[G.length * 4 + q]? = F.cells[q]?) (hk0 : F.ks = y :: kt) (hv : F.vs = t :: ts)
    (hT : Tk wr w4 g G.length cur F R1 ts.length c1) (hR : IsIn wr (Lo B wr) kt ts R1) (hc : ts.length ≤ c1 ∧ c1 ≤ maxLen) :
    Below w.heap.size w w4 ∧ Kp B wr w4 ∧ (getL F.ks' F.vs' y = none → R = 2) ∧ ∀ u, getL F.ks' F.vs' y = some u → ∃ F' : Mt, CSt R B w4 (cmpT t u) (F' :: G) e ∧ CRow w4 B (.slice (some ⟨g, 0, none⟩) n c) (F' :: G) ∧ raw.Holds w4 (G2 B) E e ∧
      (∀ X ∈ F' :: G, E < X.b) ∧ left9 (F' :: G) + wk t = left9 (F :: G) ∧ (F'.ks = kt ∧ F'.vs = ts ∧ F'.ks' = F.ks' ∧ F'.vs' = F.vs') ∧ cnt t ≤ cnts F'.vs0 := by
  obtain ⟨p, arr, f, hp, hg4, hsz, ha0, ha2, hao, hmf, hff⟩ := hT.st
  have hF := hst.ok F List.mem_cons_self
  obtain ⟨f0, hf0, -⟩ := hF.map
  have hkp : Kp B wr w4 := fun b hbB hpl => hT.fr.block b hpl.lt (fun h => by
    rcases h with rfl | rfl
    · omega
    · exact hold_np hf0 hpl)
  have hEF := hE F List.mem_cons_self
  have hgp : Plain wr g := ⟨_, _, hg⟩
  have hbs : ∀ X ∈ G, w4.heap[X.b]? = wr.heap[X.b]? := fun X hX => by
    have hXok := hst.ok X (List.mem_cons_of_mem _ hX)
    refine hT.fr.block _ hXok.lt (fun h => ?_)
    rcases h with h | h
    · obtain ⟨f1, hf1, -⟩ := hXok.map
      rw [h] at hf1
      exact hold_np hf1 hgp
    · have := (hst.nest.1 X hX).2
      omega
  obtain ⟨h1, h2⟩ := hst.take hkp hbs hk0 hv (hR.kp hkp) hc hp ⟨f, hmf, hff⟩
  refine ⟨?_, hkp, h1, fun u hu => ⟨_, h2 u hu, ?_, ?_, ?_, ?_, ⟨rfl, rfl, rfl, rfl⟩, ?_⟩⟩
  · have := hT.fr.below (lo := w.heap.size) hb.size (fun b hb => by rcases hb with rfl | rfl <;> omega)
    exact ⟨this.os.trans hb.os, this.tape.trans hb.tape, this.output.trans hb.output, Nat.le_trans hb.size this.size, fun b hbb => (this.block b hbb).trans (hb.block b hbb)⟩
  · refine hrow.set hg hg4 hsz (fun j hj => hao j (by omega) (by omega)) (fun q hq4 => ?_)
    have e1 := hq q hq4
    match q, hq4 with
    | 0, _ => exact ha0
    | 1, _ => exact (hao _ (by omega) (by omega)).trans e1
    | 2, _ => exact ha2
    | 3, _ => exact (hao _ (by omega) (by omega)).trans e1
  · refine hm1.kept (hT.fr.block _ hm1.lt (fun h => ?_)) (fun x hx => hx.kp hkp)
    rcases h with h | h
    · rw [h] at hm1
      exact hold_np hm1 hgp
    · omega
  · intro X hX
    rcases List.mem_cons.1 hX with rfl | hX
    · exact hEF
    · exact hE X (List.mem_cons_of_mem _ hX)
  · simp only [left9, hv, wks_cons]
    omega
  · have := hF.le
    rw [hv, cnts_cons] at this
    show cnt t ≤ cnts F.vs0
    omega

/-- How large they may be. -/
def Tb (F : Mt) : Prop := tots F.ks F.vs ≤ 1000000000 ∧ tots F.ks' F.vs' ≤ 1000000000
/-- What holds at the head of the loop. -/
def CRel (R : Int) (B E : Nat) (w : World) (gk : Nat) (way : Value) (wr : World) : Prop :=
  ∃ G e, gk = left9 G ∧ CSt R B wr 0 G e ∧ CRow wr B way G ∧ raw.Holds wr (G2 B) E e ∧ (∀ X ∈ G, E < X.b) ∧ Below w.heap.size w wr ∧ ∀ X ∈ G, Tb X

/-- Two arrays are entered: the list behind it. -/
theorem CRel.push {w4' w5 w6 w7 : World} {ks1 ks2 : List Ky} {vs1 vs2 : List Tr} {A1 A2 : Option Addr} {c1 c2 b : Nat} {way : Value} {row : Option Nat} (hst : CSt R B w4 (cmpL ks1 vs1 ks2 vs2) (F :: G) e) (hm : raw.Holds w4 (G2 B) E e) (hE : ∀ X ∈ F :: G, E < X.b)
    (hB : w.heap.size ≤ B) (hEb : w.heap.size ≤ E) (hb : Below w.heap.size w w4) (hin1 : IsIn w4 (Lo B w4) ks1 vs1 A1) (hc1 : vs1.length ≤ c1 ∧ c1 ≤ maxLen) (hin2 : IsIn w4 (Lo B w4) ks2 vs2 A2) (hc2 : vs2.length ≤ c2 ∧ c2 ≤ maxLen) (hlt : cnts vs1 < cnts F.vs0)
    (h44 : Below w4.heap.size w4 w4') (hm4 : raw.Holds w4' (G2 B) E e) (hm5 : raw.Holds w5 (G2 B) E (raw.put e (pq (plc A1 vs1.length) (plc A2 vs2.length)) (.bool true))) (h5 : w4'.grownBy w5 (some E))
    (h56 : Below w5.heap.size w5 w6) (hbn : w5.heap.size ≤ b) (hmb : raw.Holds w6 GK b (fun _ => none))
    (hrow : w7.ownsRow B MG 4 way (G.length + 1 + 1) ((F :: G).reverse.flatMap Mt.cells ++ [.slice A1 vs1.length c1, .slice A2 vs2.length c2, .int .i64 0, .map (some b)])) (h67 : w6.grownBy w7 row) (hr : ∀ k, row = some k → B ≤ k ∧ Plain w6 k) (hTb : ∀ X ∈ F :: G, Tb X) (hTn : tots ks1 vs1 ≤ 1000000000 ∧ tots ks2 vs2 ≤ 1000000000) :
    CRel R B E w (1 + wks vs1 + left9 (F :: G)) way w7 := by
  have k5 : Kp B w4' w5 := Kp.grown h5 (fun k hk => .inr (by obtain rfl := Option.some.inj hk; exact hold_np hm4))
  have k6 : Kp B w5 w6 := Kp.below h56
  have k7 : Kp B w6 w7 := Kp.grown h67 (fun k hk => .inl (hr k hk).1)
  have hkp : Kp B w4 w7 := (((Kp.below h44).trans k5).trans k6).trans k7
  have sz4 := h44.size
  have sz5 := h5.size
  have sz6 := h56.size
  have np7 : ∀ k, ¬ Plain w6 k → k < w6.heap.size → w7.heap[k]? = w6.heap[k]? := fun k hk hlt => h67.block k hlt (fun h => hk (hr k h.symm).2)
  have hbX : ∀ X ∈ F :: G, w7.heap[X.b]? = w4.heap[X.b]? := fun X hX => by
    have hXok := hst.ok X hX
    have l4 := hXok.lt
    obtain ⟨f1, hf1, -⟩ := hXok.map
    have hEX := hE X hX
    have e5 : w6.heap[X.b]? = w4.heap[X.b]? := (h56.block _ (by omega)).trans ((h5.block _ (by omega) (by intro h; injection h; omega)).trans (h44.block _ l4))
    refine (np7 _ (fun ⟨cs, t, hc⟩ => hold_np hf1 ⟨cs, t, e5.symm.trans hc⟩) (by omega)).trans e5
  have l5 := hm5.lt
  have hm7 : raw.Holds w7 (G2 B) E (raw.put e (pq (plc A1 vs1.length) (plc A2 vs2.length)) (.bool true)) := by
    have m6 := hm5.kept (h56.block _ l5) (fun x hx => hx.kp k6)
    exact m6.kept (np7 _ (hold_np m6) m6.lt) (fun x hx => hx.kp k7)
  have hb7 : raw.Holds w7 GK b (fun _ => none) := hmb.kept (np7 _ (hold_np hmb) hmb.lt) (fun x hx => hx)
  have hst7 := hst.kp hkp hbX
  have hlE := hm.lt
  refine ⟨_, _, rfl, hst7.push (hin1.kp hkp) hc1 (hin2.kp hkp) hc2 hlt (fun X hX => ?_) hb7, ?_, hm7, fun X hX => ?_, ?_, fun X hX => ?_⟩
  · have := (hst.ok X hX).lt
    omega
  · show w7.ownsRow _ _ _ _ _ _
    rw [cells9_rev]
    exact hrow
  · rcases List.mem_cons.1 hX with rfl | hX
    · show E < b
      omega
    · exact hE X hX
  · have sz := hb.size
    have g1 := (bs hb h44).grown h5 (by omega) (fun k hk => by obtain rfl := Option.some.inj hk; omega)
    exact (bs g1 h56).grown h67 (by omega) (fun k hk => by have := (hr k hk).1; omega)
  · rcases List.mem_cons.1 hX with rfl | hX
    · exact hTn
    · exact hTb X hX
end

end Go.Proofs.YtlbkbcafkjgckaaDoor.tree

/-
  Where a key stands first in a value, of the project and of the model.
  Conditions: those that each theorem names.
-/
namespace Go.Proofs.YtlbkbcafkjgckaaDoor.tree
open Go.ChangeShapes Go.WideShapes Go.ChangeAt Go.RowKit
set_option linter.unusedVariables false

/-- Where the key stands first in the value, -1 if nowhere. -/
def posV : Tr → Ky → Int
  | .mk k _ _ _ ks _, y => if k = 4 then pos ks y 0 else -1
theorem posV_four (n : Int) (s : ByteArray) (x : Int) (ks : List Ky) (vs : List Tr) (y : Ky) : posV (.mk 4 n s x ks vs) y = pos ks y 0 := by rw [posV, if_pos rfl]
theorem posV_not {k n : Int} {s : ByteArray} {x : Int} {ks : List Ky} {vs : List Tr} (h : k ≠ 4) (y : Ky) : posV (.mk k n s x ks vs) y = -1 := by rw [posV, if_neg h]
theorem pos_lt : ∀ (ks : List Ky) (y : Ky) (i : Nat), pos ks y i < (i : Int) + ks.length
  | [], y, i => by simp [pos]; omega
  | z :: ks, y, i => by
    have := pos_lt ks y (i + 1)
    rw [pos]
    split
    · simp; omega
    · push_cast at *; simp; omega
theorem pos_ge : ∀ (ks : List Ky) (y : Ky) (i : Nat), pos ks y i = -1 ∨ (i : Int) ≤ pos ks y i
  | [], y, i => .inl rfl
  | z :: ks, y, i => by
    rw [pos]
    split
    · exact .inr (Int.le_refl _)
    · rcases pos_ge ks y (i + 1) with h | h
      · exact .inl h
      · exact .inr (by push_cast at h; omega)
/-- It is no place, or one among the items. -/
theorem posV_cases (k n : Int) (s : ByteArray) (x : Int) (ks : List Ky) (vs : List Tr) (y : Ky) : posV (.mk k n s x ks vs) y = -1 ∨ ∃ i : Nat, posV (.mk k n s x ks vs) y = i ∧ i < ks.length ∧ k = 4 := by
  by_cases h4 : k = 4
  · subst h4
    rw [posV_four]
    rcases pos_ge ks y 0 with h | h
    · exact .inl h
    · have := pos_lt ks y 0
      exact .inr ⟨(pos ks y 0).toNat, by omega, by omega, rfl⟩
  · exact .inl (posV_not h4 y)

set_option maxHeartbeats 800000 in
theorem findKey_i (t : Tr) (v : Value) (y : Ky) (w : World) (S : Nat → Prop) (h : TIn w S t v) : Calls Tryd.prog 20 #[v, kyV y] w (LtQ w (posV t y)) := by
  obtain ⟨k, n, s, x, ks, vs⟩ := t
  obtain ⟨A, c, rfl, -, hin⟩ := h.out
  clear h
  obtain ⟨L, HL⟩ : ∃ L, Hid (L = vs.length) := ⟨_, Lib.hid rfl⟩
  have hm : L ≤ maxLen := by rw [HL.out]; exact hin.2.1
  have hkl : Hid (ks.length = L) := Lib.hid (by rw [HL.out]; exact hin.1)
  unfold maxLen at hm
  rw [← HL.out]
  have HI := Lib.hid hin
  clear hin
  by_cases h4 : k = 4
  · subst h4
    rw [posV_four]
    obtain ⟨W, HW⟩ : ∃ W, Hid (pos ks y 0 = W) := ⟨_, Lib.hid rfl⟩
    rw [HW.out]
    obtain ⟨yb, yn, ys⟩ := y
    unfold kyV
    go_enter Tryd.func20, Tryd.ntmps20
    go_wp2_with (fail)
    go_loopg [13] (L + 1) (fun gk i wr => ∃ j : Nat, i = .int .i64 j ∧ gk + j = L + 1 ∧ j ≤ L ∧ Hid (pos (ks.drop j) ⟨yb, yn, ys⟩ j = W) ∧
      Hid (wr.heap[w.heap.size + 1]? = some (.cells #[.bool yb, .int .i64 yn, .string ys] IK (0, 0))) ∧ Below w.heap.size w wr)
    case atStart => exact ⟨0, rfl, by omega, by omega, Lib.hid HW.out, Lib.hid (heap_alloc2_new w _ _), b2 _ _ _⟩
    case round =>
      obtain ⟨j, rfl, hgj, hjL, HQ, HE', hb⟩ := hrel
      have HB := Lib.hid hb
      clear hb
      by_cases hlt : j < L
      · obtain ⟨a, y1, k1, n1, s1, x1, ks1, vs1, A1, c1, rfl, hS, hky, hvs, ht, hyb, hkb, hin1, hcell⟩ := (HI.out.below HB.out).item (i := j) (by rw [← HL.out]; exact hlt)
        have HD := Lib.hid ((pos_drop (y := ⟨yb, yn, ys⟩) hky).symm.trans HQ.out)
        obtain ⟨b, HBB⟩ : ∃ b, Hid (decide (y1 = ⟨yb, yn, ys⟩) = b) := ⟨_, Lib.hid rfl⟩
        have NE := fun w => ky_eql w y1 ⟨yb, yn, ys⟩
        rw [HBB.out] at NE
        unfold kyV at NE
        simp only at NE
        have r1 : ∀ o q, (wr.alloc o).cell? ⟨w.heap.size + 1, q, none⟩ = _ := fun o q => (rowc (keepAlloc HE'.out)).1 q
        clear hky hvs ht hyb hkb hin1 hS
        obtain ⟨p0, p1, p2, p3, p4, p5, p6, p7⟩ := hcell
        cases b with
        | true =>
          have e : W = (j : Int) := by rw [← HD.out, if_pos (of_decide_eq_true HBB.out)]
          go_wp2_with (fail)
          go_ret
          exact ⟨by first | rfl | (rw [e]; rfl), bs HB.out (b1 _ _)⟩
        | false =>
          have HF : Hid (pos (ks.drop (j + 1)) ⟨yb, yn, ys⟩ (j + 1) = W) := Lib.hid (by have := HD.out; rw [if_neg (of_decide_eq_false HBB.out)] at this; exact this)
          go_wp2_with (fail)
          go_roundg (L - j)
          case rel => exact ⟨j + 1, by go_num, by omega, by omega, HF, Lib.hid (keepAlloc HE'.out), bs HB.out (b1 _ _)⟩
          case measure => omega
      · obtain rfl : j = L := by omega
        have e : W = -1 := by rw [← HQ.out, show ks.drop j = [] from List.drop_eq_nil_of_le (Nat.le_of_eq hkl.out)]; rfl
        go_wp2_with (fail)
        go_ret
        exact ⟨by first | rfl | (rw [e]; rfl), HB.out⟩
  · rw [posV_not h4]
    unfold kyV
    go_enter Tryd.func20, Tryd.ntmps20
    go_wp2_with (fail)
    go_ret
    exact ⟨rfl, b2 _ _ _⟩

set_option maxHeartbeats 800000 in
theorem findV_s (t : Tr) (v : Value) (y : Ky) (w : World) (S : Nat → Prop) (h : TIn w S t v) : Calls Tryd.prog 103 #[v, kyV y] w (LtQ w (posV t y)) := by
  obtain ⟨k, n, s, x, ks, vs⟩ := t
  obtain ⟨A, c, rfl, -, hin⟩ := h.out
  by_cases h4 : k = 4
  · subst h4
    rw [posV_four]
    exact find_s n s x ks vs A c y w S hin
  · rw [posV_not h4]
    have hm : vs.length ≤ maxLen := hin.2.1
    generalize vs.length = L at *
    clear h hin
    unfold kyV
    go_enter Tryd.func103, Tryd.ntmps103
    go_wp2_with (fail)
    go_loopg [5] 1 (fun gk i wr => i = .int .i64 0 ∧ gk = 1 ∧ wr = ((w.alloc (.cells #[.int .i64 k, .int .i64 n, .string s, .int .i64 x, .slice A L c] IV)).alloc (.cells #[.bool y.text, .int .i64 y.num, .string y.str] IK)))
    case atStart => exact ⟨rfl, rfl, rfl⟩
    case round =>
      obtain ⟨rfl, rfl, rfl⟩ := hrel
      go_wp2_with (fail)
      go_ret
      exact ⟨rfl, b2 _ _ _⟩

end Go.Proofs.YtlbkbcafkjgckaaDoor.tree

/-
  What stands at a key of a tree.
  Conditions: none.
-/
namespace Go.Proofs.YtlbkbcafkjgckaaDoor.tree
open Go.ChangeShapes Go.WideShapes Go.ChangeAt Go.RowKit
set_option linter.unusedVariables false

def nullT : Tr := .mk 0 0 ⟨#[]⟩ 0 [] []
/-- What stands at the key. -/
def getT : Tr → Ky → Option Tr
  | .mk k n s x ks vs, y => if posV (.mk k n s x ks vs) y = -1 then none else vs[(posV (.mk k n s x ks vs) y).toNat]?
def getB (t : Tr) (y : Ky) : Bool := (getT t y).isSome
def getR (t : Tr) (y : Ky) : Tr := (getT t y).getD nullT
theorem getT_none {t : Tr} {y : Ky} (h : posV t y = -1) : getT t y = none := by cases t; rw [getT, if_pos h]
theorem getT_some {k n x : Int} {s : ByteArray} {ks : List Ky} {vs : List Tr} {y : Ky} {i : Nat} (h : posV (.mk k n s x ks vs) y = i) : getT (.mk k n s x ks vs) y = vs[i]? := by
  rw [getT, if_neg (by omega), h, Int.toNat_natCast]

/-- A result's five cells, written. -/
theorem fill5 {w wF : World} {R : Nat} {t : TypeId} {a b c d e c0 c1 c2 c3 c4 : Value} (h : w.heap[R]? = some (.cells #[a, b, c, d, e] t (0, 0)))
    (hF : (((((w.setCell ⟨R, 0, none⟩ c0).setCell ⟨R, 1, none⟩ c1).setCell ⟨R, 2, none⟩ c2).setCell ⟨R, 3, none⟩ c3).setCell ⟨R, 4, none⟩ c4) = wF) :
    (∀ j, wF.cell? ⟨R, j, none⟩ = (#[c0, c1, c2, c3, c4] : Array Value)[j]?) ∧ (∀ q, q ≠ R → wF.heap[q]? = w.heap[q]?) ∧ ∀ (B : Nat) (w0 : World), B ≤ R → Below B w0 w → Below B w0 wF := by
  subst hF
  refine ⟨fun j => ?_, fun q hq => ?_, fun B w0 hB hb => ?_⟩
  · have := set_heap (set_heap (set_heap (set_heap (set_heap h 0 c0) 1 c1) 2 c2) 3 c3) 4 c4
    rw [cell_of_row _ _ j _ _ _ this]
    simp
  · rw [set_other hq, set_other hq, set_other hq, set_other hq, set_other hq]
  · exact ((((hb.setCell hB _).setCell hB _).setCell hB _).setCell hB _).setCell hB _

def OutT (w : World) (t : Tr) (b : Bool) (S : Nat → Prop) (e : Ending) (w' : World) : Prop := ∃ u, e = .returned (.tuple #[u, .bool b]) ∧ TIn w' S t u ∧ Below w.heap.size w w'

theorem nullValue_i (w : World) : Calls Tryd.prog 66 #[] w (GivesQ w (vV 0 0 ⟨#[]⟩ 0 none 0 0)) := by
  go_enter Tryd.func66, Tryd.ntmps66
  go_wp2
  exact bodyPost_ret (v := vV 0 0 ⟨#[]⟩ 0 none 0 0) (by simp [results, Tryd.results66, go_sem]) rfl ⟨rfl, b1 _ _⟩


end Go.Proofs.YtlbkbcafkjgckaaDoor.tree

/-
  Taking the next item of the first array, and the value that the other one has for its key.
  Conditions: those that each theorem names.
-/
namespace Go.Proofs.YtlbkbcafkjgckaaDoor.tree
open Go.ChangeShapes Go.WideShapes Go.ChangeAt Go.RowKit
set_option linter.unusedVariables false

def TakeQ9 (w : World) (g m : Nat) (cur : Array Value) (F : Mt) (y : Ky) (t : Tr) (kt : List Ky) (ts : List Tr) (S S' : Nat → Prop) (e : Ending) (w' : World) : Prop :=
  ∃ R1, Tk w w' g m cur F R1 ts.length (F.c - 1) ∧ IsIn w S kt ts R1 ∧ ((getL F.ks' F.vs' y = none ∧ e = .returned (.tuple #[vV 0 0 ⟨#[]⟩ 0 none 0 0, vV 0 0 ⟨#[]⟩ 0 none 0 0, .bool false])) ∨
    ∃ u k n s x A L c k' n' s' x' A' L' c', getL F.ks' F.vs' y = some u ∧ e = .returned (.tuple #[vV k n s x A L c, vV k' n' s' x' A' L' c', .bool true]) ∧ TIn w S t (vV k n s x A L c) ∧ TIn w S' u (vV k' n' s' x' A' L' c'))

theorem getL_none {ks : List Ky} {vs : List Tr} {y : Ky} (h : pos ks y 0 = -1) : getL ks vs y = none := by unfold getL; rw [if_pos h]
theorem getL_at {ks : List Ky} {vs : List Tr} {y : Ky} (h : pos ks y 0 ≠ -1) : getL ks vs y = vs[(pos ks y 0).toNat]? := by unfold getL; rw [if_neg h]
theorem pos_rng : ∀ (ks : List Ky) (y : Ky) (i : Nat), pos ks y i ≠ -1 → ∃ j : Nat, pos ks y i = ((i + j : Nat) : Int) ∧ j < ks.length
  | [], y, i, h => by simp [pos] at h
  | z :: ks, y, i, h => by
    rw [pos] at h ⊢
    by_cases hz : z = y
    · rw [if_pos hz]
      exact ⟨0, by simp, by simp⟩
    · rw [if_neg hz] at h ⊢
      obtain ⟨j, h1, h2⟩ := pos_rng ks y (i + 1) h
      exact ⟨j + 1, by rw [h1]; congr 1; omega, by simpa using h2⟩

theorem cell_eq {w w' : World} {a : Addr} (h : w'.heap[a.block]? = w.heap[a.block]?) : w'.cell? a = w.cell? a := by unfold World.cell?; rw [h]

set_option maxHeartbeats 4000000 in
set_option maxRecDepth 100000 in
theorem takeM {w : World} {g m : Nat} {cur : Array Value} {F : Mt} {y : Ky} {kt : List Ky} {t : Tr} {ts : List Tr} {S S' : Nat → Prop} {f : Value → Option Value}
    (hg : w.heap[g]? = some (.cells cur MG (0, 0))) (hq : ∀ q, q < 4 → cur[m * 4 + q]? = F.cells[q]?) (hk0 : F.ks = y :: kt) (hv : F.vs = t :: ts)
    (hin : IsIn w S F.ks F.vs F.R) (hc : F.vs.length ≤ F.c ∧ F.c ≤ maxLen) (hin' : IsIn w S' F.ks' F.vs' F.A') (hp : F.p ≤ F.vs'.length) (hm : raw.Holds w GK F.b f) (hf : FirstK (F.ks'.take F.p) f)
    (hS : ∀ b, S b → b ≠ g ∧ b ≠ F.b) (hS' : ∀ b, S' b → b ≠ g ∧ b ≠ F.b) :
    Calls Tryd.prog 118 #[.pointer (some ⟨g, m * 4, none⟩)] w (TakeQ9 w g m cur F y t kt ts S S') := by
  obtain ⟨R, c, ks, vs, A', c', ks', vs', p, b, ks0, vs0⟩ := F
  simp only at hk0 hv hin hc hin' hp hm hf hS hS'
  subst hk0 hv
  have q0 := hq 0 (by omega)
  have q1 := hq 1 (by omega)
  have q2 := hq 2 (by omega)
  have q3 := hq 3 (by omega)
  simp only [Mt.cells, Nat.add_zero, List.getElem?_cons_zero, List.getElem?_cons_succ] at q0 q1 q2 q3
  have hgl : g < w.heap.size := (Array.getElem?_eq_some_iff.1 hg).1
  have hml : b < w.heap.size := hm.lt
  have hgm : g ≠ b := fun e => by
    obtain ⟨es, ck, hb, -⟩ := hm
    rw [← e, hg] at hb
    cases hb
  obtain ⟨a, y', k1, n1, s1, x1, ks1, vs1, A1, c1, rfl, hSa, hky, hvs, ht, hyb, hkb, hin1, hcell⟩ := hin.item (i := 0) (by simp)
  obtain rfl : y = y' := by simpa using hky
  obtain rfl : t = .mk k1 n1 s1 x1 ks1 vs1 := by simpa using hvs
  have ea : a.add (0 * 8) = a := rfl
  rw [ea] at hcell
  obtain ⟨L1, HL1⟩ : ∃ L1, Hid (vs1.length = L1) := ⟨_, Lib.hid rfl⟩
  obtain ⟨L, HL⟩ : ∃ L, Hid (ts.length = L) := ⟨_, Lib.hid rfl⟩
  obtain ⟨L', HL'⟩ : ∃ L, Hid (vs'.length = L) := ⟨_, Lib.hid rfl⟩
  have hm' : L' ≤ maxLen := by rw [← HL'.out]; exact hin'.2.1
  rw [HL1.out] at hcell ht
  simp only [List.length_cons] at q0 hc
  rw [HL.out] at q0 hc
  rw [HL'.out] at q1 hp
  obtain ⟨hc1, hc2⟩ := hc
  unfold maxLen at hc2 hm'
  have Q0 := Lib.hid q0
  obtain ⟨r0, f0⟩ := rowc hg
  have c0 := (r0 _).trans q0
  have g0 := f0 (m * 4)
  have hab : a.block < w.heap.size := World.block_lt_of_cell? _ _ hcell.c0
  obtain ⟨yb, yn, ys⟩ := y
  obtain ⟨p0, p1, p2, p3, p4, p5, p6, p7⟩ := hcell
  simp only at p0 p1 p2
  have HIN := Lib.hid hin
  have HIN' := Lib.hid hin'
  have HG := Lib.hid hg
  have HQ := Lib.hid (And.intro q1 (And.intro q2 q3))
  have HM := Lib.hid hm
  have HF := Lib.hid hf
  have HS := Lib.hid hS
  have HS' := Lib.hid hS'
  have HTT := Lib.hid ht
  have hm4 : m * 4 + 3 < cur.size := (Array.getElem?_eq_some_iff.1 q3).1
  clear hg hq hin hin' hm hf hS hS' r0 f0 q0 q1 q2 q3 hky hvs ht hyb hkb hin1 hSa ea
  obtain ⟨W3, HW3⟩ : ∃ W, Hid ((((w.alloc (.cells #[.int .i64 0, .int .i64 0, .string ⟨#[]⟩, .int .i64 0, .slice none 0 0] IV)).alloc (.cells #[.int .i64 0, .int .i64 0, .string ⟨#[]⟩, .int .i64 0, .slice none 0 0] IV)).alloc (.cells #[.bool yb, .int .i64 yn, .string ys, .int .i64 k1, .int .i64 n1, .string s1, .int .i64 x1, .slice A1 L1 c1] IE)) = W) := ⟨_, Lib.hid rfl⟩
  obtain ⟨a0, a1, a2, az, ab⟩ := al3 w #[.int .i64 0, .int .i64 0, .string ⟨#[]⟩, .int .i64 0, .slice none 0 0] #[.int .i64 0, .int .i64 0, .string ⟨#[]⟩, .int .i64 0, .slice none 0 0] #[.bool yb, .int .i64 yn, .string ys, .int .i64 k1, .int .i64 n1, .string s1, .int .i64 x1, .slice A1 L1 c1] IV IV IE
  rw [HW3.out] at a0 a1 a2 az ab
  have HA0 := Lib.hid a0
  have HA1 := Lib.hid a1
  have HA2 := Lib.hid a2
  have HB3 := Lib.hid ab
  have HG3 := Lib.hid (carry ab HG.out)
  obtain ⟨N, HN⟩ : ∃ N, Hid (w.heap.size = N) := ⟨_, Lib.hid rfl⟩
  clear a0 a1 a2 az ab
  go_enter Tryd.func118, Tryd.ntmps118
  go_upto_region 2 with fail
  rw [HW3.out, HN.out]
  rw [HN.out] at HA0 HA1 HA2
  clear p0 p1 p2 p3 p4 p5 p6 p7 c0 g0
  obtain ⟨r3, f3⟩ := rowc HG3.out
  have c0 : W3.cell? ⟨g, m * 4, none⟩ = some (.slice (some a) (L + 1) c) := (r3 _).trans Q0.out
  have g0 := f3 (m * 4)
  clear r3 f3
  go_cut [21] (fun v wx => ∃ R1, (R1 = some (a.add 8) ∨ L = 0) ∧ wx = W3.setCell ⟨g, m * 4, none⟩ (.slice R1 L (c - 1)))
  case first =>
    by_cases h1 : c = 1
    · subst h1
      obtain rfl : L = 0 := by omega
      go_wp2_with (fail)
      go_meet
      exact ⟨some a, .inr (by trivial), rfl⟩
    · go_wp2_with (fail)
      go_meet
      exact ⟨some (a.add 8), .inl rfl, by rw [add_pos a 8 (by omega)]⟩
  case rest =>
    obtain ⟨R1, hR1, hwc⟩ := hcut
    clear c0 g0
    have hlg : g < W3.heap.size := Nat.lt_of_lt_of_le hgl HB3.out.size
    have hNg : g ≠ N := by have := HN.out; omega
    have hg4 : wc.heap[g]? = some (.cells (cur.setIfInBounds (m * 4) (.slice R1 L (c - 1))) MG (0, 0)) := by rw [hwc]; exact set_heap HG3.out _ _
    have ho4 : ∀ q, q ≠ g → wc.heap[q]? = W3.heap[q]? := fun q hq => by rw [hwc]; exact set_other hq
    have hf4 : Fr (fun z => z = g ∨ z = b) w wc := by rw [hwc]; exact (Fr.of HB3.out).trans (Fr.set (.inl rfl) _ _)
    have HA0c := Lib.hid ((ho4 N (by omega)).trans HA0.out)
    have HA1c := Lib.hid ((ho4 (N + 1) (by have := HN.out; omega)).trans HA1.out)
    have HA2c := Lib.hid ((ho4 (N + 1 + 1) (by have := HN.out; omega)).trans HA2.out)
    have hm4' : raw.Holds wc GK b f := HM.out.kept ((ho4 b (by omega)).trans (HB3.out.block b hml)) (fun _ hx => hx)
    have hi4 : IsIn wc S' ks' vs' A' := HIN'.out.stays (fun _ h => h) (fun z hz hl => hf4.block z hl (fun h => h.elim (HS'.out z hz).1 (HS'.out z hz).2))
    have cu : ∀ j, j ≠ m * 4 → (cur.setIfInBounds (m * 4) (.slice R1 L (c - 1)))[j]? = cur[j]? := fun j hj => by rw [Array.getElem?_setIfInBounds_ne (by omega)]
    have FM := findM (S := S') ⟨yb, yn, ys⟩ hg4 ((cu _ (by omega)).trans HQ.out.1) ((cu _ (by omega)).trans HQ.out.2.1) ((cu _ (by omega)).trans HQ.out.2.2) hi4 HL'.out hp hm4' HF.out HS'.out
    have cz : (cur.setIfInBounds (m * 4) (.slice R1 L (c - 1)))[m * 4]? = some (.slice R1 L (c - 1)) := by rw [Array.getElem?_setIfInBounds_self_of_lt (by omega)]
    have HCU := Lib.hid (And.intro (show (cur.setIfInBounds (m * 4) (.slice R1 L (c - 1))).size = cur.size by simp) (And.intro cz cu))
    obtain ⟨cur1, HC1⟩ : ∃ c1, Hid (cur.setIfInBounds (m * 4) (.slice R1 L (c - 1)) = c1) := ⟨_, Lib.hid rfl⟩
    rw [HC1.out] at FM HCU
    have HR1 : Hid (IsIn w S kt ts R1) := Lib.hid (by
      rcases hR1 with rfl | h0
      · exact HIN.out.tail
      · have h1 := HIN.out.1
        have h2 := HL.out
        obtain rfl := List.length_eq_zero_iff.1 (h2.trans h0)
        simp at h1
        subst h1
        exact IsIn.nil _ _ _)
    have HF4 := Lib.hid hf4
    have HI4 := Lib.hid hi4
    have HFM := Lib.hid FM
    unfold kyV at HFM
    obtain ⟨rA2, -⟩ := rowc HA2c.out
    clear hg4 ho4 hf4 hm4' hi4 cu cz FM hwc hR1
    go_wp2_with (fail)
    refine HFM.out.mono ?_
    rintro e w5 ⟨i, bt, p5, arr5, f5, rfl, hT5, hN5, hp5, hMA, hm5, hf5, hfr5⟩
    have HFR : Hid (Fr (fun z => z = g ∨ z = b) w w5) := Lib.hid (HF4.out.trans hfr5)
    have hNb : ∀ z, N ≤ z → z ≠ g ∧ z ≠ b := fun z hz => by have := HN.out; omega
    have hk5 : ∀ (z : Nat) (o : Obj), N ≤ z → wc.heap[z]? = some o → w5.heap[z]? = some o := fun z o hz h => (hfr5.block z (Array.getElem?_eq_some_iff.1 h).1 (fun h => h.elim (hNb z hz).1 (hNb z hz).2)).trans h
    have HA05 := Lib.hid (hk5 N _ (by omega) HA0c.out)
    have HA15 := Lib.hid (hk5 (N + 1) _ (by omega) HA1c.out)
    have HA25 := Lib.hid (hk5 (N + 1 + 1) _ (by omega) HA2c.out)
    have HTK : Hid (∀ w6, Below w.heap.size w5 w6 → Tk w w6 g m cur ⟨some a, c, ⟨yb, yn, ys⟩ :: kt, .mk k1 n1 s1 x1 ks1 vs1 :: ts, A', c', ks', vs', p, b, ks0, vs0⟩ R1 ts.length (c - 1)) := Lib.hid (fun w6 hb6 => by
      have hk := hb6.block
      obtain ⟨z1, z2, z3⟩ := HCU.out
      have h0 := HN.out
      refine ⟨?_, p5, arr5, f5, ?_, (hk g hgl).trans hMA.blk, hMA.size.trans z1, ?_, hMA.at_, fun j h1 h2 => (hMA.other j h2).trans (z3 j h1), hm5.kept (hk b hml) (fun _ hx => hx), hf5⟩
      · have h5 := HFR.out
        exact ⟨hb6.os.trans h5.os, hb6.tape.trans h5.tape, hb6.output.trans h5.output, Nat.le_trans h5.size hb6.size, fun z hz hn => (hb6.block z hz).trans (h5.block z hz hn)⟩
      · show p5 ≤ vs'.length
        rw [← HIN'.out.1]; exact hp5
      · rw [HL.out]
        exact (hMA.other _ (by omega)).trans z2)
    have HMA := Lib.hid hMA
    have HTN := Lib.hid (And.intro hT5 hN5)
    have HI5 : Hid (IsIn w5 S' ks' vs' A') := Lib.hid (HIN'.out.stays (fun _ h => h) (fun z hz hl => HFR.out.block z hl (fun h => h.elim (HS'.out z hz).1 (HS'.out z hz).2)))
    clear hT5 hN5 hp5 hMA hm5 hf5 hfr5 hk5 rA2 HFM
    obtain ⟨rA0, fA0⟩ := rowc HA05.out
    obtain ⟨rA1, fA1⟩ := rowc HA15.out
    obtain ⟨rA2, -⟩ := rowc HA25.out
    cases bt with
    | false =>
      have hgn := getL_none (vs := vs') (HTN.out.2 rfl)
      have HGN := Lib.hid hgn
      clear hgn
      clear rA0 fA0 rA1 fA1 rA2
      go_wp2_with (fail)
      refine (nullValue_i _).mono ?_
      rintro e w6 ⟨rfl, hb6⟩
      have HB6 := Lib.hid hb6
      clear hb6
      go_wp2_with (fail)
      refine (nullValue_i _).mono ?_
      rintro e w7 ⟨rfl, hb7⟩
      have HB7 := Lib.hid (bs HB6.out hb7)
      have HX0 := Lib.hid (carry HB7.out HA05.out)
      have HX1 := Lib.hid (carry HB7.out HA15.out)
      clear hb7
      obtain ⟨rA0, fA0⟩ := rowc HX0.out
      obtain ⟨rA1, fA1⟩ := rowc HX1.out
      go_wp2_with (fail)
      clear rA0 fA0 rA1 fA1
      generalize hwE : (((((w7.setCell ⟨N, 0, none⟩ (.int .i64 0)).setCell ⟨N, 1, none⟩ (.int .i64 0)).setCell ⟨N, 2, none⟩ (.string ⟨#[]⟩)).setCell ⟨N, 3, none⟩ (.int .i64 0)).setCell ⟨N, 4, none⟩ (.slice none 0 0)) = wE
      obtain ⟨rE, oE, bE⟩ := fill5 HX0.out hwE
      generalize hwF : (((((wE.setCell ⟨N + 1, 0, none⟩ (.int .i64 0)).setCell ⟨N + 1, 1, none⟩ (.int .i64 0)).setCell ⟨N + 1, 2, none⟩ (.string ⟨#[]⟩)).setCell ⟨N + 1, 3, none⟩ (.int .i64 0)).setCell ⟨N + 1, 4, none⟩ (.slice none 0 0)) = wF
      obtain ⟨rF, oF, bF⟩ := fill5 ((oE _ (by omega)).trans HX1.out) hwF
      have rG : ∀ j, wF.cell? ⟨N, j, none⟩ = (#[.int .i64 0, .int .i64 0, .string ⟨#[]⟩, .int .i64 0, .slice none 0 0] : Array Value)[j]? := fun j => by
        rw [← rE j]
        exact cell_eq (oF N (by omega))
      refine bodyPost_ret (v := .tuple #[vV 0 0 ⟨#[]⟩ 0 none 0 0, vV 0 0 ⟨#[]⟩ 0 none 0 0, .bool false]) ?_ rfl ?_
      · simp [results, Tryd.results118, go_sem, rF, rG]
      · refine ⟨R1, HTK.out _ ?_, HR1.out, .inl ⟨HGN.out, rfl⟩⟩
        have hNw : w.heap.size ≤ N := by rw [HN.out]; exact Nat.le_refl _
        exact bF _ _ (by omega) (bE _ _ hNw (HB7.out.mono HFR.out.size))
    | true =>
      obtain ⟨h1, h2⟩ := HTN.out.1 rfl
      obtain ⟨j, e1, e2⟩ := pos_rng ks' _ 0 h2
      rw [Nat.zero_add] at e1
      obtain rfl := h1.trans e1
      have hjL : j < L' := by rw [← HL'.out, ← HIN'.out.1]; exact e2
      have hgl2 : Hid (getL ks' vs' ⟨yb, yn, ys⟩ = vs'[j]?) := Lib.hid (by rw [getL_at h2, e1]; simp)
      obtain ⟨a', y', k2, n2, s2, x2, ks2, vs2, A2, c2, rfl, hSa', hky', hvs', ht', -, -, -, hcell'⟩ := HI5.out.item (i := j) (by rw [HL'.out]; exact hjL)
      obtain ⟨L2, HL2⟩ : ∃ L2, Hid (vs2.length = L2) := ⟨_, Lib.hid rfl⟩
      have hab2 : (a'.add (j * 8)).block < w.heap.size := by
        obtain ⟨a3, _, _, _, _, _, _, _, _, _, ea3, -, -, -, -, -, -, -, hcell3⟩ := HIN'.out.item (i := j) (by rw [HL'.out]; exact hjL)
        obtain rfl := Option.some.inj ea3
        exact World.block_lt_of_cell? _ _ hcell3.c0
      have hn1 : N ≠ (a'.add (j * 8)).block := by have := HN.out; omega
      have hn2 : N + 1 ≠ (a'.add (j * 8)).block := by have := HN.out; omega
      have hn3 : N ≠ g := by have := HN.out; omega
      have hn4 : N + 1 ≠ g := by have := HN.out; omega
      have HT2 : Hid (TIn w S' (.mk k2 n2 s2 x2 ks2 vs2) (vV k2 n2 s2 x2 A2 vs2.length c2)) := Lib.hid (by
        obtain ⟨a3, y3, k3, n3, s3, x3, ks3, vs3, A3, c3, ea3, hS3, -, hv3, ht3, -, -, -, hcell3⟩ := HIN'.out.item (i := j) (by rw [HL'.out]; exact hjL)
        rw [hvs'] at hv3
        obtain ⟨rfl, rfl, rfl, rfl, rfl, rfl⟩ : k2 = k3 ∧ n2 = n3 ∧ s2 = s3 ∧ x2 = x3 ∧ ks2 = ks3 ∧ vs2 = vs3 := by simpa using hv3
        obtain rfl := Option.some.inj ea3
        have h7 := hcell3.c7
        have h7' := hcell'.c7
        have hlt7 := World.block_lt_of_cell? _ _ h7
        rw [cell_eq (HFR.out.block _ hlt7 (fun h => h.elim (HS'.out _ (by show S' (a'.add _).block; rw [mem.add_block]; exact hS3)).1 (HS'.out _ (by show S' (a'.add _).block; rw [mem.add_block]; exact hS3)).2))] at h7'
        rw [h7] at h7'
        obtain ⟨rfl, rfl⟩ : A2 = A3 ∧ c2 = c3 := by simpa [eq_comm] using h7'
        exact ht3)
      have HVG : Hid (getL ks' vs' ⟨yb, yn, ys⟩ = some (.mk k2 n2 s2 x2 ks2 vs2)) := Lib.hid (hgl2.out.trans hvs')
      rw [HL2.out] at hcell'
      obtain ⟨-, -, -, d3, d4, d5, d6, d7⟩ := hcell'
      obtain ⟨r5, -⟩ := rowc HMA.out.blk
      have c1' : w5.cell? ⟨g, m * 4 + 1, none⟩ = some (.slice (some a') L' c') := (r5 _).trans ((HMA.out.other _ (by omega)).trans ((HCU.out.2.2 _ (by omega)).trans HQ.out.1))
      clear h1 h2 e1 e2 r5 hky' hvs' ht' hSa' hgl2
      go_wp2_with (fail)
      go_region
      generalize hwE : (((((w5.setCell ⟨N, 0, none⟩ (.int .i64 k1)).setCell ⟨N, 1, none⟩ (.int .i64 n1)).setCell ⟨N, 2, none⟩ (.string s1)).setCell ⟨N, 3, none⟩ (.int .i64 x1)).setCell ⟨N, 4, none⟩ (.slice A1 L1 c1)) = wE
      clear rA0 fA0 rA1 fA1 rA2 d3 d4 d5 d6 d7 c1'
      obtain ⟨rE, oE, bE⟩ := fill5 HA05.out hwE
      generalize hwF : (((((wE.setCell ⟨N + 1, 0, none⟩ (.int .i64 k2)).setCell ⟨N + 1, 1, none⟩ (.int .i64 n2)).setCell ⟨N + 1, 2, none⟩ (.string s2)).setCell ⟨N + 1, 3, none⟩ (.int .i64 x2)).setCell ⟨N + 1, 4, none⟩ (.slice A2 L2 c2)) = wF
      obtain ⟨rF, oF, bF⟩ := fill5 ((oE _ (by omega)).trans HA15.out) hwF
      have rG : ∀ j, wF.cell? ⟨N, j, none⟩ = (#[.int .i64 k1, .int .i64 n1, .string s1, .int .i64 x1, .slice A1 L1 c1] : Array Value)[j]? := fun j => by
        rw [← rE j]
        exact cell_eq (oF N (by omega))
      go_wp2_with (fail)
      refine bodyPost_ret (v := .tuple #[vV k1 n1 s1 x1 A1 L1 c1, vV k2 n2 s2 x2 A2 L2 c2, .bool true]) ?_ rfl ?_
      · simp [results, Tryd.results118, go_sem, rF, rG]
      · refine ⟨R1, HTK.out _ ?_, HR1.out, .inr ⟨_, k1, n1, s1, x1, A1, L1, c1, k2, n2, s2, x2, A2, L2, c2, HVG.out, rfl, HTT.out, by rw [← HL2.out]; exact HT2.out⟩⟩
        have hNw : w.heap.size ≤ N := by rw [HN.out]; exact Nat.le_refl _
        exact (bF _ _ (by omega) (bE _ _ hNw ((Below.refl w5.heap.size w5).mono HFR.out.size))).drew

end Go.Proofs.YtlbkbcafkjgckaaDoor.tree

/-
  Two arrays of which the comparison begins.
  Conditions: none.
-/
namespace Go.Proofs.YtlbkbcafkjgckaaDoor.tree
open Go.ChangeShapes Go.WideShapes Go.ChangeAt Go.RowKit
set_option linter.unusedVariables false

def NmQ (w : World) (A : Option Addr) (L c : Nat) (A' : Option Addr) (L' c' : Nat) (e : Ending) (w' : World) : Prop :=
  ∃ b, e = .returned (.agg #[.slice A L c, .slice A' L' c', .int .i64 0, .map (some b)]) ∧ w.heap.size ≤ b ∧ raw.Holds w' GK b (fun _ => none) ∧ Below w.heap.size w w'
set_option maxHeartbeats 1000000 in
theorem newMatching (k n : Int) (s : ByteArray) (x : Int) (A : Option Addr) (L c : Nat) (k' n' : Int) (s' : ByteArray) (x' : Int) (A' : Option Addr) (L' c' : Nat) (w : World) :
    Calls Tryd.prog 117 #[vV k n s x A L c, vV k' n' s' x' A' L' c'] w (NmQ w A L c A' L' c') := by
  have hmm := @run_makeMap Tryd.prog
  go_enter Tryd.func117, Tryd.ntmps117
  go_wp2_with (fail)
  obtain ⟨_, _, _, az, ab⟩ := al3 w #[.int .i64 k, .int .i64 n, .string s, .int .i64 x, .slice A L c] #[.int .i64 k', .int .i64 n', .string s', .int .i64 x', .slice A' L' c'] #[.slice A L c, .slice A' L' c', .int .i64 0, .map (some (w.heap.size + 1 + 1 + 1))] IV IV MG
  have hmd := raw.Holds.made (((w.alloc (.cells #[.int .i64 k, .int .i64 n, .string s, .int .i64 x, .slice A L c] IV)).alloc (.cells #[.int .i64 k', .int .i64 n', .string s', .int .i64 x', .slice A' L' c'] IV)).alloc (.cells #[.slice A L c, .slice A' L' c', .int .i64 0, .map (some (w.heap.size + 1 + 1 + 1))] MG)) GK
  rw [az] at hmd
  refine bodyPost_ret (v := .agg #[.slice A L c, .slice A' L' c', .int .i64 0, .map (some (w.heap.size + 1 + 1 + 1))]) (by simp [results, Tryd.results117, go_sem]) rfl ⟨_, rfl, by omega, hmd, bs ab (b1 _ _)⟩

end Go.Proofs.YtlbkbcafkjgckaaDoor.tree

/-
  What the package variables that the rows of ToText and ToNumber list hold.
  Conditions: the variables hold what the program's text lays.
-/
namespace Go.Proofs.YtlbkbcafkjgckaaDoor.ers
open Go.ChangeShapes Go.WideShapes Go.ChangeAt Go.RowKit
set_option linter.unusedVariables false

theorem tTab : (Tryd.prog.globals[5]?).map (·.type) = some 201 := by kernel_rfl
theorem tT : (Tryd.prog.globals[0]?).map (·.type) = some 98 := by kernel_rfl
theorem tN : (Tryd.prog.globals[1]?).map (·.type) = some 98 := by kernel_rfl
theorem cellsErr : Tryd.prog.cellsOf 208 = 1 := by kernel_rfl
theorem cellsStr : Tryd.prog.cellsOf 9 = 1 := by kernel_rfl
theorem star : "*" ++ "errors.errorString" = "*errors.errorString" := by decide
theorem rowErr (u : TypeId) (h : Tryd.prog.typeName? 3 u = some "*errors.errorString") : u = 206 :=
  typeName_ptr_named (nm := "errors.errorString") (by rw [star]; kernel_rfl) (by kernel_rfl) (by decide) u (by rw [star]; exact h)

/-- What ToText wants of the world. -/
def TxE (w : World) : Prop := fmt.Tab w ∧ ∃ a, HasT w a
theorem TxE.stays {w w' : World} (h : TxE w) (hb : Below w.heap.size w w') : TxE w' := ⟨h.1.stays hb, h.2.imp fun a h => h.stays hb⟩
/-- What ToNumber wants of the world. -/
def NuE (w : World) : Prop := ∃ a b ca cb ta tb, HasT w a ∧ HasN w b ∧ b ≠ a ∧ w.heap[a.block]? = some (.cells ca ta (0, 0)) ∧ w.heap[b.block]? = some (.cells cb tb (0, 0))
theorem NuE.stays {w w' : World} (h : NuE w) (hb : Below w.heap.size w w') : NuE w' := by
  obtain ⟨a, b, ca, cb, ta, tb, h1, h2, h3, h4, h5⟩ := h
  exact ⟨a, b, ca, cb, ta, tb, h1.stays hb, h2.stays hb, h3, (hb.block _ (Array.getElem?_eq_some_iff.1 h4).1).trans h4, (hb.block _ (Array.getElem?_eq_some_iff.1 h5).1).trans h5⟩

theorem readT {H : Type} (enc : TypeId × Value → H) {X : World} {a : Addr} (h : HasT X a) (sp : Nat → Bool) :
    DataW.TrodVars enc Tryd.prog X sp ["loop.example/g03011/impl.errNoText"] [tok enc (.iface 206 (.pointer (some a)))] [.cell 0 0] :=
  vars_read1 enc gT tT Tryd.underlying98 h trivial sp
theorem readNT {H : Type} (enc : TypeId × Value → H) {X : World} {a b : Addr} (h : HasT X a) (k : HasN X b) (sp : Nat → Bool) :
    DataW.TrodVars enc Tryd.prog X sp ["loop.example/g03011/impl.errNoNumber", "loop.example/g03011/impl.errNoText"] [tok enc (.iface 206 (.pointer (some b))), tok enc (.iface 206 (.pointer (some a)))] [.cell 1 0, .cell 0 0] :=
  vars_read2 enc gN tN Tryd.underlying98 k trivial gT tT Tryd.underlying98 h trivial sp
theorem readTN {H : Type} (enc : TypeId × Value → H) {X : World} {a b : Addr} (h : HasT X a) (k : HasN X b) (sp : Nat → Bool) :
    DataW.TrodVars enc Tryd.prog X sp ["loop.example/g03011/impl.errNoText", "loop.example/g03011/impl.errNoNumber"] [tok enc (.iface 206 (.pointer (some a))), tok enc (.iface 206 (.pointer (some b)))] [.cell 0 0, .cell 1 0] :=
  vars_read2 enc gT tT Tryd.underlying98 h trivial gN tN Tryd.underlying98 k trivial sp

namespace text
def laidOf : List (String × DataW Unit) := Rows.fnExactToTextRow.laid
theorem env_of {W : World} (h : laidMetH Tryd.prog laidOf W) : TxE W := by
  rw [MakeChecks.laidMetH_plain _ _ _ (by kernel_rfl)] at h
  refine ⟨Lib.tabIs_of_head fmt.gTab tTab Tryd.underlying201 Tryd.underlying189 (by kernel_rfl) (by kernel_rfl) h.tail.tail, ?_⟩
  obtain ⟨a1, s1, hv1, -, -, -⟩ := laid_sentinel h.tail.tail.tail gT tT Tryd.underlying98 rowErr Tryd.underlying206 Tryd.underlying208 rfl rfl Tryd.underlying9 cellsErr cellsStr
  exact ⟨_, hv1⟩
theorem door_met (os : Os) (args : Array Value) : laidMetH Tryd.prog laidOf ((World.doorLaid Tryd.prog 400 os).forCall (fun _ _ => 0) ⟨#[], args, []⟩).memory :=
  laidMetH_of_parts3 (fuel := 8) (laidMet_of_run' 8 (by kernel_rfl) (by kernel_rfl)) (by kernel_rfl) (by kernel_rfl)
end text

namespace number
def laidOf : List (String × DataW Unit) := Rows.fnExactToNumberRow.laid
theorem env_of {W : World} (h : laidMetH Tryd.prog laidOf W) : NuE W := by
  rw [MakeChecks.laidMetH_plain _ _ _ (by kernel_rfl)] at h
  obtain ⟨a0, a1, s0, s1, c0, c1, t0, t1, hv0, hv1, -, -, -, -, -, -, hne, hb0, hb1⟩ := laid_sentinels2 h gT tT gN tN Tryd.underlying98 rowErr Tryd.underlying206 Tryd.underlying208 rfl rfl Tryd.underlying9 cellsErr cellsStr
  exact ⟨a0, a1, c0, c1, t0, t1, hv0, hv1, hne.symm, hb0, hb1⟩
theorem door_met (os : Os) (args : Array Value) : laidMetH Tryd.prog laidOf ((World.doorLaid Tryd.prog 400 os).forCall (fun _ _ => 0) ⟨#[], args, []⟩).memory :=
  laidMetH_of_parts3 (fuel := 8) (laidMet_of_run' 8 (by kernel_rfl) (by kernel_rfl)) (by kernel_rfl) (by kernel_rfl)
end number

end Go.Proofs.YtlbkbcafkjgckaaDoor.ers

/-
  What the package variables that the rows of comparing list hold.
  Conditions: the variables hold what the program's text lays.
-/
namespace Go.Proofs.YtlbkbcafkjgckaaDoor.ers
open Go.ChangeShapes Go.WideShapes Go.ChangeAt Go.RowKit
set_option linter.unusedVariables false

/-- What comparing wants of the world. -/
def CmE (w : World) : Prop := fmt.Tab w ∧ (∃ a, HasT w a) ∧ ∃ b, HasN w b
theorem CmE.stays {w w' : World} (h : CmE w) (hb : Below w.heap.size w w') : CmE w' := ⟨h.1.stays hb, h.2.1.imp fun a h => h.stays hb, h.2.2.imp fun a h => h.stays hb⟩

namespace cmp
def laidOf : List (String × DataW Unit) := Rows.fnExactCompareValuesRow.laid
theorem env_of {W : World} (h : laidMetH Tryd.prog laidOf W) : CmE W := by
  rw [MakeChecks.laidMetH_plain _ _ _ (by kernel_rfl)] at h
  refine ⟨Lib.tabIs_of_head fmt.gTab tTab Tryd.underlying201 Tryd.underlying189 (by kernel_rfl) (by kernel_rfl) h.tail.tail, ?_⟩
  obtain ⟨a0, a1, s0, s1, c0, c1, t0, t1, hv0, hv1, -, -, -, -, -, -, hne, hb0, hb1⟩ := laid_sentinels2 h.tail.tail.tail gT tT gN tN Tryd.underlying98 rowErr Tryd.underlying206 Tryd.underlying208 rfl rfl Tryd.underlying9 cellsErr cellsStr
  exact ⟨⟨a0, hv0⟩, ⟨a1, hv1⟩⟩
theorem door_met (os : Os) (args : Array Value) : laidMetH Tryd.prog laidOf ((World.doorLaid Tryd.prog 400 os).forCall (fun _ _ => 0) ⟨#[], args, []⟩).memory :=
  laidMetH_of_parts3 (fuel := 8) (laidMet_of_run' 8 (by kernel_rfl) (by kernel_rfl)) (by kernel_rfl) (by kernel_rfl)
end cmp

end Go.Proofs.YtlbkbcafkjgckaaDoor.ers

/-
  How the project compares two values without going into arrays.
  Conditions: the values hold at most 10^9 items and letters; the table of powers of ten and the project's two errors hold what the program's text lays.
-/
namespace Go.Proofs.YtlbkbcafkjgckaaDoor.tree
open Go.ChangeShapes Go.WideShapes Go.ChangeAt Go.RowKit ers
set_option linter.unusedVariables false

theorem isNullAndText (k n : Int) (s : ByteArray) (x : Int) (A : Option Addr) (L c : Nat) (k' n' : Int) (s' : ByteArray) (x' : Int) (A' : Option Addr) (L' c' : Nat) (w : World) :
    Calls Tryd.prog 111 #[vV k n s x A L c, vV k' n' s' x' A' L' c'] w (GivesQ w (.bool (decide (k = 0) && decide (k' = 3)))) := by
  by_cases h1 : k = 0
  · subst h1
    have e : decide ((0 : Int) = 0) = true := rfl
    rw [e, Bool.true_and]
    go_enter Tryd.func111, Tryd.ntmps111
    go_wp2
    go_ret
    exact ⟨rfl, b2 _ _ _⟩
  · rw [decide_eq_false h1, Bool.false_and]
    go_enter Tryd.func111, Tryd.ntmps111
    go_wp2
    go_ret
    exact ⟨rfl, b2 _ _ _⟩
theorem areArrays (k n : Int) (s : ByteArray) (x : Int) (A : Option Addr) (L c : Nat) (k' n' : Int) (s' : ByteArray) (x' : Int) (A' : Option Addr) (L' c' : Nat) (w : World) :
    Calls Tryd.prog 71 #[vV k n s x A L c, vV k' n' s' x' A' L' c'] w (GivesQ w (.bool (decide (k = 4) && decide (k' = 4)))) := by
  by_cases h1 : k = 4
  · subst h1
    have e : decide ((4 : Int) = 4) = true := rfl
    rw [e, Bool.true_and]
    go_enter Tryd.func71, Tryd.ntmps71
    go_wp2
    go_ret
    exact ⟨rfl, b2 _ _ _⟩
  · rw [decide_eq_false h1, Bool.false_and]
    go_enter Tryd.func71, Tryd.ntmps71
    go_wp2
    go_ret
    exact ⟨rfl, b2 _ _ _⟩
theorem isNullOrBool (k n : Int) (s : ByteArray) (x : Int) (A : Option Addr) (L c : Nat) (w : World) :
    Calls Tryd.prog 113 #[vV k n s x A L c] w (GivesQ w (.bool (decide (k = 0) || decide (k = 1)))) := by
  by_cases h1 : k = 0
  · subst h1
    have e : decide ((0 : Int) = 0) = true := rfl
    rw [e, Bool.true_or]
    go_enter Tryd.func113, Tryd.ntmps113
    go_wp2
    go_ret
    exact ⟨rfl, b1 _ _⟩
  · rw [decide_eq_false h1, Bool.false_or]
    have e0 : (k == 0 || k == 1) = decide (k = 1) := by by_cases h : k = 1 <;> simp_all
    go_enter Tryd.func113, Tryd.ntmps113
    go_wp2
    go_ret
    exact ⟨by rw [← e0]; rfl, b1 _ _⟩
theorem isIntOrText (k n : Int) (s : ByteArray) (x : Int) (A : Option Addr) (L c : Nat) (w : World) :
    Calls Tryd.prog 116 #[vV k n s x A L c] w (GivesQ w (.bool (decide (k = 2) || decide (k = 3)))) := by
  by_cases h1 : k = 2
  · subst h1
    have e : decide ((2 : Int) = 2) = true := rfl
    rw [e, Bool.true_or]
    go_enter Tryd.func116, Tryd.ntmps116
    go_wp2
    go_ret
    exact ⟨rfl, b1 _ _⟩
  · rw [decide_eq_false h1, Bool.false_or]
    have e0 : (k == 2 || k == 3) = decide (k = 3) := by by_cases h : k = 3 <;> simp_all
    go_enter Tryd.func116, Tryd.ntmps116
    go_wp2
    go_ret
    exact ⟨by rw [← e0]; rfl, b1 _ _⟩

theorem compareTexts (t t' : Tr) (v v' : Value) (w : World) (S S' : Nat → Prop) (h : TIn w S t v) (h' : TIn w S' t' v') (hT : tot t ≤ 1000000000) (hT' : tot t' ≤ 1000000000) (hE : CmE w) :
    Calls Tryd.prog 112 #[v, v'] w (GivesQ w (.int .i64 (bys (tt t).1 (tt t').1))) := by
  obtain ⟨hF, ⟨a, hA⟩, -⟩ := hE
  have TO := fun w' (hb : Below w.heap.size w w') => textOf t v w' S (h.below' hb) hT a (hF.stays hb) (hA.stays hb)
  have TO' := fun w' (hb : Below w.heap.size w w') => textOf t' v' w' S' (h'.below' hb) hT' a (hF.stays hb) (hA.stays hb)
  obtain ⟨k, n, s, x, A, L, c, rfl⟩ : ∃ k n s x A L c, v = vV k n s x A L c := by
    cases h with
    | mk k n s x ks vs A cap C => exact ⟨k, n, s, x, A, _, cap, rfl⟩
  obtain ⟨k', n', s', x', A', L', c', rfl⟩ : ∃ k n s x A L c, v' = vV k n s x A L c := by
    cases h' with
    | mk k n s x ks vs A cap C => exact ⟨k, n, s, x, A, _, cap, rfl⟩
  unfold toV at TO TO'
  obtain ⟨z, HZ⟩ : ∃ z, Hid ((tt t).1 = z) := ⟨_, Lib.hid rfl⟩
  obtain ⟨z', HZ'⟩ : ∃ z, Hid ((tt t').1 = z) := ⟨_, Lib.hid rfl⟩
  rw [HZ.out] at TO ⊢
  rw [HZ'.out] at TO' ⊢
  obtain ⟨q, HQ⟩ : ∃ q : Value, Hid ((if (tt t).2 = true then Value.nilIface else .iface 206 (.pointer (some a))) = q) := ⟨_, Lib.hid rfl⟩
  obtain ⟨q', HQ'⟩ : ∃ q : Value, Hid ((if (tt t').2 = true then Value.nilIface else .iface 206 (.pointer (some a))) = q) := ⟨_, Lib.hid rfl⟩
  rw [HQ.out] at TO
  rw [HQ'.out] at TO'
  replace TO := Lib.hid TO
  replace TO' := Lib.hid TO'
  clear h h' hF hA HZ HZ' HQ HQ'
  go_enter Tryd.func112, Tryd.ntmps112
  go_wp2_with (fail)
  refine (TO.out _ (b2 w _ _)).mono ?_
  rintro e w1 ⟨rfl, hb1⟩
  have E1 := Lib.hid (carry hb1 (heap_alloc2_new w _ _))
  have HB1 := Lib.hid (bs (b2 w _ _) hb1)
  obtain ⟨r1, -⟩ := rowc E1.out
  clear hb1
  go_wp2_with (fail)
  refine (TO'.out _ HB1.out).mono ?_
  rintro e w2 ⟨rfl, hb2⟩
  have HB2 := Lib.hid (bs HB1.out hb2)
  clear hb2 r1
  go_wp2_with (fail)
  refine (Tryd.strings_Compare z z' _).mono ?_
  rintro e w3 ⟨rfl, rfl⟩
  go_wp2_with (fail)
  go_ret
  exact ⟨rfl, HB2.out⟩

def CutQ (w : World) (b : Bool) (N : Nat) (C C' : Array Value) (v : Value) (wx : World) : Prop :=
  v = .bool b ∧ Below w.heap.size w wx ∧ wx.heap[N]? = some (.cells C IV (0, 0)) ∧ wx.heap[N + 1]? = some (.cells C' IV (0, 0))
def CutN (w : World) (z : Int) (v : Value) (wx : World) : Prop := v = .int .i64 z ∧ Below w.heap.size w wx

set_option maxHeartbeats 4000000 in
set_option maxRecDepth 100000 in
theorem compareOutside (t t' : Tr) (v v' : Value) (w : World) (S S' : Nat → Prop) (h : TIn w S t v) (h' : TIn w S' t' v') (hT : tot t ≤ 1000000000) (hT' : tot t' ≤ 1000000000) (hE : CmE w) :
    Calls Tryd.prog 70 #[v, v'] w (GivesQ w (.int .i64 (ordO t t'))) := by
  obtain ⟨k, n, s, x, ks, vs⟩ := t
  obtain ⟨k', n', s', x', ks', vs'⟩ := t'
  obtain ⟨A, c, rfl, -, hin⟩ := h.out
  obtain ⟨A', c', rfl, -, hin'⟩ := h'.out
  have NU : ∀ w', Below w.heap.size w w' → ∃ b, Calls Tryd.prog 84 #[vV k n s x A vs.length c] w' (GivesQ w' (noV b (.mk k n s x ks vs))) := fun w' hb => by
    obtain ⟨-, -, b, hB⟩ := hE
    exact ⟨b, numberOf _ _ w' S (h.below' hb) hT b (hB.stays hb)⟩
  have NU' : ∀ w', Below w.heap.size w w' → ∃ b, Calls Tryd.prog 84 #[vV k' n' s' x' A' vs'.length c'] w' (GivesQ w' (noV b (.mk k' n' s' x' ks' vs'))) := fun w' hb => by
    obtain ⟨-, -, b, hB⟩ := hE
    exact ⟨b, numberOf _ _ w' S' (h'.below' hb) hT' b (hB.stays hb)⟩
  have TR := fun w' (hb : Below w.heap.size w w') => truth_i _ _ w' S (h.below' hb)
  have TR' := fun w' (hb : Below w.heap.size w w') => truth_i _ _ w' S' (h'.below' hb)
  have CT := fun w' (hb : Below w.heap.size w w') => compareTexts _ _ _ _ w' S S' (h.below' hb) (h'.below' hb) hT hT' (hE.stays hb)
  unfold noV at *
  rw [ordO_mk]
  obtain ⟨L, HL⟩ : ∃ L, Hid (vs.length = L) := ⟨_, Lib.hid rfl⟩
  obtain ⟨L', HL'⟩ : ∃ L, Hid (vs'.length = L) := ⟨_, Lib.hid rfl⟩
  have hm : L ≤ maxLen := by rw [← HL.out]; exact hin.2.1
  have hm' : L' ≤ maxLen := by rw [← HL'.out]; exact hin'.2.1
  unfold maxLen at hm hm'
  rw [HL.out] at NU TR CT ⊢
  rw [HL'.out] at NU' TR' CT ⊢
  obtain ⟨⟨m1, o1⟩, HN⟩ : ∃ z, Hid (nn (.mk k n s x ks vs) = z) := ⟨_, Lib.hid rfl⟩
  obtain ⟨⟨m2, o2⟩, HN'⟩ : ∃ z, Hid (nn (.mk k' n' s' x' ks' vs') = z) := ⟨_, Lib.hid rfl⟩
  rw [HN.out] at NU ⊢
  rw [HN'.out] at NU' ⊢
  obtain ⟨p1, HP⟩ : ∃ z, Hid (tr01 (.mk k n s x ks vs) = z) := ⟨_, Lib.hid rfl⟩
  obtain ⟨p2, HP'⟩ : ∃ z, Hid (tr01 (.mk k' n' s' x' ks' vs') = z) := ⟨_, Lib.hid rfl⟩
  rw [HP.out] at TR ⊢
  rw [HP'.out] at TR' ⊢
  obtain ⟨y, HY⟩ : ∃ z, Hid (bys (tt (.mk k n s x ks vs)).1 (tt (.mk k' n' s' x' ks' vs')).1 = z) := ⟨_, Lib.hid rfl⟩
  rw [HY.out] at CT ⊢
  replace NU := Lib.hid NU
  replace NU' := Lib.hid NU'
  replace TR := Lib.hid TR
  replace TR' := Lib.hid TR'
  replace CT := Lib.hid CT
  have NT := Lib.hid (fun w' => isNullAndText k n s x A L c k' n' s' x' A' L' c' w')
  have NT' := Lib.hid (fun w' => isNullAndText k' n' s' x' A' L' c' k n s x A L c w')
  have NB := Lib.hid (fun w' => isNullOrBool k n s x A L c w')
  have NB' := Lib.hid (fun w' => isNullOrBool k' n' s' x' A' L' c' w')
  have IT := Lib.hid (fun w' => isIntOrText k n s x A L c w')
  have IT' := Lib.hid (fun w' => isIntOrText k' n' s' x' A' L' c' w')
  have AR := Lib.hid (fun w' => areArrays k n s x A L c k' n' s' x' A' L' c' w')
  have HE := Lib.hid hE
  clear h h' hin hin' hT hT' hE HN HN' HP HP' HY
  show Calls _ _ _ _ (GivesQ w (.int .i64 (if (k = 0 ∧ k' = 3) ∨ (k' = 0 ∧ k = 3) then y else if (k = 0 ∨ k = 1) ∨ (k' = 0 ∨ k' = 1) then Lib.compareInt p1 p2 else if o1 = true ∧ o2 = true then Lib.compareInt m1 m2
    else if (k = 2 ∨ k = 3) ∧ (k' = 2 ∨ k' = 3) then y else if k = 4 ∧ k' = 4 then Lib.compareInt L L' else if k = 4 then 1 else if k' = 4 then -1 else if k = k' ∧ n = n' then 0 else 2)))
  obtain ⟨W, HW⟩ : ∃ z, Hid ((if (k = 0 ∧ k' = 3) ∨ (k' = 0 ∧ k = 3) then y else if (k = 0 ∨ k = 1) ∨ (k' = 0 ∨ k' = 1) then Lib.compareInt p1 p2 else if o1 = true ∧ o2 = true then Lib.compareInt m1 m2
    else if (k = 2 ∨ k = 3) ∧ (k' = 2 ∨ k' = 3) then y else if k = 4 ∧ k' = 4 then Lib.compareInt L L' else if k = 4 then 1 else if k' = 4 then -1 else if k = k' ∧ n = n' then 0 else 2) = z) := ⟨_, Lib.hid rfl⟩
  rw [HW.out]
  go_enter Tryd.func70, Tryd.ntmps70
  go_wp2_with (fail)
  obtain ⟨b0, N0⟩ := NU.out _ (b2 w (.cells #[.int .i64 k, .int .i64 n, .string s, .int .i64 x, .slice A L c] IV) (.cells #[.int .i64 k', .int .i64 n', .string s', .int .i64 x', .slice A' L' c'] IV))
  obtain ⟨q1, HQ1⟩ : ∃ q : Value, Hid ((if o1 = true then Value.nilIface else .iface 206 (.pointer (some b0))) = q) := ⟨_, Lib.hid rfl⟩
  rw [HQ1.out] at N0
  refine N0.mono ?_
  rintro e w1 ⟨rfl, hb1⟩
  have EA := Lib.hid (carry hb1 (heap_alloc2_old w _ _))
  have EB := Lib.hid (carry hb1 (heap_alloc2_new w _ _))
  have HB1 := Lib.hid (bs (b2 w _ _) hb1)
  obtain ⟨rB, -⟩ := rowc EB.out
  clear hb1 N0
  go_wp2_with (fail)
  obtain ⟨b9, N9⟩ := NU'.out _ HB1.out
  obtain ⟨q2, HQ2⟩ : ∃ q : Value, Hid ((if o2 = true then Value.nilIface else .iface 206 (.pointer (some b9))) = q) := ⟨_, Lib.hid rfl⟩
  rw [HQ2.out] at N9
  refine N9.mono ?_
  rintro e w2 ⟨rfl, hb2⟩
  have EA2 := Lib.hid (carry hb2 EA.out)
  have EB2 := Lib.hid (carry hb2 EB.out)
  have HB2 := Lib.hid (bs HB1.out hb2)
  clear hb2 N9 rB EA EB
  obtain ⟨rA, -⟩ := rowc EA2.out
  obtain ⟨rB, -⟩ := rowc EB2.out
  go_upto_region 3 with fail
  go_cut [19] (fun v wx => CutQ w2 ((decide (k = 0) && decide (k' = 3)) || (decide (k' = 0) && decide (k = 3))) w.heap.size #[.int .i64 k, .int .i64 n, .string s, .int .i64 x, .slice A L c] #[.int .i64 k', .int .i64 n', .string s', .int .i64 x', .slice A' L' c'] v wx)
  case first =>
    go_wp2_with (fail)
    refine (NT.out _).mono ?_
    rintro e w3 ⟨rfl, hb3⟩
    have EA3 := Lib.hid (carry hb3 EA2.out)
    have EB3 := Lib.hid (carry hb3 EB2.out)
    have HB3 := Lib.hid hb3
    clear hb3 rA rB
    obtain ⟨rA, -⟩ := rowc EA3.out
    obtain ⟨rB, -⟩ := rowc EB3.out
    cases hq : (decide (k = 0) && decide (k' = 3))
    · skip
      go_wp2_with (fail)
      refine (NT'.out _).mono ?_
      rintro e w4 ⟨rfl, hb4⟩
      have HB4 := Lib.hid hb4
      clear hb4
      go_wp2_with (fail)
      go_meet
      exact ⟨by rw [hq, Bool.false_or], bs HB3.out HB4.out, carry HB4.out EA3.out, carry HB4.out EB3.out⟩
    · skip
      go_wp2_with (fail)
      go_meet
      exact ⟨by rw [hq, Bool.true_or], HB3.out, EA3.out, EB3.out⟩
  case rest =>
    obtain ⟨rfl, hbc, hx0, hx1⟩ := hcut
    have HB3 := Lib.hid (bs HB2.out hbc)
    have EA3 := Lib.hid hx0
    have EB3 := Lib.hid hx1
    clear hbc hx0 hx1 rA rB EA2 EB2
    obtain ⟨rA, -⟩ := rowc EA3.out
    obtain ⟨rB, -⟩ := rowc EB3.out
    cases hq : ((decide (k = 0) && decide (k' = 3)) || (decide (k' = 0) && decide (k = 3)))
    case true =>
      have HWE : Hid (W = y) := Lib.hid (by rw [← HW.out, if_pos (by simpa using hq)])
      go_wp2_with (fail)
      refine (CT.out _ HB3.out).mono ?_
      rintro e w4 ⟨rfl, hb4⟩
      have HB4 := Lib.hid (bs HB3.out hb4)
      clear hb4
      go_wp2_with (fail)
      go_ret
      exact ⟨by rw [HWE.out]; rfl, HB4.out⟩
    case false =>
      have HW1 := Lib.hid ((if_neg (by simpa using hq)).symm.trans HW.out)
      clear hq
      go_upto_region 5 with fail
      go_cut [31] (fun v wx => CutQ wc ((decide (k = 0) || decide (k = 1)) || (decide (k' = 0) || decide (k' = 1))) w.heap.size #[.int .i64 k, .int .i64 n, .string s, .int .i64 x, .slice A L c] #[.int .i64 k', .int .i64 n', .string s', .int .i64 x', .slice A' L' c'] v wx)
      case first =>
        go_wp2_with (fail)
        refine (NB.out _).mono ?_
        rintro e w3 ⟨rfl, hb3⟩
        have EA5 := Lib.hid (carry hb3 EA3.out)
        have EB5 := Lib.hid (carry hb3 EB3.out)
        have HB5 := Lib.hid hb3
        clear hb3 rA rB
        obtain ⟨rA, -⟩ := rowc EA5.out
        obtain ⟨rB, -⟩ := rowc EB5.out
        cases hq : (decide (k = 0) || decide (k = 1))
        · skip
          go_wp2_with (fail)
          refine (NB'.out _).mono ?_
          rintro e w4 ⟨rfl, hb4⟩
          have HB4 := Lib.hid hb4
          clear hb4
          go_wp2_with (fail)
          go_meet
          exact ⟨by rw [hq, Bool.false_or], bs HB5.out HB4.out, carry HB4.out EA5.out, carry HB4.out EB5.out⟩
        · skip
          go_wp2_with (fail)
          go_meet
          exact ⟨by rw [hq, Bool.true_or], HB5.out, EA5.out, EB5.out⟩

      case rest =>
        obtain ⟨rfl, hbc, hx0, hx1⟩ := hcut
        have HBn := Lib.hid (bs HB3.out hbc)
        have EAn := Lib.hid hx0
        have EBn := Lib.hid hx1
        clear hbc hx0 hx1 rA rB EA3 EB3 HB3
        have HB3 := Lib.hid HBn.out
        have EA3 := Lib.hid EAn.out
        have EB3 := Lib.hid EBn.out
        clear HBn EAn EBn
        obtain ⟨rA, -⟩ := rowc EA3.out
        obtain ⟨rB, -⟩ := rowc EB3.out
        cases hq : ((decide (k = 0) || decide (k = 1)) || (decide (k' = 0) || decide (k' = 1)))
        case true =>
          have HWE : Hid (W = Lib.compareInt p1 p2) := Lib.hid (by rw [← HW1.out, if_pos (by simpa using hq)])
          have HC : Hid (Below wc.heap.size wc wc) := Lib.hid (Below.refl _ _)
          go_upto_region 6 with fail
          go_region_with (first
            | (go_at_call_of 115 A
               refine (TR.out _ (bs HB3.out (by first | exact HC.out | exact HC.out.drew))).mono ?_
               rintro e wz ⟨rfl, hbz⟩
               have HCX : Hid (Below wc.heap.size wc wz) := Lib.hid (by first | exact bs HC.out hbz | exact bs (HC.out.drew) hbz)
               clear HC hbz rA rB
               have HC := Lib.hid HCX.out
               clear HCX
               obtain ⟨rA, -⟩ := rowc (carry HC.out EA3.out)
               obtain ⟨rB, -⟩ := rowc (carry HC.out EB3.out))
            | (go_at_call_of 115 A'
               refine (TR'.out _ (bs HB3.out (by first | exact HC.out | exact HC.out.drew))).mono ?_
               rintro e wz ⟨rfl, hbz⟩
               have HCX : Hid (Below wc.heap.size wc wz) := Lib.hid (by first | exact bs HC.out hbz | exact bs (HC.out.drew) hbz)
               clear HC hbz rA rB
               have HC := Lib.hid HCX.out
               clear HCX
               obtain ⟨rA, -⟩ := rowc (carry HC.out EA3.out)
               obtain ⟨rB, -⟩ := rowc (carry HC.out EB3.out))
            | (go_at_call 114
               refine (Tryd.cmp_Compare_int p1 p2 _).mono ?_
               rintro e wz ⟨rfl, rfl⟩))
          all_goals
            go_wp2_with (fail)
            go_ret
            exact ⟨by rw [HWE.out]; rfl, bs HB3.out HC.out⟩
        case false =>
          have HW2 := Lib.hid ((if_neg (by simpa using hq)).symm.trans HW1.out)
          clear hq
          go_upto_region 7 with fail
          go_cut [43] (fun v wx => CutQ wc (o1 && o2) w.heap.size #[.int .i64 k, .int .i64 n, .string s, .int .i64 x, .slice A L c] #[.int .i64 k', .int .i64 n', .string s', .int .i64 x', .slice A' L' c'] v wx)
          case first =>
            have f1 := HQ1.out
            have f2 := HQ2.out
            clear HQ1 HQ2
            cases o1 <;> cases o2
            all_goals
              simp only [if_true, if_false, Bool.false_eq_true] at f1 f2
              subst f1 f2
              go_wp2_with (fail)
              go_meet
              exact ⟨rfl, Below.refl _ _, EA3.out, EB3.out⟩

          case rest =>
            obtain ⟨rfl, hbc, hx0, hx1⟩ := hcut
            have HBn := Lib.hid (bs HB3.out hbc)
            have EAn := Lib.hid hx0
            have EBn := Lib.hid hx1
            clear hbc hx0 hx1 rA rB EA3 EB3 HB3
            have HB3 := Lib.hid HBn.out
            have EA3 := Lib.hid EAn.out
            have EB3 := Lib.hid EBn.out
            clear HBn EAn EBn
            obtain ⟨rA, -⟩ := rowc EA3.out
            obtain ⟨rB, -⟩ := rowc EB3.out
            cases hq : (o1 && o2)
            case true =>
              have HWE : Hid (W = Lib.compareInt m1 m2) := Lib.hid (by rw [← HW2.out, if_pos (by simpa using hq)])
              go_wp2_with (fail)
              refine (Tryd.cmp_Compare_int m1 m2 _).mono ?_
              rintro e w4 ⟨rfl, rfl⟩
              go_wp2_with (fail)
              go_ret
              exact ⟨by rw [HWE.out]; rfl, HB3.out⟩
            case false =>
              have HW3 := Lib.hid ((if_neg (by simpa using hq)).symm.trans HW2.out)
              clear hq
              go_upto_region 9 with fail
              go_cut [53] (fun v wx => CutQ wc ((decide (k = 2) || decide (k = 3)) && (decide (k' = 2) || decide (k' = 3))) w.heap.size #[.int .i64 k, .int .i64 n, .string s, .int .i64 x, .slice A L c] #[.int .i64 k', .int .i64 n', .string s', .int .i64 x', .slice A' L' c'] v wx)
              case first =>
                go_wp2_with (fail)
                refine (IT.out _).mono ?_
                rintro e w3 ⟨rfl, hb3⟩
                have EA5 := Lib.hid (carry hb3 EA3.out)
                have EB5 := Lib.hid (carry hb3 EB3.out)
                have HB5 := Lib.hid hb3
                clear hb3 rA rB
                obtain ⟨rA, -⟩ := rowc EA5.out
                obtain ⟨rB, -⟩ := rowc EB5.out
                cases hq : (decide (k = 2) || decide (k = 3))
                · skip
                  go_wp2_with (fail)
                  go_meet
                  exact ⟨by rw [hq, Bool.false_and], HB5.out, EA5.out, EB5.out⟩
                · skip
                  go_wp2_with (fail)
                  refine (IT'.out _).mono ?_
                  rintro e w4 ⟨rfl, hb4⟩
                  have HB4 := Lib.hid hb4
                  clear hb4
                  go_wp2_with (fail)
                  go_meet
                  exact ⟨by rw [hq, Bool.true_and], bs HB5.out HB4.out, carry HB4.out EA5.out, carry HB4.out EB5.out⟩

              case rest =>
                obtain ⟨rfl, hbc, hx0, hx1⟩ := hcut
                have HBn := Lib.hid (bs HB3.out hbc)
                have EAn := Lib.hid hx0
                have EBn := Lib.hid hx1
                clear hbc hx0 hx1 rA rB EA3 EB3 HB3
                have HB3 := Lib.hid HBn.out
                have EA3 := Lib.hid EAn.out
                have EB3 := Lib.hid EBn.out
                clear HBn EAn EBn
                obtain ⟨rA, -⟩ := rowc EA3.out
                obtain ⟨rB, -⟩ := rowc EB3.out
                cases hq : ((decide (k = 2) || decide (k = 3)) && (decide (k' = 2) || decide (k' = 3)))
                case true =>
                  have HWE : Hid (W = y) := Lib.hid (by rw [← HW3.out, if_pos (by simpa using hq)])
                  go_wp2_with (fail)
                  refine (CT.out _ HB3.out).mono ?_
                  rintro e w4 ⟨rfl, hb4⟩
                  have HB4 := Lib.hid (bs HB3.out hb4)
                  clear hb4
                  go_wp2_with (fail)
                  go_ret
                  exact ⟨by rw [HWE.out]; rfl, HB4.out⟩
                case false =>
                  have HW4 := Lib.hid ((if_neg (by simpa using hq)).symm.trans HW3.out)
                  clear hq
                  go_upto_region 11 with fail
                  go_cut [63] (fun v wx => CutQ wc (decide (k = 4) && decide (k' = 4)) w.heap.size #[.int .i64 k, .int .i64 n, .string s, .int .i64 x, .slice A L c] #[.int .i64 k', .int .i64 n', .string s', .int .i64 x', .slice A' L' c'] v wx)
                  case first =>
                    go_wp2_with (fail)
                    refine (AR.out _).mono ?_
                    rintro e w3 ⟨rfl, hb3⟩
                    have HB4 := Lib.hid hb3
                    clear hb3
                    go_wp2_with (fail)
                    go_meet
                    exact ⟨rfl, HB4.out, carry HB4.out EA3.out, carry HB4.out EB3.out⟩

                  case rest =>
                    obtain ⟨rfl, hbc, hx0, hx1⟩ := hcut
                    have HBn := Lib.hid (bs HB3.out hbc)
                    have EAn := Lib.hid hx0
                    have EBn := Lib.hid hx1
                    clear hbc hx0 hx1 rA rB EA3 EB3 HB3
                    have HB3 := Lib.hid HBn.out
                    have EA3 := Lib.hid EAn.out
                    have EB3 := Lib.hid EBn.out
                    clear HBn EAn EBn
                    obtain ⟨rA, -⟩ := rowc EA3.out
                    obtain ⟨rB, -⟩ := rowc EB3.out
                    cases hq : (decide (k = 4) && decide (k' = 4))
                    case true =>
                      have HWE : Hid (W = Lib.compareInt L L') := Lib.hid (by rw [← HW4.out, if_pos (by simpa using hq)])
                      go_wp2_with (fail)
                      refine (Tryd.cmp_Compare_int (L : Int) (L' : Int) _).mono ?_
                      rintro e w4 ⟨rfl, rfl⟩
                      go_wp2_with (fail)
                      go_ret
                      exact ⟨by rw [HWE.out]; rfl, HB3.out⟩
                    case false =>
                      have HW5 := Lib.hid ((if_neg (by simpa using hq)).symm.trans HW4.out)
                      clear hq
                      clear TR TR' CT NT NT' NB NB' IT IT' AR NU NU'
                      by_cases h4 : k = 4
                      · subst h4
                        have HWE : Hid (W = 1) := Lib.hid (by rw [← HW5.out, if_pos rfl])
                        go_wp2_with (fail)
                        go_ret
                        exact ⟨by rw [HWE.out]; rfl, HB3.out⟩
                      · have HW6 := Lib.hid ((if_neg h4).symm.trans HW5.out)
                        by_cases h4' : k' = 4
                        · subst h4'
                          have HWE : Hid (W = -1) := Lib.hid (by rw [← HW6.out, if_pos rfl])
                          go_wp2_with (fail)
                          go_ret
                          exact ⟨by rw [HWE.out]; rfl, HB3.out⟩
                        · have HW7 := Lib.hid ((if_neg h4').symm.trans HW6.out)
                          by_cases hk : k = k'
                          · subst hk
                            by_cases hn : n = n'
                            · subst hn
                              have HWE : Hid (W = 0) := Lib.hid (by rw [← HW7.out, if_pos ⟨rfl, rfl⟩])
                              go_wp2_with (fail)
                              go_ret
                              exact ⟨by rw [HWE.out]; rfl, HB3.out⟩
                            · have HWE : Hid (W = 2) := Lib.hid (by rw [← HW7.out, if_neg (fun h => hn h.2)])
                              go_wp2_with (fail)
                              go_ret
                              exact ⟨by rw [HWE.out]; rfl, HB3.out⟩
                          · have HWE : Hid (W = 2) := Lib.hid (by rw [← HW7.out, if_neg (fun h => hk h.1)])
                            go_wp2_with (fail)
                            go_ret
                            exact ⟨by rw [HWE.out]; rfl, HB3.out⟩

end Go.Proofs.YtlbkbcafkjgckaaDoor.tree

/-
  How the project compares two values.
  Conditions: the values hold at most 10^9 items and letters; the table of powers of ten and the project's two errors hold what the program's text lays.
-/
namespace Go.Proofs.YtlbkbcafkjgckaaDoor.tree
open Go.ChangeShapes Go.WideShapes Go.ChangeAt Go.RowKit ers
set_option linter.unusedVariables false

theorem mgRow : (Tryd.prog.info? MG).map (fun i => (i.zero, i.size, i.bytes)) = some (some (.agg #[.slice none 0 0, .slice none 0 0, .int .i64 0, .map none]), 4, 64) := by kernel_rfl
theorem mg_info : ∃ i, Tryd.prog.info? MG = some i ∧ (i.zero = some (.agg #[.slice none 0 0, .slice none 0 0, .int .i64 0, .map none]) ∧ i.size = 4 ∧ i.bytes = 64) := by
  have := mgRow
  cases hq : Tryd.prog.info? MG with
  | none => rw [hq] at this; cases this
  | some i => rw [hq] at this; simp at this; exact ⟨i, rfl, this⟩
theorem four_new9 (w : World) (a b c d : Value) (t : TypeId) : ∀ j u, [a, b, c, d][j]? = some u → (w.alloc (.cells #[a, b, c, d] t)).cell? ((⟨w.heap.size, 0, none⟩ : Addr).add j) = some u := by
  intro j u hj
  rw [Addr.add_lit, Nat.zero_add, cell_of_row _ _ j _ t _ (heap_alloc_new w _)]
  simpa using hj
theorem al29 {w : World} {B b : Nat} {f : Value → Option Value} (h : raw.Holds w (G2 B) b f) (o : Obj) : raw.Holds (w.alloc o) (G2 B) b f :=
  h.kept (Below.heap_alloc w o b h.lt) (fun x hx => hx.kp (Kp.below (b1 w o)))
theorem zeroBool9 (w : World) : (zeroValue 4).run Tryd.prog w = .ok (.bool false) w := by kernel_rfl

def CutC (w4 : World) (NA NZ : Nat) (C C' : Array Value) (pa : Option Addr) (ma : Int) (pb : Option Addr) (mb : Int) (v : Value) (wx : World) : Prop :=
  ∃ NP, v = .pointer (some ⟨NP, 0, none⟩) ∧ NZ ≤ NP ∧ wx.heap[NP]? = some (.cells #[.pointer pa, .int .i64 ma, .pointer pb, .int .i64 mb] P2 (0, 0)) ∧ Below w4.heap.size w4 wx ∧ wx.heap[NA]? = some (.cells C IV (0, 0)) ∧ wx.heap[NA + 1]? = some (.cells C' IV (0, 0))

theorem getL_totI {ks : List Ky} {vs : List Tr} {y : Ky} {u : Tr} (hl : ks.length = vs.length) (h : getL ks vs y = some u) : tot u ≤ tots ks vs := by
  unfold getL at h
  split at h
  · cases h
  · have hv := (List.getElem?_eq_some_iff.1 h).1
    exact Nat.le_trans (Nat.le_add_left _ _) (it (List.getElem?_eq_getElem (by omega : (pos ks y 0).toNat < ks.length)) h)
where
  it : ∀ {ks : List Ky} {vs : List Tr} {j : Nat} {y : Ky} {t : Tr}, ks[j]? = some y → vs[j]? = some t → y.str.size + tot t ≤ tots ks vs
  | [], _, _, _, _, h, _ => by simp at h
  | _ :: _, [], _, _, _, _, h => by simp at h
  | z :: ks, u :: vs, 0, y, t, h, h' => by
    simp at h h'
    subst h h'
    rw [tots]
    omega
  | z :: ks, u :: vs, j + 1, y, t, h, h' => by
    have := it (ks := ks) (vs := vs) (j := j) (by simpa using h) (by simpa using h')
    rw [tots]
    omega
theorem cstart {w W2 w1 : World} {ks ks' : List Ky} {vs vs' : List Tr} {A A' : Option Addr} {c c' b : Nat} {W : Int} (hlo : IsIn w (Lo w.heap.size w) ks vs A) (hlo' : IsIn w (Lo w.heap.size w) ks' vs' A') (hc : (vs.length ≤ c ∧ c ≤ maxLen) ∧ vs'.length ≤ c' ∧ c' ≤ maxLen)
    (hT : tots ks vs ≤ 1000000000 ∧ tots ks' vs' ≤ 1000000000) (hW : cmpL ks vs ks' vs' = W) (hb2 : Below w.heap.size w W2) (hz2 : W2.heap.size = w.heap.size + 1 + 1 + 1) (hm2 : raw.Holds W2 (G2 w.heap.size) (w.heap.size + 1 + 1) (fun _ => none))
    (hb1 : Below W2.heap.size W2 w1) (hbn : W2.heap.size ≤ b) (hmb : raw.Holds w1 GK b (fun _ => none)) :
    CRel W w.heap.size (w.heap.size + 1 + 1) w (1 + wks vs) (.slice (some ⟨w1.heap.size, 0, none⟩) 1 1) (w1.alloc (.cells #[.slice A vs.length c, .slice A' vs'.length c', .int .i64 0, .map (some b)] MG)) := by
  have hbf : Below w.heap.size w (w1.alloc (.cells #[.slice A vs.length c, .slice A' vs'.length c', .int .i64 0, .map (some b)] MG)) := bs (bs hb2 hb1) (b1 _ _)
  have hk : Kp w.heap.size w _ := Kp.below hbf
  have hmb' := hmb.kept (Below.heap_alloc w1 (.cells #[.slice A vs.length c, .slice A' vs'.length c', .int .i64 0, .map (some b)] MG) b hmb.lt) (fun _ hx => hx)
  have hm1 := hm2.kept (hb1.block _ hm2.lt) (fun x hx => hx.kp (Kp.below hb1))
  have hs1 := hb1.size
  refine ⟨[⟨A, c, ks, vs, A', c', ks', vs', 0, b, ks, vs⟩], fun _ => none, by simp [left9], ⟨fun X hX => ?_, ⟨(thn_zero _).symm, hW⟩, ⟨fun _ h => by simp at h, trivial⟩, fun q z hq => by cases hq⟩,
    ⟨rfl, .inr ⟨w1.heap.size, 1, _, rfl, by omega, heap_alloc_new w1 _, by simp, by simp [maxLen], rfl, rfl⟩⟩, al29 hm1 _, fun X hX => ?_, hbf, fun X hX => ?_⟩
  · obtain rfl := List.mem_singleton.1 hX
    exact ⟨hlo.kp hk, hc.1, hlo'.kp hk, hc.2, Nat.le_refl _, Nat.zero_le _, _, hmb', fun y => by simp [pos]⟩
  · obtain rfl := List.mem_singleton.1 hX
    show w.heap.size + 1 + 1 < b
    omega
  · obtain rfl := List.mem_singleton.1 hX
    exact hT

set_option maxHeartbeats 2000000 in
set_option maxRecDepth 100000 in
theorem compareItems (n : Int) (s : ByteArray) (x : Int) (ks : List Ky) (vs : List Tr) (A : Option Addr) (c : Nat) (n' : Int) (s' : ByteArray) (x' : Int) (ks' : List Ky) (vs' : List Tr) (A' : Option Addr) (c' : Nat) (w : World) (lo lo' : Nat)
    (h : TIn w (Nw lo w) (.mk 4 n s x ks vs) (vV 4 n s x A vs.length c)) (h' : TIn w (Nw lo' w) (.mk 4 n' s' x' ks' vs') (vV 4 n' s' x' A' vs'.length c')) (hN : cnts vs ≤ 1000000000) (hT : tots ks vs ≤ 1000000000) (hT' : tots ks' vs' ≤ 1000000000) (hE : CmE w) :
    Calls Tryd.prog 72 #[vV 4 n s x A vs.length c, vV 4 n' s' x' A' vs'.length c'] w (GivesQ w (.int .i64 (cmpL ks vs ks' vs'))) := by
  obtain ⟨_, _, e1, -, hin⟩ := h.out
  obtain ⟨rfl, rfl⟩ : A = _ ∧ c = _ := by simpa [vV] using e1
  obtain ⟨_, _, e2, -, hin'⟩ := h'.out
  obtain ⟨rfl, rfl⟩ : A' = _ ∧ c' = _ := by simpa [vV] using e2
  have hcap := h.cap
  have hcap' := h'.cap
  have hw0 : 1 + wks vs ≤ 4000000000 := by have := wks_cnts vs; omega
  obtain ⟨L, HL⟩ : ∃ L, Hid (vs.length = L) := ⟨_, Lib.hid rfl⟩
  obtain ⟨L', HL'⟩ : ∃ L, Hid (vs'.length = L) := ⟨_, Lib.hid rfl⟩
  have hlo : IsIn w (Lo w.heap.size w) ks vs A := hin.stays (fun b hb => ⟨hb.2.lt, hb.2⟩) (fun _ _ _ => rfl)
  have hlo' : IsIn w (Lo w.heap.size w) ks' vs' A' := hin'.stays (fun b hb => ⟨hb.2.lt, hb.2⟩) (fun _ _ _ => rfl)
  have HI := Lib.hid hlo
  have HI' := Lib.hid hlo'
  have HCA := Lib.hid (And.intro hcap hcap')
  have HTB := Lib.hid (And.intro hT hT')
  have HEN := Lib.hid hE
  obtain ⟨W, HW⟩ : ∃ W, Hid (cmpL ks vs ks' vs' = W) := ⟨_, Lib.hid rfl⟩
  rw [HL.out, HL'.out, HW.out]
  have NM := Lib.hid (fun w9 => newMatching 4 n s x A L c 4 n' s' x' A' L' c' w9)
  have hmm := @run_makeMap Tryd.prog
  clear e1 e2 h h' hin hin' hcap hcap' hT hT' hE hlo hlo' hN
  go_enter Tryd.func72, Tryd.ntmps72
  go_wp2_with (fail)
  clear hmm
  obtain ⟨W2, HW2⟩ : ∃ W, Hid (((w.alloc (.cells #[.int .i64 4, .int .i64 n, .string s, .int .i64 x, .slice A L c] IV)).alloc (.cells #[.int .i64 4, .int .i64 n', .string s', .int .i64 x', .slice A' L' c'] IV)).alloc (.map #[] 0) = W) := ⟨_, Lib.hid rfl⟩
  have hz2 : Hid (W2.heap.size = w.heap.size + 1 + 1 + 1) := Lib.hid (by rw [← HW2.out]; simp)
  have hb2 : Hid (Below w.heap.size w W2) := Lib.hid (by rw [← HW2.out]; exact bs (b2 w _ _) (b1 _ _))
  have hm2 : Hid (raw.Holds W2 (G2 w.heap.size) (w.heap.size + 1 + 1) (fun _ => none)) := Lib.hid (by
    have := raw.Holds.made ((w.alloc (.cells #[.int .i64 4, .int .i64 n, .string s, .int .i64 x, .slice A L c] IV)).alloc (.cells #[.int .i64 4, .int .i64 n', .string s', .int .i64 x', .slice A' L' c'] IV)) (G2 w.heap.size)
    rw [show ((w.alloc (.cells #[.int .i64 4, .int .i64 n, .string s, .int .i64 x, .slice A L c] IV)).alloc (.cells #[.int .i64 4, .int .i64 n', .string s', .int .i64 x', .slice A' L' c'] IV)).heap.size = w.heap.size + 1 + 1 by simp] at this
    rw [← HW2.out]
    exact this)
  rw [HW2.out]
  refine (NM.out _).mono ?_
  rintro e w1 ⟨b, rfl, hbn, hmb, hb1⟩
  have HST0 := Lib.hid (cstart HI.out HI'.out HCA.out HTB.out HW.out hb2.out hz2.out hm2.out hb1 hbn hmb)
  rw [HL.out, HL'.out] at HST0
  clear hbn hmb hb1 hz2 hb2 hm2 HW2 HI HI' HCA HTB NM
  go_wp2_with (fail)
  go_loopg [6] (1 + wks vs) (fun gk way wr => CRel W w.heap.size (w.heap.size + 1 + 1) w gk way wr ∧ gk ≤ 1 + wks vs)
  case atStart => exact ⟨HST0.out, Nat.le_refl _⟩
  case round =>
    obtain ⟨⟨G, e, hgk, hst, hrow, hm1, hE9, hb, htb⟩, hle⟩ := hrel
    clear HST0
    cases G with
    | nil =>
      obtain ⟨A0, c0, rfl⟩ := hrow.nil
      have HFI := Lib.hid hst.fine
      have HB := Lib.hid hb
      clear hgk hst hrow hm1 hE9 hb htb
      go_wp2_with (fail)
      go_ret
      exact ⟨by rw [HFI.out]; rfl, HB.out⟩
    | cons F G =>
      obtain ⟨g, cc, cur, rfl, hgB, hg, hlc, hcm, hcs, hq⟩ := hrow.top
      obtain ⟨m, HM⟩ : ∃ m, Hid (G.length = m) := ⟨_, Lib.hid rfl⟩
      have hmb : m ≤ 4000000000 := by
        have h1 := left9_len G
        have h2 := HM.out
        rw [left9] at hgk
        omega
      rw [HM.out] at hlc hq ⊢
      obtain ⟨rg, -⟩ := rowc hg
      have c0 := (rg _).trans (hq 0 (by omega))
      have hF := hst.ok _ List.mem_cons_self
      obtain ⟨R, c9, ks9, vs9, A9, c9', ks9', vs9', p9, b9, ks0, vs0⟩ := F
      simp only [Mt.cells, Nat.add_zero, List.getElem?_cons_zero] at c0
      have HG := Lib.hid hg
      have HGK := Lib.hid hgk
      have HST := Lib.hid hst
      have HROW := Lib.hid hrow
      have HM1 := Lib.hid hm1
      have HE9 := Lib.hid hE9
      have HB := Lib.hid hb
      have HTB := Lib.hid htb
      have HQ := Lib.hid hq
      have HF := Lib.hid hF
      clear hg hgk hst hrow hm1 hE9 hb htb hq hF rg
      unfold maxLen at hcm
      cases vs9 with
      | nil =>
        simp only [List.length_nil] at c0
        go_wp2_with (fail)
        go_roundg (left9 G)
        case rel =>
          have hp := HROW.out.pop
          rw [HM.out] at hp
          refine ⟨⟨G, e, rfl, HST.out.pop rfl, hp, HM1.out, fun X hX => HE9.out X (List.mem_cons_of_mem _ hX), HB.out, fun X hX => HTB.out X (List.mem_cons_of_mem _ hX)⟩, ?_⟩
          have := HGK.out
          rw [left9] at this
          omega
        case measure =>
          have := HGK.out
          rw [left9] at this
          omega
      | cons t ts =>
        cases ks9 with
        | nil => have := HF.out.isin.1; simp at this
        | cons y kt =>
          obtain ⟨f9, hmf, hff⟩ := HF.out.map
          have hEB9 : w.heap.size + 1 + 1 < b9 := HE9.out _ List.mem_cons_self
          have hSS : ∀ z, Lo w.heap.size wr z → z ≠ g ∧ z ≠ b9 := fun z hz => ⟨by have := hz.1; omega, fun e1 => hold_np hmf (e1 ▸ hz.2)⟩
          have TK := takeM (S := Lo w.heap.size wr) (S' := Lo w.heap.size wr) HG.out HQ.out rfl rfl HF.out.isin HF.out.cap HF.out.isin' HF.out.hp hmf hff hSS hSS
          have HTK0 := Lib.hid TK
          obtain ⟨Lr, HLr⟩ : ∃ L, Hid (ts.length = L) := ⟨_, Lib.hid rfl⟩
          simp only [List.length_cons] at c0
          rw [HLr.out] at c0
          clear TK hmf hff hSS hEB9
          go_wp2_with (fail)
          refine HTK0.out.mono ?_
          rintro e0 w4 ⟨R1, hTk, hR1, hres⟩
          obtain ⟨hb4, hkp4, hnone, hsome⟩ := CSt.took HST.out HROW.out HM1.out HE9.out (Nat.le_refl _) (by omega) HB.out hgB HG.out (by rw [HM.out]; exact HQ.out) rfl rfl (by rw [HM.out]; exact hTk) hR1 ⟨by have := HF.out.cap; simp at this; simp; omega, by have := HF.out.cap; simp at this; simp; omega⟩
          have HB4 := Lib.hid hb4
          have HK4 := Lib.hid hkp4
          have HNO := Lib.hid hnone
          have HSO := Lib.hid hsome
          clear hb4 hkp4 hnone hsome hTk hR1 c0 HTK0
          rcases hres with ⟨hn, rfl⟩ | ⟨u, k1, n1, s1, x1, A1, L1, c1, k2, n2, s2, x2, A2, L2, c2, hu, rfl, ht1, ht2⟩
          · have HW2 := Lib.hid (HNO.out hn)
            clear hn HNO HSO
            go_wp2_with (fail)
            go_ret
            exact ⟨by rw [HW2.out]; rfl, bs HB4.out (b2 w4 _ _)⟩
          · have hle0 := HTB.out _ List.mem_cons_self
            have htt : tot t ≤ 1000000000 := by
              have h1 : tots (y :: kt) (t :: ts) ≤ 1000000000 := hle0.1
              rw [tots_cons] at h1
              omega
            have htu : tot u ≤ 1000000000 := Nat.le_trans (getL_totI HF.out.isin'.1 hu) hle0.2
            obtain ⟨F8, hst', hrow', hm', hE', hleft, ⟨e1, e2, e3, e4⟩, hcnt⟩ := HSO.out u hu
            have htb' : ∀ X ∈ F8 :: G, Tb X := fun X hX => by
              rcases List.mem_cons.1 hX with rfl | hX
              · refine ⟨?_, by rw [e3, e4]; exact hle0.2⟩
                rw [e1, e2]
                have h1 : tots (y :: kt) (t :: ts) ≤ 1000000000 := hle0.1
                rw [tots_cons] at h1
                omega
              · exact HTB.out X (List.mem_cons_of_mem _ hX)
            have hT1 := ht1.kp HK4.out
            have hT2 := ht2.kp HK4.out
            have hleft2 : left9 (F8 :: G) + wk t = gk := hleft.trans HGK.out.symm
            clear hle0 hleft ht1 ht2 hu HNO HSO e1 e2 e3 e4 HST HROW HM1 HE9 HTB HQ HF HG HGK
            obtain ⟨_, _, _, _, ks1, vs1⟩ := t
            obtain ⟨_, _, q1, -, hin1⟩ := hT1.out
            obtain ⟨rfl, rfl, rfl, rfl, rfl, rfl, rfl⟩ : _ = _ ∧ _ = _ ∧ _ = _ ∧ _ = _ ∧ _ = _ ∧ _ = _ ∧ _ = _ := by simpa [vV] using q1
            obtain ⟨_, _, _, _, ks2, vs2⟩ := u
            obtain ⟨_, _, q2, -, hin2⟩ := hT2.out
            obtain ⟨rfl, rfl, rfl, rfl, rfl, rfl, rfl⟩ : _ = _ ∧ _ = _ ∧ _ = _ ∧ _ = _ ∧ _ = _ ∧ _ = _ ∧ _ = _ := by simpa [vV] using q2
            have hcap1 := hT1.cap
            have hcap2 := hT2.cap
            have CO : ∀ w', Below w4.heap.size w4 w' → Calls Tryd.prog 70 #[vV k1 n1 s1 x1 A1 vs1.length c1, vV k2 n2 s2 x2 A2 vs2.length c2] w' (GivesQ w' (.int .i64 (ordO (.mk k1 n1 s1 x1 ks1 vs1) (.mk k2 n2 s2 x2 ks2 vs2)))) := fun w' hb => compareOutside _ _ _ _ w' _ _ (hT1.below' hb) (hT2.below' hb) htt htu (HEN.out.stays (bs HB4.out hb))
            have hp1 : PlB w.heap.size w4 (plc A1 vs1.length) ks1 vs1 := ⟨A1, hin1, rfl⟩
            have hp2 : PlB w.heap.size w4 (plc A2 vs2.length) ks2 vs2 := ⟨A2, hin2, rfl⟩
            obtain ⟨pa, ma, hpl1⟩ := plc_form A1 vs1.length
            obtain ⟨pb, mb, hpl2⟩ := plc_form A2 vs2.length
            have some_of : ∀ {w : World} {S : Nat → Prop} {ks : List Ky} {vs : List Tr} {A : Option Addr}, IsIn w S ks vs A → 0 < vs.length → ∃ a, A = some a := fun hi h0 => by
              obtain ⟨_, _, C, hc, _⟩ := hi
              obtain ⟨a, ha, _⟩ := hc 0 h0
              exact ⟨a, ha⟩
            obtain ⟨L1, HL1⟩ : ∃ L, Hid (L = vs1.length) := ⟨_, Lib.hid rfl⟩
            obtain ⟨L2, HL2⟩ : ∃ L, Hid (L = vs2.length) := ⟨_, Lib.hid rfl⟩
            have PO1 : ∀ w, Calls Tryd.prog 107 #[.slice A1 L1 c1] w (GivesQ w (.agg #[.pointer pa, .int .i64 ma])) := fun w => by rw [HL1.out, ← hpl1]; exact placeOf A1 vs1.length c1 hin1.2.1 (some_of hin1) w
            have PO2 : ∀ w, Calls Tryd.prog 107 #[.slice A2 L2 c2] w (GivesQ w (.agg #[.pointer pb, .int .i64 mb])) := fun w => by rw [HL2.out, ← hpl2]; exact placeOf A2 vs2.length c2 hin2.2.1 (some_of hin2) w
            have hkey : G2 w.heap.size w4 (.agg #[.pointer pa, .int .i64 ma, .pointer pb, .int .i64 mb]) := by
              obtain ⟨p, n, e1, h1⟩ := hp1.gb
              obtain ⟨q, m, e2, h2⟩ := hp2.gb
              rw [hpl1] at e1
              rw [hpl2] at e2
              simp at e1 e2
              obtain ⟨rfl, rfl⟩ := e1
              obtain ⟨rfl, rfl⟩ := e2
              exact ⟨_, _, _, _, rfl, h1, h2⟩
            have hpq : pq (plc A1 vs1.length) (plc A2 vs2.length) = .agg #[.pointer pa, .int .i64 ma, .pointer pb, .int .i64 mb] := by rw [hpl1, hpl2]; rfl
            have hglt : g < w4.heap.size := (hrow'.own g rfl).2.1
            have AR := Lib.hid (fun w9 => areArrays k1 n1 s1 x1 A1 L1 c1 k2 n2 s2 x2 A2 L2 c2 w9)
            have NM2 := Lib.hid (fun w9 => newMatching k1 n1 s1 x1 A1 L1 c1 k2 n2 s2 x2 A2 L2 c2 w9)
            obtain ⟨z, HZ⟩ : ∃ z, Hid (ordO (.mk k1 n1 s1 x1 ks1 vs1) (.mk k2 n2 s2 x2 ks2 vs2) = z) := ⟨_, Lib.hid rfl⟩
            rw [← HL1.out, ← HL2.out, HZ.out] at CO
            have HTX : Hid (tots ks1 vs1 ≤ 1000000000 ∧ tots ks2 vs2 ≤ 1000000000) := Lib.hid (by rw [tot_mk] at htt htu; omega)
            have HCO := Lib.hid CO
            have HST := Lib.hid hst'
            have HROW := Lib.hid hrow'
            have HM1 := Lib.hid hm'
            have HE9 := Lib.hid hE'
            have HTB := Lib.hid htb'
            have HPQ := Lib.hid hpq
            have HP1 := Lib.hid hp1
            have HP2 := Lib.hid hp2
            have HKEY := Lib.hid hkey
            have HI1 := Lib.hid (And.intro hin1 hin2)
            have HCP := Lib.hid (And.intro hcap1 hcap2)
            have HCN := Lib.hid hcnt
            have HLF := Lib.hid hleft2
            clear CO hst' hrow' hm' hE' htb' hpq hp1 hp2 hkey hin1 hin2 hcap1 hcap2 hcnt hleft2 hT1 hT2 q1 q2 htt htu hpl1 hpl2
            rw [HM.out] at HROW
            have WB : Hid (∀ w', Below w4.heap.size w4 w' → Below w.heap.size w w') := Lib.hid (fun w' hb => bs HB4.out hb)
            have RND : Hid (cmpT (.mk k1 n1 s1 x1 ks1 vs1) (.mk k2 n2 s2 x2 ks2 vs2) = 0 → ∀ w', Below w4.heap.size w4 w' → (CRel W w.heap.size (w.heap.size + 1 + 1) w (left9 (F8 :: G)) (.slice (some ⟨g, 0, none⟩) (m + 1) cc) w' ∧ left9 (F8 :: G) ≤ 1 + wks vs) ∧ left9 (F8 :: G) < gk) := Lib.hid (fun h0 w' hb => by
              have h1 := HST.out
              rw [h0] at h1
              have h2 := HLF.out
              rw [wk_mk] at h2
              exact ⟨⟨⟨F8 :: G, e, rfl, h1.kp (Kp.below hb) (fun X hX => hb.block _ (h1.ok X hX).lt), HROW.out.below hb, HM1.out.kept (hb.block _ HM1.out.lt) (fun x hx => hx.kp (Kp.below hb)), HE9.out, bs HB4.out hb, HTB.out⟩, by omega⟩, by omega⟩)
            rw [← HL1.out, ← HL2.out]
            go_wp2_with (fail)
            refine (HCO.out _ (b2 w4 _ _)).mono ?_
            rintro e0 w5 ⟨rfl, hb5⟩
            have eA := carry hb5 (heap_alloc2_old w4 _ _)
            have eB := carry hb5 (heap_alloc2_new w4 _ _)
            have HBC := Lib.hid (bs (b2 w4 _ _) hb5)
            by_cases hz : z = 0
            · subst hz
              obtain ⟨NZ, hNZ⟩ : ∃ NZ, NZ = w5.heap.size := ⟨_, rfl⟩
              have HNZ := Lib.hid hNZ
              have HNZB : Hid (w4.heap.size ≤ NZ) := Lib.hid (by rw [hNZ]; exact HBC.out.size)
              have HNAZ : Hid (w4.heap.size < NZ) := Lib.hid (by rw [hNZ]; exact (Array.getElem?_eq_some_iff.1 eA).1)
              have HNBZ : Hid (w4.heap.size + 1 < NZ) := Lib.hid (by rw [hNZ]; exact (Array.getElem?_eq_some_iff.1 eB).1)
              clear hNZ
              obtain ⟨NA, hNA⟩ : ∃ N, N = w4.heap.size := ⟨_, rfl⟩
              rw [← hNA] at eA eB ⊢
              have HNA := Lib.hid hNA
              have HNAZ : Hid (NA < NZ) := Lib.hid (by rw [hNA]; exact HNAZ.out)
              have HNBZ : Hid (NA + 1 < NZ) := Lib.hid (by rw [hNA]; exact HNBZ.out)
              have EA := Lib.hid eA
              have EB := Lib.hid eB
              obtain ⟨rA, -⟩ := rowc eA
              obtain ⟨rB, -⟩ := rowc eB
              clear hb5 eA eB hNA
              go_wp2_with (fail)
              go_cut [12] (fun s12 wx => CutC w4 NA NZ #[.int .i64 k1, .int .i64 n1, .string s1, .int .i64 x1, .slice A1 L1 c1] #[.int .i64 k2, .int .i64 n2, .string s2, .int .i64 x2, .slice A2 L2 c2] pa ma pb mb s12 wx)
              case first =>
                have HZ : Hid (NZ ≤ w5.heap.size) := Lib.hid (Nat.le_of_eq HNZ.out)
                have lA0 : NA < w5.heap.size := (Array.getElem?_eq_some_iff.1 EA.out).1
                have lB0 : NA + 1 < w5.heap.size := (Array.getElem?_eq_some_iff.1 EB.out).1
                go_region_with (first
                  | (go_at_call_of 107 A1; refine (PO1 _).mono ?_
                     rintro e0 wz ⟨rfl, hbz⟩
                     have HBX : Hid (Below w4.heap.size w4 wz) := Lib.hid (by
                       have hs := HBC.out.size
                       first
                         | exact bs HBC.out hbz
                         | exact bs (HBC.out.drew) hbz
                         | exact bs (HBC.out.alloc hs _) hbz
                         | exact bs (HBC.out.drew.alloc hs _) hbz)
                     have EAX : Hid (wz.heap[NA]? = _) := Lib.hid (by first | exact carry hbz EA.out | exact carry hbz (keepAlloc EA.out))
                     have EBX : Hid (wz.heap[NA + 1]? = _) := Lib.hid (by first | exact carry hbz EB.out | exact carry hbz (keepAlloc EB.out))
                     have HZX : Hid (NZ ≤ wz.heap.size) := Lib.hid (Nat.le_trans HZ.out (Nat.le_trans (by simp) hbz.size))
                     try (have EPX := carry hbz EP.out
                          clear EP
                          have EP := Lib.hid EPX
                          clear EPX)
                     try (with_reducible (have EPX := carry hbz (heap_alloc_new _ (.cells #[.pointer none, .int .i64 0, .pointer none, .int .i64 0] 137)))
                          try simp only [heap_drew] at EPX
                          have EP := Lib.hid EPX
                          have HPZ := Lib.hid HZ.out
                          clear EPX)
                     clear HBC EA EB rA rB hbz HZ
                     try clear rP fP
                     have HBC := Lib.hid HBX.out
                     have EA := Lib.hid EAX.out
                     have EB := Lib.hid EBX.out
                     have HZ := Lib.hid HZX.out
                     clear HBX EAX EBX HZX
                     try (have EPY := rowc EP.out
                          obtain ⟨rP, fP⟩ := EPY)
                     have lA : NA < wz.heap.size := (Array.getElem?_eq_some_iff.1 EA.out).1
                     have lB : NA + 1 < wz.heap.size := (Array.getElem?_eq_some_iff.1 EB.out).1
                     obtain ⟨rA, -⟩ := rowc EA.out
                     obtain ⟨rB, -⟩ := rowc EB.out)
                  | (go_at_call_of 107 A2; refine (PO2 _).mono ?_
                     rintro e0 wz ⟨rfl, hbz⟩
                     have HBX : Hid (Below w4.heap.size w4 wz) := Lib.hid (by
                       have hs := HBC.out.size
                       first
                         | exact bs HBC.out hbz
                         | exact bs (HBC.out.drew) hbz
                         | exact bs (HBC.out.alloc hs _) hbz
                         | exact bs (HBC.out.drew.alloc hs _) hbz)
                     have EAX : Hid (wz.heap[NA]? = _) := Lib.hid (by first | exact carry hbz EA.out | exact carry hbz (keepAlloc EA.out))
                     have EBX : Hid (wz.heap[NA + 1]? = _) := Lib.hid (by first | exact carry hbz EB.out | exact carry hbz (keepAlloc EB.out))
                     have HZX : Hid (NZ ≤ wz.heap.size) := Lib.hid (Nat.le_trans HZ.out (Nat.le_trans (by simp) hbz.size))
                     try (have EPX := carry hbz EP.out
                          clear EP
                          have EP := Lib.hid EPX
                          clear EPX)
                     try (with_reducible (have EPX := carry hbz (heap_alloc_new _ (.cells #[.pointer none, .int .i64 0, .pointer none, .int .i64 0] 137)))
                          try simp only [heap_drew] at EPX
                          have EP := Lib.hid EPX
                          have HPZ := Lib.hid HZ.out
                          clear EPX)
                     clear HBC EA EB rA rB hbz HZ
                     try clear rP fP
                     have HBC := Lib.hid HBX.out
                     have EA := Lib.hid EAX.out
                     have EB := Lib.hid EBX.out
                     have HZ := Lib.hid HZX.out
                     clear HBX EAX EBX HZX
                     try (have EPY := rowc EP.out
                          obtain ⟨rP, fP⟩ := EPY)
                     have lA : NA < wz.heap.size := (Array.getElem?_eq_some_iff.1 EA.out).1
                     have lB : NA + 1 < wz.heap.size := (Array.getElem?_eq_some_iff.1 EB.out).1
                     obtain ⟨rA, -⟩ := rowc EA.out
                     obtain ⟨rB, -⟩ := rowc EB.out))
                all_goals
                  go_wp2_with (fail)
                  go_meet
                  first
                    | exact ⟨_, rfl, HZ.out, heap_alloc_new _ _, HBC.out.alloc HBC.out.size _, keepAlloc EA.out, keepAlloc EB.out⟩
                    | (have hne : ∀ q, q < NZ → q ≠ _ := fun q hq => Nat.ne_of_lt (Nat.lt_of_lt_of_le hq HPZ.out)
                       refine ⟨_, rfl, HPZ.out, set_heap (set_heap (set_heap (set_heap EP.out 0 _) 1 _) 2 _) 3 _, ?_, ?_, ?_⟩
                       · have hle := Nat.le_trans HNZB.out HPZ.out
                         exact (((HBC.out.setCell hle _).setCell hle _).setCell hle _).setCell hle _
                       · have hq := hne NA HNAZ.out
                         exact (set_other hq).trans ((set_other hq).trans ((set_other hq).trans ((set_other hq).trans EA.out)))
                       · have hq := hne (NA + 1) HNBZ.out
                         exact (set_other hq).trans ((set_other hq).trans ((set_other hq).trans ((set_other hq).trans EB.out))))
              case rest =>
                obtain ⟨NP, rfl, hNZP, hP, hBx, hxA, hxB⟩ := hcut
                have HBX := Lib.hid hBx
                have EP := Lib.hid hP
                have EA' := Lib.hid hxA
                have EB' := Lib.hid hxB
                obtain ⟨rA7, -⟩ := rowc hxA
                obtain ⟨rB7, -⟩ := rowc hxB
                clear hP hBx hxA hxB rA rB EA EB HBC
                by_cases h4 : k1 = 4 ∧ k2 = 4
                · obtain ⟨rfl, rfl⟩ := h4
                  have hcm : cmpT (.mk 4 n1 s1 x1 ks1 vs1) (.mk 4 n2 s2 x2 ks2 vs2) = cmpL ks1 vs1 ks2 vs2 := by rw [cmpT_mk, if_pos ⟨HZ.out, rfl, rfl⟩]
                  have h44 : (decide ((4 : Int) = 4) && decide ((4 : Int) = 4)) = true := rfl
                  have AR4 := AR
                  rw [h44] at AR4
                  have hlt1 : cnts vs1 < cnts F8.vs0 := by have := HCN.out; rw [cnt_mk] at this; omega
                  have HCM := Lib.hid hcm
                  have HLT1 := Lib.hid hlt1
                  clear hcm h44 AR hlt1
                  cases hek : e (.agg #[.pointer pa, .int .i64 ma, .pointer pb, .int .i64 mb]) with
                  | some zz =>
                    have HK0 : Hid (zz = .bool true ∧ cmpL ks1 vs1 ks2 vs2 = 0) := Lib.hid (HST.out.known HP1.out HP2.out HLT1.out (by rw [HPQ.out]; exact hek))
                    obtain rfl := HK0.out.1
                    have HEK := Lib.hid hek
                    clear hek
                    go_wp2_with (fail)
                    refine (AR4.out _).mono ?_
                    rintro e0 w7 ⟨rfl, hb7⟩
                    have HB7 := Lib.hid (bs HBX.out hb7)
                    obtain ⟨rP, -⟩ := rowc (carry hb7 EP.out)
                    have hm17 : raw.Holds w7 (G2 w.heap.size) (w.heap.size + 1 + 1) e := HM1.out.kept (HB7.out.block _ HM1.out.lt) (fun x hx => hx.kp (Kp.below HB7.out))
                    have hk7 := HKEY.out.kp (Kp.below HB7.out)
                    clear hb7 rA7 rB7
                    go_wp2_with (first | (at_lookup; refine raw.wpList_lookup_w _ (by rfl) _ _ 128 false rfl hm17 (good_g2 _) Tryd.underlying128 (zeroBool9 _) rfl rfl hk7 HEK.out (got1_some _ _) ?_) | fail)
                    go_roundg (left9 (F8 :: G))
                    case rel => exact (RND.out (HCM.out.trans HK0.out.2) _ HB7.out).1
                    case measure => exact (RND.out (HCM.out.trans HK0.out.2) _ HB7.out).2
                  | none =>
                    have HEK := Lib.hid hek
                    obtain ⟨i0, hi, hz⟩ := mg_info
                    have HII := Lib.hid hi
                    have HZZ := Lib.hid hz
                    clear hek hi hz
                    go_wp2_with (fail)
                    refine (AR4.out _).mono ?_
                    rintro e0 w7 ⟨rfl, hb7⟩
                    have HB7 := Lib.hid (bs HBX.out hb7)
                    have EA7 := Lib.hid (carry hb7 EA'.out)
                    have EB7 := Lib.hid (carry hb7 EB'.out)
                    have EP7 := Lib.hid (carry hb7 EP.out)
                    obtain ⟨rP, -⟩ := rowc EP7.out
                    have hm17 : raw.Holds w7 (G2 w.heap.size) (w.heap.size + 1 + 1) e := HM1.out.kept (HB7.out.block _ HM1.out.lt) (fun x hx => hx.kp (Kp.below HB7.out))
                    have HM17 := Lib.hid hm17
                    have hk7 := HKEY.out.kp (Kp.below HB7.out)
                    have hNE : w.heap.size + 1 + 1 < w4.heap.size := HM1.out.lt
                    clear hb7 rA7 rB7
                    go_wp2_with (first
                      | (at_lookup; refine raw.wpList_lookup_w _ (by rfl) _ _ 128 false rfl hm17 (good_g2 _) Tryd.underlying128 (zeroBool9 _) rfl rfl hk7 HEK.out (got1_none _) ?_)
                      | (at_mapUpdate; refine raw.wpList_update _ rfl _ _ _ 128 rfl hm17 (good_g2 _) (g2_stays _) Tryd.underlying128 rfl rfl rfl hk7 ?_
                         intro w8 hm18 hgr8
                         have HM18 := Lib.hid hm18
                         have HGR8 := Lib.hid hgr8
                         obtain ⟨rA8, _⟩ := rowc ((hgr8.block NA (Array.getElem?_eq_some_iff.1 EA7.out).1 (by intro h; injection h with h; have := HNA.out; omega)).trans EA7.out)
                         obtain ⟨rB8, _⟩ := rowc ((hgr8.block (NA + 1) (Array.getElem?_eq_some_iff.1 EB7.out).1 (by intro h; injection h with h; have := HNA.out; omega)).trans EB7.out)
                         clear hm18 hgr8)
                      | fail)
                    refine (NM2.out _).mono ?_
                    rintro e0 w9 ⟨bn, rfl, hbn9, hmb9, hb9⟩
                    have HR9 := Lib.hid (((HROW.out.below HB7.out).keptN HGR8.out (hold_np HM17.out)).below hb9)
                    have HBN := Lib.hid (And.intro hbn9 (And.intro hmb9 hb9))
                    have hRL : (F8 :: G).length = m + 1 := by have := HM.out; simp; omega
                    have hrw : w9.ownsRow w.heap.size MG 4 (.slice (some ⟨g, 0, none⟩) (m + 1) cc) (m + 1) ((F8 :: G).reverse.flatMap Mt.cells) := by
                      have := HR9.out
                      unfold CRow at this
                      rwa [hRL] at this
                    have HRW := Lib.hid hrw
                    have hs9 : w.heap.size ≤ w9.heap.size := by
                      have q1 := HB4.out.size
                      have q2 := HB7.out.size
                      have q3 := HGR8.out.size
                      have q4 := hb9.size
                      omega
                    clear hbn9 hmb9 hb9 rA8 rB8 rP hm17 hk7 hrw hRL
                    go_wp2_with (first
                      | (at_builtin; refine wpList_append_own _ rfl _ _ 133 rfl w.heap.size MG i0 _ 4 64 Tryd.underlying133 HII.out HZZ.out.1 HZZ.out.2.1 HZZ.out.2.2 rfl (by decide) _ (m + 1) _ rfl (HRW.out.alloc _) ⟨w9.heap.size, 0, none⟩ 1 1 [.slice A1 L1 c1, .slice A2 L2 c2, .int .i64 0, .map (some bn)] rfl rfl (four_new9 _ _ _ _ _ _) (by intro u hu; simp at hu; rcases hu with rfl | rfl | rfl | rfl <;> rfl) (by unfold maxLen; omega) (by omega) (by simp; omega) ?_
                         intro v' w10 hown' hgrow' hnil
                         have HR10 := Lib.hid hown'
                         have HG10 := Lib.hid hgrow'
                         clear hown' hgrow' hnil)
                      | fail)
                    go_roundg (1 + wks vs1 + left9 (F8 :: G))
                    case rel =>
                      have hk04 : Kp w.heap.size w4 w4 := Kp.refl _ _
                      have hst := HST.out
                      rw [HCM.out] at hst
                      have h2 := HLF.out
                      rw [wk_mk] at h2
                      have hm18 := HM18.out
                      rw [← HPQ.out] at hm18
                      obtain ⟨hb1', hb2', hb3'⟩ := HBN.out
                      have hrow10 := HR10.out
                      rw [← HM.out, HL1.out, HL2.out] at hrow10
                      refine ⟨CRel.push hst HM1.out HE9.out (Nat.le_refl _) (by omega) HB4.out HI1.out.1 HCP.out.1 HI1.out.2 HCP.out.2 HLT1.out HB7.out HM17.out hm18 HGR8.out (bs hb3' (b1 _ _)) hb1' (hb2'.kept (Below.heap_alloc w9 _ bn hb2'.lt) (fun _ hx => hx)) hrow10 HG10.out (fun k hk => ?_) HTB.out HTX.out, by omega⟩
                      obtain ⟨h5, h6, cs, tt, h7⟩ := HR9.out.own g rfl
                      obtain rfl : g = k := by injection hk
                      exact ⟨h5, cs, tt, keepAlloc h7⟩
                    case measure =>
                      have h2 := HLF.out
                      rw [wk_mk] at h2
                      omega
                · have hcm : cmpT (.mk k1 n1 s1 x1 ks1 vs1) (.mk k2 n2 s2 x2 ks2 vs2) = 0 := by rw [cmpT_mk, if_neg (fun h => h4 h.2)]; exact HZ.out
                  have h44 : (decide (k1 = 4) && decide (k2 = 4)) = false := by
                    by_cases h5 : k1 = 4
                    · rw [decide_eq_true h5, decide_eq_false (fun h6 => h4 ⟨h5, h6⟩)]; rfl
                    · rw [decide_eq_false h5]; rfl
                  have AR4 := AR
                  rw [h44] at AR4
                  have HCM := Lib.hid hcm
                  clear hcm h44 AR h4
                  go_wp2_with (fail)
                  refine (AR4.out _).mono ?_
                  rintro e0 w7 ⟨rfl, hb7⟩
                  have HB7 := Lib.hid (bs HBX.out hb7)
                  clear hb7 rA7 rB7
                  go_wp2_with (fail)
                  go_roundg (left9 (F8 :: G))
                  case rel => exact (RND.out HCM.out _ HB7.out).1
                  case measure => exact (RND.out HCM.out _ HB7.out).2
            · have hc : cmpT (.mk k1 n1 s1 x1 ks1 vs1) (.mk k2 n2 s2 x2 ks2 vs2) = z := by rw [cmpT_mk, HZ.out, if_neg (fun h => hz h.1)]
              have h1 := HST.out
              rw [hc] at h1
              have HWZ := Lib.hid (h1.stop hz)
              have HB5 := Lib.hid (WB.out _ HBC.out)
              clear hc h1 RND WB
              go_wp2_with (fail)
              go_ret
              exact ⟨by rw [HWZ.out]; rfl, HB5.out⟩

end Go.Proofs.YtlbkbcafkjgckaaDoor.tree

/-
  Values whose lists lie each in a block of its own: every block knows where it hangs, so that no two lists of one value share memory.
  Conditions: those that each theorem names.
-/
namespace Go.Proofs.YtlbkbcafkjgckaaDoor.tree
open Go.ChangeShapes Go.WideShapes Go.ChangeAt Go.RowKit
set_option linter.unusedVariables false

/-- The eight cells of item i of a row. -/
def At8r (arr : Array Value) (i : Nat) (y : Ky) (k n : Int) (s : ByteArray) (x : Int) (A : Option Addr) (L c : Nat) : Prop := ∀ q, q < 8 → arr[i * 8 + q]? = (eV y k n s x A L c).cells[q]?

/-- The value is the tree; its lists lie in blocks of their own, and par says of each block in which block and at which item it hangs. -/
inductive TPar (w : World) (par : Nat → Nat × Nat) : Nat × Nat → Tr → Value → Prop
  | mk (here : Nat × Nat) (k n : Int) (s : ByteArray) (x : Int) (ks : List Ky) (vs : List Tr) (A : Option Addr) (cap g : Nat) (arr : Array Value)
      (K N X : Nat → Int) (Z : Nat → ByteArray) (D : Nat → Option Addr) (H : Nat → Nat)
      (hk : I64 k ∧ I64 n ∧ I64 x ∧ s.size ≤ maxLen) (hl : ks.length = vs.length) (hm : vs.length ≤ maxLen) (hcap : vs.length ≤ cap ∧ cap ≤ maxLen)
      (hg : 0 < vs.length → A = some ⟨g, 0, none⟩ ∧ par g = here ∧ here.1 < g ∧ w.heap[g]? = some (.cells arr IE (0, 0)) ∧ vs.length * 8 ≤ arr.size)
      (hc : ∀ (i : Nat) (hi : i < vs.length), (I64 (ks[i]'(hl ▸ hi)).num ∧ (ks[i]'(hl ▸ hi)).str.size ≤ maxLen) ∧ ∃ L, At8r arr i (ks[i]'(hl ▸ hi)) (K i) (N i) (Z i) (X i) (D i) L (H i))
      (ht : ∀ (i : Nat) (hi : i < vs.length), ∀ L, At8r arr i (ks[i]'(hl ▸ hi)) (K i) (N i) (Z i) (X i) (D i) L (H i) → TPar w par (g, i) (vs[i]) (vV (K i) (N i) (Z i) (X i) (D i) L (H i))) :
      TPar w par here (.mk k n s x ks vs) (vV k n s x A vs.length cap)

/-- A row of items in block g, each of which is its tree. -/
def PBlk (w : World) (par : Nat → Nat × Nat) (g : Nat) (ks : List Ky) (vs : List Tr) : Prop :=
  ∃ arr, w.heap[g]? = some (.cells arr IE (0, 0)) ∧ vs.length * 8 ≤ arr.size ∧ ∀ i, i < vs.length → ∃ y k n s x ks' vs' A c, ks[i]? = some y ∧ vs[i]? = some (.mk k n s x ks' vs') ∧ (I64 y.num ∧ y.str.size ≤ maxLen) ∧
    At8r arr i y k n s x A vs'.length c ∧ TPar w par (g, i) (.mk k n s x ks' vs') (vV k n s x A vs'.length c)

theorem at8r_inj {arr : Array Value} {i : Nat} {y y' : Ky} {k n x k' n' x' : Int} {s s' : ByteArray} {A A' : Option Addr} {L L' c c' : Nat} (h : At8r arr i y k n s x A L c) (h' : At8r arr i y' k' n' s' x' A' L' c') :
    y = y' ∧ k = k' ∧ n = n' ∧ s = s' ∧ x = x' ∧ A = A' ∧ L = L' ∧ c = c' := by
  have e : ∀ q, q < 8 → (eV y k n s x A L c).cells[q]? = (eV y' k' n' s' x' A' L' c').cells[q]? := fun q hq => (h q hq).symm.trans (h' q hq)
  have e0 := e 0 (by omega)
  have e1 := e 1 (by omega)
  have e2 := e 2 (by omega)
  have e3 := e 3 (by omega)
  have e4 := e 4 (by omega)
  have e5 := e 5 (by omega)
  have e6 := e 6 (by omega)
  have e7 := e 7 (by omega)
  obtain ⟨yt, yn, ys⟩ := y
  obtain ⟨yt', yn', ys'⟩ := y'
  simp [eV, Value.cells] at e0 e1 e2 e3 e4 e5 e6 e7
  obtain ⟨rfl, rfl, rfl⟩ := e7
  subst e0 e1 e2 e3 e4 e5 e6
  exact ⟨rfl, rfl, rfl, rfl, rfl, rfl, rfl, rfl⟩

section
variable {w w' : World} {par : Nat → Nat × Nat} {here : Nat × Nat}

theorem TPar.out {k n x : Int} {s : ByteArray} {ks : List Ky} {vs : List Tr} {v : Value} (h : TPar w par here (.mk k n s x ks vs) v) :
    ∃ A c, v = vV k n s x A vs.length c ∧ (I64 k ∧ I64 n ∧ I64 x ∧ s.size ≤ maxLen) ∧ ks.length = vs.length ∧ (vs.length ≤ c ∧ c ≤ maxLen) ∧ (0 < vs.length → ∃ g, A = some ⟨g, 0, none⟩ ∧ par g = here ∧ here.1 < g ∧ PBlk w par g ks vs) := by
  cases h with
  | mk _ _ _ _ _ _ _ A cap g arr K N X Z D H hk hl hm hcap hg hc ht =>
    refine ⟨A, cap, rfl, hk, hl, hcap, fun h0 => ?_⟩
    obtain ⟨hA, hp, hlt, hb, hs⟩ := hg h0
    refine ⟨g, hA, hp, hlt, arr, hb, hs, fun i hi => ?_⟩
    obtain ⟨hy, L, hL⟩ := hc i hi
    have h := ht i hi L hL
    generalize hv : vs[i] = t at h
    obtain ⟨k', n', s', x', ks', vs'⟩ := t
    cases h with
    | mk _ _ _ _ _ _ _ A' cap' g' arr' K' N' X' Z' D' H' hk' hl' hm' hcap' hg' hc' ht' =>
      exact ⟨_, _, _, _, _, ks', vs', _, _, List.getElem?_eq_getElem _, by rw [List.getElem?_eq_getElem hi, hv], hy, hL, .mk _ _ _ _ _ _ _ _ _ _ _ K' N' X' Z' D' H' hk' hl' hm' hcap' hg' hc' ht'⟩

theorem TPar.of {k n x : Int} {s : ByteArray} {ks : List Ky} {vs : List Tr} {A : Option Addr} {c : Nat} (hk : I64 k ∧ I64 n ∧ I64 x ∧ s.size ≤ maxLen) (hl : ks.length = vs.length) (hcap : vs.length ≤ c ∧ c ≤ maxLen)
    (h : 0 < vs.length → ∃ g, A = some ⟨g, 0, none⟩ ∧ par g = here ∧ here.1 < g ∧ PBlk w par g ks vs) : TPar w par here (.mk k n s x ks vs) (vV k n s x A vs.length c) := by
  by_cases h0 : 0 < vs.length
  · obtain ⟨g, hA, hp, hlt, arr, hb, hs, hi⟩ := h h0
    have pick : ∃ (K N X : Nat → Int) (Z : Nat → ByteArray) (D : Nat → Option Addr) (H : Nat → Nat), ∀ (i : Nat) (hi : i < vs.length), (I64 (ks[i]'(hl ▸ hi)).num ∧ (ks[i]'(hl ▸ hi)).str.size ≤ maxLen) ∧ ∃ L, At8r arr i (ks[i]'(hl ▸ hi)) (K i) (N i) (Z i) (X i) (D i) L (H i) ∧ TPar w par (g, i) (vs[i]) (vV (K i) (N i) (Z i) (X i) (D i) L (H i)) := by
      have each : ∀ i, ∃ (K N X : Int) (Z : ByteArray) (D : Option Addr) (H : Nat), ∀ (hi : i < vs.length), (I64 (ks[i]'(hl ▸ hi)).num ∧ (ks[i]'(hl ▸ hi)).str.size ≤ maxLen) ∧ ∃ L, At8r arr i (ks[i]'(hl ▸ hi)) K N Z X D L H ∧ TPar w par (g, i) (vs[i]) (vV K N Z X D L H) := by
        intro i
        by_cases hlt : i < vs.length
        · obtain ⟨y, k', n', s', x', ks', vs', A', c', hy, ht, hyb, hc, htp⟩ := hi i hlt
          have ey : ks[i]'(hl ▸ hlt) = y := by rw [List.getElem?_eq_getElem (hl ▸ hlt)] at hy; exact Option.some.inj hy
          have et : vs[i] = .mk k' n' s' x' ks' vs' := by rw [List.getElem?_eq_getElem hlt] at ht; exact Option.some.inj ht
          exact ⟨k', n', x', s', A', c', fun _ => by rw [ey, et]; exact ⟨hyb, _, hc, htp⟩⟩
        · exact ⟨0, 0, 0, ⟨#[]⟩, none, 0, fun h => absurd h hlt⟩
      refine ⟨fun i => (each i).choose, fun i => (each i).choose_spec.choose, fun i => (each i).choose_spec.choose_spec.choose, fun i => (each i).choose_spec.choose_spec.choose_spec.choose, fun i => (each i).choose_spec.choose_spec.choose_spec.choose_spec.choose, fun i => (each i).choose_spec.choose_spec.choose_spec.choose_spec.choose_spec.choose, fun i hi => ?_⟩
      exact (each i).choose_spec.choose_spec.choose_spec.choose_spec.choose_spec.choose_spec hi
    obtain ⟨K, N, X, Z, D, H, hp2⟩ := pick
    refine .mk here k n s x ks vs A c g arr K N X Z D H hk hl (by omega) hcap (fun _ => ⟨hA, hp, hlt, hb, hs⟩) (fun i hi => ⟨(hp2 i hi).1, ?_⟩) (fun i hi L hL => ?_)
    · obtain ⟨L, h1, _⟩ := (hp2 i hi).2
      exact ⟨L, h1⟩
    · obtain ⟨L', h1, h2⟩ := (hp2 i hi).2
      obtain ⟨-, -, -, -, -, -, rfl, -⟩ := at8r_inj hL h1
      exact h2
  · exact .mk here k n s x ks vs A c 0 #[] (fun _ => 0) (fun _ => 0) (fun _ => 0) (fun _ => ⟨#[]⟩) (fun _ => none) (fun _ => 0) hk hl (by omega) hcap (fun h => absurd h h0) (fun i hi => absurd hi (by omega)) (fun i hi => absurd hi (by omega))

/-- The blocks that hang, over others or not, at item h.2 of block h.1. -/
inductive Hang (par : Nat → Nat × Nat) (h : Nat × Nat) : Nat → Prop
  | root (b : Nat) (e : par b = h) (hlt : h.1 < b) : Hang par h b
  | step (b g i : Nat) (e : par b = (g, i)) (hlt : g < b) (hh : Hang par h g) : Hang par h b
theorem Hang.gt {b : Nat} (h : Hang par here b) : here.1 < b := by
  induction h with
  | root b e hlt => exact hlt
  | step b g i e hlt hh ih => omega
theorem Hang.sub {g i b : Nat} (h : Hang par (g, i) b) (hp : par g = here) (hlt : here.1 < g) : Hang par here b := by
  induction h with
  | root b e hlt' => exact .step b g i e hlt' (.root g hp hlt)
  | step b g' i' e hlt' hh ih => exact .step b g' i' e hlt' ih
theorem Hang.disj {g i j b : Nat} (h : Hang par (g, i) b) (h' : Hang par (g, j) b) : i = j := by
  induction h with
  | root b e hlt =>
    cases h' with
    | root _ e' _ => rw [e] at e'; injection e'
    | step _ g' i' e' hlt' hh => rw [e] at e'; injection e' with e1 e2; subst e1; have := hh.gt; simp at this
  | step b g' i' e hlt hh ih =>
    cases h' with
    | root _ e' _ => rw [e] at e'; injection e' with e1 e2; subst e1; have := hh.gt; simp at this
    | step _ g2 i2 e' hlt' hh' => rw [e] at e'; injection e' with e1 e2; subst e1; exact ih hh'

/-- What hangs there stays. -/
theorem TPar.stays {t : Tr} {v : Value} (h : TPar w par here t v) (hs : ∀ b, Hang par here b → w'.heap[b]? = w.heap[b]?) : TPar w' par here t v := by
  induction h with
  | mk here k n s x ks vs A cap g arr K N X Z D H hk hl hm hcap hg hc ht ih =>
    by_cases h0 : 0 < vs.length
    · obtain ⟨hA, hp, hlt, hb, hs2⟩ := hg h0
      refine .mk here k n s x ks vs A cap g arr K N X Z D H hk hl hm hcap (fun _ => ⟨hA, hp, hlt, (hs g (.root g hp hlt)).trans hb, hs2⟩) hc (fun i hi L hL => ih i hi L hL fun b hb => hs b (hb.sub hp hlt))
    · exact .mk here k n s x ks vs A cap g arr K N X Z D H hk hl hm hcap (fun h => absurd h h0) hc (fun i hi => absurd hi (by omega))
/-- .. and what hangs there exists. -/
theorem TPar.above {t : Tr} {v : Value} (h : TPar w par here t v) (hs : ∀ b, here.1 < b → b < w.heap.size → w'.heap[b]? = w.heap[b]?) : TPar w' par here t v := by
  induction h with
  | mk here k n s x ks vs A cap g arr K N X Z D H hk hl hm hcap hg hc ht ih =>
    by_cases h0 : 0 < vs.length
    · obtain ⟨hA, hp, hlt, hb, hs2⟩ := hg h0
      refine .mk here k n s x ks vs A cap g arr K N X Z D H hk hl hm hcap (fun _ => ⟨hA, hp, hlt, (hs g hlt (Array.getElem?_eq_some_iff.1 hb).1).trans hb, hs2⟩) hc (fun i hi L hL => ih i hi L hL fun b hb hb' => hs b (Nat.lt_trans hlt hb) hb')
    · exact .mk here k n s x ks vs A cap g arr K N X Z D H hk hl hm hcap (fun h => absurd h h0) hc (fun i hi => absurd hi (by omega))
/-- par matters for the blocks that are there alone. -/
theorem TPar.par_ {par' : Nat → Nat × Nat} {t : Tr} {v : Value} (h : TPar w par here t v) (hs : ∀ b, b < w.heap.size → par' b = par b) : TPar w par' here t v := by
  induction h with
  | mk here k n s x ks vs A cap g arr K N X Z D H hk hl hm hcap hg hc ht ih =>
    by_cases h0 : 0 < vs.length
    · obtain ⟨hA, hp, hlt, hb, hs2⟩ := hg h0
      refine .mk here k n s x ks vs A cap g arr K N X Z D H hk hl hm hcap (fun _ => ⟨hA, (hs g (Array.getElem?_eq_some_iff.1 hb).1).trans hp, hlt, hb, hs2⟩) hc ih
    · exact .mk here k n s x ks vs A cap g arr K N X Z D H hk hl hm hcap (fun h => absurd h h0) hc (fun i hi => absurd hi (by omega))
/-- Other words at the head. -/
theorem TPar.head {k n x k' n' x' : Int} {s s' : ByteArray} {ks : List Ky} {vs : List Tr} {A : Option Addr} {L c : Nat} (h : TPar w par here (.mk k n s x ks vs) (vV k n s x A L c)) (hk : I64 k' ∧ I64 n' ∧ I64 x' ∧ s'.size ≤ maxLen) :
    TPar w par here (.mk k' n' s' x' ks vs) (vV k' n' s' x' A L c) := by
  obtain ⟨A', c', e, -, h2, h3, h4⟩ := h.out
  simp [vV] at e
  obtain ⟨rfl, rfl, rfl⟩ := e
  exact TPar.of hk h2 h3 h4

theorem TPar.tin {t : Tr} {v : Value} (h : TPar w par here t v) : TIn w (Nw (here.1 + 1) w) t v := by
  induction h with
  | mk here k n s x ks vs A cap g arr K N X Z D H hk hl hm hcap hg hc ht ih =>
    by_cases h0 : 0 < vs.length
    · obtain ⟨hA, hp, hlt, hb, hs2⟩ := hg h0
      have each : ∀ i (hi : i < vs.length), ∃ L, At8r arr i (ks[i]'(hl ▸ hi)) (K i) (N i) (Z i) (X i) (D i) L (H i) := fun i hi => (hc i hi).2
      refine .mk k n s x ks vs A cap (fun i => if hi : i < vs.length then #[.int .i64 (K i), .int .i64 (N i), .string (Z i), .int .i64 (X i), .slice (D i) (each i hi).choose (H i)] else #[]) hk hl hm hcap (fun i hi => ?_) (fun i hi => ?_)
      · have hL := (each i hi).choose_spec
        have at_ : ∀ q, q < 8 → w.cell? ((⟨g, 0, none⟩ : Addr).add (8 * i + q)) = (eV (ks[i]'(hl ▸ hi)) (K i) (N i) (Z i) (X i) (D i) (each i hi).choose (H i)).cells[q]? := fun q hq => by
          rw [Addr.add_lit, Nat.zero_add, cell_of_row w g _ arr IE _ hb, ← hL q hq, Nat.mul_comm]
        refine ⟨⟨g, 0, none⟩, hA, ⟨hlt, arr, IE, hb⟩, ⟨at_ 0 (by omega), at_ 1 (by omega), at_ 2 (by omega), (hc i hi).1⟩, by simp only [dif_pos hi]; rfl, fun j hj => ?_⟩
        rw [at_ (3 + j) (by omega)]
        simp only [dif_pos hi]
        match j, hj with
        | 0, _ => rfl
        | 1, _ => rfl
        | 2, _ => rfl
        | 3, _ => rfl
        | 4, _ => rfl
      · simp only [dif_pos hi]
        exact (ih i hi _ (each i hi).choose_spec).stays (fun b hb => ⟨by have := hb.1; simp at this; omega, hb.2⟩) (fun b _ _ => rfl)
    · exact .mk k n s x ks vs A cap (fun _ => #[]) hk hl hm hcap (fun i hi => absurd hi (by omega)) (fun i hi => absurd hi (by omega))
end

end Go.Proofs.YtlbkbcafkjgckaaDoor.tree

/-
  Items that a call appends one by one: a row of its own.
  Conditions: those that each theorem names.
-/
namespace Go.Proofs.YtlbkbcafkjgckaaDoor.tree
open Go.ChangeShapes Go.WideShapes Go.ChangeAt Go.RowKit
set_option linter.unusedVariables false

/-- lo or above, and not the row's own block. -/
def SX (lo : Nat) (v : Value) (b : Nat) : Prop := lo ≤ b ∧ v.ownBlock ≠ some b
def xAt8 (xs : List Value) (i : Nat) (y : Ky) (k n : Int) (s : ByteArray) (x : Int) (A : Option Addr) (L c : Nat) : Prop := ∀ q, q < 8 → xs[i * 8 + q]? = (eV y k n s x A L c).cells[q]?
def ORowX (w : World) (lo : Nat) (v : Value) (xs : List Value) (ks : List Ky) (vs : List Tr) : Prop :=
  w.ownsRow lo IE 8 v vs.length xs ∧ ks.length = vs.length ∧ ∀ i, i < vs.length → ∃ y k n s x ks' vs' A c, ks[i]? = some y ∧ vs[i]? = some (.mk k n s x ks' vs') ∧ (I64 y.num ∧ y.str.size ≤ maxLen) ∧
    xAt8 xs i y k n s x A vs'.length c ∧ TIn w (SX lo v) (.mk k n s x ks' vs') (vV k n s x A vs'.length c)
def ORow (w : World) (lo : Nat) (v : Value) (ks : List Ky) (vs : List Tr) : Prop := ∃ xs, ORowX w lo v xs ks vs

section
variable {w w' : World} {lo : Nat} {v : Value} {ks : List Ky} {vs : List Tr}
theorem ORow.nil (w : World) (lo : Nat) : ORow w lo (.slice none 0 0) [] [] := ⟨[], World.ownsRow_nil w lo _ 8, rfl, fun i hi => absurd hi (by simp)⟩
theorem ownBlock_keep {v : Value} : v.ownBlock = none ∨ v.ownBlock ≠ (none : Option Nat) := by
  cases e : v.ownBlock with
  | none => exact .inl rfl
  | some k => exact .inr (by simp)
theorem ORowX.below {xs : List Value} (h : ORowX w lo v xs ks vs) (hb : Below w.heap.size w w') : ORowX w' lo v xs ks vs := by
  obtain ⟨h1, h2, h3⟩ := h
  refine ⟨World.ownsRow.kept h1 (mem.none_of_below hb) ownBlock_keep, h2, fun i hi => ?_⟩
  obtain ⟨y, k, n, s, x, ks', vs', A, c, a1, a2, a3, a4, a5⟩ := h3 i hi
  exact ⟨y, k, n, s, x, ks', vs', A, c, a1, a2, a3, a4, a5.below' hb⟩
theorem ORow.below (h : ORow w lo v ks vs) (hb : Below w.heap.size w w') : ORow w' lo v ks vs := by
  obtain ⟨xs, h⟩ := h
  exact ⟨xs, h.below hb⟩
theorem ORowX.above {xs : List Value} (h : ORowX w lo v xs ks vs) (hs : ∀ b, lo ≤ b → b < w.heap.size → w'.heap[b]? = w.heap[b]?) : ORowX w' lo v xs ks vs := by
  obtain ⟨h1, h2, h3⟩ := h
  refine ⟨⟨h1.1, ?_⟩, h2, fun i hi => ?_⟩
  · rcases h1.2 with h | ⟨g, cap, cur, e, hlo, hg, hr⟩
    · exact .inl h
    · exact .inr ⟨g, cap, cur, e, hlo, (hs g hlo (Array.getElem?_eq_some_iff.1 hg).1).trans hg, hr⟩
  · obtain ⟨y, k, n, s, x, ks', vs', A, c, a1, a2, a3, a4, a5⟩ := h3 i hi
    exact ⟨y, k, n, s, x, ks', vs', A, c, a1, a2, a3, a4, a5.stays (fun _ h => h) fun b hb hlt => hs b hb.1 hlt⟩
theorem ORow.above (h : ORow w lo v ks vs) (hs : ∀ b, lo ≤ b → b < w.heap.size → w'.heap[b]? = w.heap[b]?) : ORow w' lo v ks vs := by
  obtain ⟨xs, h⟩ := h
  exact ⟨xs, h.above hs⟩
theorem ORow.block (h : ORow w lo v ks vs) : ∀ k, v.ownBlock = some k → lo ≤ k ∧ k < w.heap.size := by
  obtain ⟨xs, h1, -⟩ := h
  exact h1.lt

/-- One more. -/
theorem ORowX.more {xs : List Value} (h : ORowX w lo v xs ks vs)
    {y : Ky} {k n x : Int} {s : ByteArray} {ks' : List Ky} {vs' : List Tr} {A : Option Addr} {c : Nat} (hy : I64 y.num ∧ y.str.size ≤ maxLen) (ht : TIn w (SX lo v) (.mk k n s x ks' vs') (vV k n s x A vs'.length c))
    {v' : Value} (ho : w'.ownsRow lo IE 8 v' (vs.length + 1) (xs ++ [.bool y.text, .int .i64 y.num, .string y.str, .int .i64 k, .int .i64 n, .string s, .int .i64 x, .slice A vs'.length c])) (hg : w.grownBy w' v.ownBlock) (hat : v'.ownBlock = v.ownBlock ∨ v'.ownBlock = some w.heap.size) :
    ORow w' lo v' (ks ++ [y]) (vs ++ [.mk k n s x ks' vs']) := by
  obtain ⟨h1, h2, h3⟩ := h
  have hxl : xs.length = vs.length * 8 := h1.1
  have st : ∀ {t : Tr} {u : Value}, TIn w (SX lo v) t u → TIn w' (SX lo v') t u := fun {t u} h => by
    have h' : TIn w (fun b => SX lo v b ∧ b < w.heap.size) t u := by
      induction h with
      | mk k n s x ks vs A cap C hk hl hm hcap hc ht ih =>
        refine .mk k n s x ks vs A cap C hk hl hm hcap (fun i hi => ?_) ih
        obtain ⟨a, ha, hS, hky, hs, hj⟩ := hc i hi
        refine ⟨a, ha, ⟨hS, ?_⟩, hky, hs, hj⟩
        have := World.block_lt_of_cell? _ _ hky.1
        rwa [mem.add_block] at this
    exact h'.stays (fun b ⟨⟨hb1, hb2⟩, hb3⟩ => ⟨hb1, fun e => by
      rcases hat with h | h
      · exact hb2 (h ▸ e)
      · rw [h] at e; injection e with e; omega⟩) (fun b ⟨⟨hb1, hb2⟩, hb3⟩ hlt => hg.block b hlt (fun e => hb2 e.symm))
  refine ⟨_, by rw [List.length_append]; exact ho, by rw [List.length_append, List.length_append, h2]; rfl, fun i hi => ?_⟩
  rw [List.length_append] at hi
  simp only [List.length_cons, List.length_nil] at hi
  by_cases e : i = vs.length
  · subst e
    refine ⟨y, k, n, s, x, ks', vs', A, c, by rw [List.getElem?_append_right (by omega), h2]; simp, by rw [List.getElem?_append_right (by omega)]; simp, hy, fun q hq => ?_, st ht⟩
    rw [List.getElem?_append_right (by omega), hxl, Nat.add_sub_cancel_left]
    match q, hq with
    | 0, _ => rfl
    | 1, _ => rfl
    | 2, _ => rfl
    | 3, _ => rfl
    | 4, _ => rfl
    | 5, _ => rfl
    | 6, _ => rfl
    | 7, _ => rfl
  · obtain ⟨y1, k1, n1, s1, x1, ks1, vs1, A1, c1, a1, a2, a3, a4, a5⟩ := h3 i (by omega)
    refine ⟨y1, k1, n1, s1, x1, ks1, vs1, A1, c1, by rw [List.getElem?_append_left (by omega)]; exact a1, by rw [List.getElem?_append_left (by omega)]; exact a2, a3, fun q hq => ?_, st a5⟩
    rw [List.getElem?_append_left (by omega)]
    exact a4 q hq

theorem ORow.isin (h : ORow w lo v ks vs) (hm : vs.length ≤ maxLen) : ∃ A c, v = .slice A vs.length c ∧ (vs.length ≤ c ∧ c ≤ maxLen) ∧ IsIn w (fun b => lo ≤ b) ks vs A := by
  obtain ⟨xs, h1, h2, h3⟩ := h
  rcases h1.2 with ⟨rfl, h0⟩ | ⟨g, cap, cur, rfl, hlo, hg, hnc, hcm, hsz, htk⟩
  · obtain rfl : vs = [] := List.length_eq_zero_iff.1 h0
    obtain rfl : ks = [] := List.length_eq_zero_iff.1 h2
    exact ⟨none, 0, rfl, ⟨by simp, by simp⟩, IsIn.nil _ _ _⟩
  · refine ⟨some ⟨g, 0, none⟩, cap, rfl, ⟨hnc, hcm⟩, h2, hm, ?_⟩
    have each : ∀ i, ∃ C : Array Value, ∀ (hi : i < vs.length), KyAt w ⟨g, 0, none⟩ i (ks[i]'(h2 ▸ hi)) ∧ C.size = 5 ∧ (∀ j, j < 5 → w.cell? ((⟨g, 0, none⟩ : Addr).add (8 * i + (3 + j))) = C[j]?) ∧ TIn w (fun b => lo ≤ b) (vs[i]) (.agg C) := by
      intro i
      by_cases hi : i < vs.length
      · obtain ⟨y, k, n, s, x, ks', vs', A, c, hy, ht, hyb, hat, hT⟩ := h3 i hi
        have ey : ks[i]'(h2 ▸ hi) = y := by rw [List.getElem?_eq_getElem (h2 ▸ hi)] at hy; exact Option.some.inj hy
        have et : vs[i] = .mk k n s x ks' vs' := by rw [List.getElem?_eq_getElem hi] at ht; exact Option.some.inj ht
        have at_ : ∀ q, q < 8 → w.cell? ((⟨g, 0, none⟩ : Addr).add (8 * i + q)) = (eV y k n s x A vs'.length c).cells[q]? := fun q hq => by
          rw [Addr.add_lit, Nat.zero_add, cell_of_row w g _ cur IE _ hg, ← hat q hq, ← htk, List.getElem?_take_of_lt (by omega), Nat.mul_comm]
          simp
        refine ⟨#[.int .i64 k, .int .i64 n, .string s, .int .i64 x, .slice A vs'.length c], fun _ => ?_⟩
        rw [ey, et]
        refine ⟨⟨at_ 0 (by omega), at_ 1 (by omega), at_ 2 (by omega), hyb⟩, rfl, fun j hj => ?_, hT.stays (fun b hb => hb.1) (fun b _ _ => rfl)⟩
        rw [at_ (3 + j) (by omega)]
        match j, hj with
        | 0, _ => rfl
        | 1, _ => rfl
        | 2, _ => rfl
        | 3, _ => rfl
        | 4, _ => rfl
      · exact ⟨#[], fun h => absurd h hi⟩
    exact ⟨fun i => (each i).choose, fun i hi => ⟨_, rfl, hlo, ((each i).choose_spec hi).1, ((each i).choose_spec hi).2.1, ((each i).choose_spec hi).2.2.1⟩, fun i hi => ((each i).choose_spec hi).2.2.2⟩
end

theorem addr_far {N j : Nat} (h : N < j) (o : Nat) : ∀ p : Addr, p.block < N + 1 → (⟨j, o, none⟩ : Addr) ≠ p := fun p hp e => by
  rw [← e] at hp
  simp only at hp
  omega
theorem ie_info : ∃ i, Tryd.prog.info? IE = some i ∧ (i.zero = some (.agg #[.bool false, .int .i64 0, .string ⟨#[]⟩, .int .i64 0, .int .i64 0, .string ⟨#[]⟩, .int .i64 0, .slice none 0 0]) ∧ i.size = 8 ∧ i.bytes = 96) := by
  have := ieRow
  cases hq : Tryd.prog.info? IE with
  | none => rw [hq] at this; cases this
  | some i => rw [hq] at this; simp at this; exact ⟨i, rfl, this⟩
theorem eight_one (b : Bool) (n : Int) (s : ByteArray) (k m : Int) (z : ByteArray) (x : Int) (A : Option Addr) (L c : Nat) : ∀ u ∈ [Value.bool b, .int .i64 n, .string s, .int .i64 k, .int .i64 m, .string z, .int .i64 x, .slice A L c], u.oneCell' = true := by simp [Value.oneCell']
theorem eight_new (w : World) (c0 c1 c2 c3 c4 c5 c6 c7 : Value) (t : TypeId) : ∀ j u, [c0, c1, c2, c3, c4, c5, c6, c7][j]? = some u → (w.alloc (.cells #[c0, c1, c2, c3, c4, c5, c6, c7] t)).cell? ((⟨w.heap.size, 0, none⟩ : Addr).add j) = some u := by
  intro j u hj
  rw [Addr.add_lit, Nat.zero_add, cell_of_row _ _ j _ t _ (heap_alloc_new w _)]
  simpa using hj

end Go.Proofs.YtlbkbcafkjgckaaDoor.tree

/-
  Items in a row of the call's own, all of whose blocks satisfy P.
  Conditions: those that each theorem names.
-/
namespace Go.Proofs.YtlbkbcafkjgckaaDoor.tree
open Go.ChangeShapes Go.WideShapes Go.ChangeAt Go.RowKit
set_option linter.unusedVariables false

def OwR (w : World) (P : Nat → Prop) (v : Value) (xs : List Value) (ks : List Ky) (vs : List Tr) : Prop :=
  w.ownsRow 0 IE 8 v vs.length xs ∧ (∀ b, v.ownBlock = some b → P b) ∧ ks.length = vs.length ∧ ∀ i, i < vs.length → ∃ y k n s x ks' vs' A c, ks[i]? = some y ∧ vs[i]? = some (.mk k n s x ks' vs') ∧ (I64 y.num ∧ y.str.size ≤ maxLen) ∧
    xAt8 xs i y k n s x A vs'.length c ∧ TIn w (fun b => P b ∧ v.ownBlock ≠ some b) (.mk k n s x ks' vs') (vV k n s x A vs'.length c)

section
variable {w w' : World} {P P' : Nat → Prop} {v : Value} {xs : List Value} {ks : List Ky} {vs : List Tr}
theorem OwR.of {lo : Nat} (h : ORowX w lo v xs ks vs) : OwR w (fun b => lo ≤ b ∧ b < w.heap.size) v xs ks vs := by
  have hb := ORow.block (lo := lo) (ks := ks) (vs := vs) ⟨xs, h⟩
  obtain ⟨h1, h2, h3⟩ := h
  refine ⟨⟨h1.1, h1.2.imp id fun ⟨g, cap, cur, e, hlo, r⟩ => ⟨g, cap, cur, e, Nat.zero_le _, r⟩⟩, hb, h2, fun i hi => ?_⟩
  obtain ⟨y, k, n, s, x, ks', vs', A, c, a1, a2, a3, a4, a5⟩ := h3 i hi
  refine ⟨y, k, n, s, x, ks', vs', A, c, a1, a2, a3, a4, ?_⟩
  have h' : TIn w (fun b => SX lo v b ∧ b < w.heap.size) (.mk k n s x ks' vs') (vV k n s x A vs'.length c) := by
    generalize (Tr.mk k n s x ks' vs') = t at a5
    generalize (vV k n s x A vs'.length c) = u at a5
    clear a1 a2 a4
    induction a5 with
    | mk k n s x ks vs A cap C hk hl hm hcap hc ht ih =>
      refine .mk k n s x ks vs A cap C hk hl hm hcap (fun i hi => ?_) ih
      obtain ⟨a, ha, hS, hky, hs, hj⟩ := hc i hi
      refine ⟨a, ha, ⟨hS, ?_⟩, hky, hs, hj⟩
      have := World.block_lt_of_cell? _ _ hky.1
      rwa [mem.add_block] at this
  exact h'.stays (fun b hb => ⟨⟨hb.1.1, hb.2⟩, hb.1.2⟩) (fun _ _ _ => rfl)
theorem OwR.mono (h : OwR w P v xs ks vs) (hP : ∀ b, P b → P' b) : OwR w P' v xs ks vs := by
  obtain ⟨h1, h0, h2, h3⟩ := h
  refine ⟨h1, fun b e => hP b (h0 b e), h2, fun i hi => ?_⟩
  obtain ⟨y, k, n, s, x, ks', vs', A, c, a1, a2, a3, a4, a5⟩ := h3 i hi
  exact ⟨y, k, n, s, x, ks', vs', A, c, a1, a2, a3, a4, a5.stays (fun b hb => ⟨hP b hb.1, hb.2⟩) (fun _ _ _ => rfl)⟩
theorem OwR.keep (h : OwR w P v xs ks vs) (hs : ∀ b, P b → b < w.heap.size → w'.heap[b]? = w.heap[b]?) : OwR w' P v xs ks vs := by
  obtain ⟨h1, h0, h2, h3⟩ := h
  refine ⟨⟨h1.1, ?_⟩, h0, h2, fun i hi => ?_⟩
  · rcases h1.2 with h | ⟨g, cap, cur, e, hlo, hg, hr⟩
    · exact .inl h
    · exact .inr ⟨g, cap, cur, e, hlo, (hs g (h0 g (by rw [e]; rfl)) (Array.getElem?_eq_some_iff.1 hg).1).trans hg, hr⟩
  · obtain ⟨y, k, n, s, x, ks', vs', A, c, a1, a2, a3, a4, a5⟩ := h3 i hi
    exact ⟨y, k, n, s, x, ks', vs', A, c, a1, a2, a3, a4, a5.stays (fun _ h => h) fun b hb hlt => hs b hb.1 hlt⟩
theorem OwR.below (h : OwR w P v xs ks vs) (hb : Below w.heap.size w w') : OwR w' P v xs ks vs := h.keep fun b _ hl => hb.block b hl
theorem OwR.row (h : OwR w P v xs ks vs) : ORow w 0 v ks vs := by
  obtain ⟨h1, h0, h2, h3⟩ := h
  refine ⟨xs, h1, h2, fun i hi => ?_⟩
  obtain ⟨y, k, n, s, x, ks', vs', A, c, a1, a2, a3, a4, a5⟩ := h3 i hi
  exact ⟨y, k, n, s, x, ks', vs', A, c, a1, a2, a3, a4, a5.stays (fun b hb => ⟨Nat.zero_le _, hb.2⟩) (fun _ _ _ => rfl)⟩
theorem OwR.isin (h : OwR w P v xs ks vs) (hm : vs.length ≤ maxLen) : ∃ A c, v = .slice A vs.length c ∧ (vs.length ≤ c ∧ c ≤ maxLen) ∧ IsIn w (fun b => 0 ≤ b) ks vs A := h.row.isin hm

/-- One more. -/
theorem OwR.more {Q : Nat → Prop} (h : OwR w P v xs ks vs)
    {y : Ky} {k n x : Int} {s : ByteArray} {ks' : List Ky} {vs' : List Tr} {A : Option Addr} {c : Nat} (hy : I64 y.num ∧ y.str.size ≤ maxLen) (ht : TIn w Q (.mk k n s x ks' vs') (vV k n s x A vs'.length c)) (hQ : ∀ b, Q b → v.ownBlock ≠ some b)
    {v' : Value} (ho : w'.ownsRow 0 IE 8 v' (vs.length + 1) (xs ++ [.bool y.text, .int .i64 y.num, .string y.str, .int .i64 k, .int .i64 n, .string s, .int .i64 x, .slice A vs'.length c])) (hg : w.grownBy w' v.ownBlock) (hat : v'.ownBlock = v.ownBlock ∨ v'.ownBlock = some w.heap.size) :
    OwR w' (fun b => ((P b ∧ v.ownBlock ≠ some b) ∨ Q b) ∨ v'.ownBlock = some b) v' (xs ++ [.bool y.text, .int .i64 y.num, .string y.str, .int .i64 k, .int .i64 n, .string s, .int .i64 x, .slice A vs'.length c]) (ks ++ [y]) (vs ++ [.mk k n s x ks' vs']) := by
  obtain ⟨h1, h0, h2, h3⟩ := h
  have hxl : xs.length = vs.length * 8 := h1.1
  have st : ∀ {t : Tr} {u : Value} {R : Nat → Prop}, (∀ b, R b → v.ownBlock ≠ some b) → (∀ b, R b → (P b ∧ v.ownBlock ≠ some b) ∨ Q b) → TIn w R t u → TIn w' (fun b => (((P b ∧ v.ownBlock ≠ some b) ∨ Q b) ∨ v'.ownBlock = some b) ∧ v'.ownBlock ≠ some b) t u := fun {t u R} hR1 hR2 h => by
    have h' : TIn w (fun b => R b ∧ b < w.heap.size) t u := by
      induction h with
      | mk k n s x ks vs A cap C hk hl hm hcap hc ht ih =>
        refine .mk k n s x ks vs A cap C hk hl hm hcap (fun i hi => ?_) ih
        obtain ⟨a, ha, hS, hky, hs, hj⟩ := hc i hi
        refine ⟨a, ha, ⟨hS, ?_⟩, hky, hs, hj⟩
        have := World.block_lt_of_cell? _ _ hky.1
        rwa [mem.add_block] at this
    exact h'.stays (fun b ⟨hb1, hb3⟩ => ⟨.inl (hR2 b hb1), fun e => by
      rcases hat with h | h
      · exact hR1 b hb1 (h ▸ e)
      · rw [h] at e; injection e with e; omega⟩) (fun b ⟨hb1, hb3⟩ hlt => hg.block b hlt (fun e => hR1 b hb1 e.symm))
  refine ⟨by rw [List.length_append]; exact ho, fun b e => .inr e, by rw [List.length_append, List.length_append, h2]; rfl, fun i hi => ?_⟩
  rw [List.length_append] at hi
  simp only [List.length_cons, List.length_nil] at hi
  by_cases e : i = vs.length
  · subst e
    refine ⟨y, k, n, s, x, ks', vs', A, c, by rw [List.getElem?_append_right (by omega), h2]; simp, by rw [List.getElem?_append_right (by omega)]; simp, hy, fun q hq => ?_, st hQ (fun b hb => .inr hb) ht⟩
    rw [List.getElem?_append_right (by omega), hxl, Nat.add_sub_cancel_left]
    match q, hq with
    | 0, _ => rfl
    | 1, _ => rfl
    | 2, _ => rfl
    | 3, _ => rfl
    | 4, _ => rfl
    | 5, _ => rfl
    | 6, _ => rfl
    | 7, _ => rfl
  · obtain ⟨y1, k1, n1, s1, x1, ks1, vs1, A1, c1, a1, a2, a3, a4, a5⟩ := h3 i (by omega)
    refine ⟨y1, k1, n1, s1, x1, ks1, vs1, A1, c1, by rw [List.getElem?_append_left (by omega)]; exact a1, by rw [List.getElem?_append_left (by omega)]; exact a2, a3, fun q hq => ?_, st (fun b hb => hb.2) (fun b hb => .inl hb) a5⟩
    rw [List.getElem?_append_left (by omega)]
    exact a4 q hq

theorem OwR.isinP (h : OwR w P v xs ks vs) (hm : vs.length ≤ maxLen) : ∃ A c, v = .slice A vs.length c ∧ (vs.length ≤ c ∧ c ≤ maxLen) ∧ IsIn w P ks vs A := by
  obtain ⟨h1, h0, h2, h3⟩ := h
  rcases h1.2 with ⟨rfl, h0'⟩ | ⟨g, cap, cur, rfl, hlo, hg, hnc, hcm, hsz, htk⟩
  · obtain rfl : vs = [] := List.length_eq_zero_iff.1 h0'
    obtain rfl : ks = [] := List.length_eq_zero_iff.1 h2
    exact ⟨none, 0, rfl, ⟨by simp, by simp⟩, IsIn.nil _ _ _⟩
  · refine ⟨some ⟨g, 0, none⟩, cap, rfl, ⟨hnc, hcm⟩, h2, hm, ?_⟩
    have each : ∀ i, ∃ C : Array Value, ∀ (hi : i < vs.length), KyAt w ⟨g, 0, none⟩ i (ks[i]'(h2 ▸ hi)) ∧ C.size = 5 ∧ (∀ j, j < 5 → w.cell? ((⟨g, 0, none⟩ : Addr).add (8 * i + (3 + j))) = C[j]?) ∧ TIn w P (vs[i]) (.agg C) := by
      intro i
      by_cases hi : i < vs.length
      · obtain ⟨y, k, n, s, x, ks', vs', A, c, hy, ht, hyb, hat, hT⟩ := h3 i hi
        have ey : ks[i]'(h2 ▸ hi) = y := by rw [List.getElem?_eq_getElem (h2 ▸ hi)] at hy; exact Option.some.inj hy
        have et : vs[i] = .mk k n s x ks' vs' := by rw [List.getElem?_eq_getElem hi] at ht; exact Option.some.inj ht
        have at_ : ∀ q, q < 8 → w.cell? ((⟨g, 0, none⟩ : Addr).add (8 * i + q)) = (eV y k n s x A vs'.length c).cells[q]? := fun q hq => by
          rw [Addr.add_lit, Nat.zero_add, cell_of_row w g _ cur IE _ hg, ← hat q hq, ← htk, List.getElem?_take_of_lt (by omega), Nat.mul_comm]
          simp
        refine ⟨#[.int .i64 k, .int .i64 n, .string s, .int .i64 x, .slice A vs'.length c], fun _ => ?_⟩
        rw [ey, et]
        refine ⟨⟨at_ 0 (by omega), at_ 1 (by omega), at_ 2 (by omega), hyb⟩, rfl, fun j hj => ?_, hT.stays (fun b hb => hb.1) (fun b _ _ => rfl)⟩
        rw [at_ (3 + j) (by omega)]
        match j, hj with
        | 0, _ => rfl
        | 1, _ => rfl
        | 2, _ => rfl
        | 3, _ => rfl
        | 4, _ => rfl
      · exact ⟨#[], fun h => absurd h hi⟩
    exact ⟨fun i => (each i).choose, fun i hi => ⟨_, rfl, h0 g rfl, ((each i).choose_spec hi).1, ((each i).choose_spec hi).2.1, ((each i).choose_spec hi).2.2.1⟩, fun i hi => ((each i).choose_spec hi).2.2.2⟩

/-- Items in a row of the call's own, all of whose blocks are plain and lie at lo or above. -/
def OwP (w : World) (lo : Nat) (v : Value) (xs : List Value) (ks : List Ky) (vs : List Tr) : Prop := OwR w (Nw lo w) v xs ks vs
theorem OwP.nil (w : World) (lo : Nat) : OwP w lo (.slice none 0 0) [] [] [] := ⟨World.ownsRow_nil w 0 _ 8, fun b e => by simp [Value.ownBlock] at e, rfl, fun i hi => absurd hi (by simp)⟩
theorem Plain.same {b : Nat} (h : Plain w b) (hs : w'.heap[b]? = w.heap[b]?) : Plain w' b := by
  obtain ⟨cs, t, hc⟩ := h
  exact ⟨cs, t, hs.trans hc⟩
theorem OwP.above {lo : Nat} (h : OwP w lo v xs ks vs) (hs : ∀ b, lo ≤ b → b < w.heap.size → w'.heap[b]? = w.heap[b]?) : OwP w' lo v xs ks vs :=
  (OwR.keep h fun b hb hl => hs b hb.1 hl).mono fun b hb => ⟨hb.1, hb.2.same (hs b hb.1 hb.2.lt)⟩
theorem OwP.below {lo : Nat} (h : OwP w lo v xs ks vs) (hb : Below w.heap.size w w') : OwP w' lo v xs ks vs := h.above fun b _ hl => hb.block b hl
theorem OwP.mono {lo lo' : Nat} (h : OwP w lo v xs ks vs) (hl : lo' ≤ lo) : OwP w lo' v xs ks vs := OwR.mono h fun b hb => ⟨Nat.le_trans hl hb.1, hb.2⟩
theorem OwP.block {lo : Nat} (h : OwP w lo v xs ks vs) : ∀ k, v.ownBlock = some k → lo ≤ k ∧ k < w.heap.size := fun k e => ⟨(h.2.1 k e).1, (h.2.1 k e).2.lt⟩
theorem OwP.len {lo : Nat} (h : OwP w lo v xs ks vs) : ks.length = vs.length := h.2.2.1
theorem OwP.isin {lo : Nat} (h : OwP w lo v xs ks vs) (hm : vs.length ≤ maxLen) : ∃ A c, v = .slice A vs.length c ∧ (vs.length ≤ c ∧ c ≤ maxLen) ∧ IsIn w (Nw lo w) ks vs A := OwR.isinP h hm
/-- One more, whose blocks are new. -/
theorem OwP.more {lo lq : Nat} (h : OwP w lo v xs ks vs) (hlq : lo ≤ lq) (hvq : ∀ b, v.ownBlock = some b → b < lq)
    {y : Ky} {k n x : Int} {s : ByteArray} {ks' : List Ky} {vs' : List Tr} {A : Option Addr} {c : Nat} (hy : I64 y.num ∧ y.str.size ≤ maxLen) (ht : TIn w (Nw lq w) (.mk k n s x ks' vs') (vV k n s x A vs'.length c))
    {v' : Value} (ho : w'.ownsRow 0 IE 8 v' (vs.length + 1) (xs ++ [.bool y.text, .int .i64 y.num, .string y.str, .int .i64 k, .int .i64 n, .string s, .int .i64 x, .slice A vs'.length c])) (hg : w.grownBy w' v.ownBlock) (hat : v'.ownBlock = v.ownBlock ∨ v'.ownBlock = some w.heap.size) (hlw : lo ≤ w.heap.size) :
    OwP w' lo v' (xs ++ [.bool y.text, .int .i64 y.num, .string y.str, .int .i64 k, .int .i64 n, .string s, .int .i64 x, .slice A vs'.length c]) (ks ++ [y]) (vs ++ [.mk k n s x ks' vs']) := by
  have hm := OwR.more (Q := Nw lq w) h hy ht (fun b hb e => by have := hvq b e; have := hb.1; omega) ho hg hat
  have hown : ∀ b, v'.ownBlock = some b → lo ≤ b ∧ Plain w' b := fun b e => by
    refine ⟨?_, ?_⟩
    · rcases hat with h' | h'
      · exact (OwP.block h b (h' ▸ e)).1
      · rw [h'] at e; injection e with e; omega
    · rcases ho.2 with ⟨rfl, h'⟩ | ⟨g, cap, cur, rfl, hlo, hgc, hr⟩
      · simp [Value.ownBlock] at e
      · simp [Value.ownBlock] at e
        subst e
        exact ⟨cur, IE, hgc⟩
  refine OwR.mono hm fun b hb => ?_
  rcases hb with (⟨hb, hne⟩ | hb) | hb
  · exact ⟨hb.1, hb.2.same (hg.block b hb.2.lt (fun e => hne e.symm))⟩
  · exact ⟨Nat.le_trans hlq hb.1, hb.2.same (hg.block b hb.2.lt (fun e => by have := hvq b e.symm; have := hb.1; omega))⟩
  · exact hown b hb
end

end Go.Proofs.YtlbkbcafkjgckaaDoor.tree

/-
  CompareValues and LooseEqual of the project.
  Conditions: the values hold at most 10^9 items and letters; the table of powers of ten and the project's two errors hold what the program's text lays.
-/
namespace Go.Proofs.YtlbkbcafkjgckaaDoor.tree
open Go.ChangeShapes Go.WideShapes Go.ChangeAt Go.RowKit ers
set_option linter.unusedVariables false

theorem Nw.to {w w' : World} {lo : Nat} (hb : Below w.heap.size w w') {t : Tr} {v : Value} (h : TIn w (Nw lo w) t v) : TIn w' (Nw lo w') t v := h.stays (fun b hb2 => ⟨hb2.1, Plain.same hb2.2 (hb.block b hb2.2.lt)⟩) (fun b hb2 hl => hb.block b hl)

set_option maxHeartbeats 1000000 in
theorem compare_i (t t' : Tr) (hT : tot t ≤ 1000000000) (hT' : tot t' ≤ 1000000000) (w : World) (lo lo' : Nat) (v v' : Value) (hE : CmE w) (h : TIn w (Nw lo w) t v) (h' : TIn w (Nw lo' w) t' v') :
    Calls Tryd.prog 24 #[v, v'] w (GivesQ w (.int .i64 (cmpT t t'))) := by
  have CO := fun w' (hb : Below w.heap.size w w') => compareOutside t t' v v' w' _ _ (h.below' hb) (h'.below' hb) hT hT' (hE.stays hb)
  have hct := cnt_tot t h.fits
  obtain ⟨k, n, s, x, ks, vs⟩ := t
  obtain ⟨k', n', s', x', ks', vs'⟩ := t'
  obtain ⟨A, c, rfl, -, -⟩ := h.out
  obtain ⟨A', c', rfl, -, -⟩ := h'.out
  have CI : k = 4 → k' = 4 → ∀ w' (hb : Below w.heap.size w w'), Calls Tryd.prog 72 #[vV 4 n s x A vs.length c, vV 4 n' s' x' A' vs'.length c'] w' (GivesQ w' (.int .i64 (cmpL ks vs ks' vs'))) := fun h1 h2 w' hb => by
    subst h1 h2
    rw [tot_mk] at hT hT'
    rw [cnt_mk] at hct
    rw [tot_mk] at hct
    exact compareItems n s x ks vs A c n' s' x' ks' vs' A' c' w' lo lo' (Nw.to hb h) (Nw.to hb h') (by omega) (by omega) (by omega) (hE.stays hb)
  obtain ⟨L, HL⟩ : ∃ L, Hid (vs.length = L) := ⟨_, Lib.hid rfl⟩
  obtain ⟨L', HL'⟩ : ∃ L, Hid (vs'.length = L) := ⟨_, Lib.hid rfl⟩
  obtain ⟨z, HZ⟩ : ∃ z, Hid (ordO (.mk k n s x ks vs) (.mk k' n' s' x' ks' vs') = z) := ⟨_, Lib.hid rfl⟩
  obtain ⟨W, HW⟩ : ∃ z, Hid (cmpT (.mk k n s x ks vs) (.mk k' n' s' x' ks' vs') = z) := ⟨_, Lib.hid rfl⟩
  rw [HL.out, HL'.out] at CO CI ⊢
  rw [HZ.out] at CO
  rw [HW.out]
  have HCO := Lib.hid CO
  have HCI := Lib.hid CI
  have AR := Lib.hid (fun w9 => areArrays k n s x A L c k' n' s' x' A' L' c' w9)
  clear h h' hE CO CI hct hT hT'
  go_enter Tryd.func24, Tryd.ntmps24
  go_wp2_with (fail)
  refine (HCO.out _ (b2 w _ _)).mono ?_
  rintro e w1 ⟨rfl, hb1⟩
  have EA := Lib.hid (carry hb1 (heap_alloc2_old w _ _))
  have EB := Lib.hid (carry hb1 (heap_alloc2_new w _ _))
  have HB := Lib.hid (bs (b2 w _ _) hb1)
  clear hb1
  obtain ⟨rA, -⟩ := rowc EA.out
  obtain ⟨rB, -⟩ := rowc EB.out
  by_cases hz : z = 0
  · subst hz
    by_cases h4 : k = 4 ∧ k' = 4
    · obtain ⟨rfl, rfl⟩ := h4
      have h44 : (decide ((4 : Int) = 4) && decide ((4 : Int) = 4)) = true := rfl
      rw [h44] at AR
      have HWC : Hid (cmpL ks vs ks' vs' = W) := Lib.hid (by rw [← HW.out, cmpT_mk, if_pos ⟨HZ.out, rfl, rfl⟩])
      have HC2 := Lib.hid (HCI.out rfl rfl)
      rw [HWC.out] at HC2
      clear h44 HCI
      go_wp2_with (fail)
      refine (AR.out _).mono ?_
      rintro e w2 ⟨rfl, hb2⟩
      have HB2 := Lib.hid (bs HB.out hb2)
      have EA2 := Lib.hid (carry hb2 EA.out)
      have EB2 := Lib.hid (carry hb2 EB.out)
      clear hb2 rA rB
      obtain ⟨rA, -⟩ := rowc EA2.out
      obtain ⟨rB, -⟩ := rowc EB2.out
      go_wp2_with (fail)
      refine (HC2.out _ HB2.out).mono ?_
      rintro e w3 ⟨rfl, hb3⟩
      have HB3 := Lib.hid (bs HB2.out hb3)
      clear hb3
      go_wp2_with (fail)
      go_ret
      exact ⟨rfl, HB3.out⟩
    · have h44 : (decide (k = 4) && decide (k' = 4)) = false := by
        by_cases h5 : k = 4
        · rw [decide_eq_true h5, decide_eq_false (fun h6 => h4 ⟨h5, h6⟩)]; rfl
        · rw [decide_eq_false h5]; rfl
      rw [h44] at AR
      have HWC : Hid (W = 0) := Lib.hid (by rw [← HW.out, cmpT_mk, if_neg (fun h => h4 h.2)]; exact HZ.out)
      clear h44 HCI h4
      go_wp2_with (fail)
      refine (AR.out _).mono ?_
      rintro e w2 ⟨rfl, hb2⟩
      have HB2 := Lib.hid (bs HB.out hb2)
      clear hb2 rA rB
      go_wp2_with (fail)
      go_ret
      exact ⟨by rw [HWC.out]; rfl, HB2.out⟩
  · have HWC : Hid (W = z) := Lib.hid (by rw [← HW.out, cmpT_mk, HZ.out, if_neg (fun h => hz h.1)])
    clear HCI
    go_wp2_with (fail)
    go_ret
    exact ⟨by rw [HWC.out]; rfl, HB.out⟩

theorem loose_i (t t' : Tr) (hT : tot t ≤ 1000000000) (hT' : tot t' ≤ 1000000000) (w : World) (lo lo' : Nat) (v v' : Value) (hE : CmE w) (h : TIn w (Nw lo w) t v) (h' : TIn w (Nw lo' w) t' v') :
    Calls Tryd.prog 25 #[v, v'] w (GivesQ w (.bool (decide (cmpT t t' = 0)))) := by
  have CV := fun w' (hb : Below w.heap.size w w') => compare_i t t' hT hT' w' lo lo' v v' (hE.stays hb) (Nw.to hb h) (Nw.to hb h')
  obtain ⟨k, n, s, x, A, L, c, rfl⟩ : ∃ k n s x A L c, v = vV k n s x A L c := by
    cases h with
    | mk k n s x ks vs A cap C => exact ⟨k, n, s, x, A, _, cap, rfl⟩
  obtain ⟨k', n', s', x', A', L', c', rfl⟩ : ∃ k n s x A L c, v' = vV k n s x A L c := by
    cases h' with
    | mk k n s x ks vs A cap C => exact ⟨k, n, s, x, A, _, cap, rfl⟩
  obtain ⟨z, HZ⟩ : ∃ z, Hid (cmpT t t' = z) := ⟨_, Lib.hid rfl⟩
  rw [HZ.out] at CV ⊢
  have HCV := Lib.hid CV
  clear CV h h' hE
  go_enter Tryd.func25, Tryd.ntmps25
  go_wp2_with (fail)
  refine (HCV.out _ (by first | exact b2 w _ _ | exact Below.refl _ _)).mono ?_
  rintro e w1 ⟨rfl, hb1⟩
  have HB : Hid (Below w.heap.size w w1) := Lib.hid (by first | exact bs (b2 w _ _) hb1 | exact hb1)
  clear hb1
  by_cases hz : z = 0
  · subst hz
    go_wp2_with (fail)
    go_ret
    exact ⟨rfl, HB.out⟩
  · have hd : decide (z = 0) = false := decide_eq_false hz
    rw [hd]
    go_wp2_with (fail)
    go_ret
    exact ⟨by rw [hd, show (z == 0) = false from beq_eq_false_iff_ne.2 hz]; rfl, HB.out⟩

end Go.Proofs.YtlbkbcafkjgckaaDoor.tree

/-
  The laws' marks: what they leave in a value.
  Conditions: those that each theorem names.
-/
namespace Go.Proofs.YtlbkbcafkjgckaaDoor.tree
open Go.ChangeShapes Go.WideShapes Go.ChangeAt Go.RowKit
set_option linter.unusedVariables false

theorem cnts_nil : cnts [] = 0 := by rw [cnts]
theorem cnts_cons' (t : Tr) (vs : List Tr) : cnts (t :: vs) = cnt t + cnts vs := by rw [cnts]
theorem cnt_mk' (k n : Int) (s : ByteArray) (x : Int) (ks : List Ky) (vs : List Tr) : cnt (.mk k n s x ks vs) = 1 + cnts vs := by rw [cnt]
theorem cnts_app : ∀ (a b : List Tr), cnts (a ++ b) = cnts a + cnts b
  | [], b => by rw [cnts_nil]; simp
  | t :: a, b => by rw [List.cons_append, cnts_cons', cnts_cons', cnts_app a b]; omega
theorem cnts_take {vs : List Tr} {j : Nat} {t : Tr} (h : vs[j]? = some t) : cnts (vs.take (j + 1)) = cnts (vs.take j) + cnt t := by
  obtain ⟨hj, rfl⟩ := List.getElem?_eq_some_iff.1 h
  rw [List.take_succ_eq_append_getElem hj, cnts_app, cnts_cons', cnts_nil]
  omega
theorem cnts_le (vs : List Tr) (j : Nat) : cnts (vs.take j) ≤ cnts vs := by
  have := cnts_app (vs.take j) (vs.drop j)
  rw [List.take_append_drop] at this
  omega
theorem cnts_lt {vs : List Tr} {j : Nat} {t : Tr} (h : vs[j]? = some t) : cnts (vs.take j) + cnt t ≤ cnts vs := by
  rw [← cnts_take h]
  exact cnts_le vs (j + 1)

/-- The digits of a number, before a text. -/
def digOf (k : Nat) : ByteArray := ⟨#[UInt8.ofNat (48 + k % 10)]⟩
def mgo : Nat → Nat → ByteArray → ByteArray
  | 0, _, out => out
  | f + 1, k, out => if k = 0 then out else mgo f (k / 10) (digOf k ++ out)
def mtx (k : Int) : ByteArray := "m".toUTF8 ++ mgo 30 k.toNat ⟨#[]⟩

/-- The key and the value that the marks from m on leave. -/
def mkY (m : Int) : Ky := ⟨decide (m % 3 = 0), m + 1, mtx (m + 2)⟩
def mkK (m : Int) : List Tr → List Ky
  | [] => []
  | t :: vs => mkY m :: mkK (m + 7 * cnt t) vs
mutual
def mkT (m : Int) : Tr → Tr
  | .mk _ _ _ _ _ vs => .mk (m + 3) (m + 4) (mtx (m + 5)) (m + 6) (mkK (m + 7) vs) (mkV (m + 7) vs)
def mkV (m : Int) : List Tr → List Tr
  | [] => []
  | t :: vs => mkT m t :: mkV (m + 7 * cnt t) vs
end
theorem mkT_mk (m k n : Int) (s : ByteArray) (x : Int) (ks : List Ky) (vs : List Tr) : mkT m (.mk k n s x ks vs) = .mk (m + 3) (m + 4) (mtx (m + 5)) (m + 6) (mkK (m + 7) vs) (mkV (m + 7) vs) := by rw [mkT]
theorem mkK_len : ∀ (m : Int) (vs : List Tr), (mkK m vs).length = vs.length
  | _, [] => rfl
  | m, t :: vs => by rw [mkK, List.length_cons, mkK_len, List.length_cons]
theorem mkV_len : ∀ (m : Int) (vs : List Tr), (mkV m vs).length = vs.length
  | _, [] => by rw [mkV]
  | m, t :: vs => by rw [mkV, List.length_cons, mkV_len, List.length_cons]
theorem mkK_get : ∀ (m : Int) (vs : List Tr) (j : Nat) (t : Tr), vs[j]? = some t → (mkK m vs)[j]? = some (mkY (m + 7 * cnts (vs.take j)))
  | _, [], j, t, h => by simp at h
  | m, u :: vs, 0, t, h => by simp [mkK, cnts_nil]
  | m, u :: vs, j + 1, t, h => by
    rw [mkK, List.getElem?_cons_succ, mkK_get (m + 7 * cnt u) vs j t (by simpa using h), List.take_succ_cons, cnts_cons']
    congr 2
    push_cast
    omega
theorem mkV_get : ∀ (m : Int) (vs : List Tr) (j : Nat) (t : Tr), vs[j]? = some t → (mkV m vs)[j]? = some (mkT (m + 7 * cnts (vs.take j)) t)
  | _, [], j, t, h => by simp at h
  | m, u :: vs, 0, t, h => by
    simp at h
    subst h
    simp [mkV, cnts_nil]
  | m, u :: vs, j + 1, t, h => by
    rw [mkV, List.getElem?_cons_succ, mkV_get (m + 7 * cnt u) vs j t (by simpa using h), List.take_succ_cons, cnts_cons']
    congr 2
    push_cast
    omega

/-- The first j of one list, then the other. -/
def mix {α : Type} (a b : List α) (j : Nat) : List α := a.take j ++ b.drop j
theorem mix_len {α : Type} {a b : List α} (h : a.length = b.length) (j : Nat) : (mix a b j).length = b.length := by
  unfold mix
  rw [List.length_append, List.length_take, List.length_drop]
  omega
theorem mix_lt {α : Type} {a b : List α} (h : a.length = b.length) {i j : Nat} (hi : i < j) (hj : j ≤ a.length) : (mix a b j)[i]? = a[i]? := by
  unfold mix
  rw [List.getElem?_append_left (by rw [List.length_take]; omega), List.getElem?_take_of_lt hi]
theorem mix_ge {α : Type} {a b : List α} (h : a.length = b.length) {i j : Nat} (hi : j ≤ i) (hj : j ≤ a.length) : (mix a b j)[i]? = b[i]? := by
  unfold mix
  rw [List.getElem?_append_right (by rw [List.length_take]; omega), List.length_take, List.getElem?_drop]
  congr 1
  omega
theorem mix_zero {α : Type} (a b : List α) : mix a b 0 = b := by simp [mix]
theorem mix_all {α : Type} {a b : List α} (h : a.length = b.length) : mix a b b.length = a := by simp [mix, ← h]

def MtQ (w : World) (k : Int) (e : Ending) (w' : World) : Prop := e = .returned (.string (mtx k)) ∧ Below w.heap.size w w'
theorem mgo_size : ∀ (f k : Nat) (out : ByteArray), (mgo f k out).size ≤ f + out.size
  | 0, _, out => by simp [mgo]
  | f + 1, k, out => by
    rw [mgo]
    split
    · omega
    · have := mgo_size f (k / 10) (digOf k ++ out)
      rw [ByteArray.size_append] at this
      have e : (digOf k).size = 1 := rfl
      omega
theorem mtx_size (k : Int) : (mtx k).size ≤ 31 := by
  unfold mtx
  rw [ByteArray.size_append]
  have := mgo_size 30 k.toNat ⟨#[]⟩
  have e : ("m".toUTF8 : ByteArray).size = 1 := by decide
  have e0 : (⟨#[]⟩ : ByteArray).size = 0 := rfl
  omega

end Go.Proofs.YtlbkbcafkjgckaaDoor.tree

/-
  The laws' marks: the text of a mark.
  Conditions: the number is above 0 and at most 10^15.
-/
namespace Go.Proofs.YtlbkbcafkjgckaaDoor.tree
open Go.ChangeShapes Go.WideShapes Go.ChangeAt Go.RowKit mem
set_option linter.unusedVariables false

theorem mgo_step {f q : Nat} (hq : q ≠ 0) (o : ByteArray) : mgo (f + 1) q o = mgo f (q / 10) (digOf q ++ o) := by rw [mgo, if_neg hq]
theorem mgo_zero (f : Nat) (o : ByteArray) : mgo f 0 o = o := by cases f <;> simp [mgo]


end Go.Proofs.YtlbkbcafkjgckaaDoor.tree

/-
  The laws' marks, found again.
  Conditions: those that each theorem names.
-/
namespace Go.Proofs.YtlbkbcafkjgckaaDoor.tree
open Go.ChangeShapes Go.WideShapes Go.ChangeAt Go.RowKit
set_option linter.unusedVariables false

theorem At8.below {w w' : World} (hb : Below w.heap.size w w') {q : Addr} {y : Ky} {k n : Int} {s : ByteArray} {x : Int} {A : Option Addr} {L c : Nat} (h : At8 w q y k n s x A L c) : At8 w' q y k n s x A L c := by
  have e : ∀ (a : Addr) (u : Value), w.cell? a = some u → w'.cell? a = some u := fun a u hu => cell_stays (fun hlt => hb.block _ hlt) hu
  exact ⟨e _ _ h.c0, e _ _ h.c1, e _ _ h.c2, e _ _ h.c3, e _ _ h.c4, e _ _ h.c5, e _ _ h.c6, e _ _ h.c7⟩



end Go.Proofs.YtlbkbcafkjgckaaDoor.tree

/-
  The model's look at a key.
  Conditions: none.
-/
namespace Go.Proofs.YtlbkbcafkjgckaaDoor.tree
open Go.ChangeShapes Go.WideShapes Go.ChangeAt Go.RowKit
set_option linter.unusedVariables false

set_option maxHeartbeats 800000 in
theorem l6Get_s (t : Tr) (v : Value) (y : Ky) (w : World) (S : Nat → Prop) (h : TIn w S t v) : Calls Tryd.prog 132 #[v, kyV y] w (OutT w (getR t y) (getB t y) S) := by
  obtain ⟨k, n, s, x, ks, vs⟩ := t
  obtain ⟨A, c, rfl, -, hin⟩ := h.out
  have FI := fun w h => findV_s (.mk k n s x ks vs) (vV k n s x A vs.length c) y w S h
  obtain ⟨L, HL⟩ : ∃ L, Hid (L = vs.length) := ⟨_, Lib.hid rfl⟩
  have hm : L ≤ maxLen := by rw [HL.out]; exact hin.2.1
  unfold maxLen at hm
  have hkl : Hid (ks.length = L) := Lib.hid (by rw [HL.out]; exact hin.1)
  rw [← HL.out] at h FI ⊢
  have HT := Lib.hid h
  have HI := Lib.hid hin
  clear h hin
  rcases posV_cases k n s x ks vs y with hp | ⟨i, hp, hi, rfl⟩
  · have e1 : getR (.mk k n s x ks vs) y = nullT := by unfold getR; rw [getT_none hp]; rfl
    have e2 : getB (.mk k n s x ks vs) y = false := by unfold getB; rw [getT_none hp]; rfl
    rw [e1, e2]
    rw [hp] at FI
    have HF := Lib.hid FI
    clear FI hp e1 e2
    obtain ⟨yb, yn, ys⟩ := y
    unfold kyV at HF ⊢
    go_enter Tryd.func132, Tryd.ntmps132
    go_wp2_with (fail)
    obtain ⟨a0, a1, a2, az, ab⟩ := al3 w #[.int .i64 k, .int .i64 n, .string s, .int .i64 x, .slice A L c] #[.bool yb, .int .i64 yn, .string ys] #[.int .i64 0, .int .i64 0, .string ⟨#[]⟩, .int .i64 0, .slice none 0 0] IV IK IV
    refine (HF.out _ (HT.out.below' ab)).mono ?_
    rintro e w1 ⟨rfl, hb1⟩
    have A2 := Lib.hid (carry hb1 a2)
    have HB1 := Lib.hid (bs ab hb1)
    obtain ⟨r, f⟩ := rowc A2.out
    clear a0 a1 a2 az ab hb1
    go_wp2_with (fail)
    generalize hwF : (((((w1.setCell ⟨w.heap.size + 1 + 1, 0, none⟩ (.int .i64 0)).setCell ⟨w.heap.size + 1 + 1, 1, none⟩ (.int .i64 0)).setCell ⟨w.heap.size + 1 + 1, 2, none⟩ (.string ⟨#[]⟩)).setCell ⟨w.heap.size + 1 + 1, 3, none⟩ (.int .i64 0)).setCell ⟨w.heap.size + 1 + 1, 4, none⟩ (.slice none 0 0)) = wF
    obtain ⟨rF, -, bF⟩ := fill5 A2.out hwF
    refine bodyPost_ret (v := .tuple #[vV 0 0 ⟨#[]⟩ 0 none 0 0, .bool false]) ?_ rfl ?_
    · simp [results, Tryd.results132, go_sem, rF]
    · exact ⟨_, rfl, flat ⟨by unfold I64; omega, by unfold I64; omega, by unfold I64; omega, Nat.zero_le _⟩ _ _ none 0 (Nat.zero_le _), bF _ _ (by omega) HB1.out⟩
  · obtain ⟨t', ht'⟩ : ∃ t', vs[i]? = some t' := ⟨_, List.getElem?_eq_getElem (by rw [← HL.out, ← hkl.out]; exact hi)⟩
    have e1 : getR (.mk 4 n s x ks vs) y = t' := by unfold getR; rw [getT_some hp, ht']; rfl
    have e2 : getB (.mk 4 n s x ks vs) y = true := by unfold getB; rw [getT_some hp, ht']; rfl
    rw [e1, e2]
    rw [hp] at FI
    have hiL : i < L := by rw [← hkl.out]; exact hi
    obtain ⟨a, y1, k1, n1, s1, x1, ks1, vs1, A1, c1, rfl, hS, hky, hvs, htin, hyb, hkb, hin1, hcell⟩ := HI.out.item (i := i) (by rw [← HL.out]; exact hiL)
    rw [ht'] at hvs
    obtain rfl := Option.some.inj hvs
    obtain ⟨L1, HL1⟩ : ∃ L1, Hid (L1 = vs1.length) := ⟨_, Lib.hid rfl⟩
    rw [← HL1.out] at hcell
    have HF := Lib.hid FI
    have HC := Lib.hid hcell
    have HV := Lib.hid htin
    clear FI hp e1 e2 hcell htin hky hyb hkb hin1 hS ht'
    obtain ⟨yb, yn, ys⟩ := y
    unfold kyV at HF ⊢
    go_enter Tryd.func132, Tryd.ntmps132
    go_wp2_with (fail)
    obtain ⟨a0, a1, a2, az, ab⟩ := al3 w #[.int .i64 4, .int .i64 n, .string s, .int .i64 x, .slice (some a) L c] #[.bool yb, .int .i64 yn, .string ys] #[.int .i64 0, .int .i64 0, .string ⟨#[]⟩, .int .i64 0, .slice none 0 0] IV IK IV
    refine (HF.out _ (HT.out.below' ab)).mono ?_
    rintro e w1 ⟨rfl, hb1⟩
    have A0 := Lib.hid (carry hb1 a0)
    have A2 := Lib.hid (carry hb1 a2)
    have HB1 := Lib.hid (bs ab hb1)
    obtain ⟨p0, p1, p2, p3, p4, p5, p6, p7⟩ := HC.out.below HB1.out
    have q4 := (rowc A0.out).1 4
    obtain ⟨r, f⟩ := rowc A2.out
    clear a0 a1 a2 az ab hb1
    go_wp2_with (fail)
    generalize hwF : (((((w1.setCell ⟨w.heap.size + 1 + 1, 0, none⟩ (.int .i64 k1)).setCell ⟨w.heap.size + 1 + 1, 1, none⟩ (.int .i64 n1)).setCell ⟨w.heap.size + 1 + 1, 2, none⟩ (.string s1)).setCell ⟨w.heap.size + 1 + 1, 3, none⟩ (.int .i64 x1)).setCell ⟨w.heap.size + 1 + 1, 4, none⟩ (.slice A1 L1 c1)) = wF
    obtain ⟨rF, oF, bF⟩ := fill5 A2.out hwF
    refine bodyPost_ret (v := .tuple #[vV k1 n1 s1 x1 A1 L1 c1, .bool true]) ?_ rfl ?_
    · simp [results, Tryd.results132, go_sem, rF]
    · have hb := bF w.heap.size w (by omega) HB1.out
      exact ⟨_, by rw [HL1.out], HV.out.below' hb, hb⟩

end Go.Proofs.YtlbkbcafkjgckaaDoor.tree

/-
  What Mod and InRange of the project and of the model, and the model's own range test, return at every integer; they change nothing.
  Conditions: none but that arguments are of Go's type int.
-/
namespace Go.Proofs.YtlbkbcafkjgckaaDoor.mdl
open Go.ChangeShapes Go.WideShapes Go.ChangeAt Go.RowKit
set_option linter.unusedVariables false

def inr (n l h : Int) : Bool := decide (l ≤ n) && decide (n ≤ h)
theorem inr_of {n l h : Int} (h0 : l ≤ n) (h1 : n ≤ h) : inr n l h = true := by unfold inr; simp; omega
theorem inr_not {n l h : Int} (hh : ¬ (l ≤ n ∧ n ≤ h)) : inr n l h = false := by unfold inr; simp; omega

theorem ret_int {k : IntKind} {a b : Int} (h : a = b) : Ending.returned (.int k a) = .returned (.int k b) := by rw [h]

theorem l1In (n l h : Int) (w : World) : Calls Tryd.prog 61 #[.int .i64 n, .int .i64 l, .int .i64 h] w fun e w' => e = .returned (.bool (inr n l h)) ∧ w = w' := by
  by_cases h1 : l ≤ n
  all_goals
    by_cases h2 : n ≤ h
    all_goals
      go_enter Tryd.func61, Tryd.ntmps61
      go_wp2
      go_ret
      exact ⟨by simp [inr, h1, h2], rfl⟩

theorem implInRange (n l h : Int) (w : World) : Calls Tryd.prog 86 #[.int .i64 n, .int .i64 l, .int .i64 h] w fun e w' => e = .returned (.bool (inr n l h)) ∧ w = w' := by
  by_cases h1 : l ≤ n
  all_goals
    by_cases h2 : n ≤ h
    all_goals
      go_enter Tryd.func86, Tryd.ntmps86
      go_wp2
      go_ret
      exact ⟨by simp [inr, h1, h2], rfl⟩

theorem tm_bd (n m : Int) (h : 1 ≤ m) : -m < n.tmod m ∧ n.tmod m < m ∧ (n.tmod m + m) % m = n % m ∧ (n.tmod m < 0 → n.tmod m + m = n % m) ∧ (0 ≤ n.tmod m → n.tmod m = n % m) := by
  have e1 := Int.emod_nonneg n (b := m) (by omega)
  have e2 := Int.emod_lt_of_pos n (b := m) (by omega)
  have e3 : (n % m + m) % m = n % m := by rw [Int.add_emod_right, Int.emod_emod]
  have e4 : n % m % m = n % m := Int.emod_emod _ _
  rw [Int.tmod_eq_emod]
  split
  · have z : n % m - ((0 : Nat) : Int) = n % m := by omega
    rw [z]; exact ⟨by omega, by omega, e3, by omega, by omega⟩
  · rename_i hn
    have h0 : n % m ≠ 0 := fun hh => hn (Or.inr (Int.dvd_of_emod_eq_zero hh))
    have h1 : (m.natAbs : Int) = m := by omega
    rw [h1]
    have e5 : n % m - m + m = n % m := by omega
    rw [e5]
    exact ⟨by omega, by omega, e4, by omega, by omega⟩

def md (n m : Int) : Int := if inr m 1 1000000000000 = true then n % m else 0



theorem md_pos (n m : Int) (h0 : 1 ≤ m) (h1 : m ≤ 1000000000000) : md n m = n % m := by unfold md; rw [if_pos (inr_of h0 h1)]

end Go.Proofs.YtlbkbcafkjgckaaDoor.mdl

