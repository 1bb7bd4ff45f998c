/-
  What the texts behind this one use: 3 parts of one proof.
  Conditions: those that each theorem names.
-/
import Derived.Test.YtdglmnmalfpipaaGreatDoorVSCmpF
import Derived.Test.YtdglmnmalfpipaaGreatDoorVB8
import Derived.Test.YtdglmnmalfpipaaGreatDoorVB11
import Derived.Test.YtdglmnmalfpipaaGreatDoorVSVals
import Derived.Test.YtdglmnmalfpipaaGreatDoorVSTreeCp
/-
  The list of arrays that are being compared, as it lies in memory.
  Conditions: those that each theorem names.
-/
namespace Go.Proofs.YtdglmnmalfpipaaGreatDoor.tree
open Go.ChangeShapes Go.WideShapes Go.ChangeAt Go.RowKit
set_option linter.unusedVariables false

def CRow (w : World) (B : Nat) (way : Value) (G : List Mt) : Prop := w.ownsRow B MG 4 way G.length (G.reverse.flatMap Mt.cells)

theorem cells9_len (G : List Mt) : (G.flatMap Mt.cells).length = G.length * 4 := by
  induction G with
  | nil => rfl
  | cons V l ih => rw [List.flatMap_cons, List.length_append, ih, List.length_cons]; simp [Mt.cells]; omega
theorem cells9_rev (V : Mt) (l : List Mt) : (V :: l).reverse.flatMap Mt.cells = l.reverse.flatMap Mt.cells ++ V.cells := by simp

theorem CRow.top {w : World} {B : Nat} {way : Value} {V : Mt} {l : List Mt} (h : CRow w B way (V :: l)) :
    ∃ g c cur, way = .slice (some ⟨g, 0, none⟩) (l.length + 1) c ∧ B ≤ g ∧ w.heap[g]? = some (.cells cur MG (0, 0)) ∧ l.length + 1 ≤ c ∧ c ≤ maxLen ∧ cur.size = c * 4 ∧ ∀ q, q < 4 → cur[l.length * 4 + q]? = V.cells[q]? := by
  obtain ⟨h1, h2⟩ := h
  rcases h2 with ⟨_, h0⟩ | ⟨g, cap, cur, rfl, hB, hg, hn, hm, hs, htake⟩
  · simp at h0
  · refine ⟨g, cap, cur, rfl, hB, hg, hn, hm, hs, fun q hq => ?_⟩
    have hl : (l.reverse.flatMap Mt.cells).length = l.length * 4 := by rw [cells9_len, List.length_reverse]
    have e : (cur.toList.take ((V :: l).length * 4))[l.length * 4 + q]? = V.cells[q]? := by
      rw [htake, cells9_rev, List.getElem?_append_right (by omega), hl]
      congr 1
      omega
    rw [List.getElem?_take_of_lt (by simp; omega)] at e
    rw [← e]
    simp

theorem CRow.pop {w : World} {B g c : Nat} {n : Nat} {V : Mt} {l : List Mt} (h : CRow w B (.slice (some ⟨g, 0, none⟩) n c) (V :: l)) : CRow w B (.slice (some ⟨g, 0, none⟩) l.length c) l := by
  obtain ⟨h1, h2⟩ := h
  rcases h2 with ⟨h0, _⟩ | ⟨g', cap, cur, he, hB, hg, hn, hm, hs, htake⟩
  · cases h0
  · simp at he
    obtain ⟨rfl, -, rfl⟩ := he
    have hl : (l.reverse.flatMap Mt.cells).length = l.length * 4 := by rw [cells9_len, List.length_reverse]
    refine ⟨hl, .inr ⟨g, c, cur, rfl, hB, hg, by simp at hn; omega, hm, hs, ?_⟩⟩
    have := congrArg (List.take (l.length * 4)) htake
    rw [List.take_take, cells9_rev, List.take_append_of_le_length (by omega), List.take_of_length_le (l := List.flatMap _ _) (by omega)] at this
    rw [← this]
    congr 1
    simp


theorem CRow.nil {w : World} {B : Nat} {way : Value} (h : CRow w B way []) : ∃ A c, way = .slice A 0 c := by
  rcases h.2 with ⟨h0, _⟩ | ⟨g, cap, cur, h0, _⟩
  · exact ⟨none, 0, h0⟩
  · exact ⟨_, cap, h0⟩
theorem CRow.below {w w' : World} {B : Nat} {way : Value} {P : List Mt} (h : CRow w B way P) (hb : Below w.heap.size w w') : CRow w' B way P :=
  World.ownsRow.kept h (mem.none_of_below hb) (by
    cases e : way.ownBlock with
    | none => exact .inl rfl
    | some k => exact .inr (by simp))
theorem CRow.own {w : World} {B : Nat} {way : Value} {P : List Mt} (h : CRow w B way P) : ∀ k, way.ownBlock = some k → B ≤ k ∧ k < w.heap.size ∧ Plain w k := fun k e => by
  rcases h.2 with ⟨h0, _⟩ | ⟨g, cap, cur, h0, hB, hg, _⟩
  · rw [h0] at e; cases e
  · rw [h0] at e
    injection e with e
    obtain rfl : g = k := e
    exact ⟨hB, (Array.getElem?_eq_some_iff.1 hg).1, _, _, hg⟩
theorem CRow.keptN {w w' : World} {B b : Nat} {way : Value} {P : List Mt} (h : CRow w B way P) (hg : w.grownBy w' (some b)) (hb : ¬ Plain w b) : CRow w' B way P :=
  World.ownsRow.kept h hg (by
    cases e : way.ownBlock with
    | none => exact .inl rfl
    | some k =>
      refine .inr (fun h2 => ?_)
      have := (h.own k e).2.2
      injection h2 with h2
      exact hb (h2 ▸ this))
theorem CRow.set {w w' : World} {B g c n : Nat} {V V' : Mt} {l : List Mt} {cur arr : Array Value} (h : CRow w B (.slice (some ⟨g, 0, none⟩) n c) (V :: l)) (hg : w.heap[g]? = some (.cells cur MG (0, 0))) (hg' : w'.heap[g]? = some (.cells arr MG (0, 0)))
    (hs : arr.size = cur.size) (hlo : ∀ j, j < l.length * 4 → arr[j]? = cur[j]?) (hat : ∀ q, q < 4 → arr[l.length * 4 + q]? = V'.cells[q]?) : CRow w' B (.slice (some ⟨g, 0, none⟩) n c) (V' :: l) := by
  obtain ⟨h1, h2⟩ := h
  rcases h2 with ⟨h0, _⟩ | ⟨g', cap, cur', he, hB, hg2, hnc, hm, hsz, htake⟩
  · cases h0
  · simp at he
    obtain ⟨rfl, rfl, rfl⟩ := he
    rw [hg] at hg2
    simp at hg2
    obtain rfl := hg2
    have hl : (l.reverse.flatMap Mt.cells).length = l.length * 4 := by rw [cells9_len, List.length_reverse]
    refine ⟨by rw [cells9_rev, List.length_append, hl]; simp [Mt.cells]; omega, .inr ⟨g, c, arr, by simp, hB, hg', by simpa using hnc, hm, by omega, ?_⟩⟩
    refine List.ext_getElem? fun j => ?_
    simp only [List.length_cons] at htake hnc ⊢
    by_cases hj : j < l.length * 4
    · rw [List.getElem?_take_of_lt (by omega), cells9_rev, List.getElem?_append_left (by omega), Array.getElem?_toList, hlo j hj]
      have := congrArg (fun z => z[j]?) htake
      rw [List.getElem?_take_of_lt (by omega), cells9_rev, List.getElem?_append_left (by omega), Array.getElem?_toList] at this
      exact this
    · by_cases hj4 : j < l.length * 4 + 4
      · obtain ⟨q, rfl⟩ : ∃ q, j = l.length * 4 + q := ⟨j - l.length * 4, by omega⟩
        rw [List.getElem?_take_of_lt (by omega), cells9_rev, List.getElem?_append_right (by omega), hl, Array.getElem?_toList, hat q (by omega), Nat.add_sub_cancel_left]
      · rw [List.getElem?_eq_none (by simp; omega), List.getElem?_eq_none (by rw [cells9_rev, List.length_append, hl]; simp [Mt.cells]; omega)]

/-- What taking an item leaves, apart from what it gives. -/
structure Tk (wr w4 : World) (g m : Nat) (cur : Array Value) (F : Mt) (R1 : Option Addr) (L1 c1 : Nat) : Prop where
  fr : Fr (fun b => b = g ∨ b = F.b) wr w4
  st : ∃ (p : Nat) (arr : Array Value) (f : Value → Option Value), p ≤ F.vs'.length ∧ w4.heap[g]? = some (.cells arr MG (0, 0)) ∧ arr.size = cur.size ∧ arr[m * 4]? = some (.slice R1 L1 c1) ∧ arr[m * 4 + 2]? = some (.int .i64 p) ∧ (∀ j, j ≠ m * 4 → j ≠ m * 4 + 2 → arr[j]? = cur[j]?) ∧ raw.Holds w4 GK F.b f ∧ FirstK (F.ks'.take p) f
theorem hold_np {w : World} {G : World → Value → Prop} {b : Nat} {f : Value → Option Value} (h : raw.Holds w G b f) : ¬ Plain w b := fun ⟨cs, t, hc⟩ => by
  obtain ⟨es, ck, hb, -⟩ := h
  rw [hc] at hb
  cases hb

section
variable {R : Int} {B E : Nat} {w wr w4 : World} {F : Mt} {G : List Mt} {e : Value → Option Value} {g c n : Nat} {cur : Array Value} {y : Ky} {kt : List Ky} {t : Tr} {ts : List Tr} {R1 : Option Addr} {c1 : Nat}
theorem CSt.took (hst : CSt R B wr 0 (F :: G) e) (hrow : CRow wr B (.slice (some ⟨g, 0, none⟩) n c) (F :: G)) (hm1 : raw.Holds wr (G2 B) E e) (hE : ∀ X ∈ F :: G, E < X.b) (hB : w.heap.size ≤ B) (hEb : w.heap.size ≤ E) (hb : Below w.heap.size w wr)
    (hgB : B ≤ g) (hg : wr.heap[g]? = some (.cells cur MG (0, 0))) (hq : ∀ q, q < 4 → cur[G.length * 4 + q]? = F.cells[q]?) (hk0 : F.ks = y :: kt) (hv : F.vs = t :: ts)
    (hT : Tk wr w4 g G.length cur F R1 ts.length c1) (hR : IsIn wr (Lo B wr) kt ts R1) (hc : ts.length ≤ c1 ∧ c1 ≤ maxLen) :
    Below w.heap.size w w4 ∧ Kp B wr w4 ∧ (getL F.ks' F.vs' y = none → R = 2) ∧ ∀ u, getL F.ks' F.vs' y = some u → ∃ F' : Mt, CSt R B w4 (cmpT t u) (F' :: G) e ∧ CRow w4 B (.slice (some ⟨g, 0, none⟩) n c) (F' :: G) ∧ raw.Holds w4 (G2 B) E e ∧
      (∀ X ∈ F' :: G, E < X.b) ∧ left9 (F' :: G) + wk t = left9 (F :: G) ∧ (F'.ks = kt ∧ F'.vs = ts ∧ F'.ks' = F.ks' ∧ F'.vs' = F.vs') ∧ cnt t ≤ cnts F'.vs0 := by
  obtain ⟨p, arr, f, hp, hg4, hsz, ha0, ha2, hao, hmf, hff⟩ := hT.st
  have hF := hst.ok F List.mem_cons_self
  obtain ⟨f0, hf0, -⟩ := hF.map
  have hkp : Kp B wr w4 := fun b hbB hpl => hT.fr.block b hpl.lt (fun h => by
    rcases h with rfl | rfl
    · omega
    · exact hold_np hf0 hpl)
  have hEF := hE F List.mem_cons_self
  have hgp : Plain wr g := ⟨_, _, hg⟩
  have hbs : ∀ X ∈ G, w4.heap[X.b]? = wr.heap[X.b]? := fun X hX => by
    have hXok := hst.ok X (List.mem_cons_of_mem _ hX)
    refine hT.fr.block _ hXok.lt (fun h => ?_)
    rcases h with h | h
    · obtain ⟨f1, hf1, -⟩ := hXok.map
      rw [h] at hf1
      exact hold_np hf1 hgp
    · have := (hst.nest.1 X hX).2
      omega
  obtain ⟨h1, h2⟩ := hst.take hkp hbs hk0 hv (hR.kp hkp) hc hp ⟨f, hmf, hff⟩
  refine ⟨?_, hkp, h1, fun u hu => ⟨_, h2 u hu, ?_, ?_, ?_, ?_, ⟨rfl, rfl, rfl, rfl⟩, ?_⟩⟩
  · have := hT.fr.below (lo := w.heap.size) hb.size (fun b hb => by rcases hb with rfl | rfl <;> omega)
    exact ⟨this.os.trans hb.os, this.tape.trans hb.tape, this.output.trans hb.output, Nat.le_trans hb.size this.size, fun b hbb => (this.block b hbb).trans (hb.block b hbb)⟩
  · refine hrow.set hg hg4 hsz (fun j hj => hao j (by omega) (by omega)) (fun q hq4 => ?_)
    have e1 := hq q hq4
    match q, hq4 with
    | 0, _ => exact ha0
    | 1, _ => exact (hao _ (by omega) (by omega)).trans e1
    | 2, _ => exact ha2
    | 3, _ => exact (hao _ (by omega) (by omega)).trans e1
  · refine hm1.kept (hT.fr.block _ hm1.lt (fun h => ?_)) (fun x hx => hx.kp hkp)
    rcases h with h | h
    · rw [h] at hm1
      exact hold_np hm1 hgp
    · omega
  · intro X hX
    rcases List.mem_cons.1 hX with rfl | hX
    · exact hEF
    · exact hE X (List.mem_cons_of_mem _ hX)
  · simp only [left9, hv, wks_cons]
    omega
  · have := hF.le
    rw [hv, cnts_cons] at this
    show cnt t ≤ cnts F.vs0
    omega

/-- How large they may be. -/
def TbM (F : Mt) : Prop := tots F.ks F.vs ≤ 1000000000 ∧ tots F.ks' F.vs' ≤ 1000000000
/-- What holds at the head of the loop. -/
def CRel (R : Int) (B E : Nat) (w : World) (gk : Nat) (way : Value) (wr : World) : Prop :=
  ∃ G e, gk = left9 G ∧ CSt R B wr 0 G e ∧ CRow wr B way G ∧ raw.Holds wr (G2 B) E e ∧ (∀ X ∈ G, E < X.b) ∧ Below w.heap.size w wr ∧ ∀ X ∈ G, TbM X

/-- Two arrays are entered: the list behind it. -/
theorem CRel.push {w4' w5 w6 w7 : World} {ks1 ks2 : List Ky} {vs1 vs2 : List Tr} {A1 A2 : Option Addr} {c1 c2 b : Nat} {way : Value} {row : Option Nat} (hst : CSt R B w4 (cmpL ks1 vs1 ks2 vs2) (F :: G) e) (hm : raw.Holds w4 (G2 B) E e) (hE : ∀ X ∈ F :: G, E < X.b)
    (hB : w.heap.size ≤ B) (hEb : w.heap.size ≤ E) (hb : Below w.heap.size w w4) (hin1 : IsIn w4 (Lo B w4) ks1 vs1 A1) (hc1 : vs1.length ≤ c1 ∧ c1 ≤ maxLen) (hin2 : IsIn w4 (Lo B w4) ks2 vs2 A2) (hc2 : vs2.length ≤ c2 ∧ c2 ≤ maxLen) (hlt : cnts vs1 < cnts F.vs0)
    (h44 : Below w4.heap.size w4 w4') (hm4 : raw.Holds w4' (G2 B) E e) (hm5 : raw.Holds w5 (G2 B) E (raw.put e (pq (plc A1 vs1.length) (plc A2 vs2.length)) (.bool true))) (h5 : w4'.grownBy w5 (some E))
    (h56 : Below w5.heap.size w5 w6) (hbn : w5.heap.size ≤ b) (hmb : raw.Holds w6 GK b (fun _ => none))
    (hrow : w7.ownsRow B MG 4 way (G.length + 1 + 1) ((F :: G).reverse.flatMap Mt.cells ++ [.slice A1 vs1.length c1, .slice A2 vs2.length c2, .int .i64 0, .map (some b)])) (h67 : w6.grownBy w7 row) (hr : ∀ k, row = some k → B ≤ k ∧ Plain w6 k) (hTb : ∀ X ∈ F :: G, TbM X) (hTn : tots ks1 vs1 ≤ 1000000000 ∧ tots ks2 vs2 ≤ 1000000000) :
    CRel R B E w (1 + wks vs1 + left9 (F :: G)) way w7 := by
  have k5 : Kp B w4' w5 := Kp.grown h5 (fun k hk => .inr (by obtain rfl := Option.some.inj hk; exact hold_np hm4))
  have k6 : Kp B w5 w6 := Kp.below h56
  have k7 : Kp B w6 w7 := Kp.grown h67 (fun k hk => .inl (hr k hk).1)
  have hkp : Kp B w4 w7 := (((Kp.below h44).trans k5).trans k6).trans k7
  have sz4 := h44.size
  have sz5 := h5.size
  have sz6 := h56.size
  have np7 : ∀ k, ¬ Plain w6 k → k < w6.heap.size → w7.heap[k]? = w6.heap[k]? := fun k hk hlt => h67.block k hlt (fun h => hk (hr k h.symm).2)
  have hbX : ∀ X ∈ F :: G, w7.heap[X.b]? = w4.heap[X.b]? := fun X hX => by
    have hXok := hst.ok X hX
    have l4 := hXok.lt
    obtain ⟨f1, hf1, -⟩ := hXok.map
    have hEX := hE X hX
    have e5 : w6.heap[X.b]? = w4.heap[X.b]? := (h56.block _ (by omega)).trans ((h5.block _ (by omega) (by intro h; injection h; omega)).trans (h44.block _ l4))
    refine (np7 _ (fun ⟨cs, t, hc⟩ => hold_np hf1 ⟨cs, t, e5.symm.trans hc⟩) (by omega)).trans e5
  have l5 := hm5.lt
  have hm7 : raw.Holds w7 (G2 B) E (raw.put e (pq (plc A1 vs1.length) (plc A2 vs2.length)) (.bool true)) := by
    have m6 := hm5.kept (h56.block _ l5) (fun x hx => hx.kp k6)
    exact m6.kept (np7 _ (hold_np m6) m6.lt) (fun x hx => hx.kp k7)
  have hb7 : raw.Holds w7 GK b (fun _ => none) := hmb.kept (np7 _ (hold_np hmb) hmb.lt) (fun x hx => hx)
  have hst7 := hst.kp hkp hbX
  have hlE := hm.lt
  refine ⟨_, _, rfl, hst7.push (hin1.kp hkp) hc1 (hin2.kp hkp) hc2 hlt (fun X hX => ?_) hb7, ?_, hm7, fun X hX => ?_, ?_, fun X hX => ?_⟩
  · have := (hst.ok X hX).lt
    omega
  · show w7.ownsRow _ _ _ _ _ _
    rw [cells9_rev]
    exact hrow
  · rcases List.mem_cons.1 hX with rfl | hX
    · show E < b
      omega
    · exact hE X hX
  · have sz := hb.size
    have g1 := (bs hb h44).grown h5 (by omega) (fun k hk => by obtain rfl := Option.some.inj hk; omega)
    exact (bs g1 h56).grown h67 (by omega) (fun k hk => by have := (hr k hk).1; omega)
  · rcases List.mem_cons.1 hX with rfl | hX
    · exact hTn
    · exact hTb X hX
end

end Go.Proofs.YtdglmnmalfpipaaGreatDoor.tree

/-
  Rows of values: five cells written at once; the first j values of a row.
  Conditions: those that each theorem names.
-/
namespace Go.Proofs.YtdglmnmalfpipaaGreatDoor.tree
open Go.ChangeShapes Go.WideShapes Go.ChangeAt Go.RowKit
set_option linter.unusedVariables false

def set5 (arr : Array Value) (o : Nat) (c0 c1 c2 c3 c4 : Value) : Array Value := ((((arr.setIfInBounds o c0).setIfInBounds (o + 1) c1).setIfInBounds (o + 2) c2).setIfInBounds (o + 3) c3).setIfInBounds (o + 4) c4
theorem set5_size (arr : Array Value) (o : Nat) (c0 c1 c2 c3 c4 : Value) : (set5 arr o c0 c1 c2 c3 c4).size = arr.size := by simp [set5]
theorem set5_out (arr : Array Value) (o : Nat) (c0 c1 c2 c3 c4 : Value) (p : Nat) (h : p < o ∨ o + 5 ≤ p) : (set5 arr o c0 c1 c2 c3 c4)[p]? = arr[p]? := by
  unfold set5
  rw [Array.getElem?_setIfInBounds_ne (by omega), Array.getElem?_setIfInBounds_ne (by omega), Array.getElem?_setIfInBounds_ne (by omega), Array.getElem?_setIfInBounds_ne (by omega), Array.getElem?_setIfInBounds_ne (by omega)]
theorem set5_in (arr : Array Value) (o : Nat) (c0 c1 c2 c3 c4 : Value) (h : o + 5 ≤ arr.size) (q : Nat) (hq : q < 5) : (set5 arr o c0 c1 c2 c3 c4)[o + q]? = (#[c0, c1, c2, c3, c4] : Array Value)[q]? := by
  unfold set5
  have hq' : q = 0 ∨ q = 1 ∨ q = 2 ∨ q = 3 ∨ q = 4 := by omega
  rcases hq' with rfl | rfl | rfl | rfl | rfl <;> simp [Array.getElem?_setIfInBounds] <;> omega
theorem set5_heap {W : World} {g : Nat} {arr : Array Value} {t : TypeId} (h : W.heap[g]? = some (.cells arr t (0, 0))) (o : Nat) (c0 c1 c2 c3 c4 : Value) :
    (((((W.setCell ⟨g, o, none⟩ c0).setCell ⟨g, o + 1, none⟩ c1).setCell ⟨g, o + 2, none⟩ c2).setCell ⟨g, o + 3, none⟩ c3).setCell ⟨g, o + 4, none⟩ c4).heap[g]? = some (.cells (set5 arr o c0 c1 c2 c3 c4) t (0, 0)) :=
  set_heap (set_heap (set_heap (set_heap (set_heap h _ _) _ _) _ _) _ _) _ _
theorem set5_other {W : World} {g k : Nat} (h : k ≠ g) (o : Nat) (c0 c1 c2 c3 c4 : Value) :
    (((((W.setCell ⟨g, o, none⟩ c0).setCell ⟨g, o + 1, none⟩ c1).setCell ⟨g, o + 2, none⟩ c2).setCell ⟨g, o + 3, none⟩ c3).setCell ⟨g, o + 4, none⟩ c4).heap[k]? = W.heap[k]? := by
  iterate 5 refine (set_other h).trans ?_
  rfl
theorem iv_info' : ∃ i, Tryz.prog.info? IV = some i ∧ (i.zero = some (.agg #[.int .i64 0, .int .i64 0, .string ⟨#[]⟩, .int .i64 0, .slice none 0 0]) ∧ i.size = 5 ∧ i.bytes = 64) := by
  have : (Tryz.prog.info? IV).map (fun i => (i.zero, i.size, i.bytes)) = some (some (.agg #[.int .i64 0, .int .i64 0, .string ⟨#[]⟩, .int .i64 0, .slice none 0 0]), 5, 64) := by kernel_rfl
  cases hq : Tryz.prog.info? IV with
  | none => rw [hq] at this; cases this
  | some i => rw [hq] at this; simp at this; exact ⟨i, rfl, this⟩
/-- The first j values of a row. -/
def V5 (w : World) (lo : Nat) (vs : List Tr) (arr : Array Value) (j : Nat) : Prop :=
  ∀ i, i < j → ∃ k n s x ks' vs' A' c', vs[i]? = some (.mk k n s x ks' vs') ∧ TIn w (Nw lo w) (.mk k n s x ks' vs') (vV k n s x A' vs'.length c') ∧ ∀ q, q < 5 → arr[i * 5 + q]? = (#[.int .i64 k, .int .i64 n, .string s, .int .i64 x, .slice A' vs'.length c'] : Array Value)[q]?
theorem V5.keep {w w' : World} {lo : Nat} {vs : List Tr} {arr : Array Value} {j : Nat} (h : V5 w lo vs arr j) (hb : ∀ b, lo ≤ b → b < w.heap.size → w'.heap[b]? = w.heap[b]?) : V5 w' lo vs arr j := fun i hi => by
  obtain ⟨k, n, s, x, ks', vs', A', c', e1, e2, e3⟩ := h i hi
  exact ⟨k, n, s, x, ks', vs', A', c', e1, e2.nw (Nat.le_refl _) fun b hb' hlt => hb b hb' hlt, e3⟩
theorem V5.more {w : World} {lo : Nat} {vs : List Tr} {arr : Array Value} {j : Nat} (h : V5 w lo vs arr j) (hs : j * 5 + 5 ≤ arr.size) {k n x : Int} {s : ByteArray} {ks' : List Ky} {vs' : List Tr} {A' : Option Addr} {c' : Nat} (hv : vs[j]? = some (.mk k n s x ks' vs')) (hT : TIn w (Nw lo w) (.mk k n s x ks' vs') (vV k n s x A' vs'.length c')) :
    V5 w lo vs (set5 arr (j * 5) (.int .i64 k) (.int .i64 n) (.string s) (.int .i64 x) (.slice A' vs'.length c')) (j + 1) := by
  intro i hi
  by_cases e : i = j
  · subst e
    exact ⟨k, n, s, x, ks', vs', A', c', hv, hT, fun q hq => set5_in _ _ _ _ _ _ _ hs q hq⟩
  · obtain ⟨k2, n2, s2, x2, ks2, vs2, A2, c2, e1, e2, e3⟩ := h i (by omega)
    exact ⟨k2, n2, s2, x2, ks2, vs2, A2, c2, e1, e2, fun q hq => by rw [set5_out _ _ _ _ _ _ _ _ (by omega)]; exact e3 q hq⟩
theorem V5.vin {w : World} {lo g : Nat} {vs : List Tr} {arr : Array Value} (h : V5 w lo vs arr vs.length) (hg : w.heap[g]? = some (.cells arr IV (0, 0))) (hlo : g ≤ lo) : VIn w (Nw g w) vs (some ⟨g, 0, none⟩) := fun i t ht => by
  obtain ⟨k, n, s, x, ks', vs', A', c', e1, e2, e3⟩ := h i (List.getElem?_eq_some_iff.1 ht).1
  rw [ht] at e1
  obtain rfl := Option.some.inj e1
  have at_ : ∀ q, q < 5 → w.cell? ⟨g, i * 5 + q, none⟩ = (#[.int .i64 k, .int .i64 n, .string s, .int .i64 x, .slice A' vs'.length c'] : Array Value)[q]? := fun q hq => by rw [cell_of_row w g _ arr IV _ hg]; exact e3 q hq
  refine ⟨_, k, n, s, x, ks', vs', A', c', rfl, ⟨Nat.le_refl _, _, _, hg⟩, rfl, e2.stays (fun b hb => ⟨Nat.le_trans hlo hb.1, hb.2⟩) (fun _ _ _ => rfl), ?_⟩
  rw [Addr.add_lit, Nat.zero_add]
  exact ⟨at_ 0 (by omega), at_ 1 (by omega), at_ 2 (by omega), at_ 3 (by omega), at_ 4 (by omega)⟩
end Go.Proofs.YtdglmnmalfpipaaGreatDoor.tree

/-
  One value in a row of the call's own written anew, without items.
  Conditions: those that each theorem names.
-/
namespace Go.Proofs.YtdglmnmalfpipaaGreatDoor.tree
open Go.ChangeShapes Go.WideShapes Go.ChangeAt Go.RowKit
set_option linter.unusedVariables false

theorem OwR.setv {w w' : World} {P : Nat → Prop} {g L c i : Nat} {xs : List Value} {ks : List Ky} {vs : List Tr} (h : OwR w P (.slice (some ⟨g, 0, none⟩) L c) xs ks vs) {cur : Array Value} (hg : w.heap[g]? = some (.cells cur IE (0, 0)))
    {k n x : Int} {s : ByteArray} (hk : I64 k ∧ I64 n ∧ I64 x ∧ s.size ≤ maxLen) (hw : w'.heap[g]? = some (.cells (set5 cur (i * 8 + 3) (.int .i64 k) (.int .i64 n) (.string s) (.int .i64 x) (.slice none 0 0)) IE (0, 0)))
    (ho : ∀ b, b ≠ g → b < w.heap.size → w'.heap[b]? = w.heap[b]?) (hi : i < vs.length) : ∃ xs', OwR w' P (.slice (some ⟨g, 0, none⟩) L c) xs' ks (vs.set i (.mk k n s x [] [])) := by
  obtain ⟨h1, h0, h2, h3⟩ := h
  rcases h1.2 with ⟨e, -⟩ | ⟨g2, cap, cur2, e, hlo, hg2, hnc, hcm, hsz, htk⟩
  · cases e
  · injection e with e1 e2 e3
    obtain rfl : g = g2 := by simpa using e1
    subst e2 e3
    rw [hg] at hg2
    obtain rfl : cur = cur2 := by simpa using hg2
    have hxl : xs.length = vs.length * 8 := h1.1
    have at0 : ∀ p, p < vs.length * 8 → xs[p]? = cur[p]? := fun p hp => by rw [← htk, List.getElem?_take_of_lt hp]; simp
    have at1 : ∀ p, p < vs.length * 8 → ((set5 cur (i * 8 + 3) (.int .i64 k) (.int .i64 n) (.string s) (.int .i64 x) (.slice none 0 0)).toList.take (vs.length * 8))[p]? = (set5 cur (i * 8 + 3) (.int .i64 k) (.int .i64 n) (.string s) (.int .i64 x) (.slice none 0 0))[p]? := fun p hp => by rw [List.getElem?_take_of_lt hp]; simp
    refine ⟨(set5 cur (i * 8 + 3) (.int .i64 k) (.int .i64 n) (.string s) (.int .i64 x) (.slice none 0 0)).toList.take (vs.length * 8), ⟨?_, ?_⟩, h0, by rw [List.length_set]; exact h2, fun j hj => ?_⟩
    · have hs5 : (set5 cur (i * 8 + 3) (.int .i64 k) (.int .i64 n) (.string s) (.int .i64 x) (.slice none 0 0)).toList.length = c * 8 := by rw [← hsz]; exact set5_size _ _ _ _ _ _ _
      rw [List.length_set, List.length_take, hs5]
      omega
    · rw [List.length_set]
      exact .inr ⟨g, _, _, rfl, hlo, hw, hnc, hcm, by rw [set5_size]; exact hsz, rfl⟩
    · rw [List.length_set] at hj
      obtain ⟨y, k1, n1, s1, x1, ks', vs', A, c, a1, a2, a3, a4, a5⟩ := h3 j hj
      by_cases e : j = i
      · subst e
        refine ⟨y, k, n, s, x, [], [], none, 0, a1, by rw [List.getElem?_set_self (by omega)], a3, fun q hq => ?_, (flat hk _ _ none 0 (Nat.zero_le _))⟩
        rw [at1 _ (by omega)]
        by_cases hq3 : q < 3
        · rw [set5_out _ _ _ _ _ _ _ _ (by omega), ← at0 _ (by omega), a4 q hq]
          match q, hq3 with
          | 0, _ => rfl
          | 1, _ => rfl
          | 2, _ => rfl
        · obtain ⟨r, rfl⟩ : ∃ r, q = 3 + r := ⟨q - 3, by omega⟩
          rw [← Nat.add_assoc, set5_in _ _ _ _ _ _ _ (by omega) r (by omega)]
          have hr5 : r < 5 := by omega
          match r, hr5 with
          | 0, _ => rfl
          | 1, _ => rfl
          | 2, _ => rfl
          | 3, _ => rfl
          | 4, _ => rfl
      · refine ⟨y, k1, n1, s1, x1, ks', vs', A, c, a1, by rw [List.getElem?_set_ne (fun h => e h.symm)]; exact a2, a3, fun q hq => ?_, a5.stays (fun b hb => hb) (fun b hb hl => ho b (fun e => hb.2 (by rw [e]; rfl)) hl)⟩
        rw [at1 _ (by omega), set5_out _ _ _ _ _ _ _ _ (by omega), ← at0 _ (by omega)]
        exact a4 q hq
theorem tots_setv : ∀ (ks : List Ky) (vs : List Tr) (i : Nat) (t : Tr), tots ks (vs.set i t) ≤ tots ks vs + tot t
  | [], vs, i, t => by simp [tots]
  | y :: ks, [], i, t => by simp
  | y :: ks, v :: vs, 0, t => by rw [List.set_cons_zero, tots_cons, tots_cons]; omega
  | y :: ks, v :: vs, i + 1, t => by rw [List.set_cons_succ, tots_cons, tots_cons]; have := tots_setv ks vs i t; omega

end Go.Proofs.YtdglmnmalfpipaaGreatDoor.tree

