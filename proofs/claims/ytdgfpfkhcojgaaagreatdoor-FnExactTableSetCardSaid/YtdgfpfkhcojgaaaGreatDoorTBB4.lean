/-
  What the texts behind this one use: 16 parts of one proof.
  Conditions: those that each theorem names.
-/
import Derived.Test.YtdgfpfkhcojgaaaGreatDoorTBB2
import Derived.Test.YtdgfpfkhcojgaaaGreatDoorTBSTreeCp
import Derived.Test.YtdgfpfkhcojgaaaGreatDoorTBSPar
import Derived.Maps.AppendAt
import Derived.Lib.SliceRun
import Derived.Test.YtdgfpfkhcojgaaaGreatDoorTBSPlace
import Derived.Test.YtdgfpfkhcojgaaaGreatDoorTBB3
/-
  The laws' copies of a slot: in new memory.
  Conditions: those that each theorem names.
-/
namespace Go.Proofs.YtdgfpfkhcojgaaaGreatDoor.tree
open Go.ChangeShapes Go.WideShapes Go.ChangeAt Go.RowKit
set_option linter.unusedVariables false

def slV (y : Ky) (v : Value) (b : Bool) (l : Int) : Value := .agg (#[.bool y.text, .int .i64 y.num, .string y.str] ++ v.cells ++ #[.bool b, .int .i64 l])
def SlCpQ (w : World) (y : Ky) (t : Tr) (b : Bool) (l : Int) (e : Ending) (w' : World) : Prop := ∃ v, e = .returned (slV y v b l) ∧ TIn w' (Nw w.heap.size w') t v ∧ Below w.heap.size w w'

set_option maxRecDepth 100000 in
set_option maxHeartbeats 1600000 in
theorem cpSlot (y : Ky) (t : Tr) (k n : Int) (s : ByteArray) (x : Int) (A : Option Addr) (L c : Nat) (b : Bool) (l : Int) (w : World)
    (ih : ∀ w' : World, Below w.heap.size w w' → Calls Tryz.prog 30 #[vV k n s x A L c] w' (CpQ w' t)) :
    Calls Tryz.prog 132 #[sV y k n s x A L c b l] w (SlCpQ w y t b l) := by
  obtain ⟨yb, m, ys⟩ := y
  have K := toKey ⟨yb, m, ys⟩
  unfold sV
  go_enter Tryz.func132, Tryz.ntmps132
  go_wp2_with (fail)
  refine (K _).mono ?_
  rintro e w1 ⟨rfl, hb1⟩
  obtain ⟨a0, a1, a2, az, ab⟩ := al3 w _ _ _ _ _ _
  have e0 := (hb1.block _ (by rw [az]; omega)).trans a0
  have e1 := (hb1.block _ (by rw [az]; omega)).trans a1
  have e2 := (hb1.block _ (by rw [az]; omega)).trans a2
  have hz : w.heap.size + 2 < w1.heap.size := by have := hb1.size; rw [az] at this; omega
  have E0 := Lib.hid e0
  have E1 := Lib.hid e1
  have E2 := Lib.hid e2
  have HB := Lib.hid (bs ab hb1)
  obtain ⟨r0, _⟩ := rowc e0
  obtain ⟨r2, f2⟩ := rowc e2
  clear hb1 a0 a1 a2 az ab e0 e1 e2
  unfold kyV
  go_wp2_with (fail)
  refine (ih _ ?_).mono ?_
  · exact ((HB.out.setCell (by simp; omega) _).setCell (by simp; omega) _).setCell (by simp; omega) _
  rintro e w2 ⟨v, rfl, hv, hb2⟩
  obtain ⟨k', n', s', x', ks', vs'⟩ := t
  obtain ⟨A', c', rfl, -, -⟩ := hv.out
  have s0 := (hb2.block w.heap.size (by simp []; omega)).trans ((set_other (by omega)).trans ((set_other (by omega)).trans ((set_other (by omega)).trans E0.out)))
  have s1 := (hb2.block (w.heap.size + 1) (by simp []; omega)).trans ((set_other (by omega)).trans ((set_other (by omega)).trans ((set_other (by omega)).trans E1.out)))
  have s2 := (hb2.block (w.heap.size + 1 + 1) (by simp []; omega)).trans (set_heap (set_heap (set_heap E2.out 0 _) 1 _) 2 _)
  have hz2 : w.heap.size + 2 < w2.heap.size := by have := hb2.size; simp [] at this; omega
  have HB2 := Lib.hid hb2
  have HV := Lib.hid hv
  obtain ⟨q0, g0⟩ := rowc s0
  obtain ⟨r3, f3⟩ := rowc s1
  obtain ⟨r4, f4⟩ := rowc s2
  clear hb2 hv r0 r2 f2 s0 s1 s2
  go_wp2_with (fail)
  refine bodyPost_ret (v := sV ⟨yb, m, ys⟩ k' n' s' x' A' vs'.length c' b l) (by simp [results, Tryz.results132, go_sem, r3]) rfl ⟨vV k' n' s' x' A' vs'.length c', rfl, ?_, ?_⟩
  · refine HV.out.nw (by simp []; omega) fun q hq hlt => ?_
    have q1 : q ≠ w.heap.size + 1 := by simp [] at hq; omega
    have q2 : q ≠ w.heap.size + 1 + 1 := by simp [] at hq; omega
    simp only [set_other q1, set_other q2]
  · have hB := bs (((HB.out.setCell (p := ⟨w.heap.size + 1 + 1, 0, none⟩) (by simp; omega) (.bool yb)).setCell (p := ⟨w.heap.size + 1 + 1, 1, none⟩) (by simp; omega) (.int .i64 m)).setCell (p := ⟨w.heap.size + 1 + 1, 2, none⟩) (by simp; omega) (.string ys)) HB2.out
    iterate 17 refine Below.setCell ?_ (by first | (simp; done) | (simp; omega)) _
    exact hB

abbrev IS : TypeId := 92
/-- Ten cells in a row. -/
def set10 (arr : Array Value) (o : Nat) (c0 c1 c2 c3 c4 c5 c6 c7 c8 c9 : Value) : Array Value := ((set8 arr o c0 c1 c2 c3 c4 c5 c6 c7).setIfInBounds (o + 8) c8).setIfInBounds (o + 9) c9
theorem set10_size (arr : Array Value) (o : Nat) (c0 c1 c2 c3 c4 c5 c6 c7 c8 c9 : Value) : (set10 arr o c0 c1 c2 c3 c4 c5 c6 c7 c8 c9).size = arr.size := by simp [set10, set8_size]
theorem set10_out (arr : Array Value) (o : Nat) (c0 c1 c2 c3 c4 c5 c6 c7 c8 c9 : Value) (p : Nat) (h : p < o ∨ o + 10 ≤ p) : (set10 arr o c0 c1 c2 c3 c4 c5 c6 c7 c8 c9)[p]? = arr[p]? := by
  unfold set10
  rw [Array.getElem?_setIfInBounds_ne (by omega), Array.getElem?_setIfInBounds_ne (by omega), set8_out _ _ _ _ _ _ _ _ _ _ _ (by omega)]
theorem set10_in (arr : Array Value) (o : Nat) (c0 c1 c2 c3 c4 c5 c6 c7 c8 c9 : Value) (h : o + 10 ≤ arr.size) (q : Nat) (hq : q < 10) : (set10 arr o c0 c1 c2 c3 c4 c5 c6 c7 c8 c9)[o + q]? = (#[c0, c1, c2, c3, c4, c5, c6, c7, c8, c9] : Array Value)[q]? := by
  unfold set10
  by_cases h8 : q < 8
  · rw [Array.getElem?_setIfInBounds_ne (by omega), Array.getElem?_setIfInBounds_ne (by omega), set8_in _ _ _ _ _ _ _ _ _ _ (by omega) q h8]
    match q, h8 with
    | 0, _ => rfl
    | 1, _ => rfl
    | 2, _ => rfl
    | 3, _ => rfl
    | 4, _ => rfl
    | 5, _ => rfl
    | 6, _ => rfl
    | 7, _ => rfl
  · by_cases h9 : q = 8
    · subst h9
      rw [Array.getElem?_setIfInBounds_ne (by omega), Array.getElem?_setIfInBounds_self_of_lt (by rw [set8_size]; omega)]; rfl
    · obtain rfl : q = 9 := by omega
      rw [Array.getElem?_setIfInBounds_self_of_lt (by rw [Array.size_setIfInBounds, set8_size]; omega)]; rfl

/-- The first j slots of a row of L are laid. -/
def LaidS (w : World) (g L j : Nat) (sl : List Sl) : Prop :=
  ∃ arr, w.heap[g]? = some (.cells arr IS (0, 0)) ∧ arr.size = L * 10 ∧ ∀ i t, sl[i]? = some t → i < j → ∃ k n s x ks vs A c, t.val = .mk k n s x ks vs ∧ TIn w (Nw (g + 1) w) t.val (vV k n s x A vs.length c) ∧
    (I64 t.key.num ∧ t.key.str.size ≤ maxLen) ∧ I64 t.link ∧ ∀ q, q < 10 → arr[i * 10 + q]? = (#[.bool t.key.text, .int .i64 t.key.num, .string t.key.str, .int .i64 k, .int .i64 n, .string s, .int .i64 x, .slice A vs.length c, .bool t.live, .int .i64 t.link] : Array Value)[q]?

theorem LaidS.done {w : World} {g L : Nat} {sl : List Sl} (h : LaidS w g L L sl) (hL : sl.length = L) : SIn w (Nw g w) sl (some ⟨g, 0, none⟩) := fun i t ht => by
  obtain ⟨arr, hg, hs, hi'⟩ := h
  have hil := (List.getElem?_eq_some_iff.1 ht).1
  obtain ⟨k, n, s, x, ks, vs, A, c, e, hT, hk, hl, hc⟩ := hi' i t ht (by omega)
  have at_ : ∀ q, q < 10 → w.cell? ⟨g, i * 10 + q, none⟩ = _ := fun q hq => (cell_of_row w g _ arr IS _ hg).trans (hc q hq)
  refine ⟨⟨g, 0, none⟩, k, n, s, x, ks, vs, A, c, rfl, ⟨Nat.le_refl _, arr, IS, hg⟩, hk, hl, e, hT.stays (fun b hb => ⟨by have := hb.1; omega, hb.2⟩) (fun _ _ _ => rfl), ?_⟩
  rw [Addr.add_lit, Nat.zero_add]
  exact ⟨at_ 0 (by omega), at_ 1 (by omega), at_ 2 (by omega), at_ 3 (by omega), at_ 4 (by omega), at_ 5 (by omega), at_ 6 (by omega), at_ 7 (by omega), at_ 8 (by omega), at_ 9 (by omega)⟩

theorem LaidS.step {w w1 w2 : World} {g L j : Nat} {sl : List Sl} (h : LaidS w g L j sl) (hb : Below w.heap.size w w1) {y : Ky} {tv : Tr} {lb : Bool} {ll : Int} {k n x : Int} {s : ByteArray} {ks' : List Ky} {vs' : List Tr} {A : Option Addr} {c : Nat}
    (ht : sl[j]? = some ⟨y, tv, lb, ll⟩) (hv : tv = .mk k n s x ks' vs') (hti : TIn w1 (Nw w.heap.size w1) tv (vV k n s x A vs'.length c)) (hyb : I64 y.num ∧ y.str.size ≤ maxLen) (hl : I64 ll) (hj : j < L)
    (hg : ∀ arr, w1.heap[g]? = some (.cells arr IS (0, 0)) → w2.heap[g]? = some (.cells (set10 arr (j * 10) (.bool y.text) (.int .i64 y.num) (.string y.str) (.int .i64 k) (.int .i64 n) (.string s) (.int .i64 x) (.slice A vs'.length c) (.bool lb) (.int .i64 ll)) IS (0, 0)))
    (ho : ∀ b, b ≠ g → w2.heap[b]? = w1.heap[b]?) : LaidS w2 g L (j + 1) sl := by
  obtain ⟨arr, hg0, hs, h⟩ := h
  have glt : g < w.heap.size := (Array.getElem?_eq_some_iff.1 hg0).1
  have hg1 := (hb.block g glt).trans hg0
  refine ⟨_, hg arr hg1, by rw [set10_size, hs], fun i t hit hij => ?_⟩
  by_cases e : i = j
  · subst e
    rw [ht] at hit
    obtain rfl := Option.some.inj hit
    refine ⟨k, n, s, x, ks', vs', A, c, hv, hti.nw (by omega) (fun b hb1 _ => ho b (by omega)), hyb, hl, fun q hq => ?_⟩
    rw [set10_in _ _ _ _ _ _ _ _ _ _ _ _ (by omega) q hq]
  · obtain ⟨k', n', s', x', ks2, vs2, A', c', hv', hti', hyb', hl', hc'⟩ := h i t hit (by omega)
    refine ⟨k', n', s', x', ks2, vs2, A', c', hv', hti'.nw (Nat.le_refl _) (fun b hb1 hlt => (ho b (by omega)).trans (hb.block b hlt)), hyb', hl', fun q hq => ?_⟩
    rw [set10_out _ _ _ _ _ _ _ _ _ _ _ _ _ (by omega)]
    exact hc' q hq

theorem is_info : ∃ i, Tryz.prog.info? IS = some i ∧ (i.zero = some (.agg #[.bool false, .int .i64 0, .string ⟨#[]⟩, .int .i64 0, .int .i64 0, .string ⟨#[]⟩, .int .i64 0, .slice none 0 0, .bool false, .int .i64 0]) ∧ i.size = 10 ∧ i.bytes = 112) := by
  have : (Tryz.prog.info? IS).map (fun i => (i.zero, i.size, i.bytes)) = some (some (.agg #[.bool false, .int .i64 0, .string ⟨#[]⟩, .int .i64 0, .int .i64 0, .string ⟨#[]⟩, .int .i64 0, .slice none 0 0, .bool false, .int .i64 0]), 10, 112) := by kernel_rfl
  cases hq : Tryz.prog.info? IS with
  | none => rw [hq] at this; cases this
  | some i => rw [hq] at this; simp at this; exact ⟨i, rfl, this⟩
/-- Copies of slots: in a new block. -/
def SlsQ (w : World) (sl : List Sl) (e : Ending) (w' : World) : Prop := ∃ g, w.heap.size = g ∧ e = .returned (.slice (some ⟨g, 0, none⟩) sl.length sl.length) ∧ SIn w' (Nw w.heap.size w') sl (some ⟨g, 0, none⟩) ∧ Below w.heap.size w w'
theorem totS_mem : ∀ {sl : List Sl} {j : Nat} {t : Sl}, sl[j]? = some t → tot t.val ≤ totS sl
  | [], j, _, h => by simp at h
  | t0 :: sl, 0, t, h => by
    obtain rfl : t0 = t := by simpa using h
    rw [totS]; omega
  | t0 :: sl, j + 1, t, h => by
    have := totS_mem (sl := sl) (j := j) (t := t) (by simpa using h)
    rw [totS]; omega

set_option maxRecDepth 100000 in
set_option maxHeartbeats 1600000 in
theorem cpSlots (sl : List Sl) (hT : sl.length + totS sl ≤ 1048576) (A : Option Addr) (c : Nat) (w : World) (S : Nat → Prop) (h : SIn w S sl A) :
    Calls Tryz.prog 78 #[.slice A sl.length c] w (SlsQ w sl) := by
  obtain ⟨L, HL⟩ : ∃ L, Hid (L = sl.length) := ⟨_, Lib.hid rfl⟩
  have hm : L ≤ 1048576 := by rw [HL.out]; omega
  obtain ⟨i0, hi, hz⟩ := is_info
  have hmk := run_make (P := Tryz.prog) w 25 IS i0 _ Tryz.underlying25 hi hz.1 .i64 .i64 L L (by omega) (Int.le_refl _) (by rw [hz.2.2]; omega) (by omega)
  rw [hz.2.1] at hmk
  simp only [Int.toNat_natCast] at hmk
  have HA0 := Lib.hid h
  have HTT := Lib.hid hT
  clear hi hz h hT
  unfold SlsQ
  rw [← HL.out]
  obtain ⟨arr0, HA⟩ : ∃ a, Hid (a = madeCells (Value.agg #[.bool false, .int .i64 0, .string ⟨#[]⟩, .int .i64 0, .int .i64 0, .string ⟨#[]⟩, .int .i64 0, .slice none 0 0, .bool false, .int .i64 0]).cells (L * 10)) := ⟨_, Lib.hid rfl⟩
  rw [← HA.out] at hmk
  go_enter Tryz.func78, Tryz.ntmps78
  go_wp2_with (fail)
  clear hmk
  go_loopg [4] (L + 1) (fun gk i wr => ∃ j : Nat, i = .int .i64 j ∧ gk + j = L + 1 ∧ j ≤ L ∧ LaidS wr w.heap.size L j sl ∧ Below w.heap.size w wr)
  case atStart => exact ⟨0, rfl, by omega, by omega, ⟨arr0, heap_alloc_new _ _, by rw [HA.out, madeSize], fun i t _ hi => absurd hi (by omega)⟩, b1 _ _⟩
  case round =>
    obtain ⟨j, rfl, hgj, hjL, hla, hb⟩ := hrel
    have HB := Lib.hid hb
    have HLa := Lib.hid hla
    clear hb hla
    by_cases hlt : j < L
    · obtain ⟨t, ht⟩ : ∃ t, sl[j]? = some t := ⟨_, List.getElem?_eq_getElem (by rw [← HL.out]; exact hlt)⟩
      obtain ⟨a, k, n, s, x, ks', vs', A1, c1, rfl, -, hk, hl, hv, hT, hcell⟩ := HA0.out.below HB.out j t ht
      have htj := totS_mem ht
      obtain ⟨y, tv, lb, ll⟩ := t
      simp only at hk hl hv hT hcell htj
      have ihj : ∀ w', Below wr.heap.size wr w' → Calls Tryz.prog 30 #[vV k n s x A1 vs'.length c1] w' (CpQ w' tv) := fun w' hb' => cps tv (by have := HTT.out; omega) w' S _ (hT.below' hb')
      subst hv
      have HTJ := Lib.hid ht
      have HKK := Lib.hid hk
      have HLL := Lib.hid hl
      clear ht hT htj hk hl
      obtain ⟨p0, p1, p2, p3, p4, p5, p6, p7, p8, p9⟩ := hcell
      go_wp2_with (fail)
      refine (cpSlot y _ k n s x A1 vs'.length c1 lb ll _ ihj).mono ?_
      rintro e w1 ⟨v, rfl, hv, hb1⟩
      obtain ⟨A2, c2, rfl, -, -⟩ := hv.out
      have HV := Lib.hid hv
      have HB1 := Lib.hid hb1
      obtain ⟨arr, hg0, hs, -⟩ := HLa.out
      have glt : w.heap.size < wr.heap.size := (Array.getElem?_eq_some_iff.1 hg0).1
      have hg1 := (hb1.block _ glt).trans hg0
      obtain ⟨r1, f1⟩ := rowc hg1
      have z : ∀ q, q < 10 → ∃ u, w1.cell? ⟨w.heap.size, j * 10 + q, none⟩ = some u := fun q hq => ⟨_, (r1 _).trans (Array.getElem?_eq_getElem (by omega))⟩
      obtain ⟨u0, z0⟩ := z 0 (by omega)
      obtain ⟨u1, z1⟩ := z 1 (by omega)
      obtain ⟨u2, z2⟩ := z 2 (by omega)
      obtain ⟨u3, z3⟩ := z 3 (by omega)
      obtain ⟨u4, z4⟩ := z 4 (by omega)
      obtain ⟨u5, z5⟩ := z 5 (by omega)
      obtain ⟨u6, z6⟩ := z 6 (by omega)
      obtain ⟨u7, z7⟩ := z 7 (by omega)
      obtain ⟨u8, z8⟩ := z 8 (by omega)
      obtain ⟨u9, z9⟩ := z 9 (by omega)
      rw [Nat.add_zero] at z0
      clear hv hb1 hg0 hg1 hs r1 z
      have eS : slV y (vV k n s x A2 vs'.length c2) lb ll = .agg #[.bool y.text, .int .i64 y.num, .string y.str, .int .i64 k, .int .i64 n, .string s, .int .i64 x, .slice A2 vs'.length c2, .bool lb, .int .i64 ll] := rfl
      rw [eS]
      clear eS
      go_wp2_with (fail)
      go_roundg (L - j)
      case rel =>
        refine ⟨j + 1, by go_num, by omega, by omega, HLa.out.step HB1.out HTJ.out rfl HV.out HKK.out HLL.out hlt (fun arr hg => ?_) (fun b hb => ?_), ?_⟩
        · exact set_heap (set_heap (set_heap (set_heap (set_heap (set_heap (set_heap (set_heap (set_heap (set_heap hg _ _) _ _) _ _) _ _) _ _) _ _) _ _) _ _) _ _) _ _
        · simp only [set_other hb]
        · have hB := bs HB.out HB1.out
          iterate 10 refine Below.setCell ?_ (by first | (simp; done) | (simp; omega)) _
          exact hB
      case measure => omega
    · obtain rfl : j = L := by omega
      go_wp2_with (fail)
      go_ret
      exact ⟨_, rfl, rfl, HLa.out.done HL.out.symm, HB.out⟩

end Go.Proofs.YtdgfpfkhcojgaaaGreatDoor.tree

/-
  Items that a call appends one by one: a row of its own.
  Conditions: those that each theorem names.
-/
namespace Go.Proofs.YtdgfpfkhcojgaaaGreatDoor.tree
open Go.ChangeShapes Go.WideShapes Go.ChangeAt Go.RowKit
set_option linter.unusedVariables false

/-- lo or above, and not the row's own block. -/
def SX (lo : Nat) (v : Value) (b : Nat) : Prop := lo ≤ b ∧ v.ownBlock ≠ some b
def xAt8 (xs : List Value) (i : Nat) (y : Ky) (k n : Int) (s : ByteArray) (x : Int) (A : Option Addr) (L c : Nat) : Prop := ∀ q, q < 8 → xs[i * 8 + q]? = (eV y k n s x A L c).cells[q]?
def ORowX (w : World) (lo : Nat) (v : Value) (xs : List Value) (ks : List Ky) (vs : List Tr) : Prop :=
  w.ownsRow lo IE 8 v vs.length xs ∧ ks.length = vs.length ∧ ∀ i, i < vs.length → ∃ y k n s x ks' vs' A c, ks[i]? = some y ∧ vs[i]? = some (.mk k n s x ks' vs') ∧ (I64 y.num ∧ y.str.size ≤ maxLen) ∧
    xAt8 xs i y k n s x A vs'.length c ∧ TIn w (SX lo v) (.mk k n s x ks' vs') (vV k n s x A vs'.length c)
def ORow (w : World) (lo : Nat) (v : Value) (ks : List Ky) (vs : List Tr) : Prop := ∃ xs, ORowX w lo v xs ks vs

section
variable {w w' : World} {lo : Nat} {v : Value} {ks : List Ky} {vs : List Tr}
theorem ORow.nil (w : World) (lo : Nat) : ORow w lo (.slice none 0 0) [] [] := ⟨[], World.ownsRow_nil w lo _ 8, rfl, fun i hi => absurd hi (by simp)⟩
theorem ownBlock_keep {v : Value} : v.ownBlock = none ∨ v.ownBlock ≠ (none : Option Nat) := by
  cases e : v.ownBlock with
  | none => exact .inl rfl
  | some k => exact .inr (by simp)
theorem ORowX.below {xs : List Value} (h : ORowX w lo v xs ks vs) (hb : Below w.heap.size w w') : ORowX w' lo v xs ks vs := by
  obtain ⟨h1, h2, h3⟩ := h
  refine ⟨World.ownsRow.kept h1 (mem.none_of_below hb) ownBlock_keep, h2, fun i hi => ?_⟩
  obtain ⟨y, k, n, s, x, ks', vs', A, c, a1, a2, a3, a4, a5⟩ := h3 i hi
  exact ⟨y, k, n, s, x, ks', vs', A, c, a1, a2, a3, a4, a5.below' hb⟩
theorem ORow.below (h : ORow w lo v ks vs) (hb : Below w.heap.size w w') : ORow w' lo v ks vs := by
  obtain ⟨xs, h⟩ := h
  exact ⟨xs, h.below hb⟩
theorem ORowX.above {xs : List Value} (h : ORowX w lo v xs ks vs) (hs : ∀ b, lo ≤ b → b < w.heap.size → w'.heap[b]? = w.heap[b]?) : ORowX w' lo v xs ks vs := by
  obtain ⟨h1, h2, h3⟩ := h
  refine ⟨⟨h1.1, ?_⟩, h2, fun i hi => ?_⟩
  · rcases h1.2 with h | ⟨g, cap, cur, e, hlo, hg, hr⟩
    · exact .inl h
    · exact .inr ⟨g, cap, cur, e, hlo, (hs g hlo (Array.getElem?_eq_some_iff.1 hg).1).trans hg, hr⟩
  · obtain ⟨y, k, n, s, x, ks', vs', A, c, a1, a2, a3, a4, a5⟩ := h3 i hi
    exact ⟨y, k, n, s, x, ks', vs', A, c, a1, a2, a3, a4, a5.stays (fun _ h => h) fun b hb hlt => hs b hb.1 hlt⟩
theorem ORow.above (h : ORow w lo v ks vs) (hs : ∀ b, lo ≤ b → b < w.heap.size → w'.heap[b]? = w.heap[b]?) : ORow w' lo v ks vs := by
  obtain ⟨xs, h⟩ := h
  exact ⟨xs, h.above hs⟩
theorem ORow.block (h : ORow w lo v ks vs) : ∀ k, v.ownBlock = some k → lo ≤ k ∧ k < w.heap.size := by
  obtain ⟨xs, h1, -⟩ := h
  exact h1.lt

/-- One more. -/
theorem ORowX.more {xs : List Value} (h : ORowX w lo v xs ks vs)
    {y : Ky} {k n x : Int} {s : ByteArray} {ks' : List Ky} {vs' : List Tr} {A : Option Addr} {c : Nat} (hy : I64 y.num ∧ y.str.size ≤ maxLen) (ht : TIn w (SX lo v) (.mk k n s x ks' vs') (vV k n s x A vs'.length c))
    {v' : Value} (ho : w'.ownsRow lo IE 8 v' (vs.length + 1) (xs ++ [.bool y.text, .int .i64 y.num, .string y.str, .int .i64 k, .int .i64 n, .string s, .int .i64 x, .slice A vs'.length c])) (hg : w.grownBy w' v.ownBlock) (hat : v'.ownBlock = v.ownBlock ∨ v'.ownBlock = some w.heap.size) :
    ORow w' lo v' (ks ++ [y]) (vs ++ [.mk k n s x ks' vs']) := by
  obtain ⟨h1, h2, h3⟩ := h
  have hxl : xs.length = vs.length * 8 := h1.1
  have st : ∀ {t : Tr} {u : Value}, TIn w (SX lo v) t u → TIn w' (SX lo v') t u := fun {t u} h => by
    have h' : TIn w (fun b => SX lo v b ∧ b < w.heap.size) t u := by
      induction h with
      | mk k n s x ks vs A cap C hk hl hm hcap hc ht ih =>
        refine .mk k n s x ks vs A cap C hk hl hm hcap (fun i hi => ?_) ih
        obtain ⟨a, ha, hS, hky, hs, hj⟩ := hc i hi
        refine ⟨a, ha, ⟨hS, ?_⟩, hky, hs, hj⟩
        have := World.block_lt_of_cell? _ _ hky.1
        rwa [mem.add_block] at this
    exact h'.stays (fun b ⟨⟨hb1, hb2⟩, hb3⟩ => ⟨hb1, fun e => by
      rcases hat with h | h
      · exact hb2 (h ▸ e)
      · rw [h] at e; injection e with e; omega⟩) (fun b ⟨⟨hb1, hb2⟩, hb3⟩ hlt => hg.block b hlt (fun e => hb2 e.symm))
  refine ⟨_, by rw [List.length_append]; exact ho, by rw [List.length_append, List.length_append, h2]; rfl, fun i hi => ?_⟩
  rw [List.length_append] at hi
  simp only [List.length_cons, List.length_nil] at hi
  by_cases e : i = vs.length
  · subst e
    refine ⟨y, k, n, s, x, ks', vs', A, c, by rw [List.getElem?_append_right (by omega), h2]; simp, by rw [List.getElem?_append_right (by omega)]; simp, hy, fun q hq => ?_, st ht⟩
    rw [List.getElem?_append_right (by omega), hxl, Nat.add_sub_cancel_left]
    match q, hq with
    | 0, _ => rfl
    | 1, _ => rfl
    | 2, _ => rfl
    | 3, _ => rfl
    | 4, _ => rfl
    | 5, _ => rfl
    | 6, _ => rfl
    | 7, _ => rfl
  · obtain ⟨y1, k1, n1, s1, x1, ks1, vs1, A1, c1, a1, a2, a3, a4, a5⟩ := h3 i (by omega)
    refine ⟨y1, k1, n1, s1, x1, ks1, vs1, A1, c1, by rw [List.getElem?_append_left (by omega)]; exact a1, by rw [List.getElem?_append_left (by omega)]; exact a2, a3, fun q hq => ?_, st a5⟩
    rw [List.getElem?_append_left (by omega)]
    exact a4 q hq

theorem ORow.isin (h : ORow w lo v ks vs) (hm : vs.length ≤ maxLen) : ∃ A c, v = .slice A vs.length c ∧ (vs.length ≤ c ∧ c ≤ maxLen) ∧ IsIn w (fun b => lo ≤ b) ks vs A := by
  obtain ⟨xs, h1, h2, h3⟩ := h
  rcases h1.2 with ⟨rfl, h0⟩ | ⟨g, cap, cur, rfl, hlo, hg, hnc, hcm, hsz, htk⟩
  · obtain rfl : vs = [] := List.length_eq_zero_iff.1 h0
    obtain rfl : ks = [] := List.length_eq_zero_iff.1 h2
    exact ⟨none, 0, rfl, ⟨by simp, by simp⟩, IsIn.nil _ _ _⟩
  · refine ⟨some ⟨g, 0, none⟩, cap, rfl, ⟨hnc, hcm⟩, h2, hm, ?_⟩
    have each : ∀ i, ∃ C : Array Value, ∀ (hi : i < vs.length), KyAt w ⟨g, 0, none⟩ i (ks[i]'(h2 ▸ hi)) ∧ C.size = 5 ∧ (∀ j, j < 5 → w.cell? ((⟨g, 0, none⟩ : Addr).add (8 * i + (3 + j))) = C[j]?) ∧ TIn w (fun b => lo ≤ b) (vs[i]) (.agg C) := by
      intro i
      by_cases hi : i < vs.length
      · obtain ⟨y, k, n, s, x, ks', vs', A, c, hy, ht, hyb, hat, hT⟩ := h3 i hi
        have ey : ks[i]'(h2 ▸ hi) = y := by rw [List.getElem?_eq_getElem (h2 ▸ hi)] at hy; exact Option.some.inj hy
        have et : vs[i] = .mk k n s x ks' vs' := by rw [List.getElem?_eq_getElem hi] at ht; exact Option.some.inj ht
        have at_ : ∀ q, q < 8 → w.cell? ((⟨g, 0, none⟩ : Addr).add (8 * i + q)) = (eV y k n s x A vs'.length c).cells[q]? := fun q hq => by
          rw [Addr.add_lit, Nat.zero_add, cell_of_row w g _ cur IE _ hg, ← hat q hq, ← htk, List.getElem?_take_of_lt (by omega), Nat.mul_comm]
          simp
        refine ⟨#[.int .i64 k, .int .i64 n, .string s, .int .i64 x, .slice A vs'.length c], fun _ => ?_⟩
        rw [ey, et]
        refine ⟨⟨at_ 0 (by omega), at_ 1 (by omega), at_ 2 (by omega), hyb⟩, rfl, fun j hj => ?_, hT.stays (fun b hb => hb.1) (fun b _ _ => rfl)⟩
        rw [at_ (3 + j) (by omega)]
        match j, hj with
        | 0, _ => rfl
        | 1, _ => rfl
        | 2, _ => rfl
        | 3, _ => rfl
        | 4, _ => rfl
      · exact ⟨#[], fun h => absurd h hi⟩
    exact ⟨fun i => (each i).choose, fun i hi => ⟨_, rfl, hlo, ((each i).choose_spec hi).1, ((each i).choose_spec hi).2.1, ((each i).choose_spec hi).2.2.1⟩, fun i hi => ((each i).choose_spec hi).2.2.2⟩
end

theorem addr_far {N j : Nat} (h : N < j) (o : Nat) : ∀ p : Addr, p.block < N + 1 → (⟨j, o, none⟩ : Addr) ≠ p := fun p hp e => by
  rw [← e] at hp
  simp only at hp
  omega
theorem ie_info : ∃ i, Tryz.prog.info? IE = some i ∧ (i.zero = some (.agg #[.bool false, .int .i64 0, .string ⟨#[]⟩, .int .i64 0, .int .i64 0, .string ⟨#[]⟩, .int .i64 0, .slice none 0 0]) ∧ i.size = 8 ∧ i.bytes = 96) := by
  have := ieRow
  cases hq : Tryz.prog.info? IE with
  | none => rw [hq] at this; cases this
  | some i => rw [hq] at this; simp at this; exact ⟨i, rfl, this⟩
theorem eight_one (b : Bool) (n : Int) (s : ByteArray) (k m : Int) (z : ByteArray) (x : Int) (A : Option Addr) (L c : Nat) : ∀ u ∈ [Value.bool b, .int .i64 n, .string s, .int .i64 k, .int .i64 m, .string z, .int .i64 x, .slice A L c], u.oneCell' = true := by simp [Value.oneCell']
theorem eight_new (w : World) (c0 c1 c2 c3 c4 c5 c6 c7 : Value) (t : TypeId) : ∀ j u, [c0, c1, c2, c3, c4, c5, c6, c7][j]? = some u → (w.alloc (.cells #[c0, c1, c2, c3, c4, c5, c6, c7] t)).cell? ((⟨w.heap.size, 0, none⟩ : Addr).add j) = some u := by
  intro j u hj
  rw [Addr.add_lit, Nat.zero_add, cell_of_row _ _ j _ t _ (heap_alloc_new w _)]
  simpa using hj

end Go.Proofs.YtdgfpfkhcojgaaaGreatDoor.tree

/-
  Items in a row of the call's own, all of whose blocks satisfy P.
  Conditions: those that each theorem names.
-/
namespace Go.Proofs.YtdgfpfkhcojgaaaGreatDoor.tree
open Go.ChangeShapes Go.WideShapes Go.ChangeAt Go.RowKit
set_option linter.unusedVariables false

def OwR (w : World) (P : Nat → Prop) (v : Value) (xs : List Value) (ks : List Ky) (vs : List Tr) : Prop :=
  w.ownsRow 0 IE 8 v vs.length xs ∧ (∀ b, v.ownBlock = some b → P b) ∧ ks.length = vs.length ∧ ∀ i, i < vs.length → ∃ y k n s x ks' vs' A c, ks[i]? = some y ∧ vs[i]? = some (.mk k n s x ks' vs') ∧ (I64 y.num ∧ y.str.size ≤ maxLen) ∧
    xAt8 xs i y k n s x A vs'.length c ∧ TIn w (fun b => P b ∧ v.ownBlock ≠ some b) (.mk k n s x ks' vs') (vV k n s x A vs'.length c)

section
variable {w w' : World} {P P' : Nat → Prop} {v : Value} {xs : List Value} {ks : List Ky} {vs : List Tr}
theorem OwR.of {lo : Nat} (h : ORowX w lo v xs ks vs) : OwR w (fun b => lo ≤ b ∧ b < w.heap.size) v xs ks vs := by
  have hb := ORow.block (lo := lo) (ks := ks) (vs := vs) ⟨xs, h⟩
  obtain ⟨h1, h2, h3⟩ := h
  refine ⟨⟨h1.1, h1.2.imp id fun ⟨g, cap, cur, e, hlo, r⟩ => ⟨g, cap, cur, e, Nat.zero_le _, r⟩⟩, hb, h2, fun i hi => ?_⟩
  obtain ⟨y, k, n, s, x, ks', vs', A, c, a1, a2, a3, a4, a5⟩ := h3 i hi
  refine ⟨y, k, n, s, x, ks', vs', A, c, a1, a2, a3, a4, ?_⟩
  have h' : TIn w (fun b => SX lo v b ∧ b < w.heap.size) (.mk k n s x ks' vs') (vV k n s x A vs'.length c) := by
    generalize (Tr.mk k n s x ks' vs') = t at a5
    generalize (vV k n s x A vs'.length c) = u at a5
    clear a1 a2 a4
    induction a5 with
    | mk k n s x ks vs A cap C hk hl hm hcap hc ht ih =>
      refine .mk k n s x ks vs A cap C hk hl hm hcap (fun i hi => ?_) ih
      obtain ⟨a, ha, hS, hky, hs, hj⟩ := hc i hi
      refine ⟨a, ha, ⟨hS, ?_⟩, hky, hs, hj⟩
      have := World.block_lt_of_cell? _ _ hky.1
      rwa [mem.add_block] at this
  exact h'.stays (fun b hb => ⟨⟨hb.1.1, hb.2⟩, hb.1.2⟩) (fun _ _ _ => rfl)
theorem OwR.mono (h : OwR w P v xs ks vs) (hP : ∀ b, P b → P' b) : OwR w P' v xs ks vs := by
  obtain ⟨h1, h0, h2, h3⟩ := h
  refine ⟨h1, fun b e => hP b (h0 b e), h2, fun i hi => ?_⟩
  obtain ⟨y, k, n, s, x, ks', vs', A, c, a1, a2, a3, a4, a5⟩ := h3 i hi
  exact ⟨y, k, n, s, x, ks', vs', A, c, a1, a2, a3, a4, a5.stays (fun b hb => ⟨hP b hb.1, hb.2⟩) (fun _ _ _ => rfl)⟩
theorem OwR.keep (h : OwR w P v xs ks vs) (hs : ∀ b, P b → b < w.heap.size → w'.heap[b]? = w.heap[b]?) : OwR w' P v xs ks vs := by
  obtain ⟨h1, h0, h2, h3⟩ := h
  refine ⟨⟨h1.1, ?_⟩, h0, h2, fun i hi => ?_⟩
  · rcases h1.2 with h | ⟨g, cap, cur, e, hlo, hg, hr⟩
    · exact .inl h
    · exact .inr ⟨g, cap, cur, e, hlo, (hs g (h0 g (by rw [e]; rfl)) (Array.getElem?_eq_some_iff.1 hg).1).trans hg, hr⟩
  · obtain ⟨y, k, n, s, x, ks', vs', A, c, a1, a2, a3, a4, a5⟩ := h3 i hi
    exact ⟨y, k, n, s, x, ks', vs', A, c, a1, a2, a3, a4, a5.stays (fun _ h => h) fun b hb hlt => hs b hb.1 hlt⟩
theorem OwR.below (h : OwR w P v xs ks vs) (hb : Below w.heap.size w w') : OwR w' P v xs ks vs := h.keep fun b _ hl => hb.block b hl
theorem OwR.row (h : OwR w P v xs ks vs) : ORow w 0 v ks vs := by
  obtain ⟨h1, h0, h2, h3⟩ := h
  refine ⟨xs, h1, h2, fun i hi => ?_⟩
  obtain ⟨y, k, n, s, x, ks', vs', A, c, a1, a2, a3, a4, a5⟩ := h3 i hi
  exact ⟨y, k, n, s, x, ks', vs', A, c, a1, a2, a3, a4, a5.stays (fun b hb => ⟨Nat.zero_le _, hb.2⟩) (fun _ _ _ => rfl)⟩
theorem OwR.isin (h : OwR w P v xs ks vs) (hm : vs.length ≤ maxLen) : ∃ A c, v = .slice A vs.length c ∧ (vs.length ≤ c ∧ c ≤ maxLen) ∧ IsIn w (fun b => 0 ≤ b) ks vs A := h.row.isin hm

/-- One more. -/
theorem OwR.more {Q : Nat → Prop} (h : OwR w P v xs ks vs)
    {y : Ky} {k n x : Int} {s : ByteArray} {ks' : List Ky} {vs' : List Tr} {A : Option Addr} {c : Nat} (hy : I64 y.num ∧ y.str.size ≤ maxLen) (ht : TIn w Q (.mk k n s x ks' vs') (vV k n s x A vs'.length c)) (hQ : ∀ b, Q b → v.ownBlock ≠ some b)
    {v' : Value} (ho : w'.ownsRow 0 IE 8 v' (vs.length + 1) (xs ++ [.bool y.text, .int .i64 y.num, .string y.str, .int .i64 k, .int .i64 n, .string s, .int .i64 x, .slice A vs'.length c])) (hg : w.grownBy w' v.ownBlock) (hat : v'.ownBlock = v.ownBlock ∨ v'.ownBlock = some w.heap.size) :
    OwR w' (fun b => ((P b ∧ v.ownBlock ≠ some b) ∨ Q b) ∨ v'.ownBlock = some b) v' (xs ++ [.bool y.text, .int .i64 y.num, .string y.str, .int .i64 k, .int .i64 n, .string s, .int .i64 x, .slice A vs'.length c]) (ks ++ [y]) (vs ++ [.mk k n s x ks' vs']) := by
  obtain ⟨h1, h0, h2, h3⟩ := h
  have hxl : xs.length = vs.length * 8 := h1.1
  have st : ∀ {t : Tr} {u : Value} {R : Nat → Prop}, (∀ b, R b → v.ownBlock ≠ some b) → (∀ b, R b → (P b ∧ v.ownBlock ≠ some b) ∨ Q b) → TIn w R t u → TIn w' (fun b => (((P b ∧ v.ownBlock ≠ some b) ∨ Q b) ∨ v'.ownBlock = some b) ∧ v'.ownBlock ≠ some b) t u := fun {t u R} hR1 hR2 h => by
    have h' : TIn w (fun b => R b ∧ b < w.heap.size) t u := by
      induction h with
      | mk k n s x ks vs A cap C hk hl hm hcap hc ht ih =>
        refine .mk k n s x ks vs A cap C hk hl hm hcap (fun i hi => ?_) ih
        obtain ⟨a, ha, hS, hky, hs, hj⟩ := hc i hi
        refine ⟨a, ha, ⟨hS, ?_⟩, hky, hs, hj⟩
        have := World.block_lt_of_cell? _ _ hky.1
        rwa [mem.add_block] at this
    exact h'.stays (fun b ⟨hb1, hb3⟩ => ⟨.inl (hR2 b hb1), fun e => by
      rcases hat with h | h
      · exact hR1 b hb1 (h ▸ e)
      · rw [h] at e; injection e with e; omega⟩) (fun b ⟨hb1, hb3⟩ hlt => hg.block b hlt (fun e => hR1 b hb1 e.symm))
  refine ⟨by rw [List.length_append]; exact ho, fun b e => .inr e, by rw [List.length_append, List.length_append, h2]; rfl, fun i hi => ?_⟩
  rw [List.length_append] at hi
  simp only [List.length_cons, List.length_nil] at hi
  by_cases e : i = vs.length
  · subst e
    refine ⟨y, k, n, s, x, ks', vs', A, c, by rw [List.getElem?_append_right (by omega), h2]; simp, by rw [List.getElem?_append_right (by omega)]; simp, hy, fun q hq => ?_, st hQ (fun b hb => .inr hb) ht⟩
    rw [List.getElem?_append_right (by omega), hxl, Nat.add_sub_cancel_left]
    match q, hq with
    | 0, _ => rfl
    | 1, _ => rfl
    | 2, _ => rfl
    | 3, _ => rfl
    | 4, _ => rfl
    | 5, _ => rfl
    | 6, _ => rfl
    | 7, _ => rfl
  · obtain ⟨y1, k1, n1, s1, x1, ks1, vs1, A1, c1, a1, a2, a3, a4, a5⟩ := h3 i (by omega)
    refine ⟨y1, k1, n1, s1, x1, ks1, vs1, A1, c1, by rw [List.getElem?_append_left (by omega)]; exact a1, by rw [List.getElem?_append_left (by omega)]; exact a2, a3, fun q hq => ?_, st (fun b hb => hb.2) (fun b hb => .inl hb) a5⟩
    rw [List.getElem?_append_left (by omega)]
    exact a4 q hq

theorem OwR.isinP (h : OwR w P v xs ks vs) (hm : vs.length ≤ maxLen) : ∃ A c, v = .slice A vs.length c ∧ (vs.length ≤ c ∧ c ≤ maxLen) ∧ IsIn w P ks vs A := by
  obtain ⟨h1, h0, h2, h3⟩ := h
  rcases h1.2 with ⟨rfl, h0'⟩ | ⟨g, cap, cur, rfl, hlo, hg, hnc, hcm, hsz, htk⟩
  · obtain rfl : vs = [] := List.length_eq_zero_iff.1 h0'
    obtain rfl : ks = [] := List.length_eq_zero_iff.1 h2
    exact ⟨none, 0, rfl, ⟨by simp, by simp⟩, IsIn.nil _ _ _⟩
  · refine ⟨some ⟨g, 0, none⟩, cap, rfl, ⟨hnc, hcm⟩, h2, hm, ?_⟩
    have each : ∀ i, ∃ C : Array Value, ∀ (hi : i < vs.length), KyAt w ⟨g, 0, none⟩ i (ks[i]'(h2 ▸ hi)) ∧ C.size = 5 ∧ (∀ j, j < 5 → w.cell? ((⟨g, 0, none⟩ : Addr).add (8 * i + (3 + j))) = C[j]?) ∧ TIn w P (vs[i]) (.agg C) := by
      intro i
      by_cases hi : i < vs.length
      · obtain ⟨y, k, n, s, x, ks', vs', A, c, hy, ht, hyb, hat, hT⟩ := h3 i hi
        have ey : ks[i]'(h2 ▸ hi) = y := by rw [List.getElem?_eq_getElem (h2 ▸ hi)] at hy; exact Option.some.inj hy
        have et : vs[i] = .mk k n s x ks' vs' := by rw [List.getElem?_eq_getElem hi] at ht; exact Option.some.inj ht
        have at_ : ∀ q, q < 8 → w.cell? ((⟨g, 0, none⟩ : Addr).add (8 * i + q)) = (eV y k n s x A vs'.length c).cells[q]? := fun q hq => by
          rw [Addr.add_lit, Nat.zero_add, cell_of_row w g _ cur IE _ hg, ← hat q hq, ← htk, List.getElem?_take_of_lt (by omega), Nat.mul_comm]
          simp
        refine ⟨#[.int .i64 k, .int .i64 n, .string s, .int .i64 x, .slice A vs'.length c], fun _ => ?_⟩
        rw [ey, et]
        refine ⟨⟨at_ 0 (by omega), at_ 1 (by omega), at_ 2 (by omega), hyb⟩, rfl, fun j hj => ?_, hT.stays (fun b hb => hb.1) (fun b _ _ => rfl)⟩
        rw [at_ (3 + j) (by omega)]
        match j, hj with
        | 0, _ => rfl
        | 1, _ => rfl
        | 2, _ => rfl
        | 3, _ => rfl
        | 4, _ => rfl
      · exact ⟨#[], fun h => absurd h hi⟩
    exact ⟨fun i => (each i).choose, fun i hi => ⟨_, rfl, h0 g rfl, ((each i).choose_spec hi).1, ((each i).choose_spec hi).2.1, ((each i).choose_spec hi).2.2.1⟩, fun i hi => ((each i).choose_spec hi).2.2.2⟩

/-- Items in a row of the call's own, all of whose blocks are plain and lie at lo or above. -/
def OwP (w : World) (lo : Nat) (v : Value) (xs : List Value) (ks : List Ky) (vs : List Tr) : Prop := OwR w (Nw lo w) v xs ks vs
theorem OwP.nil (w : World) (lo : Nat) : OwP w lo (.slice none 0 0) [] [] [] := ⟨World.ownsRow_nil w 0 _ 8, fun b e => by simp [Value.ownBlock] at e, rfl, fun i hi => absurd hi (by simp)⟩
theorem Plain.same {b : Nat} (h : Plain w b) (hs : w'.heap[b]? = w.heap[b]?) : Plain w' b := by
  obtain ⟨cs, t, hc⟩ := h
  exact ⟨cs, t, hs.trans hc⟩
theorem OwP.above {lo : Nat} (h : OwP w lo v xs ks vs) (hs : ∀ b, lo ≤ b → b < w.heap.size → w'.heap[b]? = w.heap[b]?) : OwP w' lo v xs ks vs :=
  (OwR.keep h fun b hb hl => hs b hb.1 hl).mono fun b hb => ⟨hb.1, hb.2.same (hs b hb.1 hb.2.lt)⟩
theorem OwP.below {lo : Nat} (h : OwP w lo v xs ks vs) (hb : Below w.heap.size w w') : OwP w' lo v xs ks vs := h.above fun b _ hl => hb.block b hl
theorem OwP.mono {lo lo' : Nat} (h : OwP w lo v xs ks vs) (hl : lo' ≤ lo) : OwP w lo' v xs ks vs := OwR.mono h fun b hb => ⟨Nat.le_trans hl hb.1, hb.2⟩
theorem OwP.block {lo : Nat} (h : OwP w lo v xs ks vs) : ∀ k, v.ownBlock = some k → lo ≤ k ∧ k < w.heap.size := fun k e => ⟨(h.2.1 k e).1, (h.2.1 k e).2.lt⟩
theorem OwP.len {lo : Nat} (h : OwP w lo v xs ks vs) : ks.length = vs.length := h.2.2.1
theorem OwP.isin {lo : Nat} (h : OwP w lo v xs ks vs) (hm : vs.length ≤ maxLen) : ∃ A c, v = .slice A vs.length c ∧ (vs.length ≤ c ∧ c ≤ maxLen) ∧ IsIn w (Nw lo w) ks vs A := OwR.isinP h hm
/-- One more, whose blocks are new. -/
theorem OwP.more {lo lq : Nat} (h : OwP w lo v xs ks vs) (hlq : lo ≤ lq) (hvq : ∀ b, v.ownBlock = some b → b < lq)
    {y : Ky} {k n x : Int} {s : ByteArray} {ks' : List Ky} {vs' : List Tr} {A : Option Addr} {c : Nat} (hy : I64 y.num ∧ y.str.size ≤ maxLen) (ht : TIn w (Nw lq w) (.mk k n s x ks' vs') (vV k n s x A vs'.length c))
    {v' : Value} (ho : w'.ownsRow 0 IE 8 v' (vs.length + 1) (xs ++ [.bool y.text, .int .i64 y.num, .string y.str, .int .i64 k, .int .i64 n, .string s, .int .i64 x, .slice A vs'.length c])) (hg : w.grownBy w' v.ownBlock) (hat : v'.ownBlock = v.ownBlock ∨ v'.ownBlock = some w.heap.size) (hlw : lo ≤ w.heap.size) :
    OwP w' lo v' (xs ++ [.bool y.text, .int .i64 y.num, .string y.str, .int .i64 k, .int .i64 n, .string s, .int .i64 x, .slice A vs'.length c]) (ks ++ [y]) (vs ++ [.mk k n s x ks' vs']) := by
  have hm := OwR.more (Q := Nw lq w) h hy ht (fun b hb e => by have := hvq b e; have := hb.1; omega) ho hg hat
  have hown : ∀ b, v'.ownBlock = some b → lo ≤ b ∧ Plain w' b := fun b e => by
    refine ⟨?_, ?_⟩
    · rcases hat with h' | h'
      · exact (OwP.block h b (h' ▸ e)).1
      · rw [h'] at e; injection e with e; omega
    · rcases ho.2 with ⟨rfl, h'⟩ | ⟨g, cap, cur, rfl, hlo, hgc, hr⟩
      · simp [Value.ownBlock] at e
      · simp [Value.ownBlock] at e
        subst e
        exact ⟨cur, IE, hgc⟩
  refine OwR.mono hm fun b hb => ?_
  rcases hb with (⟨hb, hne⟩ | hb) | hb
  · exact ⟨hb.1, hb.2.same (hg.block b hb.2.lt (fun e => hne e.symm))⟩
  · exact ⟨Nat.le_trans hlq hb.1, hb.2.same (hg.block b hb.2.lt (fun e => by have := hvq b e.symm; have := hb.1; omega))⟩
  · exact hown b hb
end

end Go.Proofs.YtdgfpfkhcojgaaaGreatDoor.tree

/-
  The laws' copy of a table.
  Conditions: at most 2^20 heads, slots and letters.
-/
namespace Go.Proofs.YtdgfpfkhcojgaaaGreatDoor.tree
open Go.ChangeShapes Go.WideShapes Go.ChangeAt Go.RowKit
set_option linter.unusedVariables false

/-- A copied table: its heads are the call's own, its slots lie in a new plain block. -/
def TtQ (w : World) (l : List Int) (sl : List Sl) (b : Bool) (n m : Nat) (x k : Int) (e : Ending) (w' : World) : Prop := ∃ (A : Option Addr) (c g mid : Nat), e = .returned (tbV b A n c (some ⟨g, 0, none⟩) m m x k) ∧ imem.OwnI w' w.heap.size A n c l ∧ (∀ q, (Value.slice A n c).ownBlock = some q → q < mid) ∧ w.heap.size ≤ mid ∧ mid ≤ g ∧ SIn w' (Nw mid w') sl (some ⟨g, 0, none⟩) ∧ Below w.heap.size w w'

theorem owni_up {w w' : World} {lo n c : Nat} {A : Option Addr} {l : List Int} (h : imem.OwnI w lo A n c l) (hs : ∀ b, lo ≤ b → b < w.heap.size → w'.heap[b]? = w.heap[b]?) : imem.OwnI w' lo A n c l := by
  refine ⟨h.1, h.2.1, ?_⟩
  rcases h.2.2 with h | ⟨g, cap, cur, e, hlo, hg, hr⟩
  · exact .inl h
  · exact .inr ⟨g, cap, cur, e, hlo, (hs g hlo (Array.getElem?_eq_some_iff.1 hg).1).trans hg, hr⟩
theorem al3t (w : World) (c0 c1 c2 : Array Value) (t0 t1 t2 : TypeId) (W : World) (hW : ((w.alloc (.cells c0 t0)).alloc (.cells c1 t1)).alloc (.cells c2 t2) = W) :
    W.heap[w.heap.size]? = some (.cells c0 t0 (0, 0)) ∧ W.heap[w.heap.size + 1]? = some (.cells c1 t1 (0, 0)) ∧ W.heap[w.heap.size + 2]? = some (.cells c2 t2 (0, 0)) ∧ W.heap.size = w.heap.size + 3 ∧ Below w.heap.size w W := by
  subst hW
  refine ⟨keepAlloc (keepAlloc (heap_alloc_new w _)), keepAlloc ?_, ?_, by simp, b3 w _ _ _⟩
  · have := heap_alloc_new (w.alloc (.cells c0 t0)) (.cells c1 t1)
    rwa [show (w.alloc (.cells c0 t0)).heap.size = w.heap.size + 1 by simp] at this
  · have := heap_alloc_new ((w.alloc (.cells c0 t0)).alloc (.cells c1 t1)) (.cells c2 t2)
    rwa [show ((w.alloc (.cells c0 t0)).alloc (.cells c1 t1)).heap.size = w.heap.size + 2 by simp] at this

set_option maxHeartbeats 1600000 in
set_option maxRecDepth 100000 in
theorem toTable {l : List Int} {sl : List Sl} {b : Bool} {A : Option Addr} {n c : Nat} {B : Option Addr} {m d : Nat} {x k : Int} {w : World} {S : Nat → Prop} (h : TbIn w S l sl A n c B m d x k) (hn : n ≤ 1048576) (hT : m + totS sl ≤ 1048576) :
    Calls Tryz.prog 28 #[tbV b A n c B m d x k] w (TtQ w l sl b n m x k) := by
  obtain ⟨hh, -, rfl, hcap, hS, -, -⟩ := h
  have Z1 := fun w' (hb : Below w.heap.size w w') => ints.toInts A n c l (by omega) w' (hh.below hb)
  have Z2 := fun w' (hb : Below w.heap.size w w') => cpSlots sl hT B d w' S (hS.below hb)
  have hlen : l.length = n := hh.len
  obtain ⟨m, HM⟩ : ∃ m, Hid (sl.length = m) := ⟨_, Lib.hid rfl⟩
  have HZ1 := Lib.hid Z1
  have HZ2 := Lib.hid Z2
  unfold SlsQ at HZ2
  rw [HM.out] at HZ2 ⊢
  clear Z1 Z2 hh hcap hS
  go_enter Tryz.func28, Tryz.ntmps28
  go_wp2_with (fail)
  obtain ⟨P, HP⟩ : ∃ P, Hid (w.heap.size = P) := ⟨_, Lib.hid rfl⟩
  rw [HP.out]
  generalize hw0 : ((w.alloc (.cells #[.bool b, .slice A n c, .slice B m d, .int .i64 x, .int .i64 k] 55)).alloc (.cells #[.bool false, .slice none 0 0, .slice none 0 0, .int .i64 0, .int .i64 0] IT)).alloc (.cells #[.bool b, .slice none 0 0, .slice none 0 0, .int .i64 0, .int .i64 0] IT) = w0
  obtain ⟨a0, a1, a2, az, ab⟩ := al3t w _ _ _ _ _ _ w0 hw0
  rw [HP.out] at a0 a1 a2 az
  have HB0 := Lib.hid ab
  refine (HZ1.out _ ab).mono ?_
  rintro e w1 ⟨A1, n1, c1, rfl, hown, hg1⟩
  obtain rfl : n1 = n := by rw [← hown.len, hlen]
  have hb1 := mem.below_of_none hg1
  have H0 := Lib.hid (carry hb1 a0)
  have H1 := Lib.hid (carry hb1 a1)
  have H2 := Lib.hid (carry hb1 a2)
  have HB1 := Lib.hid (bs HB0.out hb1)
  have HO1 := Lib.hid (hown.less (show P + 3 ≤ w0.heap.size by rw [az]; exact Nat.le_refl _))
  have HOB : Hid (∀ q, (Value.slice A1 n1 c1).ownBlock = some q → q < w1.heap.size) := Lib.hid (fun q e => (hown.block q e).2)
  have HS1 : Hid (P + 3 ≤ w1.heap.size) := Lib.hid (by rw [← az]; exact hb1.size)
  have r0 := rowc H0.out
  have x0 := r0.1 2; have x1 := r0.1 3; have x2 := r0.1 4
  simp at x0 x1 x2
  obtain ⟨r2, f2⟩ := rowc H2.out
  clear hw0 a0 a1 a2 az ab hown hg1 hb1 HZ1 r0 hlen
  go_wp2_with (fail)
  generalize hw2 : w1.setCell ⟨P + 2, 1, none⟩ (.slice A1 n1 c1) = w2
  have hoth : ∀ q, q ≠ P + 2 → w2.heap[q]? = w1.heap[q]? := fun q h => by rw [← hw2, set_other h]
  have HB2 : Hid (Below w.heap.size w w2) := Lib.hid (by rw [← hw2]; exact HB1.out.setCell (show w.heap.size ≤ P + 2 by rw [HP.out]; omega) _)
  have H02 := Lib.hid ((hoth P (by omega)).trans H0.out)
  have H12 := Lib.hid ((hoth (P + 1) (by omega)).trans H1.out)
  have H22 : Hid (w2.heap[P + 2]? = some (.cells #[.bool b, .slice A1 n1 c1, .slice none 0 0, .int .i64 0, .int .i64 0] IT (0, 0))) := Lib.hid (by rw [← hw2]; have := set_heap H2.out 1 (.slice A1 n1 c1); simpa using this)
  have HO2 := Lib.hid (owni_up HO1.out (w' := w2) fun q hq _ => hoth q (by omega))
  have hz2 : w2.heap.size = w1.heap.size := by rw [← hw2, set_size]
  have HS2 : Hid (P + 3 ≤ w2.heap.size) := Lib.hid (by rw [hz2]; exact HS1.out)
  rw [← hz2] at HOB
  clear hw2 hoth hz2 r2 f2 x0 x1 x2 H0 H1 H2 HB1 HO1 HS1
  refine (HZ2.out _ HB2.out).mono ?_
  rintro e w3 ⟨g, hg, rfl, hs, hb⟩
  have H0 := Lib.hid (carry hb H02.out)
  have H1 := Lib.hid (carry hb H12.out)
  have H2 := Lib.hid (carry hb H22.out)
  have HO3 := Lib.hid (HO2.out.below hb)
  have HB3 := Lib.hid (bs HB2.out hb)
  have hgP : P + 3 ≤ g := by rw [← hg]; exact HS2.out
  rw [hg] at HOB hs
  have HSl : Hid (SIn w3 (Nw g w3) sl (some ⟨g, 0, none⟩)) := Lib.hid hs
  have r0 := rowc H0.out
  have x1 := r0.1 3; have x2 := r0.1 4
  simp at x1 x2
  obtain ⟨r2, f2⟩ := rowc H2.out
  obtain ⟨r1, f1⟩ := rowc H1.out
  clear hs hb r0 hg H02 H12 H22 HO2 HB2 HZ2 HS2
  go_wp2_with (fail)
  generalize hwF : World.setCell (World.setCell (World.setCell (World.setCell (World.setCell (World.setCell (World.setCell (World.setCell w3 _ _) _ _) _ _) _ _) _ _) _ _) _ _) _ _ = wF
  have hoth : ∀ q, q ≠ P + 1 → q ≠ P + 1 + 1 → wF.heap[q]? = w3.heap[q]? := fun q h1 h2 => by rw [← hwF, set_other h1, set_other h1, set_other h1, set_other h1, set_other h1, set_other h2, set_other h2, set_other h2]
  have e1 : wF.heap[P + 1]? = some (.cells #[.bool b, .slice A1 n1 c1, .slice (some ⟨g, 0, none⟩) m m, .int .i64 x, .int .i64 k] IT (0, 0)) := by
    have hne : P + 1 ≠ P + 1 + 1 := by omega
    have h0 : (((w3.setCell ⟨P + 1 + 1, 2, none⟩ (.slice (some ⟨g, 0, none⟩) m m)).setCell ⟨P + 1 + 1, 3, none⟩ (.int .i64 x)).setCell ⟨P + 1 + 1, 4, none⟩ (.int .i64 k)).heap[P + 1]? = some (.cells #[.bool false, .slice none 0 0, .slice none 0 0, .int .i64 0, .int .i64 0] IT (0, 0)) := by rw [set_other hne, set_other hne, set_other hne]; exact H1.out
    have := set_heap (set_heap (set_heap (set_heap (set_heap h0 0 (.bool b)) 1 (.slice A1 n1 c1)) 2 (.slice (some ⟨g, 0, none⟩) m m)) 3 (.int .i64 x)) 4 (.int .i64 k)
    rw [← hwF]
    simpa using this
  have hBF : Below w.heap.size w wF := by
    rw [← hwF]
    iterate 5 refine Below.setCell ?_ (show w.heap.size ≤ P + 1 by rw [HP.out]; omega) _
    iterate 3 refine Below.setCell ?_ (show w.heap.size ≤ P + 1 + 1 by rw [HP.out]; omega) _
    exact HB3.out
  have rF := (rowc e1).1
  clear hwF r1 f1 r2 f2 x1 x2
  refine bodyPost_ret (v := tbV b A1 n1 c1 (some ⟨g, 0, none⟩) m m x k) (by simp [results, Tryz.results28, go_sem, rF]) rfl ⟨A1, c1, g, g, rfl, ?_, HOB.out, by rw [HP.out]; omega, Nat.le_refl _, ?_, hBF⟩
  · exact (owni_up HO3.out (w' := wF) fun q hq _ => hoth q (by omega) (by omega)).less (by rw [HP.out]; omega)
  · exact HSl.out.stays (fun q hq => ⟨hq.1, hq.2.same (hoth q (by have := hq.1; omega) (by have := hq.1; omega))⟩) (fun q hq _ => hoth q (by have := hq.1; omega) (by have := hq.1; omega))

end Go.Proofs.YtdgfpfkhcojgaaaGreatDoor.tree

/-
  The laws' marks: what they leave in a value.
  Conditions: those that each theorem names.
-/
namespace Go.Proofs.YtdgfpfkhcojgaaaGreatDoor.tree
open Go.ChangeShapes Go.WideShapes Go.ChangeAt Go.RowKit
set_option linter.unusedVariables false

theorem cnts_nil : cnts [] = 0 := by rw [cnts]
theorem cnts_cons' (t : Tr) (vs : List Tr) : cnts (t :: vs) = cnt t + cnts vs := by rw [cnts]
theorem cnt_mk' (k n : Int) (s : ByteArray) (x : Int) (ks : List Ky) (vs : List Tr) : cnt (.mk k n s x ks vs) = 1 + cnts vs := by rw [cnt]
theorem cnts_app : ∀ (a b : List Tr), cnts (a ++ b) = cnts a + cnts b
  | [], b => by rw [cnts_nil]; simp
  | t :: a, b => by rw [List.cons_append, cnts_cons', cnts_cons', cnts_app a b]; omega
theorem cnts_take {vs : List Tr} {j : Nat} {t : Tr} (h : vs[j]? = some t) : cnts (vs.take (j + 1)) = cnts (vs.take j) + cnt t := by
  obtain ⟨hj, rfl⟩ := List.getElem?_eq_some_iff.1 h
  rw [List.take_succ_eq_append_getElem hj, cnts_app, cnts_cons', cnts_nil]
  omega
theorem cnts_le (vs : List Tr) (j : Nat) : cnts (vs.take j) ≤ cnts vs := by
  have := cnts_app (vs.take j) (vs.drop j)
  rw [List.take_append_drop] at this
  omega
theorem cnts_lt {vs : List Tr} {j : Nat} {t : Tr} (h : vs[j]? = some t) : cnts (vs.take j) + cnt t ≤ cnts vs := by
  rw [← cnts_take h]
  exact cnts_le vs (j + 1)

/-- The digits of a number, before a text. -/
def digOf (k : Nat) : ByteArray := ⟨#[UInt8.ofNat (48 + k % 10)]⟩
def mgo : Nat → Nat → ByteArray → ByteArray
  | 0, _, out => out
  | f + 1, k, out => if k = 0 then out else mgo f (k / 10) (digOf k ++ out)
def mtx (k : Int) : ByteArray := "m".toUTF8 ++ mgo 30 k.toNat ⟨#[]⟩

/-- The key and the value that the marks from m on leave. -/
def mkY (m : Int) : Ky := ⟨decide (m % 3 = 0), m + 1, mtx (m + 2)⟩
def mkK (m : Int) : List Tr → List Ky
  | [] => []
  | t :: vs => mkY m :: mkK (m + 7 * cnt t) vs
mutual
def mkT (m : Int) : Tr → Tr
  | .mk _ _ _ _ _ vs => .mk (m + 3) (m + 4) (mtx (m + 5)) (m + 6) (mkK (m + 7) vs) (mkV (m + 7) vs)
def mkV (m : Int) : List Tr → List Tr
  | [] => []
  | t :: vs => mkT m t :: mkV (m + 7 * cnt t) vs
end
theorem mkT_mk (m k n : Int) (s : ByteArray) (x : Int) (ks : List Ky) (vs : List Tr) : mkT m (.mk k n s x ks vs) = .mk (m + 3) (m + 4) (mtx (m + 5)) (m + 6) (mkK (m + 7) vs) (mkV (m + 7) vs) := by rw [mkT]
theorem mkK_len : ∀ (m : Int) (vs : List Tr), (mkK m vs).length = vs.length
  | _, [] => rfl
  | m, t :: vs => by rw [mkK, List.length_cons, mkK_len, List.length_cons]
theorem mkV_len : ∀ (m : Int) (vs : List Tr), (mkV m vs).length = vs.length
  | _, [] => by rw [mkV]
  | m, t :: vs => by rw [mkV, List.length_cons, mkV_len, List.length_cons]
theorem mkK_get : ∀ (m : Int) (vs : List Tr) (j : Nat) (t : Tr), vs[j]? = some t → (mkK m vs)[j]? = some (mkY (m + 7 * cnts (vs.take j)))
  | _, [], j, t, h => by simp at h
  | m, u :: vs, 0, t, h => by simp [mkK, cnts_nil]
  | m, u :: vs, j + 1, t, h => by
    rw [mkK, List.getElem?_cons_succ, mkK_get (m + 7 * cnt u) vs j t (by simpa using h), List.take_succ_cons, cnts_cons']
    congr 2
    push_cast
    omega
theorem mkV_get : ∀ (m : Int) (vs : List Tr) (j : Nat) (t : Tr), vs[j]? = some t → (mkV m vs)[j]? = some (mkT (m + 7 * cnts (vs.take j)) t)
  | _, [], j, t, h => by simp at h
  | m, u :: vs, 0, t, h => by
    simp at h
    subst h
    simp [mkV, cnts_nil]
  | m, u :: vs, j + 1, t, h => by
    rw [mkV, List.getElem?_cons_succ, mkV_get (m + 7 * cnt u) vs j t (by simpa using h), List.take_succ_cons, cnts_cons']
    congr 2
    push_cast
    omega

/-- The first j of one list, then the other. -/
def mix {α : Type} (a b : List α) (j : Nat) : List α := a.take j ++ b.drop j
theorem mix_len {α : Type} {a b : List α} (h : a.length = b.length) (j : Nat) : (mix a b j).length = b.length := by
  unfold mix
  rw [List.length_append, List.length_take, List.length_drop]
  omega
theorem mix_lt {α : Type} {a b : List α} (h : a.length = b.length) {i j : Nat} (hi : i < j) (hj : j ≤ a.length) : (mix a b j)[i]? = a[i]? := by
  unfold mix
  rw [List.getElem?_append_left (by rw [List.length_take]; omega), List.getElem?_take_of_lt hi]
theorem mix_ge {α : Type} {a b : List α} (h : a.length = b.length) {i j : Nat} (hi : j ≤ i) (hj : j ≤ a.length) : (mix a b j)[i]? = b[i]? := by
  unfold mix
  rw [List.getElem?_append_right (by rw [List.length_take]; omega), List.length_take, List.getElem?_drop]
  congr 1
  omega
theorem mix_zero {α : Type} (a b : List α) : mix a b 0 = b := by simp [mix]
theorem mix_all {α : Type} {a b : List α} (h : a.length = b.length) : mix a b b.length = a := by simp [mix, ← h]

def MtQ (w : World) (k : Int) (e : Ending) (w' : World) : Prop := e = .returned (.string (mtx k)) ∧ Below w.heap.size w w'
theorem mgo_size : ∀ (f k : Nat) (out : ByteArray), (mgo f k out).size ≤ f + out.size
  | 0, _, out => by simp [mgo]
  | f + 1, k, out => by
    rw [mgo]
    split
    · omega
    · have := mgo_size f (k / 10) (digOf k ++ out)
      rw [ByteArray.size_append] at this
      have e : (digOf k).size = 1 := rfl
      omega
theorem mtx_size (k : Int) : (mtx k).size ≤ 31 := by
  unfold mtx
  rw [ByteArray.size_append]
  have := mgo_size 30 k.toNat ⟨#[]⟩
  have e : ("m".toUTF8 : ByteArray).size = 1 := by decide
  have e0 : (⟨#[]⟩ : ByteArray).size = 0 := rfl
  omega

end Go.Proofs.YtdgfpfkhcojgaaaGreatDoor.tree

/-
  The laws' marks: the text of a mark.
  Conditions: the number is above 0 and at most 10^15.
-/
namespace Go.Proofs.YtdgfpfkhcojgaaaGreatDoor.tree
open Go.ChangeShapes Go.WideShapes Go.ChangeAt Go.RowKit mem
set_option linter.unusedVariables false

theorem mgo_step {f q : Nat} (hq : q ≠ 0) (o : ByteArray) : mgo (f + 1) q o = mgo f (q / 10) (digOf q ++ o) := by rw [mgo, if_neg hq]
theorem mgo_zero (f : Nat) (o : ByteArray) : mgo f 0 o = o := by cases f <;> simp [mgo]

set_option maxHeartbeats 800000 in
theorem markText (k : Int) (h0 : 1 ≤ k) (h1 : k ≤ 1000000000000000) (w : World) : Calls Tryz.prog 94 #[.int .i64 k] w (MtQ w k) := by
  obtain ⟨K, rfl⟩ : ∃ K : Nat, k = (K : Int) := ⟨k.toNat, by omega⟩
  unfold MtQ mtx
  rw [Int.toNat_natCast]
  obtain ⟨T, HT⟩ : ∃ T, Hid (mgo 30 K ⟨#[]⟩ = T) := ⟨_, Lib.hid rfl⟩
  rw [HT.out]
  go_enter Tryz.func94, Tryz.ntmps94
  go_wp2_with (fail)
  go_loopg [0, 3] 30 (fun gk kv ov wr => ∃ (q : Nat) (o : ByteArray), kv = .int .i64 q ∧ ov = .string o ∧ q ≤ 1000000000000000 ∧ q < 10 ^ gk ∧ o.size + gk = 30 ∧ Hid (mgo gk q o = T) ∧ Below w.heap.size w wr)
  case atStart => exact ⟨K, ⟨#[]⟩, rfl, rfl, by omega, by omega, rfl, HT, Below.refl _ _⟩
  case round =>
    obtain ⟨q, o, rfl, rfl, hq, hp, ho, HQ, hb⟩ := hrel
    have HB := Lib.hid hb
    have HP := Lib.hid hp
    clear hb hp
    by_cases hq0 : q = 0
    · subst hq0
      have e : T = o := by rw [← HQ.out, mgo_zero]
      subst e
      have ho' : T.size ≤ 30 := by omega
      go_wp2_with (fail)
      go_ret
      exact ⟨rfl, HB.out⟩
    · have hpos : 0 < q := by omega
      have hgk : gk ≠ 0 := fun e => by have := HP.out; rw [e] at this; simp at this; omega
      obtain ⟨f, HF⟩ : ∃ f, Hid (gk = f + 1) := ⟨gk - 1, Lib.hid (by omega)⟩
      have hd0 : (0 : Int) ≤ (q : Int) % 10 := by omega
      have hd1 : (q : Int) % 10 ≤ 9 := by omega
      have hcv := conv_rd (P := Tryz.prog) _ 22 9 5 Tryz.underlying22 Tryz.underlying5 Tryz.underlying9 (rd_one wr (48 + (q : Int) % 10) (by omega) (by omega) 5) 1
      rw [show strOfNums [48 + (q : Int) % 10] = digOf q by
        have e : (48 + (q : Int) % 10).toNat = 48 + q % 10 := by omega
        simp [strOfNums, digOf, e]] at hcv
      have hd2 : (digOf q).size ≤ 1 := Nat.le_refl 1
      have ho2 : o.size ≤ 30 := by omega
      obtain ⟨D, HD⟩ : ∃ D, Hid (digOf q = D) := ⟨_, Lib.hid rfl⟩
      rw [HD.out] at hcv hd2
      go_wp2_with (fail)
      clear hcv
      go_roundg f
      case rel =>
        refine ⟨q / 10, D ++ o, rfl, rfl, by omega, ?_, ?_, Lib.hid ?_, bs HB.out (b1 _ _)⟩
        · exact Nat.div_lt_of_lt_mul (by have := HP.out; rw [HF.out, Nat.pow_succ] at this; omega)
        · have e1 : (digOf q).size = 1 := rfl
          rw [HD.out] at e1
          have := HF.out
          rw [ByteArray.size_append]
          omega
        · rw [← HD.out, ← mgo_step hq0, ← HF.out]
          exact HQ.out
      case measure => have := HF.out; omega

end Go.Proofs.YtdgfpfkhcojgaaaGreatDoor.tree

/-
  What a call leaves as it was, but for some blocks.
  Conditions: none.
-/
namespace Go.Proofs.YtdgfpfkhcojgaaaGreatDoor.tree
open Go.ChangeShapes Go.WideShapes Go.ChangeAt Go.RowKit
set_option linter.unusedVariables false

/-- Nothing but blocks of S has changed. -/
structure Fr (S : Nat → Prop) (w w' : World) : Prop where
  os : w'.os = w.os
  tape : w'.tape = w.tape
  output : w'.output = w.output
  size : w.heap.size ≤ w'.heap.size
  block : ∀ b, b < w.heap.size → ¬ S b → w'.heap[b]? = w.heap[b]?
section
variable {S S' : Nat → Prop} {w w' w2 : World}
theorem Fr.refl (S : Nat → Prop) (w : World) : Fr S w w := ⟨rfl, rfl, rfl, Nat.le_refl _, fun _ _ _ => rfl⟩
theorem Fr.of (h : Below w.heap.size w w') : Fr S w w' := ⟨h.os, h.tape, h.output, h.size, fun b hb _ => h.block b hb⟩
theorem Fr.trans (h : Fr S w w') (k : Fr S w' w2) : Fr S w w2 := ⟨k.os.trans h.os, k.tape.trans h.tape, k.output.trans h.output, Nat.le_trans h.size k.size, fun b hb hs => (k.block b (Nat.lt_of_lt_of_le hb h.size) hs).trans (h.block b hb hs)⟩
theorem Fr.mono (h : Fr S w w') (hs : ∀ b, S b → S' b) : Fr S' w w' := ⟨h.os, h.tape, h.output, h.size, fun b hb hn => h.block b hb fun hh => hn (hs b hh)⟩
theorem Fr.below (h : Fr S w w') {lo : Nat} (hl : lo ≤ w.heap.size) (hs : ∀ b, S b → lo ≤ b) : Below lo w w' := ⟨h.os, h.tape, h.output, h.size, fun b hb => h.block b (Nat.lt_of_lt_of_le hb hl) fun hh => by have := hs b hh; omega⟩
theorem Fr.set {g : Nat} (hg : S g) (j : Nat) (v : Value) : Fr S w (w.setCell ⟨g, j, none⟩ v) := ⟨rfl, rfl, rfl, by rw [set_size]; exact Nat.le_refl _, fun b _ hn => set_other (fun e => hn (e ▸ hg))⟩
end

theorem TIn.lt' {w : World} {S : Nat → Prop} {t : Tr} {v : Value} (h : TIn w S t v) : TIn w (fun b => b < w.heap.size) t v := by
  induction h with
  | mk k n s x ks vs A cap C hk hl hm hcap hc ht ih =>
    refine TIn.mk k n s x ks vs A _ C hk hl hm hcap (fun i hi => ?_) ih
    obtain ⟨a, ha, hS, hky, hs, hj⟩ := hc i hi
    refine ⟨a, ha, ?_, hky, hs, hj⟩
    have := World.block_lt_of_cell? _ _ hky.1
    rwa [mem.add_block] at this

end Go.Proofs.YtdgfpfkhcojgaaaGreatDoor.tree

/-
  Lists of numbers and of slots copied into new blocks, of the project.
  Conditions: those that each theorem names.
-/
namespace Go.Proofs.YtdgfpfkhcojgaaaGreatDoor.tree
open Go.ChangeShapes Go.WideShapes Go.ChangeAt Go.RowKit
set_option linter.unusedVariables false

set_option maxHeartbeats 1000000 in
theorem copyInts (A : Option Addr) (n c : Nat) (l : List Int) (w : World) (hr : imem.RdI w A n l) (hn : n ≤ 1048576) :
    Calls Tryz.prog 109 #[.slice A n c] w (fun e w' => ∃ A' c', e = .returned (.slice A' n c') ∧ imem.OwnI w' w.heap.size A' n c' l ∧ Below w.heap.size w w') := by
  have hl := hr.len
  cases A with
  | none =>
    have h0 : n = 0 := by
      rcases Nat.eq_zero_or_pos n with h | h
      · exact h
      · obtain ⟨a, ha, -⟩ := hr.2 h
        cases ha
    subst h0
    obtain rfl : l = [] := List.eq_nil_of_length_eq_zero hl
    have heq := Lib.run_eql_slice_nil (P := Tryz.prog) w 24 3 none 0 c 0 0 Tryz.underlying24
    clear hr hn hl
    go_enter Tryz.func109, Tryz.ntmps109
    go_wp2_with (fail)
    go_ret
    exact ⟨none, 0, rfl, imem.owni_nil _ _, Below.refl _ _⟩
  | some a =>
    obtain ⟨i0, hi, hz, hs, hby⟩ := int_info
    have hsz : (Tryz.prog.info? 3).map (·.size) = some 1 := by rw [hi]; exact congrArg some hs
    have hmk := run_make (P := Tryz.prog) w 24 3 i0 _ Tryz.underlying24 hi hz .i64 .i64 n n (by omega) (Int.le_refl _) (by rw [hby]; omega) (by omega)
    rw [hs, Nat.mul_one] at hmk
    simp only [Int.toNat_natCast] at hmk
    obtain ⟨arr0, HA⟩ : ∃ x, Hid (x = madeCells (Value.int .i64 0).cells n) := ⟨_, Lib.hid rfl⟩
    rw [← HA.out] at hmk
    have hsa : arr0.size = n := by rw [HA.out, size_madeCells]
    have hcp := run_copy_row (P := Tryz.prog) (w.alloc (.cells arr0 3)) 24 24 3 3 w.heap.size 0 n n a n c arr0 3 (imem.ics l) Tryz.underlying24 hsz (heap_alloc_new w _) (by rw [imem.ics_len, hl]; simp) (fun j v hv => by
      obtain ⟨u, hu⟩ : ∃ u, l[j]? = some u := by
        have := (List.getElem?_eq_some_iff.1 hv).1
        rw [imem.ics_len] at this
        exact ⟨_, List.getElem?_eq_getElem this⟩
      rw [imem.ics_get hu] at hv
      obtain rfl := Option.some.inj hv
      obtain ⟨a', ha', hc⟩ := hr.2 (by have := (List.getElem?_eq_some_iff.1 hu).1; omega)
      obtain rfl := Option.some.inj ha'
      exact cell_stays (fun hlt => (b1 w _).block _ hlt) (hc j u hu)) (by rw [imem.ics_len, hl, hsa]; omega) (imem.ics_one l)
    rw [imem.ics_len, hl] at hcp
    have hrow : (arr0.toList.take 0 ++ imem.ics l ++ arr0.toList.drop (0 + n)).toArray = (imem.ics l).toArray := by
      rw [List.take_zero, List.nil_append, List.drop_eq_nil_of_le (by rw [Array.length_toList, hsa]; omega), List.append_nil]
    rw [hrow] at hcp
    have heq := Lib.run_eql_slice_nil (P := Tryz.prog) w 24 3 (some a) n c 0 0 Tryz.underlying24
    have HO : Hid (imem.OwnI ((w.alloc (.cells arr0 3)).setRow w.heap.size (imem.ics l).toArray) w.heap.size (some ⟨w.heap.size, 0, none⟩) n n l) := Lib.hid ⟨hl, by rw [imem.ics_len, hl, Nat.mul_one], .inr ⟨_, n, _, rfl, Nat.le_refl _, setRow_heap _ _ _ _ _ _ (heap_alloc_new w _), Nat.le_refl _, by unfold maxLen; omega, by simp [imem.ics_len, hl], by rw [Nat.mul_one]; exact List.take_of_length_le (by rw [imem.ics_len, hl]; exact Nat.le_refl _)⟩⟩
    have HB : Hid (Below w.heap.size w ((w.alloc (.cells arr0 3)).setRow w.heap.size (imem.ics l).toArray)) := Lib.hid (below_setRow (b1 w _) (Nat.le_refl _) _)
    obtain ⟨W3, HW⟩ : ∃ W, Hid (W = (w.alloc (.cells arr0 3)).setRow w.heap.size (imem.ics l).toArray) := ⟨_, Lib.hid rfl⟩
    rw [← HW.out] at hcp HO HB
    clear hr hi hz hs hby hsz hsa hrow hl
    go_enter Tryz.func109, Tryz.ntmps109
    go_wp2_with (fail)
    go_ret
    exact ⟨_, _, rfl, HO.out, HB.out⟩

/-- 'copy' of elements of z cells each. -/
theorem run_copy_z {P : Program} (w : World) (dT sT ty elem : TypeId) (z g o dLen dCap : Nat) (a : Addr) (sLen sCap : Nat) (cur : Array Value) (t : TypeId) (cs : List Value) (n : Nat)
    (hu : P.underlying dT = some (.slice elem)) (hs : (P.info? elem).map (·.size) = some z) (hg : w.heap[g]? = some (.cells cur t (0, 0))) (hn : n = Nat.min sLen dLen) (hl : cs.length = n * z)
    (hsrc : ∀ j v, cs[j]? = some v → w.cell? (a.add j) = some v) (ho : o + cs.length ≤ cur.size) (h1 : ∀ v ∈ cs, v.oneCell' = true) :
    (Builtin.copy_ #[dT, sT] ty #[.slice (some ⟨g, o, none⟩) dLen dCap, .slice (some a) sLen sCap]).run P w = .ok (goInt n) (w.setRow g (cur.toList.take o ++ cs ++ cur.toList.drop (o + cs.length)).toArray) := by
  have hld := run_loadCells_list (P := P) w a cs hsrc
  have hst := run_storeCells_at (P := P) g o t cs 0 cur w hg (by simpa using ho) h1
  cases hq : P.info? elem with
  | none => simp [hq] at hs
  | some i =>
    have hi : i.size = z := by simpa [hq] using hs
    rw [hl] at hld
    simp only [Nat.add_zero] at hst
    simp [Builtin.copy_, run_underlying hu, Builtin.lenOf, Builtin.firstCells, sizeOf, typeInfo, hq, hi, ← hn, hld, hst]
theorem At10.at_ {w : World} {q : Addr} {y : Ky} {k n x l : Int} {s : ByteArray} {A : Option Addr} {L c : Nat} {b : Bool} (h : At10 w q y k n s x A L c b l) : ∀ j, j < 10 → w.cell? (q.add j) = ([.bool y.text, .int .i64 y.num, .string y.str, .int .i64 k, .int .i64 n, .string s, .int .i64 x, .slice A L c, .bool b, .int .i64 l] : List Value)[j]? := by
  have sp : ∀ j, j ≠ 0 → q.add j = ⟨q.block, q.off + j, none⟩ := fun j hj => add_pos _ _ hj
  intro j hj
  match j, hj with
  | 0, _ => rw [show q.add 0 = q by unfold Addr.add; rw [if_pos rfl], h.c0]; rfl
  | 1, _ => rw [sp 1 (by omega), h.c1]; rfl
  | 2, _ => rw [sp 2 (by omega), h.c2]; rfl
  | 3, _ => rw [sp 3 (by omega), h.c3]; rfl
  | 4, _ => rw [sp 4 (by omega), h.c4]; rfl
  | 5, _ => rw [sp 5 (by omega), h.c5]; rfl
  | 6, _ => rw [sp 6 (by omega), h.c6]; rfl
  | 7, _ => rw [sp 7 (by omega), h.c7]; rfl
  | 8, _ => rw [sp 8 (by omega), h.c8]; rfl
  | 9, _ => rw [sp 9 (by omega), h.c9]; rfl
theorem At10.of {w : World} {g o : Nat} {y : Ky} {k n x l : Int} {s : ByteArray} {A : Option Addr} {L c : Nat} {b : Bool} (h : ∀ j, j < 10 → w.cell? ⟨g, o + j, none⟩ = ([.bool y.text, .int .i64 y.num, .string y.str, .int .i64 k, .int .i64 n, .string s, .int .i64 x, .slice A L c, .bool b, .int .i64 l] : List Value)[j]?) : At10 w ⟨g, o, none⟩ y k n s x A L c b l :=
  ⟨h 0 (by omega), h 1 (by omega), h 2 (by omega), h 3 (by omega), h 4 (by omega), h 5 (by omega), h 6 (by omega), h 7 (by omega), h 8 (by omega), h 9 (by omega)⟩
theorem SIn.cells {w : World} {S : Nat → Prop} {sl : List Sl} {a : Addr} (h : SIn w S sl (some a)) :
    ∃ cs : List Value, cs.length = sl.length * 10 ∧ (∀ j v, cs[j]? = some v → w.cell? (a.add j) = some v) ∧ (∀ v ∈ cs, v.oneCell' = true) ∧ ∀ j, j < sl.length * 10 → cs[j]? = w.cell? (a.add j) := by
  have one : ∀ i q, i < sl.length → q < 10 → ∃ u, w.cell? (a.add (i * 10 + q)) = some u ∧ u.oneCell' = true := by
    intro i q hi hq
    obtain ⟨a', k, n, s, x, ks, vs, A', c', e, -, -, -, -, -, hc⟩ := h i _ (List.getElem?_eq_getElem hi)
    obtain rfl := Option.some.inj e
    have := hc.at_ q hq
    rw [add_add'] at this
    rw [this]
    match q, hq with
    | 0, _ => exact ⟨_, rfl, rfl⟩
    | 1, _ => exact ⟨_, rfl, rfl⟩
    | 2, _ => exact ⟨_, rfl, rfl⟩
    | 3, _ => exact ⟨_, rfl, rfl⟩
    | 4, _ => exact ⟨_, rfl, rfl⟩
    | 5, _ => exact ⟨_, rfl, rfl⟩
    | 6, _ => exact ⟨_, rfl, rfl⟩
    | 7, _ => exact ⟨_, rfl, rfl⟩
    | 8, _ => exact ⟨_, rfl, rfl⟩
    | 9, _ => exact ⟨_, rfl, rfl⟩
  have get : ∀ j, ((List.range (sl.length * 10)).map fun j => (w.cell? (a.add j)).getD undef)[j]? = if j < sl.length * 10 then some ((w.cell? (a.add j)).getD undef) else none := by
    intro j
    rw [List.getElem?_map]
    split
    · rename_i hj; rw [List.getElem?_range hj]; rfl
    · rename_i hj; rw [List.getElem?_eq_none (by rw [List.length_range]; omega)]; rfl
  have ex : ∀ j, j < sl.length * 10 → ∃ u, w.cell? (a.add j) = some u ∧ u.oneCell' = true := fun j hj => by
    obtain ⟨u, hu, h1⟩ := one (j / 10) (j % 10) (by omega) (by omega)
    rw [show j / 10 * 10 + j % 10 = j by omega] at hu
    exact ⟨u, hu, h1⟩
  refine ⟨(List.range (sl.length * 10)).map fun j => (w.cell? (a.add j)).getD undef, by simp, fun j v hv => ?_, fun v hv => ?_, fun j hj => ?_⟩
  · rw [get] at hv
    split at hv
    · rename_i hj
      obtain ⟨u, hu, -⟩ := ex j hj
      rw [hu] at hv ⊢
      exact hv
    · cases hv
  · obtain ⟨j, hj, rfl⟩ := List.mem_map.1 hv
    rw [List.mem_range] at hj
    obtain ⟨u, hu, h1⟩ := ex j hj
    rw [hu]
    exact h1
  · rw [get, if_pos hj]
    obtain ⟨u, hu, -⟩ := ex j hj
    rw [hu]
    rfl

/-- Slots in a row of block g, or none at all. -/
def OwnS (w : World) (S : Nat → Prop) (lo : Nat) (sl : List Sl) (B : Option Addr) (m d : Nat) : Prop :=
  SIn w S sl B ∧ sl.length = m ∧ (m ≤ d ∧ d ≤ maxLen) ∧ ((B = none ∧ m = 0) ∨ ∃ g arr, B = some ⟨g, 0, none⟩ ∧ lo ≤ g ∧ S g ∧ w.heap[g]? = some (.cells arr IS (0, 0)) ∧ arr.size = d * 10) ∧ (B = none → d = 0)
def CsQ (w : World) (S : Nat → Prop) (sl : List Sl) (m : Nat) (e : Ending) (w' : World) : Prop :=
  ∃ B' d', e = .returned (.slice B' m d') ∧ OwnS w' (fun b => S b ∨ b = w.heap.size) w.heap.size sl B' m d' ∧ Below w.heap.size w w'

set_option maxHeartbeats 1000000 in
theorem copySlots (B : Option Addr) (m d : Nat) (sl : List Sl) (w : World) {S : Nat → Prop} (hs : SIn w S sl B) (hlen : sl.length = m) (hm : m ≤ 1048576) :
    Calls Tryz.prog 110 #[.slice B m d] w (CsQ w S sl m) := by
  cases B with
  | none =>
    have h0 : m = 0 := by
      rcases Nat.eq_zero_or_pos m with h | h
      · exact h
      · obtain ⟨a, _, _, _, _, _, _, _, _, ha, -⟩ := hs 0 sl[0] (List.getElem?_eq_getElem (by omega))
        cases ha
    subst h0
    have heq := Lib.run_eql_slice_nil (P := Tryz.prog) w 25 IS none 0 d 0 0 Tryz.underlying25
    have HS := Lib.hid hs
    have HL := Lib.hid hlen
    clear hs hm hlen
    go_enter Tryz.func110, Tryz.ntmps110
    go_wp2_with (fail)
    go_ret
    exact ⟨none, 0, rfl, ⟨HS.out.stays (fun _ h => .inl h) (fun _ _ _ => rfl), HL.out, ⟨by omega, by unfold maxLen; omega⟩, .inl ⟨rfl, rfl⟩, fun _ => rfl⟩, Below.refl _ _⟩
  | some a =>
    obtain ⟨i0, hi, hz, hsz0, hby⟩ := is_info
    have hsz : (Tryz.prog.info? IS).map (·.size) = some 10 := by rw [hi]; exact congrArg some hsz0
    obtain ⟨cs, hcl, hsrc, hone, hat⟩ := hs.cells
    rw [hlen] at hcl hat
    have hmk := run_make (P := Tryz.prog) w 25 IS i0 _ Tryz.underlying25 hi hz .i64 .i64 m m (by omega) (Int.le_refl _) (by rw [hby]; omega) (by omega)
    rw [hsz0] at hmk
    simp only [Int.toNat_natCast] at hmk
    obtain ⟨arr0, HA⟩ : ∃ x, Hid (x = madeCells (Value.agg #[.bool false, .int .i64 0, .string ⟨#[]⟩, .int .i64 0, .int .i64 0, .string ⟨#[]⟩, .int .i64 0, .slice none 0 0, .bool false, .int .i64 0]).cells (m * 10)) := ⟨_, Lib.hid rfl⟩
    rw [← HA.out] at hmk
    have hsa : arr0.size = m * 10 := by rw [HA.out, size_madeCells]
    have hcp := run_copy_z (P := Tryz.prog) (w.alloc (.cells arr0 IS)) 25 25 3 IS 10 w.heap.size 0 m m a m d arr0 IS cs m Tryz.underlying25 hsz (heap_alloc_new w _) (by simp) hcl (fun j v hv => cell_stays (fun hlt => (b1 w _).block _ hlt) (hsrc j v hv)) (by rw [hcl, hsa]; omega) hone
    have hrow : (arr0.toList.take 0 ++ cs ++ arr0.toList.drop (0 + cs.length)).toArray = cs.toArray := by
      rw [List.take_zero, List.nil_append, List.drop_eq_nil_of_le (by rw [Array.length_toList, hsa, hcl]; omega), List.append_nil]
    rw [hrow] at hcp
    have heq := Lib.run_eql_slice_nil (P := Tryz.prog) w 25 IS (some a) m d 0 0 Tryz.underlying25
    obtain ⟨W3, HW⟩ : ∃ W, Hid (W = (w.alloc (.cells arr0 IS)).setRow w.heap.size cs.toArray) := ⟨_, Lib.hid rfl⟩
    have HB : Hid (Below w.heap.size w W3) := Lib.hid (HW.out ▸ below_setRow (b1 w _) (Nat.le_refl _) _)
    have HG : Hid (W3.heap[w.heap.size]? = some (.cells cs.toArray IS (0, 0))) := Lib.hid (HW.out ▸ setRow_heap _ _ _ _ _ _ (heap_alloc_new w _))
    have HO : Hid (OwnS W3 (fun b => S b ∨ b = w.heap.size) w.heap.size sl (some ⟨w.heap.size, 0, none⟩) m m) := Lib.hid ⟨fun i t ht => by
      obtain ⟨a', k, n, s, x, ks, vs, A', c', e, hSa, hk, hl, hv, hT, hc⟩ := hs i t ht
      obtain rfl := Option.some.inj e
      have hil : i < m := by rw [← hlen]; exact (List.getElem?_eq_some_iff.1 ht).1
      refine ⟨⟨w.heap.size, 0, none⟩, k, n, s, x, ks, vs, A', c', rfl, .inr rfl, hk, hl, hv, hT.stays (fun _ h => .inl h) (fun b hb hlt => HB.out.block b hlt), ?_⟩
      rw [Addr.add_lit, Nat.zero_add]
      refine At10.of fun j hj => ?_
      rw [cell_of_row _ _ _ _ _ _ HG.out, List.getElem?_toArray, hat _ (by omega), ← add_add', hc.at_ j hj], hlen, ⟨Nat.le_refl _, by unfold maxLen; omega⟩, .inr ⟨w.heap.size, cs.toArray, rfl, Nat.le_refl _, .inr rfl, HG.out, by simp [hcl]⟩, fun h => by cases h⟩
    rw [← HW.out] at hcp
    clear hs hi hz hsz0 hby hsz hsa hrow hcl hsrc hone hat hlen
    go_enter Tryz.func110, Tryz.ntmps110
    go_wp2_with (fail)
    go_ret
    exact ⟨_, _, rfl, HO.out, HB.out⟩

end Go.Proofs.YtdgfpfkhcojgaaaGreatDoor.tree

/-
  What measuring an array by places computes: sizes, the stack of arrays, and what is known of places.
  Conditions: those that each theorem names.
-/
namespace Go.Proofs.YtdgfpfkhcojgaaaGreatDoor.tree
open Go.ChangeShapes Go.WideShapes Go.ChangeAt Go.RowKit
set_option linter.unusedVariables false

mutual
/-- The size of a value: si for what is no array, else 1 more than its items' sizes joined. -/
def sz (si : Int) (J : Int → Int → Int) : Tr → Int
  | .mk k _ _ _ _ vs => if k = 4 then 1 + szl si J vs 0 else si
def szl (si : Int) (J : Int → Int → Int) : List Tr → Int → Int
  | [], a => a
  | t :: vs, a => szl si J vs (J a (sz si J t))
end

structure Join (si : Int) (J : Int → Int → Int) : Prop where
  lo : 0 ≤ si
  hi : si ≤ 1
  bd : ∀ a b, 0 ≤ a → 0 ≤ b → 0 ≤ J a b ∧ J a b ≤ a + b
  zero : ∀ b, 0 ≤ b → J 0 b = b

section
variable {si : Int} {J : Int → Int → Int}
theorem sz_four (n : Int) (s : ByteArray) (x : Int) (ks : List Ky) (vs : List Tr) : sz si J (.mk 4 n s x ks vs) = 1 + szl si J vs 0 := by rw [sz, if_pos rfl]
theorem sz_not {k n : Int} {s : ByteArray} {x : Int} {ks : List Ky} {vs : List Tr} (h : k ≠ 4) : sz si J (.mk k n s x ks vs) = si := by rw [sz, if_neg h]
theorem szl_nil (a : Int) : szl si J [] a = a := by rw [szl]
theorem szl_cons (t : Tr) (vs : List Tr) (a : Int) : szl si J (t :: vs) a = szl si J vs (J a (sz si J t)) := by rw [szl]
mutual
theorem sz_bd (h : Join si J) : ∀ t, 0 ≤ sz si J t ∧ sz si J t ≤ cnt t
  | .mk k _ _ _ _ vs => by
    have := szl_bd h vs 0 (Int.le_refl _)
    have h1 := h.lo
    have h2 := h.hi
    rw [sz, cnt]
    split <;> constructor <;> push_cast <;> omega
theorem szl_bd (h : Join si J) : ∀ (vs : List Tr) (a : Int), 0 ≤ a → 0 ≤ szl si J vs a ∧ szl si J vs a ≤ a + cnts vs
  | [], a, ha => by rw [szl, cnts]; exact ⟨ha, by omega⟩
  | t :: vs, a, ha => by
    have h1 := sz_bd h t
    have h2 := h.bd a (sz si J t) ha h1.1
    have h3 := szl_bd h vs (J a (sz si J t)) h2.1
    rw [szl, cnts]
    exact ⟨h3.1, by push_cast; omega⟩
end
end

mutual
/-- How many rounds a value takes at most. -/
def wk : Tr → Nat
  | .mk _ _ _ _ _ vs => 3 + wks vs
def wks : List Tr → Nat
  | [] => 0
  | t :: vs => wk t + wks vs
end
theorem wks_cons (t : Tr) (vs : List Tr) : wks (t :: vs) = wk t + wks vs := by rw [wks]
theorem wk_mk (k n : Int) (s : ByteArray) (x : Int) (ks : List Ky) (vs : List Tr) : wk (.mk k n s x ks vs) = 3 + wks vs := by rw [wk]
theorem wk_pos (t : Tr) : 3 ≤ wk t := by cases t; rw [wk]; omega
theorem cnt_mk (k n : Int) (s : ByteArray) (x : Int) (ks : List Ky) (vs : List Tr) : cnt (.mk k n s x ks vs) = 1 + cnts vs := by rw [cnt]
theorem cnts_cons (t : Tr) (vs : List Tr) : cnts (t :: vs) = cnt t + cnts vs := by rw [cnts]

/-! ### blocks that stay -/
def Lo (B : Nat) (w : World) (b : Nat) : Prop := b < B ∧ Plain w b
/-- Every plain block below B stays. -/
def Kp (B : Nat) (w w' : World) : Prop := ∀ b, b < B → Plain w b → w'.heap[b]? = w.heap[b]?
section
variable {B : Nat} {w w' w2 : World}
theorem Lo.kp (hk : Kp B w w') {b : Nat} (h : Lo B w b) : Lo B w' b := by
  obtain ⟨h1, cs, t, h2⟩ := h
  exact ⟨h1, cs, t, (hk b h1 ⟨cs, t, h2⟩).trans h2⟩
theorem Kp.refl (B : Nat) (w : World) : Kp B w w := fun _ _ _ => rfl
theorem Kp.trans (h : Kp B w w') (k : Kp B w' w2) : Kp B w w2 := fun b hb hp => (k b hb (Lo.kp h ⟨hb, hp⟩).2).trans (h b hb hp)
theorem Kp.below (h : Below w.heap.size w w') : Kp B w w' := fun b _ hp => h.block b hp.lt
theorem Kp.set (w : World) {g : Nat} (hg : B ≤ g) (j : Nat) (v : Value) : Kp B w (w.setCell ⟨g, j, none⟩ v) := fun b hb _ => set_other (by omega)
theorem Kp.grown {row : Option Nat} (h : w.grownBy w' row) (hr : ∀ k, row = some k → B ≤ k ∨ ¬ Plain w k) : Kp B w w' := fun b hb hp => h.block b hp.lt (fun e => by
  rcases hr b e.symm with h | h
  · omega
  · exact h hp)
theorem TIn.kp (hk : Kp B w w') {t : Tr} {v : Value} (h : TIn w (Lo B w) t v) : TIn w' (Lo B w') t v := h.stays (fun b hb => hb.kp hk) (fun b hb _ => hk b hb.1 hb.2)
theorem IsIn.kp (hk : Kp B w w') {ks : List Ky} {vs : List Tr} {A : Option Addr} (h : IsIn w (Lo B w) ks vs A) : IsIn w' (Lo B w') ks vs A := h.stays (fun b hb => hb.kp hk) (fun b hb _ => hk b hb.1 hb.2)

/-- At the place p lies the list, below B. -/
def PlB (B : Nat) (w : World) (p : Value) (ks : List Ky) (vs : List Tr) : Prop := ∃ A : Option Addr, IsIn w (Lo B w) ks vs A ∧ p = plc A vs.length
theorem PlB.is {p : Value} {ks : List Ky} {vs : List Tr} (h : PlB B w p ks vs) : PlIs w p ks vs := by
  obtain ⟨A, h1, h2⟩ := h
  exact ⟨_, A, h1, h2⟩
theorem PlB.kp (hk : Kp B w w') {p : Value} {ks : List Ky} {vs : List Tr} (h : PlB B w p ks vs) : PlB B w' p ks vs := by
  obtain ⟨A, h1, h2⟩ := h
  exact ⟨A, h1.kp hk, h2⟩
/-- A key of a map of places below B. -/
def GB (B : Nat) (w : World) (x : Value) : Prop := ∃ (p : Option Addr) (n : Int), x = .agg #[.pointer p, .int .i64 n] ∧ ∀ a, p = some a → Lo B w a.block
theorem GB.gp {x : Value} (h : GB B w x) : GP w x := by
  obtain ⟨p, n, e, hp⟩ := h
  exact ⟨p, n, e, fun a ha => (hp a ha).2⟩
theorem GB.kp (hk : Kp B w w') {x : Value} (h : GB B w x) : GB B w' x := by
  obtain ⟨p, n, e, hp⟩ := h
  exact ⟨p, n, e, fun a ha => (hp a ha).kp hk⟩
theorem PlB.gb {p : Value} {ks : List Ky} {vs : List Tr} (h : PlB B w p ks vs) : GB B w p := by
  obtain ⟨A, h, rfl⟩ := h
  unfold plc
  by_cases h0 : vs.length = 0
  · rw [if_pos h0]
    exact ⟨none, 0, rfl, fun a h => by cases h⟩
  · rw [if_neg h0]
    obtain ⟨hl, hm, C, hc, -⟩ := h
    obtain ⟨a, ha, hS, -⟩ := hc 0 (by omega)
    exact ⟨A, vs.length, rfl, fun a' h' => by rw [ha] at h'; obtain rfl := Option.some.inj h'; exact hS⟩
theorem good_gb (B : Nat) : raw.Good Tryz.prog PL (GB B) where
  wide := good_pl.wide
  check := fun w em x h => good_pl.check w em x h.gp
  eq := fun w x y hx hy => good_pl.eq w x y hx.gp hy.gp
  same := fun w x h => good_pl.same w x h.gp
theorem gb_stays (B : Nat) : raw.Stays (GB B) := fun w w' b x hb h hx => by
  obtain ⟨es, clock, hm⟩ := hb
  exact hx.kp fun k _ hp => h k (fun e => by
    obtain ⟨cs, t, hc⟩ := hp
    rw [e, hm] at hc
    cases hc) hp.lt
/-- The place that the first item of a list leads to. -/
def HeadPl (B : Nat) (w : World) (R : Option Addr) (p : Value) : Prop := ∃ (a : Addr) (A : Option Addr) (L c : Nat), R = some a ∧ Lo B w a.block ∧ w.cell? ⟨a.block, a.off + 7, none⟩ = some (.slice A L c) ∧ p = plc A L
theorem HeadPl.unique {R : Option Addr} {p p' : Value} (h : HeadPl B w R p) (h' : HeadPl B w R p') : p = p' := by
  obtain ⟨a, A, L, c, rfl, -, h1, rfl⟩ := h
  obtain ⟨a', A', L', c', e, -, h2, rfl⟩ := h'
  obtain rfl := Option.some.inj e
  rw [h1] at h2
  simp at h2
  obtain ⟨rfl, rfl, rfl⟩ := h2
  rfl
theorem HeadPl.kp (hk : Kp B w w') {R : Option Addr} {p : Value} (h : HeadPl B w R p) : HeadPl B w' R p := by
  obtain ⟨a, A, L, c, e, hl, h1, h2⟩ := h
  exact ⟨a, A, L, c, e, hl.kp hk, cell_stays (fun _ => hk _ hl.1 hl.2) h1, h2⟩
end

/-! ### the stack of arrays, the top first -/
structure Vis where
  p : Option Addr
  n : Int
  size : Int
  R : Option Addr
  c : Nat
  ks : List Ky
  vs : List Tr
def Vis.pl (V : Vis) : Value := .agg #[.pointer V.p, .int .i64 V.n]
def Vis.cells (V : Vis) : List Value := [.pointer V.p, .int .i64 V.n, .int .i64 V.size, .slice V.R V.vs.length V.c]
structure VisOk (B N : Nat) (w : World) (V : Vis) : Prop where
  isin : IsIn w (Lo B w) V.ks V.vs V.R
  cap : V.vs.length ≤ V.c ∧ V.c ≤ maxLen
  lo : 0 ≤ V.size
  hi : V.size + cnts V.vs ≤ N

section
variable {si : Int} {J : Int → Int → Int} {ans : Int} {B N : Nat} {w w' : World}
/-- V stands for the first item of U's rest. -/
structure Link (si : Int) (J : Int → Int → Int) (B : Nat) (w : World) (V U : Vis) (ks0 : List Ky) (vs0 : List Tr) : Prop where
  head : ∃ n s x ts, U.vs = .mk 4 n s x ks0 vs0 :: ts
  pl : PlB B w V.pl ks0 vs0
  at_ : HeadPl B w U.R V.pl
  size : szl si J V.vs V.size = szl si J vs0 0
  le : cnts V.vs ≤ cnts vs0
def Chain (si : Int) (J : Int → Int → Int) (ans : Int) (B : Nat) (w : World) : List Vis → Prop
  | [] => False
  | [V] => szl si J V.vs V.size = ans
  | V :: U :: l => (∃ ks0 vs0, Link si J B w V U ks0 vs0) ∧ Chain si J ans B w (U :: l)
theorem Link.kp (hk : Kp B w w') {V U : Vis} {ks0 : List Ky} {vs0 : List Tr} (h : Link si J B w V U ks0 vs0) : Link si J B w' V U ks0 vs0 :=
  ⟨h.head, h.pl.kp hk, h.at_.kp hk, h.size, h.le⟩
theorem Chain.kp (hk : Kp B w w') : ∀ {G : List Vis}, Chain si J ans B w G → Chain si J ans B w' G
  | [], h => h.elim
  | [V], h => h
  | V :: U :: l, h => by
    obtain ⟨⟨ks0, vs0, h1⟩, h2⟩ := h
    exact ⟨⟨ks0, vs0, h1.kp hk⟩, Chain.kp hk h2⟩
theorem Chain.mem : ∀ {V : Vis} {l : List Vis}, Chain si J ans B w (V :: l) → ∀ X ∈ (V :: l).dropLast, ∃ ks0 vs0, PlB B w X.pl ks0 vs0 ∧ cnts V.vs ≤ cnts vs0
  | V, [], _, X, hX => by simp at hX
  | V, U :: l, ⟨⟨ks0, vs0, h1⟩, h2⟩, X, hX => by
    rw [List.dropLast_cons_cons] at hX
    rcases List.mem_cons.1 hX with rfl | hX
    · exact ⟨ks0, vs0, h1.pl, h1.le⟩
    · obtain ⟨ks1, vs1, h3, h4⟩ := Chain.mem h2 X hX
      obtain ⟨n, s, x, ts, hu⟩ := h1.head
      refine ⟨ks1, vs1, h3, ?_⟩
      rw [hu, cnts_cons, cnt_mk] at h4
      have := h1.le
      omega

/-- What is known at the head of the loop. -/
structure St (si : Int) (J : Int → Int → Int) (ans : Int) (B N : Nat) (w : World) (G : List Vis) (hk : Bool) (f e : Value → Option Value) : Prop where
  ok : ∀ V ∈ G, VisOk B N w V
  chain : Chain si J ans B w G
  known : hk = true → ∃ V l p z, G = V :: l ∧ HeadPl B w V.R p ∧ f p = some z
  szs : ∀ p z, f p = some z → ∃ ks vs, PlB B w p ks vs ∧ z = .int .i64 (1 + szl si J vs 0)
  ens : ∀ p b, e p = some b → b = .bool true ∧ ((∃ z, f p = some z) ∨ ∃ V ∈ G.dropLast, V.pl = p)
theorem St.kp (hkp : Kp B w w') {G : List Vis} {hk : Bool} {f e : Value → Option Value} (h : St si J ans B N w G hk f e) : St si J ans B N w' G hk f e where
  ok := fun V hV => ⟨(h.ok V hV).isin.kp hkp, (h.ok V hV).cap, (h.ok V hV).lo, (h.ok V hV).hi⟩
  chain := h.chain.kp hkp
  known := fun hh => by
    obtain ⟨V, l, p, z, e1, e2, e3⟩ := h.known hh
    exact ⟨V, l, p, z, e1, e2.kp hkp, e3⟩
  szs := fun p z hp => by
    obtain ⟨ks, vs, h1, h2⟩ := h.szs p z hp
    exact ⟨ks, vs, h1.kp hkp, h2⟩
  ens := h.ens

/-- The rounds that are left at most. -/
def left : List Vis → Bool → Nat
  | [], _ => 0
  | V :: l, hk => (if hk then 1 + wks V.vs.tail else wks V.vs) + (l.map fun U => 1 + wks U.vs.tail).sum + (l.length + 1)

/-- An array that is done. -/
theorem St.pop {V U : Vis} {l : List Vis} {hk : Bool} {f e : Value → Option Value} (h : St si J ans B N w (V :: U :: l) hk f e) (hv : V.vs = []) :
    GB B w V.pl ∧ St si J ans B N w (U :: l) true (raw.put f V.pl (.int .i64 (1 + V.size))) e ∧ left (U :: l) true < left (V :: U :: l) hk := by
  obtain ⟨⟨ks0, vs0, hl⟩, hc⟩ := h.chain
  have hsz : V.size = szl si J vs0 0 := by have := hl.size; rwa [hv, szl_nil] at this
  refine ⟨hl.pl.gb, ⟨fun X hX => h.ok X (List.mem_cons_of_mem _ hX), hc, fun _ => ⟨U, l, V.pl, _, rfl, hl.at_, raw.put_same _ _ _⟩, fun p z hp => ?_, fun p b hp => ?_⟩, ?_⟩
  · by_cases e1 : p = V.pl
    · subst e1
      rw [raw.put_same] at hp
      exact ⟨ks0, vs0, hl.pl, by rw [← hsz]; exact (Option.some.inj hp).symm⟩
    · rw [raw.put_other e1] at hp
      exact h.szs p z hp
  · obtain ⟨hb, ho⟩ := h.ens p b hp
    refine ⟨hb, ?_⟩
    by_cases e1 : p = V.pl
    · subst e1
      exact .inl ⟨_, raw.put_same _ _ _⟩
    · rw [raw.put_other e1]
      rcases ho with ho | ⟨X, hX, hXp⟩
      · exact .inl ho
      · rw [List.dropLast_cons_cons] at hX
        rcases List.mem_cons.1 hX with rfl | hX
        · exact absurd hXp.symm e1
        · exact .inr ⟨X, hX, hXp⟩
  · simp only [left, List.map_cons, List.sum_cons, List.length_cons, if_true]
    have : (0 : Nat) ≤ if hk = true then 1 + wks V.vs.tail else wks V.vs := Nat.zero_le _
    omega

/-- The first item's size is known: it is taken. -/
theorem St.take (hJ : Join si J) {V : Vis} {l : List Vis} {hk : Bool} {f e : Value → Option Value} (h : St si J ans B N w (V :: l) hk f e) {y : Ky} {kt : List Ky} {t : Tr} {ts : List Tr} (hk0 : V.ks = y :: kt) (hv : V.vs = t :: ts) {R : Option Addr} {c : Nat}
    (hR : IsIn w (Lo B w) kt ts R) (hc : ts.length ≤ c ∧ c ≤ maxLen) :
    St si J ans B N w (⟨V.p, V.n, J V.size (sz si J t), R, c, kt, ts⟩ :: l) false f e ∧ left (⟨V.p, V.n, J V.size (sz si J t), R, c, kt, ts⟩ :: l) false < left (V :: l) hk := by
  have hV := h.ok V List.mem_cons_self
  have hb := hJ.bd V.size (sz si J t) hV.lo (sz_bd hJ t).1
  have hs := (sz_bd hJ t).2
  have hhi := hV.hi
  rw [hv, cnts_cons] at hhi
  push_cast at hhi
  refine ⟨⟨fun X hX => ?_, ?_, (fun h => by cases h), h.szs, fun p b hp => ?_⟩, ?_⟩
  · rcases List.mem_cons.1 hX with rfl | hX
    · exact ⟨hR, hc, hb.1, by show J V.size (sz si J t) + (cnts ts : Int) ≤ N; omega⟩
    · exact h.ok X (List.mem_cons_of_mem _ hX)
  · have hch := h.chain
    cases l with
    | nil =>
      have : szl si J V.vs V.size = ans := hch
      rw [hv, szl_cons] at this
      exact this
    | cons U l =>
      obtain ⟨⟨ks0, vs0, hl⟩, hc2⟩ := hch
      refine ⟨⟨ks0, vs0, hl.head, hl.pl, hl.at_, ?_, ?_⟩, hc2⟩
      · have := hl.size
        rw [hv, szl_cons] at this
        exact this
      · have := hl.le
        rw [hv, cnts_cons] at this
        show cnts ts ≤ cnts vs0
        omega
  · obtain ⟨hb, ho⟩ := h.ens p b hp
    refine ⟨hb, ho.imp id fun ⟨X, hX, hXp⟩ => ?_⟩
    cases l with
    | nil => simp at hX
    | cons U l =>
      rw [List.dropLast_cons_cons] at hX ⊢
      rcases List.mem_cons.1 hX with rfl | hX
      · exact ⟨_, List.mem_cons_self, hXp⟩
      · exact ⟨X, List.mem_cons_of_mem _ hX, hXp⟩
  · have := wk_pos t
    cases hk <;> simp [left, hv, wks_cons] <;> omega

/-- What is known of a place is the size of the array that lies there. -/
theorem St.size_of {G : List Vis} {hk : Bool} {f e : Value → Option Value} (h : St si J ans B N w G hk f e) {p z : Value} {ks : List Ky} {vs : List Tr} (hp : PlB B w p ks vs) (hf : f p = some z) : z = .int .i64 (1 + szl si J vs 0) := by
  obtain ⟨ks', vs', h1, h2⟩ := h.szs p z hf
  obtain ⟨-, rfl⟩ := h1.is.unique hp.is
  exact h2

/-- An array whose size is not known has not been entered: no array lies in itself. -/
theorem St.fresh {V : Vis} {l : List Vis} {hk : Bool} {f e : Value → Option Value} (h : St si J ans B N w (V :: l) hk f e) {n : Int} {s : ByteArray} {x : Int} {ks' : List Ky} {vs' ts : List Tr} (hv : V.vs = .mk 4 n s x ks' vs' :: ts) {p : Value}
    (hp : PlB B w p ks' vs') (hat : HeadPl B w V.R p) (hf : f p = none) : e p = none ∧ hk = false := by
  constructor
  · cases he : e p with
    | none => rfl
    | some b =>
      rcases (h.ens p b he).2 with ⟨z, hz⟩ | ⟨X, hX, hXp⟩
      · rw [hf] at hz; cases hz
      · obtain ⟨ks0, vs0, h1, h2⟩ := h.chain.mem X hX
        rw [hXp] at h1
        obtain ⟨-, rfl⟩ := h1.is.unique hp.is
        rw [hv, cnts_cons, cnt_mk] at h2
        omega
  · cases hk with
    | false => rfl
    | true =>
      obtain ⟨V', l', p', z, e1, e2, e3⟩ := h.known rfl
      injection e1 with e1 _
      subst e1
      rw [e2.unique hat, hf] at e3
      cases e3

/-- It is entered. -/
theorem St.push {V : Vis} {l : List Vis} {f e : Value → Option Value} (h : St si J ans B N w (V :: l) false f e) {n : Int} {s : ByteArray} {x : Int} {ks' : List Ky} {vs' ts : List Tr} (hv : V.vs = .mk 4 n s x ks' vs' :: ts) {A : Option Addr} {c : Nat} {p : Option Addr} {m : Int}
    (hin : IsIn w (Lo B w) ks' vs' A) (hc : vs'.length ≤ c ∧ c ≤ maxLen) (hpl : plc A vs'.length = .agg #[.pointer p, .int .i64 m]) (hat : HeadPl B w V.R (plc A vs'.length)) :
    St si J ans B N w (⟨p, m, 0, A, c, ks', vs'⟩ :: V :: l) false f (raw.put e (plc A vs'.length) (.bool true)) ∧ left (⟨p, m, 0, A, c, ks', vs'⟩ :: V :: l) false < left (V :: l) false := by
  have hV := h.ok V List.mem_cons_self
  have hhi := hV.hi
  have hlo := hV.lo
  rw [hv, cnts_cons, cnt_mk] at hhi
  push_cast at hhi
  have epl : Vis.pl ⟨p, m, 0, A, c, ks', vs'⟩ = plc A vs'.length := hpl.symm
  refine ⟨⟨fun X hX => ?_, ⟨⟨ks', vs', ⟨n, s, x, ts, hv⟩, ⟨A, hin, epl⟩, by rw [epl]; exact hat, rfl, Nat.le_refl _⟩, h.chain⟩, (fun h => by cases h), h.szs, fun q b hq => ?_⟩, ?_⟩
  · rcases List.mem_cons.1 hX with rfl | hX
    · exact ⟨hin, hc, Int.le_refl _, by show (0 : Int) + (cnts vs' : Int) ≤ N; omega⟩
    · exact h.ok X hX
  · by_cases e1 : q = plc A vs'.length
    · subst e1
      rw [raw.put_same] at hq
      refine ⟨(Option.some.inj hq).symm, .inr ⟨⟨p, m, 0, A, c, ks', vs'⟩, ?_, epl⟩⟩
      rw [List.dropLast_cons_cons]
      exact List.mem_cons_self
    · rw [raw.put_other e1] at hq
      obtain ⟨hb, ho⟩ := h.ens q b hq
      refine ⟨hb, ho.imp id fun ⟨X, hX, hXp⟩ => ⟨X, ?_, hXp⟩⟩
      rw [List.dropLast_cons_cons]
      exact List.mem_cons_of_mem _ hX
  · simp only [left, hv, List.tail_cons, wks_cons, wk_mk, List.map_cons, List.sum_cons, List.length_cons]
    simp
    omega

/-- The rest behind the first item. -/
theorem IsIn.tail {S : Nat → Prop} {y : Ky} {ks : List Ky} {t : Tr} {vs : List Tr} {a : Addr} (h : IsIn w S (y :: ks) (t :: vs) (some a)) : IsIn w S ks vs (some (a.add 8)) := by
  obtain ⟨hl, hm, C, hc, ht⟩ := h
  refine ⟨by simpa using hl, by simp at hm; omega, fun i => C (i + 1), fun i hi => ?_, fun i hi => ?_⟩
  · obtain ⟨a', ha, hS, ⟨p0, p1, p2, p3, p4⟩, hs, hj⟩ := hc (i + 1) (by simpa using hi)
    obtain rfl := Option.some.inj ha
    have e : ∀ q, (a.add 8).add (8 * i + q) = a.add (8 * (i + 1) + q) := fun q => by rw [add_add']; congr 1; omega
    refine ⟨_, rfl, by rw [mem.add_block]; exact hS, ⟨?_, ?_, ?_, p3, p4⟩, hs, fun j hj5 => ?_⟩
    · have := e 0
      rw [Nat.add_zero, Nat.add_zero] at this
      rw [this]; exact p0
    · rw [e 1]; exact p1
    · rw [e 2]; exact p2
    · rw [e (3 + j)]; exact hj j hj5
  · exact ht (i + 1) (by simpa using hi)
end

end Go.Proofs.YtdgfpfkhcojgaaaGreatDoor.tree

/-
  A stack of lists that are still to be gone through, as it lies in memory.
  Conditions: those that each theorem names.
-/
namespace Go.Proofs.YtdgfpfkhcojgaaaGreatDoor.tree
open Go.ChangeShapes Go.WideShapes Go.ChangeAt Go.RowKit
set_option linter.unusedVariables false

/-- A list that is still to be gone through. -/
structure Pend where
  R : Option Addr
  c : Nat
  ks : List Ky
  vs : List Tr
def Pend.cell (l : Pend) : Value := .slice l.R l.vs.length l.c
structure PendOk (B : Nat) (w : World) (l : Pend) : Prop where
  isin : IsIn w (Lo B w) l.ks l.vs l.R
  cap : l.vs.length ≤ l.c ∧ l.c ≤ maxLen

def lefts : List Pend → Nat
  | [] => 0
  | l :: P => 1 + wks l.vs + lefts P
theorem lefts_len : ∀ P : List Pend, P.length ≤ lefts P
  | [] => Nat.le_refl _
  | l :: P => by have := lefts_len P; rw [lefts, List.length_cons]; omega

mutual
theorem wk_cnt : ∀ t, wk t ≤ 3 * cnt t
  | .mk _ _ _ _ _ vs => by have := wks_cnts vs; rw [wk, cnt]; omega
theorem wks_cnts : ∀ vs, wks vs ≤ 3 * cnts vs
  | [] => by rw [wks]; omega
  | t :: vs => by have h1 := wk_cnt t; have h2 := wks_cnts vs; rw [wks, cnts]; omega
end

/-! ### the lists in memory -/
abbrev SE : TypeId := 30
def PRow (w : World) (B : Nat) (way : Value) (P : List Pend) : Prop := w.ownsRow B SE 1 way P.length (P.reverse.map Pend.cell)
theorem PRow.below {w w' : World} {B : Nat} {way : Value} {P : List Pend} (h : PRow w B way P) (hb : Below w.heap.size w w') : PRow w' B way P :=
  World.ownsRow.kept h (mem.none_of_below hb) (by
    cases e : way.ownBlock with
    | none => exact .inl rfl
    | some k => exact .inr (by simp))
theorem PRow.top {w : World} {B : Nat} {way : Value} {l : Pend} {P : List Pend} (h : PRow w B way (l :: P)) :
    ∃ g c, way = .slice (some ⟨g, 0, none⟩) (P.length + 1) c ∧ B ≤ g ∧ P.length + 1 ≤ c ∧ c ≤ maxLen ∧ w.cell? ⟨g, P.length, none⟩ = some l.cell ∧ PRow w B (.slice (some ⟨g, 0, none⟩) P.length c) P := by
  obtain ⟨h1, h2⟩ := h
  rcases h2 with ⟨_, h0⟩ | ⟨g, cap, cur, rfl, hB, hg, hn, hm, hs, htake⟩
  · simp at h0
  · have hl : (P.reverse.map Pend.cell).length = P.length := by simp
    have er : (l :: P).reverse.map Pend.cell = P.reverse.map Pend.cell ++ [l.cell] := by simp
    rw [Nat.mul_one, er] at htake
    rw [Nat.mul_one] at hs
    simp only [List.length_cons] at htake hn
    refine ⟨g, cap, rfl, hB, hn, hm, ?_, ⟨by simp, .inr ⟨g, cap, cur, rfl, hB, hg, by omega, hm, by omega, ?_⟩⟩⟩
    · rw [cell_of_row w g _ cur SE _ hg]
      have e : (cur.toList.take (P.length + 1))[P.length]? = some l.cell := by
        rw [htake, List.getElem?_append_right (by omega), hl]
        simp
      rw [List.getElem?_take_of_lt (by omega)] at e
      simpa using e
    · have := congrArg (List.take P.length) htake
      rw [List.take_take, List.take_append_of_le_length (by omega), List.take_of_length_le (l := List.map _ _) (by omega)] at this
      rw [Nat.mul_one, ← this]
      congr 1
      omega

theorem seRow : (Tryz.prog.info? SE).map (fun i => (i.zero, i.size, i.bytes)) = some (some (.slice none 0 0), 1, 24) := by kernel_rfl
theorem PRow.kept4 {w w' : World} {B b : Nat} {way : Value} {P : List Pend} (h : PRow w B way P) (hg : w.grownBy w' (some b)) (hb : b < B) : PRow w' B way P :=
  World.ownsRow.kept h hg (by
    cases e : way.ownBlock with
    | none => exact .inl rfl
    | some k =>
      refine .inr (fun h2 => ?_)
      rcases h.2 with ⟨h0, _⟩ | ⟨g, cap, cur, h0, hB, _⟩
      · rw [h0] at e; cases e
      · rw [h0] at e
        injection e with e
        injection h2 with h2
        have : g = k := e
        omega)
theorem PRow.own {w : World} {B : Nat} {way : Value} {P : List Pend} (h : PRow w B way P) : ∀ k, way.ownBlock = some k → B ≤ k := fun k e => by
  rcases h.2 with ⟨h0, _⟩ | ⟨g, cap, cur, h0, hB, _⟩
  · rw [h0] at e; cases e
  · rw [h0] at e
    injection e with e
    have : g = k := e
    omega
theorem one_new (w : World) (a : Value) (t : TypeId) : ∀ j u, [a][j]? = some u → (w.alloc (.cells #[a] t)).cell? ((⟨w.heap.size, 0, none⟩ : Addr).add j) = some u := by
  intro j u hj
  rw [Addr.add_lit, Nat.zero_add, cell_of_row _ _ j _ t _ (heap_alloc_new w _)]
  simpa using hj

theorem one_new' (w : World) (a : Value) (t : TypeId) {N : Nat} (hN : w.heap.size = N) : ∀ j u, [a][j]? = some u → (w.alloc (.cells #[a] t)).cell? ((⟨N, 0, none⟩ : Addr).add j) = some u := by
  subst hN
  exact one_new w a t
theorem PRow.nil {w : World} {B : Nat} {way : Value} (h : PRow w B way []) : ∃ A c, way = .slice A 0 c := by
  rcases h.2 with ⟨h0, _⟩ | ⟨g, cap, cur, h0, _⟩
  · exact ⟨none, 0, h0⟩
  · exact ⟨_, cap, h0⟩

theorem alH {w : World} {B b : Nat} {f : Value → Option Value} (h : raw.Holds w (GB B) b f) (o : Obj) : raw.Holds (w.alloc o) (GB B) b f :=
  h.kept (Below.heap_alloc w o b h.lt) (fun x hx => hx.kp (Kp.below (b1 w o)))
theorem isin_one {w : World} {S : Nat → Prop} {g : Nat} {y : Ky} {k n x : Int} {s : ByteArray} {A : Option Addr} {L c : Nat} {t : TypeId} {T : Tr} (hS : S g) (hy : I64 y.num ∧ y.str.size ≤ maxLen)
    (hg : w.heap[g]? = some (.cells #[.bool y.text, .int .i64 y.num, .string y.str, .int .i64 k, .int .i64 n, .string s, .int .i64 x, .slice A L c] t (0, 0))) (h : TIn w S T (vV k n s x A L c)) : IsIn w S [y] [T] (some ⟨g, 0, none⟩) := by
  obtain ⟨r, -⟩ := rowc hg
  refine ⟨rfl, by simp [maxLen], fun _ => #[.int .i64 k, .int .i64 n, .string s, .int .i64 x, .slice A L c], fun i hi => ?_, fun i hi => ?_⟩
  · obtain rfl : i = 0 := by simp at hi; omega
    refine ⟨_, rfl, hS, ⟨?_, ?_, ?_, hy⟩, rfl, fun j hj => ?_⟩
    · rw [Addr.add_lit]; exact r 0
    · rw [Addr.add_lit]; exact r 1
    · rw [Addr.add_lit]; exact r 2
    · rw [Addr.add_lit]
      match j, hj with
      | 0, _ => exact r 3
      | 1, _ => exact r 4
      | 2, _ => exact r 5
      | 3, _ => exact r 6
      | 4, _ => exact r 7
  · obtain rfl : i = 0 := by simp at hi; omega
    exact h
theorem zeroBool (w : World) : (zeroValue 4).run Tryz.prog w = .ok (.bool false) w := by kernel_rfl
theorem got1_none (z : Value) : raw.Got false z none = z := rfl
theorem got1_some (z v : Value) : raw.Got false z (some v) = v := rfl
theorem got_some (z v : Value) : raw.Got true z (some v) = .tuple #[v, .bool true] := rfl
theorem got_none (z : Value) : raw.Got true z none = .tuple #[z, .bool false] := rfl

end Go.Proofs.YtdgfpfkhcojgaaaGreatDoor.tree

/-
  Values whose lists lie each in a block of its own, whichever of two blocks is the older one: every block knows where it hangs, and a rank grows from there.
  Conditions: those that each theorem names.
-/
namespace Go.Proofs.YtdgfpfkhcojgaaaGreatDoor.tree
open Go.ChangeShapes Go.WideShapes Go.ChangeAt Go.RowKit
set_option linter.unusedVariables false

/-- The value is the tree; its lists lie in blocks of their own, and par says of each block in which block and at which item it hangs. -/
inductive TRk (w : World) (rk : Nat → Nat) (par : Nat → Nat × Nat) : Nat × Nat → Tr → Value → Prop
  | mk (here : Nat × Nat) (k n : Int) (s : ByteArray) (x : Int) (ks : List Ky) (vs : List Tr) (A : Option Addr) (cap g : Nat) (arr : Array Value)
      (K N X : Nat → Int) (Z : Nat → ByteArray) (D : Nat → Option Addr) (H : Nat → Nat)
      (hk : I64 k ∧ I64 n ∧ I64 x ∧ s.size ≤ maxLen) (hl : ks.length = vs.length) (hm : vs.length ≤ maxLen) (hcap : vs.length ≤ cap ∧ cap ≤ maxLen)
      (hg : 0 < vs.length → A = some ⟨g, 0, none⟩ ∧ par g = here ∧ rk here.1 < rk g ∧ w.heap[g]? = some (.cells arr IE (0, 0)) ∧ vs.length * 8 ≤ arr.size)
      (hc : ∀ (i : Nat) (hi : i < vs.length), (I64 (ks[i]'(hl ▸ hi)).num ∧ (ks[i]'(hl ▸ hi)).str.size ≤ maxLen) ∧ ∃ L, At8r arr i (ks[i]'(hl ▸ hi)) (K i) (N i) (Z i) (X i) (D i) L (H i))
      (ht : ∀ (i : Nat) (hi : i < vs.length), ∀ L, At8r arr i (ks[i]'(hl ▸ hi)) (K i) (N i) (Z i) (X i) (D i) L (H i) → TRk w rk par (g, i) (vs[i]) (vV (K i) (N i) (Z i) (X i) (D i) L (H i))) :
      TRk w rk par here (.mk k n s x ks vs) (vV k n s x A vs.length cap)

/-- A row of items in block g, each of which is its tree. -/
def PBlkR (w : World) (rk : Nat → Nat) (par : Nat → Nat × Nat) (g : Nat) (ks : List Ky) (vs : List Tr) : Prop :=
  ∃ arr, w.heap[g]? = some (.cells arr IE (0, 0)) ∧ vs.length * 8 ≤ arr.size ∧ ∀ i, i < vs.length → ∃ y k n s x ks' vs' A c, ks[i]? = some y ∧ vs[i]? = some (.mk k n s x ks' vs') ∧ (I64 y.num ∧ y.str.size ≤ maxLen) ∧
    At8r arr i y k n s x A vs'.length c ∧ TRk w rk par (g, i) (.mk k n s x ks' vs') (vV k n s x A vs'.length c)

section
variable {w w' : World} {rk : Nat → Nat} {par : Nat → Nat × Nat} {here : Nat × Nat}

theorem TRk.out {k n x : Int} {s : ByteArray} {ks : List Ky} {vs : List Tr} {v : Value} (h : TRk w rk par here (.mk k n s x ks vs) v) :
    ∃ A c, v = vV k n s x A vs.length c ∧ (I64 k ∧ I64 n ∧ I64 x ∧ s.size ≤ maxLen) ∧ ks.length = vs.length ∧ (vs.length ≤ c ∧ c ≤ maxLen) ∧ (0 < vs.length → ∃ g, A = some ⟨g, 0, none⟩ ∧ par g = here ∧ rk here.1 < rk g ∧ PBlkR w rk par g ks vs) := by
  cases h with
  | mk _ _ _ _ _ _ _ A cap g arr K N X Z D H hk hl hm hcap hg hc ht =>
    refine ⟨A, cap, rfl, hk, hl, hcap, fun h0 => ?_⟩
    obtain ⟨hA, hp, hlt, hb, hs⟩ := hg h0
    refine ⟨g, hA, hp, hlt, arr, hb, hs, fun i hi => ?_⟩
    obtain ⟨hy, L, hL⟩ := hc i hi
    have h := ht i hi L hL
    generalize hv : vs[i] = t at h
    obtain ⟨k', n', s', x', ks', vs'⟩ := t
    cases h with
    | mk _ _ _ _ _ _ _ A' cap' g' arr' K' N' X' Z' D' H' hk' hl' hm' hcap' hg' hc' ht' =>
      exact ⟨_, _, _, _, _, ks', vs', _, _, List.getElem?_eq_getElem _, by rw [List.getElem?_eq_getElem hi, hv], hy, hL, .mk _ _ _ _ _ _ _ _ _ _ _ K' N' X' Z' D' H' hk' hl' hm' hcap' hg' hc' ht'⟩

theorem TRk.of {k n x : Int} {s : ByteArray} {ks : List Ky} {vs : List Tr} {A : Option Addr} {c : Nat} (hk : I64 k ∧ I64 n ∧ I64 x ∧ s.size ≤ maxLen) (hl : ks.length = vs.length) (hcap : vs.length ≤ c ∧ c ≤ maxLen)
    (h : 0 < vs.length → ∃ g, A = some ⟨g, 0, none⟩ ∧ par g = here ∧ rk here.1 < rk g ∧ PBlkR w rk par g ks vs) : TRk w rk par here (.mk k n s x ks vs) (vV k n s x A vs.length c) := by
  by_cases h0 : 0 < vs.length
  · obtain ⟨g, hA, hp, hlt, arr, hb, hs, hi⟩ := h h0
    have pick : ∃ (K N X : Nat → Int) (Z : Nat → ByteArray) (D : Nat → Option Addr) (H : Nat → Nat), ∀ (i : Nat) (hi : i < vs.length), (I64 (ks[i]'(hl ▸ hi)).num ∧ (ks[i]'(hl ▸ hi)).str.size ≤ maxLen) ∧ ∃ L, At8r arr i (ks[i]'(hl ▸ hi)) (K i) (N i) (Z i) (X i) (D i) L (H i) ∧ TRk w rk par (g, i) (vs[i]) (vV (K i) (N i) (Z i) (X i) (D i) L (H i)) := by
      have each : ∀ i, ∃ (K N X : Int) (Z : ByteArray) (D : Option Addr) (H : Nat), ∀ (hi : i < vs.length), (I64 (ks[i]'(hl ▸ hi)).num ∧ (ks[i]'(hl ▸ hi)).str.size ≤ maxLen) ∧ ∃ L, At8r arr i (ks[i]'(hl ▸ hi)) K N Z X D L H ∧ TRk w rk par (g, i) (vs[i]) (vV K N Z X D L H) := by
        intro i
        by_cases hlt : i < vs.length
        · obtain ⟨y, k', n', s', x', ks', vs', A', c', hy, ht, hyb, hc, htp⟩ := hi i hlt
          have ey : ks[i]'(hl ▸ hlt) = y := by rw [List.getElem?_eq_getElem (hl ▸ hlt)] at hy; exact Option.some.inj hy
          have et : vs[i] = .mk k' n' s' x' ks' vs' := by rw [List.getElem?_eq_getElem hlt] at ht; exact Option.some.inj ht
          exact ⟨k', n', x', s', A', c', fun _ => by rw [ey, et]; exact ⟨hyb, _, hc, htp⟩⟩
        · exact ⟨0, 0, 0, ⟨#[]⟩, none, 0, fun h => absurd h hlt⟩
      refine ⟨fun i => (each i).choose, fun i => (each i).choose_spec.choose, fun i => (each i).choose_spec.choose_spec.choose, fun i => (each i).choose_spec.choose_spec.choose_spec.choose, fun i => (each i).choose_spec.choose_spec.choose_spec.choose_spec.choose, fun i => (each i).choose_spec.choose_spec.choose_spec.choose_spec.choose_spec.choose, fun i hi => ?_⟩
      exact (each i).choose_spec.choose_spec.choose_spec.choose_spec.choose_spec.choose_spec hi
    obtain ⟨K, N, X, Z, D, H, hp2⟩ := pick
    refine .mk here k n s x ks vs A c g arr K N X Z D H hk hl (by omega) hcap (fun _ => ⟨hA, hp, hlt, hb, hs⟩) (fun i hi => ⟨(hp2 i hi).1, ?_⟩) (fun i hi L hL => ?_)
    · obtain ⟨L, h1, _⟩ := (hp2 i hi).2
      exact ⟨L, h1⟩
    · obtain ⟨L', h1, h2⟩ := (hp2 i hi).2
      obtain ⟨-, -, -, -, -, -, rfl, -⟩ := at8r_inj hL h1
      exact h2
  · exact .mk here k n s x ks vs A c 0 #[] (fun _ => 0) (fun _ => 0) (fun _ => 0) (fun _ => ⟨#[]⟩) (fun _ => none) (fun _ => 0) hk hl (by omega) hcap (fun h => absurd h h0) (fun i hi => absurd hi (by omega)) (fun i hi => absurd hi (by omega))

/-- The blocks that hang, over others or not, at item h.2 of block h.1. -/
inductive HangR (rk : Nat → Nat) (par : Nat → Nat × Nat) (h : Nat × Nat) : Nat → Prop
  | root (b : Nat) (e : par b = h) (hlt : rk h.1 < rk b) : HangR rk par h b
  | step (b g i : Nat) (e : par b = (g, i)) (hlt : rk g < rk b) (hh : HangR rk par h g) : HangR rk par h b
theorem HangR.gt {b : Nat} (h : HangR rk par here b) : rk here.1 < rk b := by
  induction h with
  | root b e hlt => exact hlt
  | step b g i e hlt hh ih => omega
theorem HangR.sub {g i b : Nat} (h : HangR rk par (g, i) b) (hp : par g = here) (hlt : rk here.1 < rk g) : HangR rk par here b := by
  induction h with
  | root b e hlt' => exact .step b g i e hlt' (.root g hp hlt)
  | step b g' i' e hlt' hh ih => exact .step b g' i' e hlt' ih
theorem HangR.disj {g i j b : Nat} (h : HangR rk par (g, i) b) (h' : HangR rk par (g, j) b) : i = j := by
  induction h with
  | root b e hlt =>
    cases h' with
    | root _ e' _ => rw [e] at e'; injection e'
    | step _ g' i' e' hlt' hh => rw [e] at e'; injection e' with e1 e2; subst e1; have := hh.gt; simp at this
  | step b g' i' e hlt hh ih =>
    cases h' with
    | root _ e' _ => rw [e] at e'; injection e' with e1 e2; subst e1; have := hh.gt; simp at this
    | step _ g2 i2 e' hlt' hh' => rw [e] at e'; injection e' with e1 e2; subst e1; exact ih hh'

/-- What hangs there stays. -/
theorem TRk.stays {t : Tr} {v : Value} (h : TRk w rk par here t v) (hs : ∀ b, HangR rk par here b → w'.heap[b]? = w.heap[b]?) : TRk w' rk par here t v := by
  induction h with
  | mk here k n s x ks vs A cap g arr K N X Z D H hk hl hm hcap hg hc ht ih =>
    by_cases h0 : 0 < vs.length
    · obtain ⟨hA, hp, hlt, hb, hs2⟩ := hg h0
      refine .mk here k n s x ks vs A cap g arr K N X Z D H hk hl hm hcap (fun _ => ⟨hA, hp, hlt, (hs g (.root g hp hlt)).trans hb, hs2⟩) hc (fun i hi L hL => ih i hi L hL fun b hb => hs b (hb.sub hp hlt))
    · exact .mk here k n s x ks vs A cap g arr K N X Z D H hk hl hm hcap (fun h => absurd h h0) hc (fun i hi => absurd hi (by omega))
/-- par matters for the blocks that are there alone. -/
theorem TRk.par_ {par' : Nat → Nat × Nat} {t : Tr} {v : Value} (h : TRk w rk par here t v) (hs : ∀ b, b < w.heap.size → par' b = par b) : TRk w rk par' here t v := by
  induction h with
  | mk here k n s x ks vs A cap g arr K N X Z D H hk hl hm hcap hg hc ht ih =>
    by_cases h0 : 0 < vs.length
    · obtain ⟨hA, hp, hlt, hb, hs2⟩ := hg h0
      refine .mk here k n s x ks vs A cap g arr K N X Z D H hk hl hm hcap (fun _ => ⟨hA, (hs g (Array.getElem?_eq_some_iff.1 hb).1).trans hp, hlt, hb, hs2⟩) hc ih
    · exact .mk here k n s x ks vs A cap g arr K N X Z D H hk hl hm hcap (fun h => absurd h h0) hc (fun i hi => absurd hi (by omega))
/-- Other words at the head. -/
theorem TRk.head {k n x k' n' x' : Int} {s s' : ByteArray} {ks : List Ky} {vs : List Tr} {A : Option Addr} {L c : Nat} (h : TRk w rk par here (.mk k n s x ks vs) (vV k n s x A L c)) (hk : I64 k' ∧ I64 n' ∧ I64 x' ∧ s'.size ≤ maxLen) :
    TRk w rk par here (.mk k' n' s' x' ks vs) (vV k' n' s' x' A L c) := by
  obtain ⟨A', c', e, -, h2, h3, h4⟩ := h.out
  simp [vV] at e
  obtain ⟨rfl, rfl, rfl⟩ := e
  exact TRk.of hk h2 h3 h4

theorem TRk.tin {t : Tr} {v : Value} (h : TRk w rk par here t v) : TIn w (Nw 0 w) t v := by
  induction h with
  | mk here k n s x ks vs A cap g arr K N X Z D H hk hl hm hcap hg hc ht ih =>
    by_cases h0 : 0 < vs.length
    · obtain ⟨hA, hp, hlt, hb, hs2⟩ := hg h0
      have each : ∀ i (hi : i < vs.length), ∃ L, At8r arr i (ks[i]'(hl ▸ hi)) (K i) (N i) (Z i) (X i) (D i) L (H i) := fun i hi => (hc i hi).2
      refine .mk k n s x ks vs A cap (fun i => if hi : i < vs.length then #[.int .i64 (K i), .int .i64 (N i), .string (Z i), .int .i64 (X i), .slice (D i) (each i hi).choose (H i)] else #[]) hk hl hm hcap (fun i hi => ?_) (fun i hi => ?_)
      · have hL := (each i hi).choose_spec
        have at_ : ∀ q, q < 8 → w.cell? ((⟨g, 0, none⟩ : Addr).add (8 * i + q)) = (eV (ks[i]'(hl ▸ hi)) (K i) (N i) (Z i) (X i) (D i) (each i hi).choose (H i)).cells[q]? := fun q hq => by
          rw [Addr.add_lit, Nat.zero_add, cell_of_row w g _ arr IE _ hb, ← hL q hq, Nat.mul_comm]
        refine ⟨⟨g, 0, none⟩, hA, ⟨Nat.zero_le _, arr, IE, hb⟩, ⟨at_ 0 (by omega), at_ 1 (by omega), at_ 2 (by omega), (hc i hi).1⟩, by simp only [dif_pos hi]; rfl, fun j hj => ?_⟩
        rw [at_ (3 + j) (by omega)]
        simp only [dif_pos hi]
        match j, hj with
        | 0, _ => rfl
        | 1, _ => rfl
        | 2, _ => rfl
        | 3, _ => rfl
        | 4, _ => rfl
      · simp only [dif_pos hi]
        exact ih i hi _ (each i hi).choose_spec
    · exact .mk k n s x ks vs A cap (fun _ => #[]) hk hl hm hcap (fun i hi => absurd hi (by omega)) (fun i hi => absurd hi (by omega))
/-- What hangs there, and is there, stays. -/
theorem TRk.keep {t : Tr} {v : Value} (h : TRk w rk par here t v) (hs : ∀ b, HangR rk par here b → b < w.heap.size → w'.heap[b]? = w.heap[b]?) : TRk w' rk par here t v := by
  induction h with
  | mk here k n s x ks vs A cap g arr K N X Z D H hk hl hm hcap hg hc ht ih =>
    by_cases h0 : 0 < vs.length
    · obtain ⟨hA, hp, hlt, hb, hs2⟩ := hg h0
      refine .mk here k n s x ks vs A cap g arr K N X Z D H hk hl hm hcap (fun _ => ⟨hA, hp, hlt, (hs g (.root g hp hlt) (Array.getElem?_eq_some_iff.1 hb).1).trans hb, hs2⟩) hc (fun i hi L hL => ih i hi L hL fun b hb => hs b (hb.sub hp hlt))
    · exact .mk here k n s x ks vs A cap g arr K N X Z D H hk hl hm hcap (fun h => absurd h h0) hc (fun i hi => absurd hi (by omega))
end

end Go.Proofs.YtdgfpfkhcojgaaaGreatDoor.tree

/-
  Values that lie in blocks of their own, whichever is the older one; a row of the call's own that holds such values, made by append.
  Conditions: those that each theorem names.
-/
namespace Go.Proofs.YtdgfpfkhcojgaaaGreatDoor.tree
open Go.ChangeShapes Go.WideShapes Go.ChangeAt Go.RowKit
set_option linter.unusedVariables false

section
variable {w w' : World} {rk rk' : Nat → Nat} {par par' : Nat → Nat × Nat} {here here' : Nat × Nat}
/-- Other ranks and other places, alike. -/
theorem TRk.inner {c : Nat} {t : Tr} {v : Value} (h : TRk w rk par here t v) (h0 : rk here.1 ≠ 0) (hp : ∀ b, rk b ≠ 0 → rk (par b).1 ≠ 0 → par' b = par b) (hr : ∀ b, rk b ≠ 0 → rk' b = rk b + c) : TRk w rk' par' here t v := by
  induction h with
  | mk here k n s x ks vs A cap g arr K N X Z D H hk hl hm hcap hg hc ht ih =>
    by_cases hz : 0 < vs.length
    · obtain ⟨hA, hpg, hlt, hb, hs2⟩ := hg hz
      have hg0 : rk g ≠ 0 := by omega
      refine .mk here k n s x ks vs A cap g arr K N X Z D H hk hl hm hcap (fun _ => ⟨hA, (hp g hg0 (by rw [hpg]; exact h0)).trans hpg, ?_, hb, hs2⟩) hc (fun i hi L hL => ih i hi L hL hg0)
      rw [hr _ h0, hr _ hg0]
      omega
    · exact .mk here k n s x ks vs A cap g arr K N X Z D H hk hl hm hcap (fun h => absurd h hz) hc (fun i hi => absurd hi (by omega))
theorem TRk.outer {c : Nat} {t : Tr} {v : Value} (h : TRk w rk par here t v) (h0 : rk here.1 = 0) (hp : ∀ b, rk b ≠ 0 → par' b = if par b = here then here' else par b) (hr : ∀ b, rk b ≠ 0 → rk' b = rk b + c) (hc' : rk' here'.1 ≤ c) : TRk w rk' par' here' t v := by
  cases h with
  | mk _ k n s x ks vs A cap g arr K N X Z D H hk hl hm hcap hg hc ht =>
    by_cases hz : 0 < vs.length
    · obtain ⟨hA, hpg, hlt, hb, hs2⟩ := hg hz
      have hg0 : rk g ≠ 0 := by omega
      refine .mk here' k n s x ks vs A cap g arr K N X Z D H hk hl hm hcap (fun _ => ⟨hA, (hp g hg0).trans (if_pos hpg), ?_, hb, hs2⟩) hc (fun i hi L hL => (ht i hi L hL).inner (c := c) hg0 (fun b hb0 hb1 => ?_) hr)
      · rw [hr _ hg0]; omega
      · rw [hp b hb0, if_neg]
        intro e
        rw [e] at hb1
        exact hb1 h0
    · exact .mk here' k n s x ks vs A cap g arr K N X Z D H hk hl hm hcap (fun h => absurd h hz) hc (fun i hi => absurd hi (by omega))
theorem HangR.nz {b : Nat} (h : HangR rk par here b) : rk b ≠ 0 := by
  cases h with
  | root _ e hlt => omega
  | step _ g i e hlt hh => omega
end

/-- The value is the tree, in blocks of its own, all of them in F. -/
def FIn (w : World) (F : Nat → Prop) (t : Tr) (v : Value) : Prop := ∃ rk par here, TRk w rk par here t v ∧ rk here.1 = 0 ∧ ∀ b, rk b ≠ 0 → F b
section
variable {w w' : World} {F F' : Nat → Prop} {t : Tr} {v : Value}
theorem FIn.keep (h : FIn w F t v) (hs : ∀ b, F b → b < w.heap.size → w'.heap[b]? = w.heap[b]?) : FIn w' F t v := by
  obtain ⟨rk, par, here, h1, h2, h3⟩ := h
  exact ⟨rk, par, here, h1.keep fun b hb hlt => hs b (h3 b hb.nz) hlt, h2, h3⟩
theorem FIn.below (h : FIn w F t v) (hb : Below w.heap.size w w') : FIn w' F t v := h.keep fun b _ hlt => hb.block b hlt
theorem FIn.mono (h : FIn w F t v) (hs : ∀ b, F b → F' b) : FIn w F' t v := by
  obtain ⟨rk, par, here, h1, h2, h3⟩ := h
  exact ⟨rk, par, here, h1, h2, fun b hb => hs b (h3 b hb)⟩
theorem FIn.tin (h : FIn w F t v) : TIn w (Nw 0 w) t v := by
  obtain ⟨rk, par, here, h1, h2, h3⟩ := h
  exact h1.tin
theorem FIn.leaf {k n x : Int} {s : ByteArray} (hk : I64 k ∧ I64 n ∧ I64 x ∧ s.size ≤ maxLen) (A : Option Addr) (c : Nat) (hc : c ≤ maxLen) : FIn w F (.mk k n s x [] []) (vV k n s x A 0 c) :=
  ⟨fun _ => 0, fun _ => (0, 0), (0, 0), TRk.of hk rfl ⟨Nat.zero_le _, hc⟩ (fun h => absurd h (by simp)), rfl, fun b h => absurd rfl h⟩
end

/-- A row of the call's own from lo on, made by append, whose values lie apart: those of item i in G i. -/
def FRow (w : World) (lo : Nat) (v : Value) (xs : List Value) (ks : List Ky) (vs : List Tr) (G : Nat → Nat → Prop) : Prop :=
  w.ownsRow lo IE 8 v vs.length xs ∧ ks.length = vs.length ∧ ∀ i, i < vs.length → ∃ y k n s x ks' vs' A c, ks[i]? = some y ∧ vs[i]? = some (.mk k n s x ks' vs') ∧ (I64 y.num ∧ y.str.size ≤ maxLen) ∧
    xAt8 xs i y k n s x A vs'.length c ∧ FIn w (G i) (.mk k n s x ks' vs') (vV k n s x A vs'.length c) ∧ ∀ b, G i b → (lo ≤ b ∧ b < w.heap.size ∧ v.ownBlock ≠ some b) ∧ ∀ j, j < i → ¬ G j b
section
variable {w w' : World} {lo : Nat} {v : Value} {xs : List Value} {ks : List Ky} {vs : List Tr} {G : Nat → Nat → Prop}
theorem FRow.nil (w : World) (lo : Nat) (G : Nat → Nat → Prop) : FRow w lo (.slice none 0 0) [] [] [] G := ⟨World.ownsRow_nil w lo _ 8, rfl, fun i hi => absurd hi (by simp)⟩
theorem FRow.len (h : FRow w lo v xs ks vs G) : ks.length = vs.length := h.2.1
theorem FRow.block (h : FRow w lo v xs ks vs G) : ∀ b, v.ownBlock = some b → lo ≤ b ∧ b < w.heap.size := fun b e => World.ownsRow.lt h.1 b e
theorem FRow.keep (h : FRow w lo v xs ks vs G) (hz : w.heap.size ≤ w'.heap.size) (hs : ∀ b, lo ≤ b → b < w.heap.size → w'.heap[b]? = w.heap[b]?) : FRow w' lo v xs ks vs G := by
  obtain ⟨h1, h2, h3⟩ := h
  refine ⟨⟨h1.1, ?_⟩, h2, fun i hi => ?_⟩
  · rcases h1.2 with h | ⟨g, cap, cur, e, hl, hg, hr⟩
    · exact .inl h
    · exact .inr ⟨g, cap, cur, e, hl, (hs g hl (Array.getElem?_eq_some_iff.1 hg).1).trans hg, hr⟩
  · obtain ⟨y, k, n, s, x, ks', vs', A, c, a1, a2, a3, a4, a5, a6⟩ := h3 i hi
    exact ⟨y, k, n, s, x, ks', vs', A, c, a1, a2, a3, a4, a5.keep fun b hb hlt => hs b (a6 b hb).1.1 hlt, fun b hb => ⟨⟨(a6 b hb).1.1, Nat.lt_of_lt_of_le (a6 b hb).1.2.1 hz, (a6 b hb).1.2.2⟩, (a6 b hb).2⟩⟩
theorem FRow.below (h : FRow w lo v xs ks vs G) (hb : Below w.heap.size w w') : FRow w' lo v xs ks vs G := h.keep hb.size fun b _ hl => hb.block b hl
theorem FRow.isin (h : FRow w lo v xs ks vs G) : ∃ A c, v = .slice A vs.length c ∧ (vs.length ≤ c ∧ c ≤ maxLen) := by
  rcases h.1.2 with ⟨rfl, h0'⟩ | ⟨g, cap, cur, rfl, hlo, hg, hnc, hcm, hsz, htk⟩
  · exact ⟨none, 0, by rw [h0'], by rw [h0']; exact ⟨Nat.zero_le _, Nat.zero_le _⟩⟩
  · exact ⟨_, _, rfl, hnc, hcm⟩
/-- One more, whose blocks are new: at lq or above, and not the row's. -/
theorem FRow.more (h : FRow w lo v xs ks vs G) {F : Nat → Prop}
    {y : Ky} {k n x : Int} {s : ByteArray} {ks' : List Ky} {vs' : List Tr} {A : Option Addr} {c : Nat} (hy : I64 y.num ∧ y.str.size ≤ maxLen) (ht : FIn w F (.mk k n s x ks' vs') (vV k n s x A vs'.length c))
    (hF : ∀ b, F b → (lo ≤ b ∧ b < w.heap.size ∧ v.ownBlock ≠ some b) ∧ ∀ j, j < vs.length → ¬ G j b)
    {v' : Value} (ho : w'.ownsRow lo IE 8 v' (vs.length + 1) (xs ++ [.bool y.text, .int .i64 y.num, .string y.str, .int .i64 k, .int .i64 n, .string s, .int .i64 x, .slice A vs'.length c])) (hg : w.grownBy w' v.ownBlock) (hat : v'.ownBlock = v.ownBlock ∨ v'.ownBlock = some w.heap.size) (hz : w.heap.size ≤ w'.heap.size) :
    FRow w' lo v' (xs ++ [.bool y.text, .int .i64 y.num, .string y.str, .int .i64 k, .int .i64 n, .string s, .int .i64 x, .slice A vs'.length c]) (ks ++ [y]) (vs ++ [.mk k n s x ks' vs']) (fun i => if i = vs.length then F else G i) := by
  obtain ⟨h1, h2, h3⟩ := h
  have hxl : xs.length = vs.length * 8 := h1.1
  have st : ∀ {t : Tr} {u : Value} {R : Nat → Prop}, (∀ b, R b → v.ownBlock ≠ some b) → FIn w R t u → FIn w' R t u := fun {t u R} hR h => h.keep fun b hb hlt => hg.block b hlt fun e => hR b hb e.symm
  have nb : ∀ b, (lo ≤ b ∧ b < w.heap.size ∧ v.ownBlock ≠ some b) → lo ≤ b ∧ b < w'.heap.size ∧ v'.ownBlock ≠ some b := fun b hb => ⟨hb.1, Nat.lt_of_lt_of_le hb.2.1 hz, fun e => by
    rcases hat with h | h
    · exact hb.2.2 (h ▸ e)
    · rw [h] at e; injection e with e; have := hb.2.1; omega⟩
  refine ⟨by rw [List.length_append]; exact ho, by rw [List.length_append, List.length_append, h2]; rfl, fun i hi => ?_⟩
  rw [List.length_append] at hi
  simp only [List.length_cons, List.length_nil] at hi
  by_cases e : i = vs.length
  · subst e
    refine ⟨y, k, n, s, x, ks', vs', A, c, by rw [List.getElem?_append_right (by omega), h2]; simp, by rw [List.getElem?_append_right (by omega)]; simp, hy, fun q hq => ?_, by show FIn w' (if vs.length = vs.length then F else G vs.length) _ _; rw [if_pos rfl]; exact st (fun b hb => (hF b hb).1.2.2) ht, fun b hb => ?_⟩
    · rw [List.getElem?_append_right (by omega), hxl, Nat.add_sub_cancel_left]
      match q, hq with
      | 0, _ => rfl
      | 1, _ => rfl
      | 2, _ => rfl
      | 3, _ => rfl
      | 4, _ => rfl
      | 5, _ => rfl
      | 6, _ => rfl
      | 7, _ => rfl
    · replace hb : (if vs.length = vs.length then F else G vs.length) b := hb
      rw [if_pos rfl] at hb
      exact ⟨nb b (hF b hb).1, fun j hj => by show ¬ (if j = vs.length then F else G j) b; rw [if_neg (by omega)]; exact (hF b hb).2 j hj⟩
  · obtain ⟨y1, k1, n1, s1, x1, ks1, vs1, A1, c1, a1, a2, a3, a4, a5, a6⟩ := h3 i (by omega)
    refine ⟨y1, k1, n1, s1, x1, ks1, vs1, A1, c1, by rw [List.getElem?_append_left (by omega)]; exact a1, by rw [List.getElem?_append_left (by omega)]; exact a2, a3, fun q hq => ?_, by show FIn w' (if i = vs.length then F else G i) _ _; rw [if_neg e]; exact st (fun b hb => (a6 b hb).1.2.2) a5, fun b hb => ?_⟩
    · rw [List.getElem?_append_left (by omega)]
      exact a4 q hq
    · replace hb : (if i = vs.length then F else G i) b := hb
      rw [if_neg e] at hb
      exact ⟨nb b (a6 b hb).1, fun j hj => by show ¬ (if j = vs.length then F else G j) b; rw [if_neg (by omega)]; exact (a6 b hb).2 j hj⟩

open Classical in
/-- The row as the items of a value. -/
theorem FRow.out (h : FRow w lo v xs ks vs G) (hm : vs.length ≤ maxLen) {k n x : Int} {s : ByteArray} (hk : I64 k ∧ I64 n ∧ I64 x ∧ s.size ≤ maxLen) :
    ∃ A c, v = .slice A vs.length c ∧ (vs.length ≤ c ∧ c ≤ maxLen) ∧ FIn w (fun b => lo ≤ b ∧ b < w.heap.size) (.mk k n s x ks vs) (vV k n s x A vs.length c) := by
  obtain ⟨h1, h2, h3⟩ := h
  rcases h1.2 with ⟨rfl, h0'⟩ | ⟨g, cap, cur, rfl, hlo, hg, hnc, hcm, hsz, htk⟩
  · obtain rfl : vs = [] := List.length_eq_zero_iff.1 h0'
    obtain rfl : ks = [] := List.length_eq_zero_iff.1 h2
    exact ⟨none, 0, rfl, ⟨by simp, by simp⟩, FIn.leaf hk none 0 (by simp)⟩
  refine ⟨some ⟨g, 0, none⟩, cap, rfl, ⟨hnc, hcm⟩, ?_⟩
  have each : ∀ i, ∃ (rk : Nat → Nat) (par : Nat → Nat × Nat) (here : Nat × Nat), ∀ (hi : i < vs.length), ∃ y k n s x ks' vs' A c, ks[i]? = some y ∧ vs[i]? = some (.mk k n s x ks' vs') ∧ (I64 y.num ∧ y.str.size ≤ maxLen) ∧
      xAt8 xs i y k n s x A vs'.length c ∧ TRk w rk par here (.mk k n s x ks' vs') (vV k n s x A vs'.length c) ∧ rk here.1 = 0 ∧ ∀ b, rk b ≠ 0 → G i b := fun i => by
    by_cases hi : i < vs.length
    · obtain ⟨y, k, n, s, x, ks', vs', A, c, a1, a2, a3, a4, ⟨rk, par, here, b1, b2, b3⟩, a6⟩ := h3 i hi
      exact ⟨rk, par, here, fun _ => ⟨y, k, n, s, x, ks', vs', A, c, a1, a2, a3, a4, b1, b2, b3⟩⟩
    · exact ⟨fun _ => 0, fun _ => (0, 0), (0, 0), fun h => absurd h hi⟩
  have sep : ∀ i j b, i < vs.length → j < vs.length → G i b → G j b → i = j := fun i j b hi hj hbi hbj => by
    obtain ⟨_, _, _, _, _, _, _, _, _, -, -, -, -, -, a6⟩ := h3 i hi
    obtain ⟨_, _, _, _, _, _, _, _, _, -, -, -, -, -, b6⟩ := h3 j hj
    rcases Nat.lt_trichotomy i j with h | h | h
    · exact absurd hbi ((b6 b hbj).2 i h)
    · exact h
    · exact absurd hbj ((a6 b hbi).2 j h)
  have bnd : ∀ i b, i < vs.length → G i b → lo ≤ b ∧ b < w.heap.size ∧ b ≠ g := fun i b hi hb => by
    obtain ⟨_, _, _, _, _, _, _, _, _, -, -, -, -, -, a6⟩ := h3 i hi
    have := (a6 b hb).1
    exact ⟨this.1, this.2.1, fun e => this.2.2 (by rw [e]; rfl)⟩
  have hgl := (Array.getElem?_eq_some_iff.1 hg).1
  let RK : Nat → Nat := fun b => if b = g then 1 else if hh : ∃ i, i < vs.length ∧ G i b then (each hh.choose).choose b + 1 else 0
  let PA : Nat → Nat × Nat := fun b => if b = g then (w.heap.size, 0) else if hh : ∃ i, i < vs.length ∧ G i b then (if (each hh.choose).choose_spec.choose b = (each hh.choose).choose_spec.choose_spec.choose then (g, hh.choose) else (each hh.choose).choose_spec.choose b) else (b, 0)
  have eRK : ∀ i b, i < vs.length → G i b → RK b = (each i).choose b + 1 := fun i b hi hb => by
    have hh : ∃ i, i < vs.length ∧ G i b := ⟨i, hi, hb⟩
    have e : hh.choose = i := sep _ _ b hh.choose_spec.1 hi hh.choose_spec.2 hb
    show (if b = g then 1 else if hh : ∃ i, i < vs.length ∧ G i b then (each hh.choose).choose b + 1 else 0) = _
    rw [if_neg (bnd i b hi hb).2.2, dif_pos hh, e]
  have ePA : ∀ i b, i < vs.length → G i b → PA b = if (each i).choose_spec.choose b = (each i).choose_spec.choose_spec.choose then (g, i) else (each i).choose_spec.choose b := fun i b hi hb => by
    have hh : ∃ i, i < vs.length ∧ G i b := ⟨i, hi, hb⟩
    have e : hh.choose = i := sep _ _ b hh.choose_spec.1 hi hh.choose_spec.2 hb
    show (if b = g then _ else if hh : ∃ i, i < vs.length ∧ G i b then _ else _) = _
    rw [if_neg (bnd i b hi hb).2.2, dif_pos hh, e]
  have eG : RK g = 1 := if_pos rfl
  have e0 : RK w.heap.size = 0 := by
    show (if w.heap.size = g then 1 else if hh : ∃ i, i < vs.length ∧ G i w.heap.size then _ else 0) = 0
    rw [if_neg (by omega), dif_neg]
    rintro ⟨i, hi, hb⟩
    have := (bnd i _ hi hb).2.1
    omega
  refine ⟨RK, PA, (w.heap.size, 0), TRk.of hk h2 ⟨hnc, hcm⟩ (fun _ => ⟨g, rfl, if_pos rfl, by rw [eG]; show RK w.heap.size < 1; omega, cur, hg, by omega, fun i hi => ?_⟩), e0, fun b hb => ?_⟩
  · obtain ⟨y, k, n, s, x, ks', vs', A, c, a1, a2, a3, a4, b1, b2, b3⟩ := (each i).choose_spec.choose_spec.choose_spec hi
    refine ⟨y, k, n, s, x, ks', vs', A, c, a1, a2, a3, fun q hq => ?_, b1.outer (c := 1) b2 (fun b hb => ePA i b hi (b3 b hb)) (fun b hb => eRK i b hi (b3 b hb)) (by show RK g ≤ 1; omega)⟩
    rw [← a4 q hq, ← htk, List.getElem?_take_of_lt (by omega)]
    simp
  · by_cases e : b = g
    · subst e
      exact ⟨hlo, hgl⟩
    · by_cases hh : ∃ i, i < vs.length ∧ G i b
      · obtain ⟨i, hi, hbi⟩ := hh
        have := bnd i b hi hbi
        exact ⟨this.1, this.2.1⟩
      · exact absurd (show RK b = 0 by show (if b = g then 1 else if hh : ∃ i, i < vs.length ∧ G i b then _ else 0) = 0; rw [if_neg e, dif_neg hh]) hb
end

end Go.Proofs.YtdgfpfkhcojgaaaGreatDoor.tree

/-
  A row of slots of the call's own, to which slots are appended.
  Conditions: those that each theorem names.
-/
namespace Go.Proofs.YtdgfpfkhcojgaaaGreatDoor.tree
open Go.ChangeShapes Go.WideShapes Go.ChangeAt Go.RowKit
set_option linter.unusedVariables false

def SRowX (w : World) (lo : Nat) (v : Value) (xs : List Value) (sl : List Sl) : Prop :=
  w.ownsRow lo IS 10 v sl.length xs ∧ ∀ (i : Nat) t, sl[i]? = some t → ∃ k n s x ks vs A c, t.val = .mk k n s x ks vs ∧ (I64 t.key.num ∧ t.key.str.size ≤ maxLen) ∧ I64 t.link ∧
    (∀ q, q < 10 → xs[i * 10 + q]? = ([.bool t.key.text, .int .i64 t.key.num, .string t.key.str, .int .i64 k, .int .i64 n, .string s, .int .i64 x, .slice A vs.length c, .bool t.live, .int .i64 t.link] : List Value)[q]?) ∧ TIn w (SX lo v) t.val (vV k n s x A vs.length c)
def SRow (w : World) (lo : Nat) (v : Value) (sl : List Sl) : Prop := ∃ xs, SRowX w lo v xs sl

section
variable {w w' : World} {lo : Nat} {v : Value} {sl : List Sl}
theorem SRow.nil (w : World) (lo : Nat) : SRow w lo (.slice none 0 0) [] := ⟨[], World.ownsRow_nil w lo _ 10, fun i t h => by simp at h⟩
theorem SRow.empty (w : World) (lo : Nat) (h : lo ≤ w.heap.size) : SRow (w.alloc (.cells #[] IS)) lo (.slice (some ⟨w.heap.size, 0, none⟩) 0 0) [] :=
  ⟨[], ⟨rfl, .inr ⟨w.heap.size, 0, #[], rfl, h, heap_alloc_new w _, Nat.le_refl _, Nat.zero_le _, rfl, rfl⟩⟩, fun i t h => by simp at h⟩
theorem SRow.below (h : SRow w lo v sl) (hb : Below w.heap.size w w') : SRow w' lo v sl := by
  obtain ⟨xs, h1, h3⟩ := h
  refine ⟨xs, World.ownsRow.kept h1 (mem.none_of_below hb) ownBlock_keep, fun i t ht => ?_⟩
  obtain ⟨k, n, s, x, ks, vs, A, c, a1, a2, a3, a4, a5⟩ := h3 i t ht
  exact ⟨k, n, s, x, ks, vs, A, c, a1, a2, a3, a4, a5.below' hb⟩
theorem SRow.above (h : SRow w lo v sl) (hs : ∀ b, lo ≤ b → b < w.heap.size → w'.heap[b]? = w.heap[b]?) : SRow w' lo v sl := by
  obtain ⟨xs, h1, h3⟩ := h
  refine ⟨xs, ⟨h1.1, ?_⟩, fun i t ht => ?_⟩
  · rcases h1.2 with h | ⟨g, cap, cur, e, hlo, hg, hr⟩
    · exact .inl h
    · exact .inr ⟨g, cap, cur, e, hlo, (hs g hlo (Array.getElem?_eq_some_iff.1 hg).1).trans hg, hr⟩
  · obtain ⟨k, n, s, x, ks, vs, A, c, a1, a2, a3, a4, a5⟩ := h3 i t ht
    exact ⟨k, n, s, x, ks, vs, A, c, a1, a2, a3, a4, a5.stays (fun _ h => h) fun b hb hlt => hs b hb.1 hlt⟩
theorem SRow.block (h : SRow w lo v sl) : ∀ k, v.ownBlock = some k → lo ≤ k ∧ k < w.heap.size := by
  obtain ⟨xs, h1, -⟩ := h
  exact h1.lt

/-- One more. -/
theorem SRowX.more {xs : List Value} (h : SRowX w lo v xs sl) {t : Sl}
    {k n x : Int} {s : ByteArray} {ks' : List Ky} {vs' : List Tr} {A : Option Addr} {c : Nat} (hv : t.val = .mk k n s x ks' vs') (hy : I64 t.key.num ∧ t.key.str.size ≤ maxLen) (hl : I64 t.link) (ht : TIn w (SX lo v) t.val (vV k n s x A vs'.length c))
    {v' : Value} (ho : w'.ownsRow lo IS 10 v' (sl.length + 1) (xs ++ [.bool t.key.text, .int .i64 t.key.num, .string t.key.str, .int .i64 k, .int .i64 n, .string s, .int .i64 x, .slice A vs'.length c, .bool t.live, .int .i64 t.link])) (hg : w.grownBy w' v.ownBlock) (hat : v'.ownBlock = v.ownBlock ∨ v'.ownBlock = some w.heap.size) :
    SRow w' lo v' (sl ++ [t]) := by
  obtain ⟨h1, h3⟩ := h
  have hxl : xs.length = sl.length * 10 := h1.1
  have st : ∀ {t : Tr} {u : Value}, TIn w (SX lo v) t u → TIn w' (SX lo v') t u := fun {t u} h => by
    have h' : TIn w (fun b => SX lo v b ∧ b < w.heap.size) t u := by
      induction h with
      | mk k n s x ks vs A cap C hk hl hm hcap hc ht ih =>
        refine .mk k n s x ks vs A cap C hk hl hm hcap (fun i hi => ?_) ih
        obtain ⟨a, ha, hS, hky, hs, hj⟩ := hc i hi
        refine ⟨a, ha, ⟨hS, ?_⟩, hky, hs, hj⟩
        have := World.block_lt_of_cell? _ _ hky.1
        rwa [mem.add_block] at this
    exact h'.stays (fun b ⟨⟨hb1, hb2⟩, hb3⟩ => ⟨hb1, fun e => by
      rcases hat with h | h
      · exact hb2 (h ▸ e)
      · rw [h] at e; injection e with e; omega⟩) (fun b ⟨⟨hb1, hb2⟩, hb3⟩ hlt => hg.block b hlt (fun e => hb2 e.symm))
  refine ⟨_, by rw [List.length_append]; exact ho, fun i t2 hi => ?_⟩
  have hil := (List.getElem?_eq_some_iff.1 hi).1
  rw [List.length_append] at hil
  simp only [List.length_cons, List.length_nil] at hil
  by_cases e : i = sl.length
  · subst e
    rw [List.getElem?_append_right (Nat.le_refl _), Nat.sub_self] at hi
    obtain rfl : t = t2 := by simpa using hi
    refine ⟨k, n, s, x, ks', vs', A, c, hv, hy, hl, fun q hq => ?_, st ht⟩
    rw [List.getElem?_append_right (by omega), hxl, Nat.add_sub_cancel_left]
  · rw [List.getElem?_append_left (by omega)] at hi
    obtain ⟨k1, n1, s1, x1, ks1, vs1, A1, c1, a1, a2, a3, a4, a5⟩ := h3 i t2 hi
    refine ⟨k1, n1, s1, x1, ks1, vs1, A1, c1, a1, a2, a3, fun q hq => ?_, st a5⟩
    rw [List.getElem?_append_left (by omega)]
    exact a4 q hq
theorem SRow.sin (h : SRow w lo v sl) (hm : sl.length ≤ maxLen) : ∃ A c, v = .slice A sl.length c ∧ (sl.length ≤ c ∧ c ≤ maxLen) ∧ SIn w (fun b => lo ≤ b) sl A := by
  obtain ⟨xs, h1, h3⟩ := h
  rcases h1.2 with ⟨rfl, h0⟩ | ⟨g, cap, cur, rfl, hlo, hg, hnc, hcm, hsz, htk⟩
  · obtain rfl : sl = [] := List.length_eq_zero_iff.1 h0
    exact ⟨none, 0, rfl, ⟨Nat.le_refl _, Nat.zero_le _⟩, fun i t h => by simp at h⟩
  · refine ⟨some ⟨g, 0, none⟩, cap, rfl, ⟨hnc, hcm⟩, fun i t ht => ?_⟩
    obtain ⟨k, n, s, x, ks, vs, A, c, a1, a2, a3, a4, a5⟩ := h3 i t ht
    have hil := (List.getElem?_eq_some_iff.1 ht).1
    refine ⟨⟨g, 0, none⟩, k, n, s, x, ks, vs, A, c, rfl, hlo, a2, a3, a1, a5.stays (fun b hb => hb.1) (fun _ _ _ => rfl), ?_⟩
    have at_ : ∀ q, q < 10 → w.cell? ⟨g, i * 10 + q, none⟩ = ([.bool t.key.text, .int .i64 t.key.num, .string t.key.str, .int .i64 k, .int .i64 n, .string s, .int .i64 x, .slice A vs.length c, .bool t.live, .int .i64 t.link] : List Value)[q]? := fun q hq => by
      have := a4 q hq
      rw [← htk, List.getElem?_take, if_pos (by omega)] at this
      exact (cell_of_row w g _ cur IS _ hg).trans (by simpa using this)
    rw [Addr.add_lit, Nat.zero_add]
    exact ⟨at_ 0 (by omega), at_ 1 (by omega), at_ 2 (by omega), at_ 3 (by omega), at_ 4 (by omega), at_ 5 (by omega), at_ 6 (by omega), at_ 7 (by omega), at_ 8 (by omega), at_ 9 (by omega)⟩
end

end Go.Proofs.YtdgfpfkhcojgaaaGreatDoor.tree

/-
  A result that lies in a box of five cells; the value of null.
  Conditions: those that each theorem names.
-/
namespace Go.Proofs.YtdgfpfkhcojgaaaGreatDoor.tree
open Go.ChangeShapes Go.WideShapes Go.ChangeAt Go.RowKit
set_option linter.unusedVariables false

/-- A result's five cells, written. -/
theorem fill5 {w wF : World} {R : Nat} {t : TypeId} {a b c d e c0 c1 c2 c3 c4 : Value} (h : w.heap[R]? = some (.cells #[a, b, c, d, e] t (0, 0)))
    (hF : (((((w.setCell ⟨R, 0, none⟩ c0).setCell ⟨R, 1, none⟩ c1).setCell ⟨R, 2, none⟩ c2).setCell ⟨R, 3, none⟩ c3).setCell ⟨R, 4, none⟩ c4) = wF) :
    (∀ j, wF.cell? ⟨R, j, none⟩ = (#[c0, c1, c2, c3, c4] : Array Value)[j]?) ∧ (∀ q, q ≠ R → wF.heap[q]? = w.heap[q]?) ∧ ∀ (B : Nat) (w0 : World), B ≤ R → Below B w0 w → Below B w0 wF := by
  subst hF
  refine ⟨fun j => ?_, fun q hq => ?_, fun B w0 hB hb => ?_⟩
  · have := set_heap (set_heap (set_heap (set_heap (set_heap h 0 c0) 1 c1) 2 c2) 3 c3) 4 c4
    rw [cell_of_row _ _ j _ _ _ this]
    simp
  · rw [set_other hq, set_other hq, set_other hq, set_other hq, set_other hq]
  · exact ((((hb.setCell hB _).setCell hB _).setCell hB _).setCell hB _).setCell hB _

theorem nullValue_i (w : World) : Calls Tryz.prog 120 #[] w (GivesQ w (vV 0 0 ⟨#[]⟩ 0 none 0 0)) := by
  go_enter Tryz.func120, Tryz.ntmps120
  go_wp2
  exact bodyPost_ret (v := vV 0 0 ⟨#[]⟩ 0 none 0 0) (by simp [results, Tryz.results120, go_sem]) rfl ⟨rfl, b1 _ _⟩

end Go.Proofs.YtdgfpfkhcojgaaaGreatDoor.tree

/-
  What stands at a key of a tree.
  Conditions: none.
-/
namespace Go.Proofs.YtdgfpfkhcojgaaaGreatDoor.tree
open Go.ChangeShapes Go.WideShapes Go.ChangeAt Go.RowKit
set_option linter.unusedVariables false

def nullT : Tr := .mk 0 0 ⟨#[]⟩ 0 [] []
/-- What stands at the key. -/
def getT : Tr → Ky → Option Tr
  | .mk k n s x ks vs, y => if posV (.mk k n s x ks vs) y = -1 then none else vs[(posV (.mk k n s x ks vs) y).toNat]?
def getB (t : Tr) (y : Ky) : Bool := (getT t y).isSome
def getR (t : Tr) (y : Ky) : Tr := (getT t y).getD nullT
theorem getT_none {t : Tr} {y : Ky} (h : posV t y = -1) : getT t y = none := by cases t; rw [getT, if_pos h]
theorem getT_some {k n x : Int} {s : ByteArray} {ks : List Ky} {vs : List Tr} {y : Ky} {i : Nat} (h : posV (.mk k n s x ks vs) y = i) : getT (.mk k n s x ks vs) y = vs[i]? := by
  rw [getT, if_neg (by omega), h, Int.toNat_natCast]

def OutT (w : World) (t : Tr) (b : Bool) (S : Nat → Prop) (e : Ending) (w' : World) : Prop := ∃ u, e = .returned (.tuple #[u, .bool b]) ∧ TIn w' S t u ∧ Below w.heap.size w w'

end Go.Proofs.YtdgfpfkhcojgaaaGreatDoor.tree

/-
  The slots among which a key is found, of the project: the chain of its bucket.
  Conditions: those that each theorem names.
-/
namespace Go.Proofs.YtdgfpfkhcojgaaaGreatDoor.tree
open Go.ChangeShapes Go.WideShapes Go.ChangeAt Go.RowKit
set_option linter.unusedVariables false

theorem SIn.lt' {w : World} {S : Nat → Prop} {sl : List Sl} {A : Option Addr} (h : SIn w S sl A) : SIn w (fun b => b < w.heap.size) sl A := fun i t ht => by
  obtain ⟨a, k, n, s, x, ks, vs, A', c', e, hSa, hk, hl, hv, hT, hc⟩ := h i t ht
  refine ⟨a, k, n, s, x, ks, vs, A', c', e, ?_, hk, hl, hv, hT.lt', hc⟩
  have := World.block_lt_of_cell? _ _ hc.c0
  rwa [mem.add_block] at this

def ChQ (w : World) (g m : Nat) (sl : List Sl) (y : Ky) (e : Ending) (w' : World) : Prop :=
  ∃ A' L' c' r, e = .returned (.slice A' L' c') ∧ OwnC w' g (w.heap.size + 2) A' L' c' r ∧ (∀ i ∈ r, 0 ≤ i ∧ i < m) ∧ sr sl y r = fd sl y m ∧ L' ≤ 1024 ∧ w.grownBy w' (some g)

theorem three_cell (w : World) (o1 o2 : Obj) (v : Value) (t : TypeId) (N : Nat) (hN : N = w.heap.size + 2) : (((w.alloc o1).alloc o2).alloc (.cells #[v] t)).cell? ⟨N, 0, none⟩ = some v := by
  subst hN
  have h := heap_alloc_new ((w.alloc o1).alloc o2) (.cells #[v] t)
  rw [show ((w.alloc o1).alloc o2).heap.size = w.heap.size + 2 by simp] at h
  exact (rowc h).1 0

theorem one_cell (w : World) (v : Value) (t : TypeId) (N : Nat) (hN : N = w.heap.size) : (w.alloc (.cells #[v] t)).cell? ⟨N, 0, none⟩ = some v := by
  subst hN
  exact (rowc (heap_alloc_new w _)).1 0

set_option maxRecDepth 100000 in
set_option maxHeartbeats 2000000 in
theorem chain_f {l : List Int} {sl : List Sl} {A : Option Addr} {n c : Nat} {B : Option Addr} {m d : Nat} {x k : Int} (w : World) {S : Nat → Prop} (hr : TbIn w S l sl A n c B m d x k) (hok : tabOk false l sl x k) (y : Ky) (g : Nat) (cur : Array Value) (hg : w.heap[g]? = some (.cells cur T8 (0, 0))) (hcs : cur.size = 8) :
    Calls Tryz.prog 122 #[.slice (some ⟨g, 0, none⟩) 0 8, tbV false A n c B m d x k, kyV y] w (ChQ w g m sl y) := by
  have hlen := hr.len
  have hpk : ∀ (i : Nat) t, sl[i]? = some t → t.key = ixK i := fun i t h => by
    rcases (hok.2.2.2.1 i t h).1 with h | h
    · cases h
    · exact h
  have hm := hok.len.1
  have hgl : g < w.heap.size := (Array.getElem?_eq_some_iff.1 hg).1
  rw [hlen] at hm
  have HO : Hid (∀ w', Below w.heap.size w w' → OwnC w' g (w.heap.size + 2) (some ⟨g, 0, none⟩) 0 8 []) := Lib.hid (fun w' hb => OwnC.made w' _ g cur (carry hb hg) hcs)
  obtain ⟨q, HQ⟩ : ∃ q, Hid (nums.inr y.num 0 ((m : Int) - 1) = q) := ⟨_, Lib.hid rfl⟩
  have IR := fun w => HQ.out ▸ nums.implInRange y.num 0 ((m : Int) - 1) w
  cases q with
  | false =>
    have HF : Hid (sr sl y [] = fd sl y m) := Lib.hid (by
      have := fd_out (sl := sl) hpk (y := y) (by
        have h := HQ.out
        unfold nums.inr at h
        simp at h
        rw [hlen]
        omega)
      rw [hlen] at this
      rw [this]
      rfl)
    obtain ⟨yb, yn, ys⟩ := y
    unfold kyV
    simp only at IR
    clear hr hok hpk HQ hg
    go_enter Tryz.func122, Tryz.ntmps122
    go_wp2_with (fail)
    refine (IR _).mono ?_
    rintro e w1 ⟨rfl, rfl⟩
    go_wp2_with (fail)
    go_ret
    exact ⟨_, _, _, [], rfl, HO.out _ (b2 _ _ _), by simp, HF.out, by omega, gb (b2 _ _ _) _⟩
  | true =>
    obtain ⟨i, hi, him⟩ : ∃ i : Nat, y.num = i ∧ i < m := by
      have h := HQ.out
      unfold nums.inr at h
      simp at h
      exact ⟨y.num.toNat, by omega, by omega⟩
    obtain ⟨t, ht⟩ : ∃ t, sl[i]? = some t := ⟨_, List.getElem?_eq_getElem (by omega)⟩
    have HF : Hid (sr sl y [(i : Int)] = fd sl y m) := Lib.hid (by
      have := fd_at (sl := sl) hpk (y := y) ht hi
      rw [hlen] at this
      rw [this, sr_cons ht]
      rfl)
    obtain ⟨yb, yn, ys⟩ := y
    unfold kyV
    simp only at IR hi
    subst hi
    clear hr hok hpk HQ hg ht
    go_enter Tryz.func122, Tryz.ntmps122
    go_wp2_with (fail)
    refine (IR _).mono ?_
    rintro e w1 ⟨rfl, rfl⟩
    go_wp2_with (first
      | (at_builtin; go_loud (refine wpList_appendC _ rfl _ _ rfl g (w.heap.size + 2) _ _ _ [] rfl (HO.out _ (bs (b2 _ _ _) (b1 _ _))) _ (i : Int) rfl (three_cell _ _ _ _ _ _ (by omega)) (by omega) (by simp) ?_)
         intro A9 c9 w9 ho9 hg9
         have HO9 := Lib.hid ho9
         have HG9 := Lib.hid (gtrans (gb (bs (b2 w _ _) (b1 _ _)) _) hg9 (fun j e => by injection e with e; exact .inl e.symm))
         clear ho9 hg9)
      | fail)
    go_ret
    exact ⟨_, _, _, [(i : Int)], rfl, HO9.out, by simp; omega, HF.out, by omega, HG9.out⟩

set_option maxRecDepth 100000 in
set_option maxHeartbeats 4000000 in
theorem chain_t {l : List Int} {sl : List Sl} {A : Option Addr} {n c : Nat} {B : Option Addr} {m d : Nat} {x k : Int} (w : World) {S : Nat → Prop} (hr : TbIn w S l sl A n c B m d x k) (hok : tabOk true l sl x k) (y : Ky) (hys : y.str.size ≤ 140737488355328) (g : Nat) (hSg : ∀ b, S b → b ≠ g) (cur : Array Value) (hg : w.heap[g]? = some (.cells cur T8 (0, 0))) (hcs : cur.size = 8) :
    Calls Tryz.prog 122 #[.slice (some ⟨g, 0, none⟩) 0 8, tbV true A n c B m d x k, kyV y] w (ChQ w g m sl y) := by
  have hlen := hr.len
  have hln : l.length = n := hr.heads.len
  have hm := hok.len.1
  have hp : p2 n := by have := (hok.2.1.1 rfl).1; rwa [hln] at this
  have hn8 : 8 ≤ n ∧ n ≤ 1024 := by unfold p2 at hp; omega
  have hgl : g < w.heap.size := (Array.getElem?_eq_some_iff.1 hg).1
  rw [hlen] at hm
  have HO : Hid (∀ w', Below w.heap.size w w' → OwnC w' g (w.heap.size + 2) (some ⟨g, 0, none⟩) 0 8 []) := Lib.hid (fun w' hb => OwnC.made w' _ g cur (carry hb hg) hcs)
  obtain ⟨q, HQ⟩ : ∃ q : Nat, Hid (bk n y = q) := ⟨_, Lib.hid rfl⟩
  have hq : q < n := HQ.out ▸ bk_lt (by omega) y
  have hqi : (q : Int) < (n : Int) := by omega
  have BK : Hid (∀ w', Calls Tryz.prog 154 #[kyV y, .int .i64 n] w' (LtQ w' q)) := Lib.hid fun w' => HQ.out ▸ bucketOf_i n (by omega) (by omega) y hys w'
  obtain ⟨v, hv⟩ : ∃ v, l[q]? = some v := ⟨_, List.getElem?_eq_getElem (by omega)⟩
  have HV : Hid (v = last n sl q m) := Lib.hid (by
    have h1 := hok.2.2.2.2
    rw [hln, hlen] at h1
    have h2 := hs_get (n := n) (sl := sl) hq m
    rw [h1, hv] at h2
    exact Option.some.inj h2)
  have HLK : Hid (∀ (i : Nat) t, sl[i]? = some t → bk n t.key = q → t.link = last n sl q i) := Lib.hid (fun i t h hb => by
    have h1 := (hok.2.2.2.1 i t h).2
    rw [hln, lk_pos (by omega), hb] at h1
    exact h1)
  have HFD : Hid (∀ r, r = chn n sl q m → sr sl y r = fd sl y m) := Lib.hid (fun r h => by
    rw [h, ← HQ.out]
    exact chn_fd m (by omega))
  obtain ⟨a, ha, hc⟩ := hr.heads.2 (by omega)
  subst ha
  have HC : Hid (w.cell? (a.add q) = some (.int .i64 v)) := Lib.hid (hc q v hv)
  have HS := Lib.hid hr.slots
  have HLN := Lib.hid hlen
  obtain ⟨yb, yn, ys⟩ := y
  unfold kyV at BK ⊢
  simp only at BK
  clear hr hok hp hg hv hc hys hlen hln
  go_enter Tryz.func122, Tryz.ntmps122
  go_upto_region 5 with fail
  generalize hw0 : (w.alloc (.cells #[.bool true, .slice (some a) n c, .slice B m d, .int .i64 x, .int .i64 k] IT)).alloc (.cells #[.bool yb, .int .i64 yn, .string ys] 29) = w0
  have hb0 : Below w.heap.size w w0 := hw0 ▸ b2 _ _ _
  have HA : Hid (w0.heap[w.heap.size]? = some (.cells #[.bool true, .slice (some a) n c, .slice B m d, .int .i64 x, .int .i64 k] IT (0, 0))) := Lib.hid (hw0 ▸ heap_alloc2_old w _ _)
  have HY : Hid (w0.heap[w.heap.size + 1]? = some (.cells #[.bool yb, .int .i64 yn, .string ys] 29 (0, 0))) := Lib.hid (hw0 ▸ heap_alloc2_new w _ _)
  have HB := Lib.hid hb0
  have HC0 : Hid (w0.cell? (a.add q) = some (.int .i64 v)) := Lib.hid (cell_stays (fun hl => hb0.block _ hl) HC.out)
  have y1 : w0.cell? ⟨w.heap.size, 1, none⟩ = some (.slice (some a) n c) := (rowc HA.out).1 1
  have z0 : w0.cell? ⟨w.heap.size + 1, 0, none⟩ = some (.bool yb) := (rowc HY.out).1 0
  have z1 : w0.cell? ⟨w.heap.size + 1, 1, none⟩ = some (.int .i64 yn) := (rowc HY.out).1 1
  have z2 : w0.cell? ⟨w.heap.size + 1, 2, none⟩ = some (.string ys) := (rowc HY.out).1 2
  have hcc := HC0.out
  clear hw0 hb0
  go_wp2_with (fail)
  go_region_held3 (fun w' => w'.cell? ⟨w.heap.size, 1, none⟩ = some (.slice (some a) n c) ∧ w'.cell? ⟨w.heap.size + 1, 0, none⟩ = some (.bool yb) ∧ w'.cell? ⟨w.heap.size + 1, 1, none⟩ = some (.int .i64 yn) ∧ w'.cell? ⟨w.heap.size + 1, 2, none⟩ = some (.string ys) ∧ w'.cell? (a.add q) = some (.int .i64 v)) (first | go_keep | exact ⟨y1, z0, z1, z2, hcc⟩) (first
    | (go_at_call 154; refine (BK.out _).mono ?_
       rintro e w1 ⟨rfl, hb1⟩
       have hbx := bs ((Below.refl w0.heap.size w0).drew) hb1
       have HA1 := Lib.hid (carry hbx HA.out)
       have HY1 := Lib.hid (carry hbx HY.out)
       have HB1 := Lib.hid (bs HB.out hbx)
       have hcc : w1.cell? (a.add q) = some (.int .i64 v) := cell_stays (fun hl => HB1.out.block _ hl) HC.out
       have y1 : w1.cell? ⟨w.heap.size, 1, none⟩ = some (.slice (some a) n c) := (rowc HA1.out).1 1
       have z0 : w1.cell? ⟨w.heap.size + 1, 0, none⟩ = some (.bool yb) := (rowc HY1.out).1 0
       have z1 : w1.cell? ⟨w.heap.size + 1, 1, none⟩ = some (.int .i64 yn) := (rowc HY1.out).1 1
       have z2 : w1.cell? ⟨w.heap.size + 1, 2, none⟩ = some (.string ys) := (rowc HY1.out).1 2
       clear hb1 hbx))
  clear z0 z1 z2 y1 hcc
  go_wp2_with (fail)
  go_loopg [0, 7] m (fun gk s0 s7 wr => ∃ (J L1 c1 : Nat) (v : Int) (r : List Int) (A1 : Option Addr), s0 = .slice A1 L1 c1 ∧ s7 = .int .i64 v ∧ J ≤ gk ∧ J ≤ m ∧ L1 + J ≤ m ∧ Hid (v = last n sl q J) ∧ Hid (r ++ chn n sl q J = chn n sl q m) ∧
    Hid (wr.heap[w.heap.size]? = some (.cells #[.bool true, .slice (some a) n c, .slice B m d, .int .i64 x, .int .i64 k] IT (0, 0))) ∧ Hid (OwnC wr g (w.heap.size + 2) A1 L1 c1 r) ∧ Hid (w.grownBy wr (some g)) ∧ w.heap.size + 2 ≤ wr.heap.size)
  case atStart => exact ⟨m, 0, 8, v, [], _, rfl, rfl, Nat.le_refl _, Nat.le_refl _, by omega, HV, Lib.hid rfl, HA1, Lib.hid (HO.out _ HB1.out), Lib.hid (gb HB1.out _), by have := (Array.getElem?_eq_some_iff.1 HY1.out).1; omega⟩
  case round =>
    clear HA HY HB HC0 HA1 HY1 HB1
    obtain ⟨J, L1, c1, v1, r, A1, rfl, rfl, hgk, hJ, hLJ, HV1, HR, HA, HOC, HG, hz⟩ := hrel
    rcases last_chn (n := n) (sl := sl) (b := q) J (by have := HLN.out; omega) with ⟨h1, h2⟩ | ⟨i, t, hi, h1, h2, h3, h4⟩
    · have hv1 : v1 = -1 := HV1.out.trans h1
      subst hv1
      have HR2 : Hid (r = chn n sl q m) := Lib.hid (by have := HR.out; rw [h2, List.append_nil] at this; exact this)
      clear h1 h2
      go_wp2_with (fail)
      go_ret
      exact ⟨A1, L1, c1, r, rfl, HOC.out, fun i hi => by rw [HR2.out] at hi; exact chn_in m i hi, HFD.out r HR2.out, by omega, HG.out⟩
    · have hv1 : v1 = (i : Int) := HV1.out.trans h1
      subst hv1
      have HR2 : Hid (r ++ [(i : Int)] ++ chn n sl q i = chn n sl q m) := Lib.hid (by have := HR.out; rw [h4] at this; simpa using this)
      have HLI : Hid (t.link = last n sl q i) := Lib.hid (HLK.out i t h2 h3)
      obtain ⟨a2, k2, n2, s2, x2, ks2, vs2, A2, c2, ea, hSa, -, -, -, -, hcell⟩ := HS.out i t h2
      subst ea
      have hne : a2.block ≠ g := hSg _ hSa
      have hlt2 : a2.block < w.heap.size := by
        have := World.block_lt_of_cell? _ _ hcell.c0
        rwa [mem.add_block] at this
      have hil : i < m := by omega
      have hii : (i : Int) < (m : Int) := by omega
      have hi1 : ((i : Int) != -1) = true := by simp
      have HCL : Hid (∀ w', w'.heap[a2.block]? = w.heap[a2.block]? → At10 w' (a2.add (i * 10)) t.key k2 n2 s2 x2 A2 vs2.length c2 t.live t.link) := Lib.hid (fun w' h => hcell.stays (fun _ => by rw [mem.add_block]; exact h))
      obtain ⟨tl, HTL⟩ : ∃ z, Hid (t.link = z) := ⟨_, Lib.hid rfl⟩
      clear h1 h2 h3 h4 hcell hSa
      go_wp2_with (first
        | (at_builtin; go_loud ((refine wpList_appendC _ rfl _ _ rfl g (w.heap.size + 2) _ _ _ r rfl (HOC.out.below (b1 _ _)) _ (i : Int) rfl (one_cell _ _ _ _ rfl) (by omega) (by first | (simp; done) | (simp; omega)) ?_
                                 intro A9 c9 w9 ho9 hg9
                                 have HO9 := Lib.hid ho9
                                 have hob := HOC.out.block
                                 have HA9 := Lib.hid ((hg9.block _ (by first | (simp; done) | (simp; omega)) (fun e => by rcases (hob _ e.symm).1 with h | h <;> omega)).trans (keepAlloc HA.out))
                                 have HG9 := Lib.hid (gtrans (gtrans HG.out (gb (b1 _ _) none) (fun j e => by cases e)) hg9 (fun j e => by rcases (hob _ e).1 with h | h; exact .inl h; exact .inr (by omega)))
                                 have hz9 : w.heap.size + 2 ≤ w9.heap.size := Nat.le_trans (Nat.le_trans hz (by simp)) hg9.size
                                 have hcl := HCL.out w9 (HG9.out.block _ hlt2 (fun e => hne (Option.some.inj e)))
                                 rw [HTL.out] at hcl
                                 have p9 := hcl.c9
                                 have y2 : w9.cell? ⟨w.heap.size, 2, none⟩ = some (.slice (some a2) m d) := (rowc HA9.out).1 2
                                 clear ho9 hg9 hob hcl)))
        | fail)
      go_roundg i
      case rel => exact ⟨i, L1 + 1, c9, tl, r ++ [(i : Int)], A9, by go_num, rfl, Nat.le_refl _, by omega, by omega, Lib.hid (HTL.out.symm.trans HLI.out), HR2, HA9, HO9, HG9, hz9⟩
      case measure => omega

end Go.Proofs.YtdgfpfkhcojgaaaGreatDoor.tree

