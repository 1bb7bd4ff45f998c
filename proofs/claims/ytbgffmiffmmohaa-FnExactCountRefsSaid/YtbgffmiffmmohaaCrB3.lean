/-
  What the texts behind this one use: 2 parts of one proof.
  Conditions: those that each theorem names.
-/
import Derived.Test.YtbgffmiffmmohaaCrSTreeCp
import Derived.Test.YtbgffmiffmmohaaCrB2
/-
  What a call leaves as it was, but for some blocks.
  Conditions: none.
-/
namespace Go.Proofs.Ytbgffmiffmmohaa.tree
open Go.ChangeShapes Go.WideShapes Go.ChangeAt Go.RowKit
set_option linter.unusedVariables false

/-- Nothing but blocks of S has changed. -/
structure Fr (S : Nat → Prop) (w w' : World) : Prop where
  os : w'.os = w.os
  tape : w'.tape = w.tape
  output : w'.output = w.output
  size : w.heap.size ≤ w'.heap.size
  block : ∀ b, b < w.heap.size → ¬ S b → w'.heap[b]? = w.heap[b]?
section
variable {S S' : Nat → Prop} {w w' w2 : World}
theorem Fr.refl (S : Nat → Prop) (w : World) : Fr S w w := ⟨rfl, rfl, rfl, Nat.le_refl _, fun _ _ _ => rfl⟩
theorem Fr.of (h : Below w.heap.size w w') : Fr S w w' := ⟨h.os, h.tape, h.output, h.size, fun b hb _ => h.block b hb⟩
theorem Fr.trans (h : Fr S w w') (k : Fr S w' w2) : Fr S w w2 := ⟨k.os.trans h.os, k.tape.trans h.tape, k.output.trans h.output, Nat.le_trans h.size k.size, fun b hb hs => (k.block b (Nat.lt_of_lt_of_le hb h.size) hs).trans (h.block b hb hs)⟩
theorem Fr.mono (h : Fr S w w') (hs : ∀ b, S b → S' b) : Fr S' w w' := ⟨h.os, h.tape, h.output, h.size, fun b hb hn => h.block b hb fun hh => hn (hs b hh)⟩
theorem Fr.below (h : Fr S w w') {lo : Nat} (hl : lo ≤ w.heap.size) (hs : ∀ b, S b → lo ≤ b) : Below lo w w' := ⟨h.os, h.tape, h.output, h.size, fun b hb => h.block b (Nat.lt_of_lt_of_le hb hl) fun hh => by have := hs b hh; omega⟩
theorem Fr.set {g : Nat} (hg : S g) (j : Nat) (v : Value) : Fr S w (w.setCell ⟨g, j, none⟩ v) := ⟨rfl, rfl, rfl, by rw [set_size]; exact Nat.le_refl _, fun b _ hn => set_other (fun e => hn (e ▸ hg))⟩
end

theorem TIn.lt' {w : World} {S : Nat → Prop} {t : Tr} {v : Value} (h : TIn w S t v) : TIn w (fun b => b < w.heap.size) t v := by
  induction h with
  | mk k n s x ks vs A cap C hk hl hm hcap hc ht ih =>
    refine TIn.mk k n s x ks vs A _ C hk hl hm hcap (fun i hi => ?_) ih
    obtain ⟨a, ha, hS, hky, hs, hj⟩ := hc i hi
    refine ⟨a, ha, ?_, hky, hs, hj⟩
    have := World.block_lt_of_cell? _ _ hky.1
    rwa [mem.add_block] at this

end Go.Proofs.Ytbgffmiffmmohaa.tree

/-
  The laws' copies of a slot: in new memory.
  Conditions: those that each theorem names.
-/
namespace Go.Proofs.Ytbgffmiffmmohaa.tree
open Go.ChangeShapes Go.WideShapes Go.ChangeAt Go.RowKit
set_option linter.unusedVariables false

def slV (y : Ky) (v : Value) (b : Bool) (l : Int) : Value := .agg (#[.bool y.text, .int .i64 y.num, .string y.str] ++ v.cells ++ #[.bool b, .int .i64 l])
def SlCpQ (w : World) (y : Ky) (t : Tr) (b : Bool) (l : Int) (e : Ending) (w' : World) : Prop := ∃ v, e = .returned (slV y v b l) ∧ TIn w' (Nw w.heap.size w') t v ∧ Below w.heap.size w w'

set_option maxRecDepth 100000 in
set_option maxHeartbeats 1600000 in
theorem cpSlot (y : Ky) (t : Tr) (k n : Int) (s : ByteArray) (x : Int) (A : Option Addr) (L c : Nat) (b : Bool) (l : Int) (w : World)
    (ih : ∀ w' : World, Below w.heap.size w w' → Calls Try.prog 21 #[vV k n s x A L c] w' (CpQ w' t)) :
    Calls Try.prog 54 #[sV y k n s x A L c b l] w (SlCpQ w y t b l) := by
  obtain ⟨yb, m, ys⟩ := y
  have K := toKey ⟨yb, m, ys⟩
  unfold sV
  go_enter Try.func54, Try.ntmps54
  go_wp2_with (fail)
  refine (K _).mono ?_
  rintro e w1 ⟨rfl, hb1⟩
  obtain ⟨a0, a1, a2, az, ab⟩ := al3 w _ _ _ _ _ _
  have e0 := (hb1.block _ (by rw [az]; omega)).trans a0
  have e1 := (hb1.block _ (by rw [az]; omega)).trans a1
  have e2 := (hb1.block _ (by rw [az]; omega)).trans a2
  have hz : w.heap.size + 2 < w1.heap.size := by have := hb1.size; rw [az] at this; omega
  have E0 := Lib.hid e0
  have E1 := Lib.hid e1
  have E2 := Lib.hid e2
  have HB := Lib.hid (bs ab hb1)
  obtain ⟨r0, _⟩ := rowc e0
  obtain ⟨r2, f2⟩ := rowc e2
  clear hb1 a0 a1 a2 az ab e0 e1 e2
  unfold kyV
  go_wp2_with (fail)
  refine (ih _ ?_).mono ?_
  · exact ((HB.out.setCell (by simp; omega) _).setCell (by simp; omega) _).setCell (by simp; omega) _
  rintro e w2 ⟨v, rfl, hv, hb2⟩
  obtain ⟨k', n', s', x', ks', vs'⟩ := t
  obtain ⟨A', c', rfl, -, -⟩ := hv.out
  have s0 := (hb2.block w.heap.size (by simp []; omega)).trans ((set_other (by omega)).trans ((set_other (by omega)).trans ((set_other (by omega)).trans E0.out)))
  have s1 := (hb2.block (w.heap.size + 1) (by simp []; omega)).trans ((set_other (by omega)).trans ((set_other (by omega)).trans ((set_other (by omega)).trans E1.out)))
  have s2 := (hb2.block (w.heap.size + 1 + 1) (by simp []; omega)).trans (set_heap (set_heap (set_heap E2.out 0 _) 1 _) 2 _)
  have hz2 : w.heap.size + 2 < w2.heap.size := by have := hb2.size; simp [] at this; omega
  have HB2 := Lib.hid hb2
  have HV := Lib.hid hv
  obtain ⟨q0, g0⟩ := rowc s0
  obtain ⟨r3, f3⟩ := rowc s1
  obtain ⟨r4, f4⟩ := rowc s2
  clear hb2 hv r0 r2 f2 s0 s1 s2
  go_wp2_with (fail)
  refine bodyPost_ret (v := sV ⟨yb, m, ys⟩ k' n' s' x' A' vs'.length c' b l) (by simp [results, Try.results54, go_sem, r3]) rfl ⟨vV k' n' s' x' A' vs'.length c', rfl, ?_, ?_⟩
  · refine HV.out.nw (by simp []; omega) fun q hq hlt => ?_
    have q1 : q ≠ w.heap.size + 1 := by simp [] at hq; omega
    have q2 : q ≠ w.heap.size + 1 + 1 := by simp [] at hq; omega
    simp only [set_other q1, set_other q2]
  · have hB := bs (((HB.out.setCell (p := ⟨w.heap.size + 1 + 1, 0, none⟩) (by simp; omega) (.bool yb)).setCell (p := ⟨w.heap.size + 1 + 1, 1, none⟩) (by simp; omega) (.int .i64 m)).setCell (p := ⟨w.heap.size + 1 + 1, 2, none⟩) (by simp; omega) (.string ys)) HB2.out
    iterate 17 refine Below.setCell ?_ (by first | (simp; done) | (simp; omega)) _
    exact hB

abbrev IS : TypeId := 76
/-- Ten cells in a row. -/
def set10 (arr : Array Value) (o : Nat) (c0 c1 c2 c3 c4 c5 c6 c7 c8 c9 : Value) : Array Value := ((set8 arr o c0 c1 c2 c3 c4 c5 c6 c7).setIfInBounds (o + 8) c8).setIfInBounds (o + 9) c9
theorem set10_size (arr : Array Value) (o : Nat) (c0 c1 c2 c3 c4 c5 c6 c7 c8 c9 : Value) : (set10 arr o c0 c1 c2 c3 c4 c5 c6 c7 c8 c9).size = arr.size := by simp [set10, set8_size]
theorem set10_out (arr : Array Value) (o : Nat) (c0 c1 c2 c3 c4 c5 c6 c7 c8 c9 : Value) (p : Nat) (h : p < o ∨ o + 10 ≤ p) : (set10 arr o c0 c1 c2 c3 c4 c5 c6 c7 c8 c9)[p]? = arr[p]? := by
  unfold set10
  rw [Array.getElem?_setIfInBounds_ne (by omega), Array.getElem?_setIfInBounds_ne (by omega), set8_out _ _ _ _ _ _ _ _ _ _ _ (by omega)]
theorem set10_in (arr : Array Value) (o : Nat) (c0 c1 c2 c3 c4 c5 c6 c7 c8 c9 : Value) (h : o + 10 ≤ arr.size) (q : Nat) (hq : q < 10) : (set10 arr o c0 c1 c2 c3 c4 c5 c6 c7 c8 c9)[o + q]? = (#[c0, c1, c2, c3, c4, c5, c6, c7, c8, c9] : Array Value)[q]? := by
  unfold set10
  by_cases h8 : q < 8
  · rw [Array.getElem?_setIfInBounds_ne (by omega), Array.getElem?_setIfInBounds_ne (by omega), set8_in _ _ _ _ _ _ _ _ _ _ (by omega) q h8]
    match q, h8 with
    | 0, _ => rfl
    | 1, _ => rfl
    | 2, _ => rfl
    | 3, _ => rfl
    | 4, _ => rfl
    | 5, _ => rfl
    | 6, _ => rfl
    | 7, _ => rfl
  · by_cases h9 : q = 8
    · subst h9
      rw [Array.getElem?_setIfInBounds_ne (by omega), Array.getElem?_setIfInBounds_self_of_lt (by rw [set8_size]; omega)]; rfl
    · obtain rfl : q = 9 := by omega
      rw [Array.getElem?_setIfInBounds_self_of_lt (by rw [Array.size_setIfInBounds, set8_size]; omega)]; rfl

/-- The first j slots of a row of L are laid. -/
def LaidS (w : World) (g L j : Nat) (sl : List Sl) : Prop :=
  ∃ arr, w.heap[g]? = some (.cells arr IS (0, 0)) ∧ arr.size = L * 10 ∧ ∀ i t, sl[i]? = some t → i < j → ∃ k n s x ks vs A c, t.val = .mk k n s x ks vs ∧ TIn w (Nw (g + 1) w) t.val (vV k n s x A vs.length c) ∧
    (I64 t.key.num ∧ t.key.str.size ≤ maxLen) ∧ I64 t.link ∧ ∀ q, q < 10 → arr[i * 10 + q]? = (#[.bool t.key.text, .int .i64 t.key.num, .string t.key.str, .int .i64 k, .int .i64 n, .string s, .int .i64 x, .slice A vs.length c, .bool t.live, .int .i64 t.link] : Array Value)[q]?

theorem LaidS.done {w : World} {g L : Nat} {sl : List Sl} (h : LaidS w g L L sl) (hL : sl.length = L) : SIn w (Nw g w) sl (some ⟨g, 0, none⟩) := fun i t ht => by
  obtain ⟨arr, hg, hs, hi'⟩ := h
  have hil := (List.getElem?_eq_some_iff.1 ht).1
  obtain ⟨k, n, s, x, ks, vs, A, c, e, hT, hk, hl, hc⟩ := hi' i t ht (by omega)
  have at_ : ∀ q, q < 10 → w.cell? ⟨g, i * 10 + q, none⟩ = _ := fun q hq => (cell_of_row w g _ arr IS _ hg).trans (hc q hq)
  refine ⟨⟨g, 0, none⟩, k, n, s, x, ks, vs, A, c, rfl, ⟨Nat.le_refl _, arr, IS, hg⟩, hk, hl, e, hT.stays (fun b hb => ⟨by have := hb.1; omega, hb.2⟩) (fun _ _ _ => rfl), ?_⟩
  rw [Addr.add_lit, Nat.zero_add]
  exact ⟨at_ 0 (by omega), at_ 1 (by omega), at_ 2 (by omega), at_ 3 (by omega), at_ 4 (by omega), at_ 5 (by omega), at_ 6 (by omega), at_ 7 (by omega), at_ 8 (by omega), at_ 9 (by omega)⟩

theorem LaidS.step {w w1 w2 : World} {g L j : Nat} {sl : List Sl} (h : LaidS w g L j sl) (hb : Below w.heap.size w w1) {y : Ky} {tv : Tr} {lb : Bool} {ll : Int} {k n x : Int} {s : ByteArray} {ks' : List Ky} {vs' : List Tr} {A : Option Addr} {c : Nat}
    (ht : sl[j]? = some ⟨y, tv, lb, ll⟩) (hv : tv = .mk k n s x ks' vs') (hti : TIn w1 (Nw w.heap.size w1) tv (vV k n s x A vs'.length c)) (hyb : I64 y.num ∧ y.str.size ≤ maxLen) (hl : I64 ll) (hj : j < L)
    (hg : ∀ arr, w1.heap[g]? = some (.cells arr IS (0, 0)) → w2.heap[g]? = some (.cells (set10 arr (j * 10) (.bool y.text) (.int .i64 y.num) (.string y.str) (.int .i64 k) (.int .i64 n) (.string s) (.int .i64 x) (.slice A vs'.length c) (.bool lb) (.int .i64 ll)) IS (0, 0)))
    (ho : ∀ b, b ≠ g → w2.heap[b]? = w1.heap[b]?) : LaidS w2 g L (j + 1) sl := by
  obtain ⟨arr, hg0, hs, h⟩ := h
  have glt : g < w.heap.size := (Array.getElem?_eq_some_iff.1 hg0).1
  have hg1 := (hb.block g glt).trans hg0
  refine ⟨_, hg arr hg1, by rw [set10_size, hs], fun i t hit hij => ?_⟩
  by_cases e : i = j
  · subst e
    rw [ht] at hit
    obtain rfl := Option.some.inj hit
    refine ⟨k, n, s, x, ks', vs', A, c, hv, hti.nw (by omega) (fun b hb1 _ => ho b (by omega)), hyb, hl, fun q hq => ?_⟩
    rw [set10_in _ _ _ _ _ _ _ _ _ _ _ _ (by omega) q hq]
  · obtain ⟨k', n', s', x', ks2, vs2, A', c', hv', hti', hyb', hl', hc'⟩ := h i t hit (by omega)
    refine ⟨k', n', s', x', ks2, vs2, A', c', hv', hti'.nw (Nat.le_refl _) (fun b hb1 hlt => (ho b (by omega)).trans (hb.block b hlt)), hyb', hl', fun q hq => ?_⟩
    rw [set10_out _ _ _ _ _ _ _ _ _ _ _ _ _ (by omega)]
    exact hc' q hq

theorem is_info : ∃ i, Try.prog.info? IS = some i ∧ (i.zero = some (.agg #[.bool false, .int .i64 0, .string ⟨#[]⟩, .int .i64 0, .int .i64 0, .string ⟨#[]⟩, .int .i64 0, .slice none 0 0, .bool false, .int .i64 0]) ∧ i.size = 10 ∧ i.bytes = 112) := by
  have : (Try.prog.info? IS).map (fun i => (i.zero, i.size, i.bytes)) = some (some (.agg #[.bool false, .int .i64 0, .string ⟨#[]⟩, .int .i64 0, .int .i64 0, .string ⟨#[]⟩, .int .i64 0, .slice none 0 0, .bool false, .int .i64 0]), 10, 112) := by kernel_rfl
  cases hq : Try.prog.info? IS with
  | none => rw [hq] at this; cases this
  | some i => rw [hq] at this; simp at this; exact ⟨i, rfl, this⟩
/-- Copies of slots: in a new block. -/
def SlsQ (w : World) (sl : List Sl) (e : Ending) (w' : World) : Prop := ∃ g, w.heap.size = g ∧ e = .returned (.slice (some ⟨g, 0, none⟩) sl.length sl.length) ∧ SIn w' (Nw w.heap.size w') sl (some ⟨g, 0, none⟩) ∧ Below w.heap.size w w'
theorem totS_mem : ∀ {sl : List Sl} {j : Nat} {t : Sl}, sl[j]? = some t → tot t.val ≤ totS sl
  | [], j, _, h => by simp at h
  | t0 :: sl, 0, t, h => by
    obtain rfl : t0 = t := by simpa using h
    rw [totS]; omega
  | t0 :: sl, j + 1, t, h => by
    have := totS_mem (sl := sl) (j := j) (t := t) (by simpa using h)
    rw [totS]; omega

set_option maxRecDepth 100000 in
set_option maxHeartbeats 1600000 in
theorem cpSlots (sl : List Sl) (hT : sl.length + totS sl ≤ 1048576) (A : Option Addr) (c : Nat) (w : World) (S : Nat → Prop) (h : SIn w S sl A) :
    Calls Try.prog 49 #[.slice A sl.length c] w (SlsQ w sl) := by
  obtain ⟨L, HL⟩ : ∃ L, Hid (L = sl.length) := ⟨_, Lib.hid rfl⟩
  have hm : L ≤ 1048576 := by rw [HL.out]; omega
  obtain ⟨i0, hi, hz⟩ := is_info
  have hmk := run_make (P := Try.prog) w 54 IS i0 _ Try.underlying54 hi hz.1 .i64 .i64 L L (by omega) (Int.le_refl _) (by rw [hz.2.2]; omega) (by omega)
  rw [hz.2.1] at hmk
  simp only [Int.toNat_natCast] at hmk
  have HA0 := Lib.hid h
  have HTT := Lib.hid hT
  clear hi hz h hT
  unfold SlsQ
  rw [← HL.out]
  obtain ⟨arr0, HA⟩ : ∃ a, Hid (a = madeCells (Value.agg #[.bool false, .int .i64 0, .string ⟨#[]⟩, .int .i64 0, .int .i64 0, .string ⟨#[]⟩, .int .i64 0, .slice none 0 0, .bool false, .int .i64 0]).cells (L * 10)) := ⟨_, Lib.hid rfl⟩
  rw [← HA.out] at hmk
  go_enter Try.func49, Try.ntmps49
  go_wp2_with (fail)
  clear hmk
  go_loopg [4] (L + 1) (fun gk i wr => ∃ j : Nat, i = .int .i64 j ∧ gk + j = L + 1 ∧ j ≤ L ∧ LaidS wr w.heap.size L j sl ∧ Below w.heap.size w wr)
  case atStart => exact ⟨0, rfl, by omega, by omega, ⟨arr0, heap_alloc_new _ _, by rw [HA.out, madeSize], fun i t _ hi => absurd hi (by omega)⟩, b1 _ _⟩
  case round =>
    obtain ⟨j, rfl, hgj, hjL, hla, hb⟩ := hrel
    have HB := Lib.hid hb
    have HLa := Lib.hid hla
    clear hb hla
    by_cases hlt : j < L
    · obtain ⟨t, ht⟩ : ∃ t, sl[j]? = some t := ⟨_, List.getElem?_eq_getElem (by rw [← HL.out]; exact hlt)⟩
      obtain ⟨a, k, n, s, x, ks', vs', A1, c1, rfl, -, hk, hl, hv, hT, hcell⟩ := HA0.out.below HB.out j t ht
      have htj := totS_mem ht
      obtain ⟨y, tv, lb, ll⟩ := t
      simp only at hk hl hv hT hcell htj
      have ihj : ∀ w', Below wr.heap.size wr w' → Calls Try.prog 21 #[vV k n s x A1 vs'.length c1] w' (CpQ w' tv) := fun w' hb' => cps tv (by have := HTT.out; omega) w' S _ (hT.below' hb')
      subst hv
      have HTJ := Lib.hid ht
      have HKK := Lib.hid hk
      have HLL := Lib.hid hl
      clear ht hT htj hk hl
      obtain ⟨p0, p1, p2, p3, p4, p5, p6, p7, p8, p9⟩ := hcell
      go_wp2_with (fail)
      refine (cpSlot y _ k n s x A1 vs'.length c1 lb ll _ ihj).mono ?_
      rintro e w1 ⟨v, rfl, hv, hb1⟩
      obtain ⟨A2, c2, rfl, -, -⟩ := hv.out
      have HV := Lib.hid hv
      have HB1 := Lib.hid hb1
      obtain ⟨arr, hg0, hs, -⟩ := HLa.out
      have glt : w.heap.size < wr.heap.size := (Array.getElem?_eq_some_iff.1 hg0).1
      have hg1 := (hb1.block _ glt).trans hg0
      obtain ⟨r1, f1⟩ := rowc hg1
      have z : ∀ q, q < 10 → ∃ u, w1.cell? ⟨w.heap.size, j * 10 + q, none⟩ = some u := fun q hq => ⟨_, (r1 _).trans (Array.getElem?_eq_getElem (by omega))⟩
      obtain ⟨u0, z0⟩ := z 0 (by omega)
      obtain ⟨u1, z1⟩ := z 1 (by omega)
      obtain ⟨u2, z2⟩ := z 2 (by omega)
      obtain ⟨u3, z3⟩ := z 3 (by omega)
      obtain ⟨u4, z4⟩ := z 4 (by omega)
      obtain ⟨u5, z5⟩ := z 5 (by omega)
      obtain ⟨u6, z6⟩ := z 6 (by omega)
      obtain ⟨u7, z7⟩ := z 7 (by omega)
      obtain ⟨u8, z8⟩ := z 8 (by omega)
      obtain ⟨u9, z9⟩ := z 9 (by omega)
      rw [Nat.add_zero] at z0
      clear hv hb1 hg0 hg1 hs r1 z
      have eS : slV y (vV k n s x A2 vs'.length c2) lb ll = .agg #[.bool y.text, .int .i64 y.num, .string y.str, .int .i64 k, .int .i64 n, .string s, .int .i64 x, .slice A2 vs'.length c2, .bool lb, .int .i64 ll] := rfl
      rw [eS]
      clear eS
      go_wp2_with (fail)
      go_roundg (L - j)
      case rel =>
        refine ⟨j + 1, by go_num, by omega, by omega, HLa.out.step HB1.out HTJ.out rfl HV.out HKK.out HLL.out hlt (fun arr hg => ?_) (fun b hb => ?_), ?_⟩
        · exact set_heap (set_heap (set_heap (set_heap (set_heap (set_heap (set_heap (set_heap (set_heap (set_heap hg _ _) _ _) _ _) _ _) _ _) _ _) _ _) _ _) _ _) _ _
        · simp only [set_other hb]
        · have hB := bs HB.out HB1.out
          iterate 10 refine Below.setCell ?_ (by first | (simp; done) | (simp; omega)) _
          exact hB
      case measure => omega
    · obtain rfl : j = L := by omega
      go_wp2_with (fail)
      go_ret
      exact ⟨_, rfl, rfl, HLa.out.done HL.out.symm, HB.out⟩

end Go.Proofs.Ytbgffmiffmmohaa.tree

