/-
  The laws' copies of a value: in new memory, as one tree.
  Conditions: those that each theorem names.
-/
import Derived.Test.YtbgffmiffmmohaaGreatDoorHcB2
import Derived.Laws.MakeOwn
import Derived.Deep.MidRow
import Derived.OwnWalk
namespace Go.Proofs.YtbgffmiffmmohaaGreatDoor.tree
open Go.ChangeShapes Go.WideShapes Go.ChangeAt Go.RowKit
set_option linter.unusedVariables false

/-- A block of cells that may all be written. -/
def Plain (w : World) (b : Nat) : Prop := ∃ cs t, w.heap[b]? = some (.cells cs t (0, 0))
/-- .. at lo or above. -/
def Nw (lo : Nat) (w : World) (b : Nat) : Prop := lo ≤ b ∧ Plain w b
theorem Plain.lt {w : World} {b : Nat} (h : Plain w b) : b < w.heap.size := by
  obtain ⟨cs, t, h⟩ := h
  exact (Array.getElem?_eq_some_iff.1 h).1
theorem Nw.keep {lo lo' : Nat} {w w' : World} (hl : lo' ≤ lo) {b : Nat} (hb : w'.heap[b]? = w.heap[b]?) (h : Nw lo w b) : Nw lo' w' b := by
  obtain ⟨h1, cs, t, h2⟩ := h
  exact ⟨Nat.le_trans hl h1, cs, t, hb.trans h2⟩
/-- A tree in plain blocks stays while they do. -/
theorem TIn.nw {lo lo' : Nat} {w w' : World} (hl : lo' ≤ lo) (hb : ∀ b, lo ≤ b → b < w.heap.size → w'.heap[b]? = w.heap[b]?) {t : Tr} {v : Value} (h : TIn w (Nw lo w) t v) : TIn w' (Nw lo' w') t v :=
  h.stays (fun b hn => Nw.keep hl (hb b hn.1 hn.2.lt) hn) (fun b hn hlt => hb b hn.1 hlt)
theorem TIn.nwb {lo : Nat} {w w' : World} (hb : Below w.heap.size w w') {t : Tr} {v : Value} (h : TIn w (Nw lo w) t v) : TIn w' (Nw lo w') t v :=
  h.nw (Nat.le_refl _) fun b _ hlt => hb.block b hlt

/-- A copy in new memory. -/
def CpQ (w : World) (t : Tr) (e : Ending) (w' : World) : Prop := ∃ v, e = .returned v ∧ TIn w' (Nw w.heap.size w') t v ∧ Below w.heap.size w w'
def Cps (t : Tr) : Prop := tot t ≤ 1048576 → ∀ (w : World) (S : Nat → Prop) (v : Value), TIn w S t v → Calls Tryz.prog 31 #[v] w (CpQ w t)
def EnCpQ (w : World) (y : Ky) (t : Tr) (e : Ending) (w' : World) : Prop := ∃ v, e = .returned (enV y v) ∧ TIn w' (Nw w.heap.size w') t v ∧ Below w.heap.size w w'

set_option maxHeartbeats 800000 in
theorem cpEntry (y : Ky) (t : Tr) (k n : Int) (s : ByteArray) (x : Int) (A : Option Addr) (L c : Nat) (w : World)
    (ih : ∀ w' : World, Below w.heap.size w w' → Calls Tryz.prog 31 #[vV k n s x A L c] w' (CpQ w' t)) :
    Calls Tryz.prog 177 #[eV y k n s x A L c] w (EnCpQ w y t) := by
  obtain ⟨b, m, ys⟩ := y
  have K := toKey ⟨b, m, ys⟩
  unfold eV
  go_enter Tryz.func177, Tryz.ntmps177
  go_wp2_with (fail)
  refine (K _).mono ?_
  rintro e w1 ⟨rfl, hb1⟩
  obtain ⟨a0, a1, a2, az, ab⟩ := al3 w _ _ _ _ _ _
  have e0 := (hb1.block _ (by rw [az]; omega)).trans a0
  have e1 := (hb1.block _ (by rw [az]; omega)).trans a1
  have e2 := (hb1.block _ (by rw [az]; omega)).trans a2
  have hz : w.heap.size + 2 < w1.heap.size := by have := hb1.size; rw [az] at this; omega
  have E1 := Lib.hid e1
  have E2 := Lib.hid e2
  have HB := Lib.hid (bs ab hb1)
  obtain ⟨r0, _⟩ := rowc e0
  obtain ⟨r2, f2⟩ := rowc e2
  clear hb1 a0 a1 a2 az ab e0 e1 e2
  unfold kyV
  go_wp2_with (fail)
  refine (ih _ ?_).mono ?_
  · exact ((HB.out.setCell (by simp; omega) _).setCell (by simp; omega) _).setCell (by simp; omega) _
  rintro e w2 ⟨v, rfl, hv, hb2⟩
  obtain ⟨k', n', s', x', ks', vs'⟩ := t
  obtain ⟨A', c', rfl, -, -⟩ := hv.out
  have s1 := (hb2.block (w.heap.size + 1) (by simp []; omega)).trans ((set_other (by omega)).trans ((set_other (by omega)).trans ((set_other (by omega)).trans E1.out)))
  have s2 := (hb2.block (w.heap.size + 1 + 1) (by simp []; omega)).trans (set_heap (set_heap (set_heap E2.out 0 _) 1 _) 2 _)
  have hz2 : w.heap.size + 2 < w2.heap.size := by have := hb2.size; simp [] at this; omega
  have HB2 := Lib.hid hb2
  have HV := Lib.hid hv
  obtain ⟨r3, f3⟩ := rowc s1
  obtain ⟨r4, f4⟩ := rowc s2
  clear hb2 hv r0 r2 f2 s1 s2
  go_wp2_with (fail)
  refine bodyPost_ret (v := eV ⟨b, m, ys⟩ k' n' s' x' A' vs'.length c') (by simp [results, Tryz.results177, go_sem, r3]) rfl ⟨vV k' n' s' x' A' vs'.length c', rfl, ?_, ?_⟩
  · refine HV.out.nw (by simp []; omega) fun q hq hlt => ?_
    have q1 : q ≠ w.heap.size + 1 := by simp [] at hq; omega
    have q2 : q ≠ w.heap.size + 1 + 1 := by simp [] at hq; omega
    simp only [set_other q1, set_other q2]
  · have hB := bs (((HB.out.setCell (p := ⟨w.heap.size + 1 + 1, 0, none⟩) (by simp; omega) (.bool b)).setCell (p := ⟨w.heap.size + 1 + 1, 1, none⟩) (by simp; omega) (.int .i64 m)).setCell (p := ⟨w.heap.size + 1 + 1, 2, none⟩) (by simp; omega) (.string ys)) HB2.out
    iterate 13 refine Below.setCell ?_ (by first | (simp; done) | (simp; omega)) _
    exact hB

/-- Eight cells in a row. -/
def set8 (arr : Array Value) (o : Nat) (c0 c1 c2 c3 c4 c5 c6 c7 : Value) : Array Value :=
  (((((((arr.setIfInBounds o c0).setIfInBounds (o + 1) c1).setIfInBounds (o + 2) c2).setIfInBounds (o + 3) c3).setIfInBounds (o + 4) c4).setIfInBounds (o + 5) c5).setIfInBounds (o + 6) c6).setIfInBounds (o + 7) c7
theorem set8_size (arr : Array Value) (o : Nat) (c0 c1 c2 c3 c4 c5 c6 c7 : Value) : (set8 arr o c0 c1 c2 c3 c4 c5 c6 c7).size = arr.size := by simp [set8]
theorem set8_out (arr : Array Value) (o : Nat) (c0 c1 c2 c3 c4 c5 c6 c7 : Value) (p : Nat) (h : p < o ∨ o + 8 ≤ p) : (set8 arr o c0 c1 c2 c3 c4 c5 c6 c7)[p]? = arr[p]? := by
  unfold set8
  iterate 8 rw [Array.getElem?_setIfInBounds_ne (by omega)]
theorem set8_in (arr : Array Value) (o : Nat) (c0 c1 c2 c3 c4 c5 c6 c7 : Value) (h : o + 8 ≤ arr.size) (q : Nat) (hq : q < 8) : (set8 arr o c0 c1 c2 c3 c4 c5 c6 c7)[o + q]? = (#[c0, c1, c2, c3, c4, c5, c6, c7] : Array Value)[q]? := by
  unfold set8
  match q, hq with
  | 0, _ => iterate 7 rw [Array.getElem?_setIfInBounds_ne (by omega)]
            rw [Nat.add_zero, Array.getElem?_setIfInBounds_self_of_lt (by omega)]; rfl
  | 1, _ => iterate 6 rw [Array.getElem?_setIfInBounds_ne (by omega)]
            rw [Array.getElem?_setIfInBounds_self_of_lt (by simp; omega)]; rfl
  | 2, _ => iterate 5 rw [Array.getElem?_setIfInBounds_ne (by omega)]
            rw [Array.getElem?_setIfInBounds_self_of_lt (by simp; omega)]; rfl
  | 3, _ => iterate 4 rw [Array.getElem?_setIfInBounds_ne (by omega)]
            rw [Array.getElem?_setIfInBounds_self_of_lt (by simp; omega)]; rfl
  | 4, _ => iterate 3 rw [Array.getElem?_setIfInBounds_ne (by omega)]
            rw [Array.getElem?_setIfInBounds_self_of_lt (by simp; omega)]; rfl
  | 5, _ => iterate 2 rw [Array.getElem?_setIfInBounds_ne (by omega)]
            rw [Array.getElem?_setIfInBounds_self_of_lt (by simp; omega)]; rfl
  | 6, _ => rw [Array.getElem?_setIfInBounds_ne (by omega), Array.getElem?_setIfInBounds_self_of_lt (by simp; omega)]; rfl
  | 7, _ => rw [Array.getElem?_setIfInBounds_self_of_lt (by simp; omega)]; rfl

/-- The first j items of a row of L are laid. -/
def Laid (w : World) (g L j : Nat) (ks : List Ky) (vs : List Tr) : Prop :=
  ∃ arr, w.heap[g]? = some (.cells arr IE (0, 0)) ∧ arr.size = L * 8 ∧ ∀ i, i < j → ∃ y k n s x ks' vs' A c, ks[i]? = some y ∧ vs[i]? = some (.mk k n s x ks' vs') ∧ TIn w (Nw (g + 1) w) (.mk k n s x ks' vs') (vV k n s x A vs'.length c) ∧
    (I64 y.num ∧ y.str.size ≤ maxLen) ∧ ∀ q, q < 8 → arr[i * 8 + q]? = (eV y k n s x A vs'.length c).cells[q]?

theorem Laid.done {w : World} {g L : Nat} {ks : List Ky} {vs : List Tr} (h : Laid w g L L ks vs) (hk : ks.length = vs.length) (hL : vs.length = L) (hm : L ≤ maxLen) : IsIn w (Nw g w) ks vs (some ⟨g, 0, none⟩) := by
  obtain ⟨arr, hg, hs, h⟩ := h
  have pick : ∃ C : Nat → Array Value, ∀ i (hi : i < vs.length), KyAt w ⟨g, 0, none⟩ i (ks[i]'(hk ▸ hi)) ∧ (C i).size = 5 ∧ (∀ j, j < 5 → w.cell? ((⟨g, 0, none⟩ : Addr).add (8 * i + (3 + j))) = (C i)[j]?) ∧ TIn w (Nw g w) (vs[i]) (.agg (C i)) := by
    have each : ∀ i (hi : i < vs.length), ∃ C : Array Value, KyAt w ⟨g, 0, none⟩ i (ks[i]'(hk ▸ hi)) ∧ C.size = 5 ∧ (∀ j, j < 5 → w.cell? ((⟨g, 0, none⟩ : Addr).add (8 * i + (3 + j))) = C[j]?) ∧ TIn w (Nw g w) (vs[i]) (.agg C) := by
      intro i hi
      obtain ⟨y, k, n, s, x, ks', vs', A, c, hy, ht, hti, hyb, hc⟩ := h i (by omega)
      have ey : ks[i]'(hk ▸ hi) = y := by rw [List.getElem?_eq_getElem (hk ▸ hi)] at hy; exact Option.some.inj hy
      have et : vs[i] = .mk k n s x ks' vs' := by rw [List.getElem?_eq_getElem hi] at ht; exact Option.some.inj ht
      have at_ : ∀ q, q < 8 → w.cell? ((⟨g, 0, none⟩ : Addr).add (8 * i + q)) = (eV y k n s x A vs'.length c).cells[q]? := fun q hq => by
        rw [Addr.add_lit, Nat.zero_add, cell_of_row w g _ arr IE _ hg, ← hc q hq, Nat.mul_comm]
      rw [ey, et]
      refine ⟨_, ⟨at_ 0 (by omega), at_ 1 (by omega), at_ 2 (by omega), hyb⟩, rfl, fun j hj => ?_, hti.stays (fun b hb => ⟨by have := hb.1; omega, hb.2⟩) (fun b _ _ => rfl)⟩
      rw [at_ (3 + j) (by omega)]
      match j, hj with
      | 0, _ => rfl
      | 1, _ => rfl
      | 2, _ => rfl
      | 3, _ => rfl
      | 4, _ => rfl
    refine ⟨fun i => if hi : i < vs.length then (each i hi).choose else #[], fun i hi => ?_⟩
    simp only [dif_pos hi]
    exact (each i hi).choose_spec
  obtain ⟨C, hC⟩ := pick
  exact ⟨hk, by omega, C, fun i hi => ⟨_, rfl, ⟨Nat.le_refl _, arr, IE, hg⟩, (hC i hi).1, (hC i hi).2.1, (hC i hi).2.2.1⟩, fun i hi => (hC i hi).2.2.2⟩

theorem Laid.step {w w1 w2 : World} {g L j : Nat} {ks : List Ky} {vs : List Tr} (h : Laid w g L j ks vs) (hb : Below w.heap.size w w1) {y : Ky} {k n x : Int} {s : ByteArray} {ks' : List Ky} {vs' : List Tr} {A : Option Addr} {c : Nat}
    (hy : ks[j]? = some y) (ht : vs[j]? = some (.mk k n s x ks' vs')) (hti : TIn w1 (Nw w.heap.size w1) (.mk k n s x ks' vs') (vV k n s x A vs'.length c)) (hyb : I64 y.num ∧ y.str.size ≤ maxLen) (hj : j < L)
    (hg : ∀ arr, w1.heap[g]? = some (.cells arr IE (0, 0)) → w2.heap[g]? = some (.cells (set8 arr (j * 8) (.bool y.text) (.int .i64 y.num) (.string y.str) (.int .i64 k) (.int .i64 n) (.string s) (.int .i64 x) (.slice A vs'.length c)) IE (0, 0)))
    (ho : ∀ b, b ≠ g → w2.heap[b]? = w1.heap[b]?) : Laid w2 g L (j + 1) ks vs := by
  obtain ⟨arr, hg0, hs, h⟩ := h
  have glt : g < w.heap.size := (Array.getElem?_eq_some_iff.1 hg0).1
  have hg1 := (hb.block g glt).trans hg0
  refine ⟨_, hg arr hg1, by rw [set8_size, hs], fun i hi => ?_⟩
  by_cases e : i = j
  · subst e
    refine ⟨y, k, n, s, x, ks', vs', A, c, hy, ht, hti.nw (by omega) (fun b hb1 _ => ho b (by omega)), hyb, fun q hq => ?_⟩
    rw [set8_in _ _ _ _ _ _ _ _ _ _ (by omega) q hq]
    rfl
  · obtain ⟨y', k', n', s', x', ks2, vs2, A', c', hy', ht', hti', hyb', hc'⟩ := h i (by omega)
    refine ⟨y', k', n', s', x', ks2, vs2, A', c', hy', ht', hti'.nw (Nat.le_refl _) (fun b hb1 hlt => (ho b (by omega)).trans (hb.block b hlt)), hyb', fun q hq => ?_⟩
    rw [set8_out _ _ _ _ _ _ _ _ _ _ _ (by omega)]
    exact hc' q hq

theorem ieRow : (Tryz.prog.info? IE).map (fun i => (i.zero, i.size, i.bytes)) = some (some (.agg #[.bool false, .int .i64 0, .string ⟨#[]⟩, .int .i64 0, .int .i64 0, .string ⟨#[]⟩, .int .i64 0, .slice none 0 0]), 8, 96) := by kernel_rfl
theorem madeSize (z : Array Value) (n : Nat) : (madeCells z n).size = n := by simp [madeCells]

/-- Copies of items: in a new block. -/
def ItCpQ (w : World) (ks : List Ky) (vs : List Tr) (e : Ending) (w' : World) : Prop := ∃ g, w.heap.size = g ∧ e = .returned (.slice (some ⟨g, 0, none⟩) vs.length vs.length) ∧ IsIn w' (Nw w.heap.size w') ks vs (some ⟨g, 0, none⟩) ∧ Below w.heap.size w w'

theorem tots_mem : ∀ {ks : List Ky} {vs : List Tr} {j : Nat} {y : Ky} {t : Tr}, ks[j]? = some y → vs[j]? = some t → tot t ≤ tots ks vs
  | [], _, j, _, _, h, _ => by simp at h
  | _, [], j, _, _, _, h => by simp at h
  | y :: ks, t :: vs, 0, _, _, h, h' => by
    simp at h h'
    subst h h'
    rw [tots]
    omega
  | y :: ks, t :: vs, j + 1, _, _, h, h' => by
    have := tots_mem (ks := ks) (vs := vs) (j := j) (by simpa using h) (by simpa using h')
    rw [tots]
    omega

set_option maxHeartbeats 800000 in
theorem cpItems (ks : List Ky) (vs : List Tr) (ih : ∀ t ∈ vs, Cps t) (hT : vs.length + tots ks vs ≤ 1048576) (A : Option Addr) (c : Nat) (w : World) (S : Nat → Prop) (h : IsIn w S ks vs A) :
    Calls Tryz.prog 96 #[.slice A vs.length c] w (ItCpQ w ks vs) := by
  obtain ⟨L, HL⟩ : ∃ L, Hid (L = vs.length) := ⟨_, Lib.hid rfl⟩
  have hm : L ≤ 1048576 := by rw [HL.out]; omega
  have hkl : Hid (ks.length = vs.length) := Lib.hid h.1
  obtain ⟨i0, hi, hz⟩ : ∃ i, Tryz.prog.info? IE = some i ∧ (i.zero = some (.agg #[.bool false, .int .i64 0, .string ⟨#[]⟩, .int .i64 0, .int .i64 0, .string ⟨#[]⟩, .int .i64 0, .slice none 0 0]) ∧ i.size = 8 ∧ i.bytes = 96) := by
    have := ieRow
    cases hq : Tryz.prog.info? IE with
    | none => rw [hq] at this; cases this
    | some i => rw [hq] at this; simp at this; exact ⟨i, rfl, this⟩
  have hmk := run_make (P := Tryz.prog) w 30 IE i0 _ Tryz.underlying30 hi hz.1 .i64 .i64 L L (by omega) (Int.le_refl _) (by rw [hz.2.2]; omega) (by omega)
  rw [hz.2.1] at hmk
  simp only [Int.toNat_natCast] at hmk
  have HI := Lib.hid hi
  have HZ := Lib.hid hz
  clear hi hz
  unfold ItCpQ
  rw [← HL.out]
  obtain ⟨arr0, HA⟩ : ∃ a, Hid (a = madeCells (Value.agg #[.bool false, .int .i64 0, .string ⟨#[]⟩, .int .i64 0, .int .i64 0, .string ⟨#[]⟩, .int .i64 0, .slice none 0 0]).cells (L * 8)) := ⟨_, Lib.hid rfl⟩
  rw [← HA.out] at hmk
  go_enter Tryz.func96, Tryz.ntmps96
  go_wp2_with (fail)
  clear hmk
  go_loopg [4] (L + 1) (fun gk i wr => ∃ j : Nat, i = .int .i64 j ∧ gk + j = L + 1 ∧ j ≤ L ∧ Laid wr w.heap.size L j ks vs ∧ Below w.heap.size w wr)
  case atStart => exact ⟨0, rfl, by omega, by omega, ⟨arr0, heap_alloc_new _ _, by rw [HA.out, madeSize], fun i hi => absurd hi (by omega)⟩, b1 _ _⟩
  case round =>
    obtain ⟨j, rfl, hgj, hjL, hla, hb⟩ := hrel
    have HB := Lib.hid hb
    have HLa := Lib.hid hla
    clear hb hla
    by_cases hlt : j < L
    · obtain ⟨a, y, k, n, s, x, ks', vs', A1, c1, rfl, hS, hky, hvs, ht, hyb, hkb, hin, hcell⟩ := (h.below HB.out).item (i := j) (by rw [← HL.out]; exact hlt)
      have htj := tots_mem hky hvs
      have ihj : ∀ w', Below wr.heap.size wr w' → Calls Tryz.prog 31 #[vV k n s x A1 vs'.length c1] w' (CpQ w' (.mk k n s x ks' vs')) := fun w' hb' => ih _ (List.mem_of_getElem? hvs) (by omega) w' S _ (ht.below' hb')
      have HKY := Lib.hid hky
      have HVS := Lib.hid hvs
      clear hky hvs ht hin hkb hS
      obtain ⟨p0, p1, p2, p3, p4, p5, p6, p7⟩ := hcell
      go_wp2_with (fail)
      refine (cpEntry y _ k n s x A1 vs'.length c1 _ ihj).mono ?_
      rintro e w1 ⟨v, rfl, hv, hb1⟩
      obtain ⟨A2, c2, rfl, -, -⟩ := hv.out
      have HV := Lib.hid hv
      have HB1 := Lib.hid hb1
      obtain ⟨arr, hg0, hs, -⟩ := HLa.out
      have glt : w.heap.size < wr.heap.size := (Array.getElem?_eq_some_iff.1 hg0).1
      have hg1 := (hb1.block _ glt).trans hg0
      have HG1 := Lib.hid hg1
      obtain ⟨r1, f1⟩ := rowc hg1
      have z : ∀ q, q < 8 → ∃ u, w1.cell? ⟨w.heap.size, j * 8 + q, none⟩ = some u := fun q hq => ⟨_, (r1 _).trans (Array.getElem?_eq_getElem (by omega))⟩
      obtain ⟨u0, z0⟩ := z 0 (by omega)
      obtain ⟨u1, z1⟩ := z 1 (by omega)
      obtain ⟨u2, z2⟩ := z 2 (by omega)
      obtain ⟨u3, z3⟩ := z 3 (by omega)
      obtain ⟨u4, z4⟩ := z 4 (by omega)
      obtain ⟨u5, z5⟩ := z 5 (by omega)
      obtain ⟨u6, z6⟩ := z 6 (by omega)
      obtain ⟨u7, z7⟩ := z 7 (by omega)
      rw [Nat.add_zero] at z0
      have HS := Lib.hid hs
      clear hv hb1 hg0 hg1 hs r1 z
      unfold enV
      go_wp2_with (fail)
      go_roundg (L - j)
      case rel =>
        refine ⟨j + 1, by go_num, by omega, by omega, HLa.out.step HB1.out HKY.out HVS.out HV.out hyb hlt (fun arr hg => ?_) (fun b hb => ?_), ?_⟩
        · exact set_heap (set_heap (set_heap (set_heap (set_heap (set_heap (set_heap (set_heap hg _ _) _ _) _ _) _ _) _ _) _ _) _ _) _ _
        · simp only [set_other hb]
        · have hB := bs HB.out HB1.out
          iterate 8 refine Below.setCell ?_ (by first | (simp; done) | (simp; omega)) _
          exact hB
      case measure => omega
    · obtain rfl : j = L := by omega
      go_wp2_with (fail)
      go_ret
      exact ⟨_, rfl, rfl, (HLa.out.done hkl.out HL.out.symm (by unfold maxLen; omega)).stays (fun b hb => hb) (fun b _ _ => rfl), HB.out⟩

theorem tot_mk (k n : Int) (s : ByteArray) (x : Int) (ks : List Ky) (vs : List Tr) : tot (.mk k n s x ks vs) = s.size + (vs.length + tots ks vs) := by rw [tot]

set_option maxHeartbeats 800000 in
theorem cps : ∀ t, Cps t := Tr.ind fun k n s x ks vs ih hT w S v h => by
  obtain ⟨A, c, rfl, hk, hin⟩ := h.out
  clear h
  rw [tot_mk] at hT
  have C := cpItems ks vs ih (by omega) A c
  clear ih hT
  obtain ⟨L, HL⟩ : ∃ L, Hid (L = vs.length) := ⟨_, Lib.hid rfl⟩
  have HI := Lib.hid hin
  clear hin
  go_enter Tryz.func31, Tryz.ntmps31
  go_wp2_with (fail)
  refine (C _ S ?_).mono ?_
  · refine HI.out.below ?_
    exact b3 _ _ _ _
  rintro e w1 ⟨g, hg, rfl, hi1, hb1⟩
  obtain ⟨a0, a1, a2, az, ab⟩ := al3 w _ _ _ _ _ _
  have e1 := (hb1.block _ (by rw [az]; omega)).trans a1
  have e2 := (hb1.block _ (by rw [az]; omega)).trans a2
  have hz : w.heap.size + 2 < w1.heap.size := by have := hb1.size; rw [az] at this; omega
  have HB := Lib.hid (bs ab hb1)
  have HI1 := Lib.hid hi1
  have HG := Lib.hid hg
  obtain ⟨r1, f1⟩ := rowc e1
  obtain ⟨r2, f2⟩ := rowc e2
  rw [← HL.out]
  clear hb1 a0 a1 a2 az ab e1 e2 hi1 hg
  go_wp2_with (fail)
  refine bodyPost_ret (v := vV k n s x (some ⟨g, 0, none⟩) L L) (by simp [results, Tryz.results31, go_sem, r1]) rfl ⟨_, rfl, ?_, ?_⟩
  · have hh : ∀ q, q ≠ w.heap.size + 1 → q ≠ w.heap.size + 1 + 1 → ((((((w1.setCell ⟨w.heap.size + 1 + 1, 4, none⟩ (.slice (some ⟨g, 0, none⟩) L L)).setCell ⟨w.heap.size + 1, 0, none⟩ (.int .i64 k)).setCell ⟨w.heap.size + 1, 1, none⟩ (.int .i64 n)).setCell ⟨w.heap.size + 1, 2, none⟩ (.string s)).setCell ⟨w.heap.size + 1, 3, none⟩ (.int .i64 x)).setCell ⟨w.heap.size + 1, 4, none⟩ (.slice (some ⟨g, 0, none⟩) L L)).heap[q]? = w1.heap[q]? := fun q q1 q2 => by simp only [set_other q1, set_other q2]
    have ez : w.heap.size + 1 + 1 + 1 ≤ g := by rw [← HG.out]; simp
    have base : TIn w1 (Nw (w.heap.size + 1 + 1 + 1) w1) (.mk k n s x ks vs) (vV k n s x (some ⟨g, 0, none⟩) L L) := by
      have := TIn.of (k := k) (n := n) (s := s) (x := x) vs.length hk (HI1.out.stays (S' := Nw (w.heap.size + 1 + 1 + 1) w1) (fun b hb => ⟨by have := hb.1; simp at this; omega, hb.2⟩) (fun b _ _ => rfl)) ⟨Nat.le_refl _, HI1.out.2.1⟩
      rwa [← HL.out] at this
    exact base.nw (by omega) fun q hq _ => hh q (by omega) (by omega)
  · have hB := HB.out
    iterate 6 refine Below.setCell ?_ (by first | (simp; done) | (simp; omega)) _
    exact hB

end Go.Proofs.YtbgffmiffmmohaaGreatDoor.tree

