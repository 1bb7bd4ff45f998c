/-
  What the texts behind this one use: 6 parts of one proof.
  Conditions: those that each theorem names.
-/
import Derived.Test.YtdglmnmalfpipaaGreatDoorVB5
import Derived.Test.YtdglmnmalfpipaaGreatDoorVSTreeCp
import Derived.Test.YtdglmnmalfpipaaGreatDoorVB8
import Derived.Lib.SliceRun
/-
  The laws' copies of a slot: in new memory.
  Conditions: those that each theorem names.
-/
namespace Go.Proofs.YtdglmnmalfpipaaGreatDoor.tree
open Go.ChangeShapes Go.WideShapes Go.ChangeAt Go.RowKit
set_option linter.unusedVariables false

def slV (y : Ky) (v : Value) (b : Bool) (l : Int) : Value := .agg (#[.bool y.text, .int .i64 y.num, .string y.str] ++ v.cells ++ #[.bool b, .int .i64 l])
def SlCpQ (w : World) (y : Ky) (t : Tr) (b : Bool) (l : Int) (e : Ending) (w' : World) : Prop := ∃ v, e = .returned (slV y v b l) ∧ TIn w' (Nw w.heap.size w') t v ∧ Below w.heap.size w w'

set_option maxRecDepth 100000 in
set_option maxHeartbeats 1600000 in
theorem cpSlot (y : Ky) (t : Tr) (k n : Int) (s : ByteArray) (x : Int) (A : Option Addr) (L c : Nat) (b : Bool) (l : Int) (w : World)
    (ih : ∀ w' : World, Below w.heap.size w w' → Calls Tryz.prog 45 #[vV k n s x A L c] w' (CpQ w' t)) :
    Calls Tryz.prog 180 #[sV y k n s x A L c b l] w (SlCpQ w y t b l) := by
  obtain ⟨yb, m, ys⟩ := y
  have K := toKey ⟨yb, m, ys⟩
  unfold sV
  go_enter Tryz.func180, Tryz.ntmps180
  go_wp2_with (fail)
  refine (K _).mono ?_
  rintro e w1 ⟨rfl, hb1⟩
  obtain ⟨a0, a1, a2, az, ab⟩ := al3 w _ _ _ _ _ _
  have e0 := (hb1.block _ (by rw [az]; omega)).trans a0
  have e1 := (hb1.block _ (by rw [az]; omega)).trans a1
  have e2 := (hb1.block _ (by rw [az]; omega)).trans a2
  have hz : w.heap.size + 2 < w1.heap.size := by have := hb1.size; rw [az] at this; omega
  have E0 := Lib.hid e0
  have E1 := Lib.hid e1
  have E2 := Lib.hid e2
  have HB := Lib.hid (bs ab hb1)
  obtain ⟨r0, _⟩ := rowc e0
  obtain ⟨r2, f2⟩ := rowc e2
  clear hb1 a0 a1 a2 az ab e0 e1 e2
  unfold kyV
  go_wp2_with (fail)
  refine (ih _ ?_).mono ?_
  · exact ((HB.out.setCell (by simp; omega) _).setCell (by simp; omega) _).setCell (by simp; omega) _
  rintro e w2 ⟨v, rfl, hv, hb2⟩
  obtain ⟨k', n', s', x', ks', vs'⟩ := t
  obtain ⟨A', c', rfl, -, -⟩ := hv.out
  have s0 := (hb2.block w.heap.size (by simp []; omega)).trans ((set_other (by omega)).trans ((set_other (by omega)).trans ((set_other (by omega)).trans E0.out)))
  have s1 := (hb2.block (w.heap.size + 1) (by simp []; omega)).trans ((set_other (by omega)).trans ((set_other (by omega)).trans ((set_other (by omega)).trans E1.out)))
  have s2 := (hb2.block (w.heap.size + 1 + 1) (by simp []; omega)).trans (set_heap (set_heap (set_heap E2.out 0 _) 1 _) 2 _)
  have hz2 : w.heap.size + 2 < w2.heap.size := by have := hb2.size; simp [] at this; omega
  have HB2 := Lib.hid hb2
  have HV := Lib.hid hv
  obtain ⟨q0, g0⟩ := rowc s0
  obtain ⟨r3, f3⟩ := rowc s1
  obtain ⟨r4, f4⟩ := rowc s2
  clear hb2 hv r0 r2 f2 s0 s1 s2
  go_wp2_with (fail)
  refine bodyPost_ret (v := sV ⟨yb, m, ys⟩ k' n' s' x' A' vs'.length c' b l) (by simp [results, Tryz.results180, go_sem, r3]) rfl ⟨vV k' n' s' x' A' vs'.length c', rfl, ?_, ?_⟩
  · refine HV.out.nw (by simp []; omega) fun q hq hlt => ?_
    have q1 : q ≠ w.heap.size + 1 := by simp [] at hq; omega
    have q2 : q ≠ w.heap.size + 1 + 1 := by simp [] at hq; omega
    simp only [set_other q1, set_other q2]
  · have hB := bs (((HB.out.setCell (p := ⟨w.heap.size + 1 + 1, 0, none⟩) (by simp; omega) (.bool yb)).setCell (p := ⟨w.heap.size + 1 + 1, 1, none⟩) (by simp; omega) (.int .i64 m)).setCell (p := ⟨w.heap.size + 1 + 1, 2, none⟩) (by simp; omega) (.string ys)) HB2.out
    iterate 17 refine Below.setCell ?_ (by first | (simp; done) | (simp; omega)) _
    exact hB

abbrev IS : TypeId := 98
/-- Ten cells in a row. -/
def set10 (arr : Array Value) (o : Nat) (c0 c1 c2 c3 c4 c5 c6 c7 c8 c9 : Value) : Array Value := ((set8 arr o c0 c1 c2 c3 c4 c5 c6 c7).setIfInBounds (o + 8) c8).setIfInBounds (o + 9) c9
theorem set10_size (arr : Array Value) (o : Nat) (c0 c1 c2 c3 c4 c5 c6 c7 c8 c9 : Value) : (set10 arr o c0 c1 c2 c3 c4 c5 c6 c7 c8 c9).size = arr.size := by simp [set10, set8_size]
theorem set10_out (arr : Array Value) (o : Nat) (c0 c1 c2 c3 c4 c5 c6 c7 c8 c9 : Value) (p : Nat) (h : p < o ∨ o + 10 ≤ p) : (set10 arr o c0 c1 c2 c3 c4 c5 c6 c7 c8 c9)[p]? = arr[p]? := by
  unfold set10
  rw [Array.getElem?_setIfInBounds_ne (by omega), Array.getElem?_setIfInBounds_ne (by omega), set8_out _ _ _ _ _ _ _ _ _ _ _ (by omega)]
theorem set10_in (arr : Array Value) (o : Nat) (c0 c1 c2 c3 c4 c5 c6 c7 c8 c9 : Value) (h : o + 10 ≤ arr.size) (q : Nat) (hq : q < 10) : (set10 arr o c0 c1 c2 c3 c4 c5 c6 c7 c8 c9)[o + q]? = (#[c0, c1, c2, c3, c4, c5, c6, c7, c8, c9] : Array Value)[q]? := by
  unfold set10
  by_cases h8 : q < 8
  · rw [Array.getElem?_setIfInBounds_ne (by omega), Array.getElem?_setIfInBounds_ne (by omega), set8_in _ _ _ _ _ _ _ _ _ _ (by omega) q h8]
    match q, h8 with
    | 0, _ => rfl
    | 1, _ => rfl
    | 2, _ => rfl
    | 3, _ => rfl
    | 4, _ => rfl
    | 5, _ => rfl
    | 6, _ => rfl
    | 7, _ => rfl
  · by_cases h9 : q = 8
    · subst h9
      rw [Array.getElem?_setIfInBounds_ne (by omega), Array.getElem?_setIfInBounds_self_of_lt (by rw [set8_size]; omega)]; rfl
    · obtain rfl : q = 9 := by omega
      rw [Array.getElem?_setIfInBounds_self_of_lt (by rw [Array.size_setIfInBounds, set8_size]; omega)]; rfl

/-- The first j slots of a row of L are laid. -/
def LaidS (w : World) (g L j : Nat) (sl : List Sl) : Prop :=
  ∃ arr, w.heap[g]? = some (.cells arr IS (0, 0)) ∧ arr.size = L * 10 ∧ ∀ i t, sl[i]? = some t → i < j → ∃ k n s x ks vs A c, t.val = .mk k n s x ks vs ∧ TIn w (Nw (g + 1) w) t.val (vV k n s x A vs.length c) ∧
    (I64 t.key.num ∧ t.key.str.size ≤ maxLen) ∧ I64 t.link ∧ ∀ q, q < 10 → arr[i * 10 + q]? = (#[.bool t.key.text, .int .i64 t.key.num, .string t.key.str, .int .i64 k, .int .i64 n, .string s, .int .i64 x, .slice A vs.length c, .bool t.live, .int .i64 t.link] : Array Value)[q]?

theorem LaidS.done {w : World} {g L : Nat} {sl : List Sl} (h : LaidS w g L L sl) (hL : sl.length = L) : SIn w (Nw g w) sl (some ⟨g, 0, none⟩) := fun i t ht => by
  obtain ⟨arr, hg, hs, hi'⟩ := h
  have hil := (List.getElem?_eq_some_iff.1 ht).1
  obtain ⟨k, n, s, x, ks, vs, A, c, e, hT, hk, hl, hc⟩ := hi' i t ht (by omega)
  have at_ : ∀ q, q < 10 → w.cell? ⟨g, i * 10 + q, none⟩ = _ := fun q hq => (cell_of_row w g _ arr IS _ hg).trans (hc q hq)
  refine ⟨⟨g, 0, none⟩, k, n, s, x, ks, vs, A, c, rfl, ⟨Nat.le_refl _, arr, IS, hg⟩, hk, hl, e, hT.stays (fun b hb => ⟨by have := hb.1; omega, hb.2⟩) (fun _ _ _ => rfl), ?_⟩
  rw [Addr.add_lit, Nat.zero_add]
  exact ⟨at_ 0 (by omega), at_ 1 (by omega), at_ 2 (by omega), at_ 3 (by omega), at_ 4 (by omega), at_ 5 (by omega), at_ 6 (by omega), at_ 7 (by omega), at_ 8 (by omega), at_ 9 (by omega)⟩

theorem LaidS.step {w w1 w2 : World} {g L j : Nat} {sl : List Sl} (h : LaidS w g L j sl) (hb : Below w.heap.size w w1) {y : Ky} {tv : Tr} {lb : Bool} {ll : Int} {k n x : Int} {s : ByteArray} {ks' : List Ky} {vs' : List Tr} {A : Option Addr} {c : Nat}
    (ht : sl[j]? = some ⟨y, tv, lb, ll⟩) (hv : tv = .mk k n s x ks' vs') (hti : TIn w1 (Nw w.heap.size w1) tv (vV k n s x A vs'.length c)) (hyb : I64 y.num ∧ y.str.size ≤ maxLen) (hl : I64 ll) (hj : j < L)
    (hg : ∀ arr, w1.heap[g]? = some (.cells arr IS (0, 0)) → w2.heap[g]? = some (.cells (set10 arr (j * 10) (.bool y.text) (.int .i64 y.num) (.string y.str) (.int .i64 k) (.int .i64 n) (.string s) (.int .i64 x) (.slice A vs'.length c) (.bool lb) (.int .i64 ll)) IS (0, 0)))
    (ho : ∀ b, b ≠ g → w2.heap[b]? = w1.heap[b]?) : LaidS w2 g L (j + 1) sl := by
  obtain ⟨arr, hg0, hs, h⟩ := h
  have glt : g < w.heap.size := (Array.getElem?_eq_some_iff.1 hg0).1
  have hg1 := (hb.block g glt).trans hg0
  refine ⟨_, hg arr hg1, by rw [set10_size, hs], fun i t hit hij => ?_⟩
  by_cases e : i = j
  · subst e
    rw [ht] at hit
    obtain rfl := Option.some.inj hit
    refine ⟨k, n, s, x, ks', vs', A, c, hv, hti.nw (by omega) (fun b hb1 _ => ho b (by omega)), hyb, hl, fun q hq => ?_⟩
    rw [set10_in _ _ _ _ _ _ _ _ _ _ _ _ (by omega) q hq]
  · obtain ⟨k', n', s', x', ks2, vs2, A', c', hv', hti', hyb', hl', hc'⟩ := h i t hit (by omega)
    refine ⟨k', n', s', x', ks2, vs2, A', c', hv', hti'.nw (Nat.le_refl _) (fun b hb1 hlt => (ho b (by omega)).trans (hb.block b hlt)), hyb', hl', fun q hq => ?_⟩
    rw [set10_out _ _ _ _ _ _ _ _ _ _ _ _ _ (by omega)]
    exact hc' q hq

theorem is_info : ∃ i, Tryz.prog.info? IS = some i ∧ (i.zero = some (.agg #[.bool false, .int .i64 0, .string ⟨#[]⟩, .int .i64 0, .int .i64 0, .string ⟨#[]⟩, .int .i64 0, .slice none 0 0, .bool false, .int .i64 0]) ∧ i.size = 10 ∧ i.bytes = 112) := by
  have : (Tryz.prog.info? IS).map (fun i => (i.zero, i.size, i.bytes)) = some (some (.agg #[.bool false, .int .i64 0, .string ⟨#[]⟩, .int .i64 0, .int .i64 0, .string ⟨#[]⟩, .int .i64 0, .slice none 0 0, .bool false, .int .i64 0]), 10, 112) := by kernel_rfl
  cases hq : Tryz.prog.info? IS with
  | none => rw [hq] at this; cases this
  | some i => rw [hq] at this; simp at this; exact ⟨i, rfl, this⟩
/-- Copies of slots: in a new block. -/
def SlsQ (w : World) (sl : List Sl) (e : Ending) (w' : World) : Prop := ∃ g, w.heap.size = g ∧ e = .returned (.slice (some ⟨g, 0, none⟩) sl.length sl.length) ∧ SIn w' (Nw w.heap.size w') sl (some ⟨g, 0, none⟩) ∧ Below w.heap.size w w'
theorem totS_mem : ∀ {sl : List Sl} {j : Nat} {t : Sl}, sl[j]? = some t → tot t.val ≤ totS sl
  | [], j, _, h => by simp at h
  | t0 :: sl, 0, t, h => by
    obtain rfl : t0 = t := by simpa using h
    rw [totS]; omega
  | t0 :: sl, j + 1, t, h => by
    have := totS_mem (sl := sl) (j := j) (t := t) (by simpa using h)
    rw [totS]; omega

set_option maxRecDepth 100000 in
set_option maxHeartbeats 1600000 in
theorem cpSlots (sl : List Sl) (hT : sl.length + totS sl ≤ 1048576) (A : Option Addr) (c : Nat) (w : World) (S : Nat → Prop) (h : SIn w S sl A) :
    Calls Tryz.prog 115 #[.slice A sl.length c] w (SlsQ w sl) := by
  obtain ⟨L, HL⟩ : ∃ L, Hid (L = sl.length) := ⟨_, Lib.hid rfl⟩
  have hm : L ≤ 1048576 := by rw [HL.out]; omega
  obtain ⟨i0, hi, hz⟩ := is_info
  have hmk := run_make (P := Tryz.prog) w 25 IS i0 _ Tryz.underlying25 hi hz.1 .i64 .i64 L L (by omega) (Int.le_refl _) (by rw [hz.2.2]; omega) (by omega)
  rw [hz.2.1] at hmk
  simp only [Int.toNat_natCast] at hmk
  have HA0 := Lib.hid h
  have HTT := Lib.hid hT
  clear hi hz h hT
  unfold SlsQ
  rw [← HL.out]
  obtain ⟨arr0, HA⟩ : ∃ a, Hid (a = madeCells (Value.agg #[.bool false, .int .i64 0, .string ⟨#[]⟩, .int .i64 0, .int .i64 0, .string ⟨#[]⟩, .int .i64 0, .slice none 0 0, .bool false, .int .i64 0]).cells (L * 10)) := ⟨_, Lib.hid rfl⟩
  rw [← HA.out] at hmk
  go_enter Tryz.func115, Tryz.ntmps115
  go_wp2_with (fail)
  clear hmk
  go_loopg [4] (L + 1) (fun gk i wr => ∃ j : Nat, i = .int .i64 j ∧ gk + j = L + 1 ∧ j ≤ L ∧ LaidS wr w.heap.size L j sl ∧ Below w.heap.size w wr)
  case atStart => exact ⟨0, rfl, by omega, by omega, ⟨arr0, heap_alloc_new _ _, by rw [HA.out, madeSize], fun i t _ hi => absurd hi (by omega)⟩, b1 _ _⟩
  case round =>
    obtain ⟨j, rfl, hgj, hjL, hla, hb⟩ := hrel
    have HB := Lib.hid hb
    have HLa := Lib.hid hla
    clear hb hla
    by_cases hlt : j < L
    · obtain ⟨t, ht⟩ : ∃ t, sl[j]? = some t := ⟨_, List.getElem?_eq_getElem (by rw [← HL.out]; exact hlt)⟩
      obtain ⟨a, k, n, s, x, ks', vs', A1, c1, rfl, -, hk, hl, hv, hT, hcell⟩ := HA0.out.below HB.out j t ht
      have htj := totS_mem ht
      obtain ⟨y, tv, lb, ll⟩ := t
      simp only at hk hl hv hT hcell htj
      have ihj : ∀ w', Below wr.heap.size wr w' → Calls Tryz.prog 45 #[vV k n s x A1 vs'.length c1] w' (CpQ w' tv) := fun w' hb' => cps tv (by have := HTT.out; omega) w' S _ (hT.below' hb')
      subst hv
      have HTJ := Lib.hid ht
      have HKK := Lib.hid hk
      have HLL := Lib.hid hl
      clear ht hT htj hk hl
      obtain ⟨p0, p1, p2, p3, p4, p5, p6, p7, p8, p9⟩ := hcell
      go_wp2_with (fail)
      refine (cpSlot y _ k n s x A1 vs'.length c1 lb ll _ ihj).mono ?_
      rintro e w1 ⟨v, rfl, hv, hb1⟩
      obtain ⟨A2, c2, rfl, -, -⟩ := hv.out
      have HV := Lib.hid hv
      have HB1 := Lib.hid hb1
      obtain ⟨arr, hg0, hs, -⟩ := HLa.out
      have glt : w.heap.size < wr.heap.size := (Array.getElem?_eq_some_iff.1 hg0).1
      have hg1 := (hb1.block _ glt).trans hg0
      obtain ⟨r1, f1⟩ := rowc hg1
      have z : ∀ q, q < 10 → ∃ u, w1.cell? ⟨w.heap.size, j * 10 + q, none⟩ = some u := fun q hq => ⟨_, (r1 _).trans (Array.getElem?_eq_getElem (by omega))⟩
      obtain ⟨u0, z0⟩ := z 0 (by omega)
      obtain ⟨u1, z1⟩ := z 1 (by omega)
      obtain ⟨u2, z2⟩ := z 2 (by omega)
      obtain ⟨u3, z3⟩ := z 3 (by omega)
      obtain ⟨u4, z4⟩ := z 4 (by omega)
      obtain ⟨u5, z5⟩ := z 5 (by omega)
      obtain ⟨u6, z6⟩ := z 6 (by omega)
      obtain ⟨u7, z7⟩ := z 7 (by omega)
      obtain ⟨u8, z8⟩ := z 8 (by omega)
      obtain ⟨u9, z9⟩ := z 9 (by omega)
      rw [Nat.add_zero] at z0
      clear hv hb1 hg0 hg1 hs r1 z
      have eS : slV y (vV k n s x A2 vs'.length c2) lb ll = .agg #[.bool y.text, .int .i64 y.num, .string y.str, .int .i64 k, .int .i64 n, .string s, .int .i64 x, .slice A2 vs'.length c2, .bool lb, .int .i64 ll] := rfl
      rw [eS]
      clear eS
      go_wp2_with (fail)
      go_roundg (L - j)
      case rel =>
        refine ⟨j + 1, by go_num, by omega, by omega, HLa.out.step HB1.out HTJ.out rfl HV.out HKK.out HLL.out hlt (fun arr hg => ?_) (fun b hb => ?_), ?_⟩
        · exact set_heap (set_heap (set_heap (set_heap (set_heap (set_heap (set_heap (set_heap (set_heap (set_heap hg _ _) _ _) _ _) _ _) _ _) _ _) _ _) _ _) _ _) _ _
        · simp only [set_other hb]
        · have hB := bs HB.out HB1.out
          iterate 10 refine Below.setCell ?_ (by first | (simp; done) | (simp; omega)) _
          exact hB
      case measure => omega
    · obtain rfl : j = L := by omega
      go_wp2_with (fail)
      go_ret
      exact ⟨_, rfl, rfl, HLa.out.done HL.out.symm, HB.out⟩

end Go.Proofs.YtdglmnmalfpipaaGreatDoor.tree

/-
  The laws' copy of a table.
  Conditions: at most 2^20 heads, slots and letters.
-/
namespace Go.Proofs.YtdglmnmalfpipaaGreatDoor.tree
open Go.ChangeShapes Go.WideShapes Go.ChangeAt Go.RowKit
set_option linter.unusedVariables false

/-- A copied table: its heads are the call's own, its slots lie in a new plain block. -/
def TtQ (w : World) (l : List Int) (sl : List Sl) (b : Bool) (n m : Nat) (x k : Int) (e : Ending) (w' : World) : Prop := ∃ (A : Option Addr) (c g mid : Nat), e = .returned (tbV b A n c (some ⟨g, 0, none⟩) m m x k) ∧ imem.OwnI w' w.heap.size A n c l ∧ (∀ q, (Value.slice A n c).ownBlock = some q → q < mid) ∧ w.heap.size ≤ mid ∧ mid ≤ g ∧ SIn w' (Nw mid w') sl (some ⟨g, 0, none⟩) ∧ Below w.heap.size w w'

theorem owni_up {w w' : World} {lo n c : Nat} {A : Option Addr} {l : List Int} (h : imem.OwnI w lo A n c l) (hs : ∀ b, lo ≤ b → b < w.heap.size → w'.heap[b]? = w.heap[b]?) : imem.OwnI w' lo A n c l := by
  refine ⟨h.1, h.2.1, ?_⟩
  rcases h.2.2 with h | ⟨g, cap, cur, e, hlo, hg, hr⟩
  · exact .inl h
  · exact .inr ⟨g, cap, cur, e, hlo, (hs g hlo (Array.getElem?_eq_some_iff.1 hg).1).trans hg, hr⟩
theorem al3t (w : World) (c0 c1 c2 : Array Value) (t0 t1 t2 : TypeId) (W : World) (hW : ((w.alloc (.cells c0 t0)).alloc (.cells c1 t1)).alloc (.cells c2 t2) = W) :
    W.heap[w.heap.size]? = some (.cells c0 t0 (0, 0)) ∧ W.heap[w.heap.size + 1]? = some (.cells c1 t1 (0, 0)) ∧ W.heap[w.heap.size + 2]? = some (.cells c2 t2 (0, 0)) ∧ W.heap.size = w.heap.size + 3 ∧ Below w.heap.size w W := by
  subst hW
  refine ⟨keepAlloc (keepAlloc (heap_alloc_new w _)), keepAlloc ?_, ?_, by simp, b3 w _ _ _⟩
  · have := heap_alloc_new (w.alloc (.cells c0 t0)) (.cells c1 t1)
    rwa [show (w.alloc (.cells c0 t0)).heap.size = w.heap.size + 1 by simp] at this
  · have := heap_alloc_new ((w.alloc (.cells c0 t0)).alloc (.cells c1 t1)) (.cells c2 t2)
    rwa [show ((w.alloc (.cells c0 t0)).alloc (.cells c1 t1)).heap.size = w.heap.size + 2 by simp] at this

set_option maxHeartbeats 1600000 in
set_option maxRecDepth 100000 in
theorem toTable {l : List Int} {sl : List Sl} {b : Bool} {A : Option Addr} {n c : Nat} {B : Option Addr} {m d : Nat} {x k : Int} {w : World} {S : Nat → Prop} (h : TbIn w S l sl A n c B m d x k) (hn : n ≤ 1048576) (hT : m + totS sl ≤ 1048576) :
    Calls Tryz.prog 43 #[tbV b A n c B m d x k] w (TtQ w l sl b n m x k) := by
  obtain ⟨hh, -, rfl, hcap, hS, -, -⟩ := h
  have Z1 := fun w' (hb : Below w.heap.size w w') => ints.toInts A n c l (by omega) w' (hh.below hb)
  have Z2 := fun w' (hb : Below w.heap.size w w') => cpSlots sl hT B d w' S (hS.below hb)
  have hlen : l.length = n := hh.len
  obtain ⟨m, HM⟩ : ∃ m, Hid (sl.length = m) := ⟨_, Lib.hid rfl⟩
  have HZ1 := Lib.hid Z1
  have HZ2 := Lib.hid Z2
  unfold SlsQ at HZ2
  rw [HM.out] at HZ2 ⊢
  clear Z1 Z2 hh hcap hS
  go_enter Tryz.func43, Tryz.ntmps43
  go_wp2_with (fail)
  obtain ⟨P, HP⟩ : ∃ P, Hid (w.heap.size = P) := ⟨_, Lib.hid rfl⟩
  rw [HP.out]
  generalize hw0 : ((w.alloc (.cells #[.bool b, .slice A n c, .slice B m d, .int .i64 x, .int .i64 k] 68)).alloc (.cells #[.bool false, .slice none 0 0, .slice none 0 0, .int .i64 0, .int .i64 0] IT)).alloc (.cells #[.bool b, .slice none 0 0, .slice none 0 0, .int .i64 0, .int .i64 0] IT) = w0
  obtain ⟨a0, a1, a2, az, ab⟩ := al3t w _ _ _ _ _ _ w0 hw0
  rw [HP.out] at a0 a1 a2 az
  have HB0 := Lib.hid ab
  refine (HZ1.out _ ab).mono ?_
  rintro e w1 ⟨A1, n1, c1, rfl, hown, hg1⟩
  obtain rfl : n1 = n := by rw [← hown.len, hlen]
  have hb1 := mem.below_of_none hg1
  have H0 := Lib.hid (carry hb1 a0)
  have H1 := Lib.hid (carry hb1 a1)
  have H2 := Lib.hid (carry hb1 a2)
  have HB1 := Lib.hid (bs HB0.out hb1)
  have HO1 := Lib.hid (hown.less (show P + 3 ≤ w0.heap.size by rw [az]; exact Nat.le_refl _))
  have HOB : Hid (∀ q, (Value.slice A1 n1 c1).ownBlock = some q → q < w1.heap.size) := Lib.hid (fun q e => (hown.block q e).2)
  have HS1 : Hid (P + 3 ≤ w1.heap.size) := Lib.hid (by rw [← az]; exact hb1.size)
  have r0 := rowc H0.out
  have x0 := r0.1 2; have x1 := r0.1 3; have x2 := r0.1 4
  simp at x0 x1 x2
  obtain ⟨r2, f2⟩ := rowc H2.out
  clear hw0 a0 a1 a2 az ab hown hg1 hb1 HZ1 r0 hlen
  go_wp2_with (fail)
  generalize hw2 : w1.setCell ⟨P + 2, 1, none⟩ (.slice A1 n1 c1) = w2
  have hoth : ∀ q, q ≠ P + 2 → w2.heap[q]? = w1.heap[q]? := fun q h => by rw [← hw2, set_other h]
  have HB2 : Hid (Below w.heap.size w w2) := Lib.hid (by rw [← hw2]; exact HB1.out.setCell (show w.heap.size ≤ P + 2 by rw [HP.out]; omega) _)
  have H02 := Lib.hid ((hoth P (by omega)).trans H0.out)
  have H12 := Lib.hid ((hoth (P + 1) (by omega)).trans H1.out)
  have H22 : Hid (w2.heap[P + 2]? = some (.cells #[.bool b, .slice A1 n1 c1, .slice none 0 0, .int .i64 0, .int .i64 0] IT (0, 0))) := Lib.hid (by rw [← hw2]; have := set_heap H2.out 1 (.slice A1 n1 c1); simpa using this)
  have HO2 := Lib.hid (owni_up HO1.out (w' := w2) fun q hq _ => hoth q (by omega))
  have hz2 : w2.heap.size = w1.heap.size := by rw [← hw2, set_size]
  have HS2 : Hid (P + 3 ≤ w2.heap.size) := Lib.hid (by rw [hz2]; exact HS1.out)
  rw [← hz2] at HOB
  clear hw2 hoth hz2 r2 f2 x0 x1 x2 H0 H1 H2 HB1 HO1 HS1
  refine (HZ2.out _ HB2.out).mono ?_
  rintro e w3 ⟨g, hg, rfl, hs, hb⟩
  have H0 := Lib.hid (carry hb H02.out)
  have H1 := Lib.hid (carry hb H12.out)
  have H2 := Lib.hid (carry hb H22.out)
  have HO3 := Lib.hid (HO2.out.below hb)
  have HB3 := Lib.hid (bs HB2.out hb)
  have hgP : P + 3 ≤ g := by rw [← hg]; exact HS2.out
  rw [hg] at HOB hs
  have HSl : Hid (SIn w3 (Nw g w3) sl (some ⟨g, 0, none⟩)) := Lib.hid hs
  have r0 := rowc H0.out
  have x1 := r0.1 3; have x2 := r0.1 4
  simp at x1 x2
  obtain ⟨r2, f2⟩ := rowc H2.out
  obtain ⟨r1, f1⟩ := rowc H1.out
  clear hs hb r0 hg H02 H12 H22 HO2 HB2 HZ2 HS2
  go_wp2_with (fail)
  generalize hwF : World.setCell (World.setCell (World.setCell (World.setCell (World.setCell (World.setCell (World.setCell (World.setCell w3 _ _) _ _) _ _) _ _) _ _) _ _) _ _) _ _ = wF
  have hoth : ∀ q, q ≠ P + 1 → q ≠ P + 1 + 1 → wF.heap[q]? = w3.heap[q]? := fun q h1 h2 => by rw [← hwF, set_other h1, set_other h1, set_other h1, set_other h1, set_other h1, set_other h2, set_other h2, set_other h2]
  have e1 : wF.heap[P + 1]? = some (.cells #[.bool b, .slice A1 n1 c1, .slice (some ⟨g, 0, none⟩) m m, .int .i64 x, .int .i64 k] IT (0, 0)) := by
    have hne : P + 1 ≠ P + 1 + 1 := by omega
    have h0 : (((w3.setCell ⟨P + 1 + 1, 2, none⟩ (.slice (some ⟨g, 0, none⟩) m m)).setCell ⟨P + 1 + 1, 3, none⟩ (.int .i64 x)).setCell ⟨P + 1 + 1, 4, none⟩ (.int .i64 k)).heap[P + 1]? = some (.cells #[.bool false, .slice none 0 0, .slice none 0 0, .int .i64 0, .int .i64 0] IT (0, 0)) := by rw [set_other hne, set_other hne, set_other hne]; exact H1.out
    have := set_heap (set_heap (set_heap (set_heap (set_heap h0 0 (.bool b)) 1 (.slice A1 n1 c1)) 2 (.slice (some ⟨g, 0, none⟩) m m)) 3 (.int .i64 x)) 4 (.int .i64 k)
    rw [← hwF]
    simpa using this
  have hBF : Below w.heap.size w wF := by
    rw [← hwF]
    iterate 5 refine Below.setCell ?_ (show w.heap.size ≤ P + 1 by rw [HP.out]; omega) _
    iterate 3 refine Below.setCell ?_ (show w.heap.size ≤ P + 1 + 1 by rw [HP.out]; omega) _
    exact HB3.out
  have rF := (rowc e1).1
  clear hwF r1 f1 r2 f2 x1 x2
  refine bodyPost_ret (v := tbV b A1 n1 c1 (some ⟨g, 0, none⟩) m m x k) (by simp [results, Tryz.results43, go_sem, rF]) rfl ⟨A1, c1, g, g, rfl, ?_, HOB.out, by rw [HP.out]; omega, Nat.le_refl _, ?_, hBF⟩
  · exact (owni_up HO3.out (w' := wF) fun q hq _ => hoth q (by omega) (by omega)).less (by rw [HP.out]; omega)
  · exact HSl.out.stays (fun q hq => ⟨hq.1, hq.2.same (hoth q (by have := hq.1; omega) (by have := hq.1; omega))⟩) (fun q hq _ => hoth q (by have := hq.1; omega) (by have := hq.1; omega))

end Go.Proofs.YtdglmnmalfpipaaGreatDoor.tree

/-
  Lists of numbers and of slots copied into new blocks, of the project.
  Conditions: those that each theorem names.
-/
namespace Go.Proofs.YtdglmnmalfpipaaGreatDoor.tree
open Go.ChangeShapes Go.WideShapes Go.ChangeAt Go.RowKit
set_option linter.unusedVariables false

set_option maxHeartbeats 1000000 in
theorem copyInts (A : Option Addr) (n c : Nat) (l : List Int) (w : World) (hr : imem.RdI w A n l) (hn : n ≤ 1048576) :
    Calls Tryz.prog 138 #[.slice A n c] w (fun e w' => ∃ A' c', e = .returned (.slice A' n c') ∧ imem.OwnI w' w.heap.size A' n c' l ∧ Below w.heap.size w w') := by
  have hl := hr.len
  cases A with
  | none =>
    have h0 : n = 0 := by
      rcases Nat.eq_zero_or_pos n with h | h
      · exact h
      · obtain ⟨a, ha, -⟩ := hr.2 h
        cases ha
    subst h0
    obtain rfl : l = [] := List.eq_nil_of_length_eq_zero hl
    have heq := Lib.run_eql_slice_nil (P := Tryz.prog) w 24 3 none 0 c 0 0 Tryz.underlying24
    clear hr hn hl
    go_enter Tryz.func138, Tryz.ntmps138
    go_wp2_with (fail)
    go_ret
    exact ⟨none, 0, rfl, imem.owni_nil _ _, Below.refl _ _⟩
  | some a =>
    obtain ⟨i0, hi, hz, hs, hby⟩ := int_info
    have hsz : (Tryz.prog.info? 3).map (·.size) = some 1 := by rw [hi]; exact congrArg some hs
    have hmk := run_make (P := Tryz.prog) w 24 3 i0 _ Tryz.underlying24 hi hz .i64 .i64 n n (by omega) (Int.le_refl _) (by rw [hby]; omega) (by omega)
    rw [hs, Nat.mul_one] at hmk
    simp only [Int.toNat_natCast] at hmk
    obtain ⟨arr0, HA⟩ : ∃ x, Hid (x = madeCells (Value.int .i64 0).cells n) := ⟨_, Lib.hid rfl⟩
    rw [← HA.out] at hmk
    have hsa : arr0.size = n := by rw [HA.out, size_madeCells]
    have hcp := run_copy_row (P := Tryz.prog) (w.alloc (.cells arr0 3)) 24 24 3 3 w.heap.size 0 n n a n c arr0 3 (imem.ics l) Tryz.underlying24 hsz (heap_alloc_new w _) (by rw [imem.ics_len, hl]; simp) (fun j v hv => by
      obtain ⟨u, hu⟩ : ∃ u, l[j]? = some u := by
        have := (List.getElem?_eq_some_iff.1 hv).1
        rw [imem.ics_len] at this
        exact ⟨_, List.getElem?_eq_getElem this⟩
      rw [imem.ics_get hu] at hv
      obtain rfl := Option.some.inj hv
      obtain ⟨a', ha', hc⟩ := hr.2 (by have := (List.getElem?_eq_some_iff.1 hu).1; omega)
      obtain rfl := Option.some.inj ha'
      exact cell_stays (fun hlt => (b1 w _).block _ hlt) (hc j u hu)) (by rw [imem.ics_len, hl, hsa]; omega) (imem.ics_one l)
    rw [imem.ics_len, hl] at hcp
    have hrow : (arr0.toList.take 0 ++ imem.ics l ++ arr0.toList.drop (0 + n)).toArray = (imem.ics l).toArray := by
      rw [List.take_zero, List.nil_append, List.drop_eq_nil_of_le (by rw [Array.length_toList, hsa]; omega), List.append_nil]
    rw [hrow] at hcp
    have heq := Lib.run_eql_slice_nil (P := Tryz.prog) w 24 3 (some a) n c 0 0 Tryz.underlying24
    have HO : Hid (imem.OwnI ((w.alloc (.cells arr0 3)).setRow w.heap.size (imem.ics l).toArray) w.heap.size (some ⟨w.heap.size, 0, none⟩) n n l) := Lib.hid ⟨hl, by rw [imem.ics_len, hl, Nat.mul_one], .inr ⟨_, n, _, rfl, Nat.le_refl _, setRow_heap _ _ _ _ _ _ (heap_alloc_new w _), Nat.le_refl _, by unfold maxLen; omega, by simp [imem.ics_len, hl], by rw [Nat.mul_one]; exact List.take_of_length_le (by rw [imem.ics_len, hl]; exact Nat.le_refl _)⟩⟩
    have HB : Hid (Below w.heap.size w ((w.alloc (.cells arr0 3)).setRow w.heap.size (imem.ics l).toArray)) := Lib.hid (below_setRow (b1 w _) (Nat.le_refl _) _)
    obtain ⟨W3, HW⟩ : ∃ W, Hid (W = (w.alloc (.cells arr0 3)).setRow w.heap.size (imem.ics l).toArray) := ⟨_, Lib.hid rfl⟩
    rw [← HW.out] at hcp HO HB
    clear hr hi hz hs hby hsz hsa hrow hl
    go_enter Tryz.func138, Tryz.ntmps138
    go_wp2_with (fail)
    go_ret
    exact ⟨_, _, rfl, HO.out, HB.out⟩

/-- 'copy' of elements of z cells each. -/
theorem run_copy_z {P : Program} (w : World) (dT sT ty elem : TypeId) (z g o dLen dCap : Nat) (a : Addr) (sLen sCap : Nat) (cur : Array Value) (t : TypeId) (cs : List Value) (n : Nat)
    (hu : P.underlying dT = some (.slice elem)) (hs : (P.info? elem).map (·.size) = some z) (hg : w.heap[g]? = some (.cells cur t (0, 0))) (hn : n = Nat.min sLen dLen) (hl : cs.length = n * z)
    (hsrc : ∀ j v, cs[j]? = some v → w.cell? (a.add j) = some v) (ho : o + cs.length ≤ cur.size) (h1 : ∀ v ∈ cs, v.oneCell' = true) :
    (Builtin.copy_ #[dT, sT] ty #[.slice (some ⟨g, o, none⟩) dLen dCap, .slice (some a) sLen sCap]).run P w = .ok (goInt n) (w.setRow g (cur.toList.take o ++ cs ++ cur.toList.drop (o + cs.length)).toArray) := by
  have hld := run_loadCells_list (P := P) w a cs hsrc
  have hst := run_storeCells_at (P := P) g o t cs 0 cur w hg (by simpa using ho) h1
  cases hq : P.info? elem with
  | none => simp [hq] at hs
  | some i =>
    have hi : i.size = z := by simpa [hq] using hs
    rw [hl] at hld
    simp only [Nat.add_zero] at hst
    simp [Builtin.copy_, run_underlying hu, Builtin.lenOf, Builtin.firstCells, sizeOf, typeInfo, hq, hi, ← hn, hld, hst]
theorem At10.at_ {w : World} {q : Addr} {y : Ky} {k n x l : Int} {s : ByteArray} {A : Option Addr} {L c : Nat} {b : Bool} (h : At10 w q y k n s x A L c b l) : ∀ j, j < 10 → w.cell? (q.add j) = ([.bool y.text, .int .i64 y.num, .string y.str, .int .i64 k, .int .i64 n, .string s, .int .i64 x, .slice A L c, .bool b, .int .i64 l] : List Value)[j]? := by
  have sp : ∀ j, j ≠ 0 → q.add j = ⟨q.block, q.off + j, none⟩ := fun j hj => add_pos _ _ hj
  intro j hj
  match j, hj with
  | 0, _ => rw [show q.add 0 = q by unfold Addr.add; rw [if_pos rfl], h.c0]; rfl
  | 1, _ => rw [sp 1 (by omega), h.c1]; rfl
  | 2, _ => rw [sp 2 (by omega), h.c2]; rfl
  | 3, _ => rw [sp 3 (by omega), h.c3]; rfl
  | 4, _ => rw [sp 4 (by omega), h.c4]; rfl
  | 5, _ => rw [sp 5 (by omega), h.c5]; rfl
  | 6, _ => rw [sp 6 (by omega), h.c6]; rfl
  | 7, _ => rw [sp 7 (by omega), h.c7]; rfl
  | 8, _ => rw [sp 8 (by omega), h.c8]; rfl
  | 9, _ => rw [sp 9 (by omega), h.c9]; rfl
theorem At10.of {w : World} {g o : Nat} {y : Ky} {k n x l : Int} {s : ByteArray} {A : Option Addr} {L c : Nat} {b : Bool} (h : ∀ j, j < 10 → w.cell? ⟨g, o + j, none⟩ = ([.bool y.text, .int .i64 y.num, .string y.str, .int .i64 k, .int .i64 n, .string s, .int .i64 x, .slice A L c, .bool b, .int .i64 l] : List Value)[j]?) : At10 w ⟨g, o, none⟩ y k n s x A L c b l :=
  ⟨h 0 (by omega), h 1 (by omega), h 2 (by omega), h 3 (by omega), h 4 (by omega), h 5 (by omega), h 6 (by omega), h 7 (by omega), h 8 (by omega), h 9 (by omega)⟩
theorem SIn.cells {w : World} {S : Nat → Prop} {sl : List Sl} {a : Addr} (h : SIn w S sl (some a)) :
    ∃ cs : List Value, cs.length = sl.length * 10 ∧ (∀ j v, cs[j]? = some v → w.cell? (a.add j) = some v) ∧ (∀ v ∈ cs, v.oneCell' = true) ∧ ∀ j, j < sl.length * 10 → cs[j]? = w.cell? (a.add j) := by
  have one : ∀ i q, i < sl.length → q < 10 → ∃ u, w.cell? (a.add (i * 10 + q)) = some u ∧ u.oneCell' = true := by
    intro i q hi hq
    obtain ⟨a', k, n, s, x, ks, vs, A', c', e, -, -, -, -, -, hc⟩ := h i _ (List.getElem?_eq_getElem hi)
    obtain rfl := Option.some.inj e
    have := hc.at_ q hq
    rw [add_add'] at this
    rw [this]
    match q, hq with
    | 0, _ => exact ⟨_, rfl, rfl⟩
    | 1, _ => exact ⟨_, rfl, rfl⟩
    | 2, _ => exact ⟨_, rfl, rfl⟩
    | 3, _ => exact ⟨_, rfl, rfl⟩
    | 4, _ => exact ⟨_, rfl, rfl⟩
    | 5, _ => exact ⟨_, rfl, rfl⟩
    | 6, _ => exact ⟨_, rfl, rfl⟩
    | 7, _ => exact ⟨_, rfl, rfl⟩
    | 8, _ => exact ⟨_, rfl, rfl⟩
    | 9, _ => exact ⟨_, rfl, rfl⟩
  have get : ∀ j, ((List.range (sl.length * 10)).map fun j => (w.cell? (a.add j)).getD undef)[j]? = if j < sl.length * 10 then some ((w.cell? (a.add j)).getD undef) else none := by
    intro j
    rw [List.getElem?_map]
    split
    · rename_i hj; rw [List.getElem?_range hj]; rfl
    · rename_i hj; rw [List.getElem?_eq_none (by rw [List.length_range]; omega)]; rfl
  have ex : ∀ j, j < sl.length * 10 → ∃ u, w.cell? (a.add j) = some u ∧ u.oneCell' = true := fun j hj => by
    obtain ⟨u, hu, h1⟩ := one (j / 10) (j % 10) (by omega) (by omega)
    rw [show j / 10 * 10 + j % 10 = j by omega] at hu
    exact ⟨u, hu, h1⟩
  refine ⟨(List.range (sl.length * 10)).map fun j => (w.cell? (a.add j)).getD undef, by simp, fun j v hv => ?_, fun v hv => ?_, fun j hj => ?_⟩
  · rw [get] at hv
    split at hv
    · rename_i hj
      obtain ⟨u, hu, -⟩ := ex j hj
      rw [hu] at hv ⊢
      exact hv
    · cases hv
  · obtain ⟨j, hj, rfl⟩ := List.mem_map.1 hv
    rw [List.mem_range] at hj
    obtain ⟨u, hu, h1⟩ := ex j hj
    rw [hu]
    exact h1
  · rw [get, if_pos hj]
    obtain ⟨u, hu, -⟩ := ex j hj
    rw [hu]
    rfl

/-- Slots in a row of block g, or none at all. -/
def OwnS (w : World) (S : Nat → Prop) (lo : Nat) (sl : List Sl) (B : Option Addr) (m d : Nat) : Prop :=
  SIn w S sl B ∧ sl.length = m ∧ (m ≤ d ∧ d ≤ maxLen) ∧ ((B = none ∧ m = 0) ∨ ∃ g arr, B = some ⟨g, 0, none⟩ ∧ lo ≤ g ∧ S g ∧ w.heap[g]? = some (.cells arr IS (0, 0)) ∧ arr.size = d * 10) ∧ (B = none → d = 0)
def CsQ (w : World) (S : Nat → Prop) (sl : List Sl) (m : Nat) (e : Ending) (w' : World) : Prop :=
  ∃ B' d', e = .returned (.slice B' m d') ∧ OwnS w' (fun b => S b ∨ b = w.heap.size) w.heap.size sl B' m d' ∧ Below w.heap.size w w'

set_option maxHeartbeats 1000000 in
theorem copySlots (B : Option Addr) (m d : Nat) (sl : List Sl) (w : World) {S : Nat → Prop} (hs : SIn w S sl B) (hlen : sl.length = m) (hm : m ≤ 1048576) :
    Calls Tryz.prog 139 #[.slice B m d] w (CsQ w S sl m) := by
  cases B with
  | none =>
    have h0 : m = 0 := by
      rcases Nat.eq_zero_or_pos m with h | h
      · exact h
      · obtain ⟨a, _, _, _, _, _, _, _, _, ha, -⟩ := hs 0 sl[0] (List.getElem?_eq_getElem (by omega))
        cases ha
    subst h0
    have heq := Lib.run_eql_slice_nil (P := Tryz.prog) w 25 IS none 0 d 0 0 Tryz.underlying25
    have HS := Lib.hid hs
    have HL := Lib.hid hlen
    clear hs hm hlen
    go_enter Tryz.func139, Tryz.ntmps139
    go_wp2_with (fail)
    go_ret
    exact ⟨none, 0, rfl, ⟨HS.out.stays (fun _ h => .inl h) (fun _ _ _ => rfl), HL.out, ⟨by omega, by unfold maxLen; omega⟩, .inl ⟨rfl, rfl⟩, fun _ => rfl⟩, Below.refl _ _⟩
  | some a =>
    obtain ⟨i0, hi, hz, hsz0, hby⟩ := is_info
    have hsz : (Tryz.prog.info? IS).map (·.size) = some 10 := by rw [hi]; exact congrArg some hsz0
    obtain ⟨cs, hcl, hsrc, hone, hat⟩ := hs.cells
    rw [hlen] at hcl hat
    have hmk := run_make (P := Tryz.prog) w 25 IS i0 _ Tryz.underlying25 hi hz .i64 .i64 m m (by omega) (Int.le_refl _) (by rw [hby]; omega) (by omega)
    rw [hsz0] at hmk
    simp only [Int.toNat_natCast] at hmk
    obtain ⟨arr0, HA⟩ : ∃ x, Hid (x = madeCells (Value.agg #[.bool false, .int .i64 0, .string ⟨#[]⟩, .int .i64 0, .int .i64 0, .string ⟨#[]⟩, .int .i64 0, .slice none 0 0, .bool false, .int .i64 0]).cells (m * 10)) := ⟨_, Lib.hid rfl⟩
    rw [← HA.out] at hmk
    have hsa : arr0.size = m * 10 := by rw [HA.out, size_madeCells]
    have hcp := run_copy_z (P := Tryz.prog) (w.alloc (.cells arr0 IS)) 25 25 3 IS 10 w.heap.size 0 m m a m d arr0 IS cs m Tryz.underlying25 hsz (heap_alloc_new w _) (by simp) hcl (fun j v hv => cell_stays (fun hlt => (b1 w _).block _ hlt) (hsrc j v hv)) (by rw [hcl, hsa]; omega) hone
    have hrow : (arr0.toList.take 0 ++ cs ++ arr0.toList.drop (0 + cs.length)).toArray = cs.toArray := by
      rw [List.take_zero, List.nil_append, List.drop_eq_nil_of_le (by rw [Array.length_toList, hsa, hcl]; omega), List.append_nil]
    rw [hrow] at hcp
    have heq := Lib.run_eql_slice_nil (P := Tryz.prog) w 25 IS (some a) m d 0 0 Tryz.underlying25
    obtain ⟨W3, HW⟩ : ∃ W, Hid (W = (w.alloc (.cells arr0 IS)).setRow w.heap.size cs.toArray) := ⟨_, Lib.hid rfl⟩
    have HB : Hid (Below w.heap.size w W3) := Lib.hid (HW.out ▸ below_setRow (b1 w _) (Nat.le_refl _) _)
    have HG : Hid (W3.heap[w.heap.size]? = some (.cells cs.toArray IS (0, 0))) := Lib.hid (HW.out ▸ setRow_heap _ _ _ _ _ _ (heap_alloc_new w _))
    have HO : Hid (OwnS W3 (fun b => S b ∨ b = w.heap.size) w.heap.size sl (some ⟨w.heap.size, 0, none⟩) m m) := Lib.hid ⟨fun i t ht => by
      obtain ⟨a', k, n, s, x, ks, vs, A', c', e, hSa, hk, hl, hv, hT, hc⟩ := hs i t ht
      obtain rfl := Option.some.inj e
      have hil : i < m := by rw [← hlen]; exact (List.getElem?_eq_some_iff.1 ht).1
      refine ⟨⟨w.heap.size, 0, none⟩, k, n, s, x, ks, vs, A', c', rfl, .inr rfl, hk, hl, hv, hT.stays (fun _ h => .inl h) (fun b hb hlt => HB.out.block b hlt), ?_⟩
      rw [Addr.add_lit, Nat.zero_add]
      refine At10.of fun j hj => ?_
      rw [cell_of_row _ _ _ _ _ _ HG.out, List.getElem?_toArray, hat _ (by omega), ← add_add', hc.at_ j hj], hlen, ⟨Nat.le_refl _, by unfold maxLen; omega⟩, .inr ⟨w.heap.size, cs.toArray, rfl, Nat.le_refl _, .inr rfl, HG.out, by simp [hcl]⟩, fun h => by cases h⟩
    rw [← HW.out] at hcp
    clear hs hi hz hsz0 hby hsz hsa hrow hcl hsrc hone hat hlen
    go_enter Tryz.func139, Tryz.ntmps139
    go_wp2_with (fail)
    go_ret
    exact ⟨_, _, rfl, HO.out, HB.out⟩

end Go.Proofs.YtdglmnmalfpipaaGreatDoor.tree

/-
  A row of slots of the call's own, to which slots are appended.
  Conditions: those that each theorem names.
-/
namespace Go.Proofs.YtdglmnmalfpipaaGreatDoor.tree
open Go.ChangeShapes Go.WideShapes Go.ChangeAt Go.RowKit
set_option linter.unusedVariables false

def SRowX (w : World) (lo : Nat) (v : Value) (xs : List Value) (sl : List Sl) : Prop :=
  w.ownsRow lo IS 10 v sl.length xs ∧ ∀ (i : Nat) t, sl[i]? = some t → ∃ k n s x ks vs A c, t.val = .mk k n s x ks vs ∧ (I64 t.key.num ∧ t.key.str.size ≤ maxLen) ∧ I64 t.link ∧
    (∀ q, q < 10 → xs[i * 10 + q]? = ([.bool t.key.text, .int .i64 t.key.num, .string t.key.str, .int .i64 k, .int .i64 n, .string s, .int .i64 x, .slice A vs.length c, .bool t.live, .int .i64 t.link] : List Value)[q]?) ∧ TIn w (SX lo v) t.val (vV k n s x A vs.length c)
def SRow (w : World) (lo : Nat) (v : Value) (sl : List Sl) : Prop := ∃ xs, SRowX w lo v xs sl

section
variable {w w' : World} {lo : Nat} {v : Value} {sl : List Sl}
theorem SRow.nil (w : World) (lo : Nat) : SRow w lo (.slice none 0 0) [] := ⟨[], World.ownsRow_nil w lo _ 10, fun i t h => by simp at h⟩
theorem SRow.empty (w : World) (lo : Nat) (h : lo ≤ w.heap.size) : SRow (w.alloc (.cells #[] IS)) lo (.slice (some ⟨w.heap.size, 0, none⟩) 0 0) [] :=
  ⟨[], ⟨rfl, .inr ⟨w.heap.size, 0, #[], rfl, h, heap_alloc_new w _, Nat.le_refl _, Nat.zero_le _, rfl, rfl⟩⟩, fun i t h => by simp at h⟩
theorem SRow.below (h : SRow w lo v sl) (hb : Below w.heap.size w w') : SRow w' lo v sl := by
  obtain ⟨xs, h1, h3⟩ := h
  refine ⟨xs, World.ownsRow.kept h1 (mem.none_of_below hb) ownBlock_keep, fun i t ht => ?_⟩
  obtain ⟨k, n, s, x, ks, vs, A, c, a1, a2, a3, a4, a5⟩ := h3 i t ht
  exact ⟨k, n, s, x, ks, vs, A, c, a1, a2, a3, a4, a5.below' hb⟩
theorem SRow.above (h : SRow w lo v sl) (hs : ∀ b, lo ≤ b → b < w.heap.size → w'.heap[b]? = w.heap[b]?) : SRow w' lo v sl := by
  obtain ⟨xs, h1, h3⟩ := h
  refine ⟨xs, ⟨h1.1, ?_⟩, fun i t ht => ?_⟩
  · rcases h1.2 with h | ⟨g, cap, cur, e, hlo, hg, hr⟩
    · exact .inl h
    · exact .inr ⟨g, cap, cur, e, hlo, (hs g hlo (Array.getElem?_eq_some_iff.1 hg).1).trans hg, hr⟩
  · obtain ⟨k, n, s, x, ks, vs, A, c, a1, a2, a3, a4, a5⟩ := h3 i t ht
    exact ⟨k, n, s, x, ks, vs, A, c, a1, a2, a3, a4, a5.stays (fun _ h => h) fun b hb hlt => hs b hb.1 hlt⟩
theorem SRow.block (h : SRow w lo v sl) : ∀ k, v.ownBlock = some k → lo ≤ k ∧ k < w.heap.size := by
  obtain ⟨xs, h1, -⟩ := h
  exact h1.lt

/-- One more. -/
theorem SRowX.more {xs : List Value} (h : SRowX w lo v xs sl) {t : Sl}
    {k n x : Int} {s : ByteArray} {ks' : List Ky} {vs' : List Tr} {A : Option Addr} {c : Nat} (hv : t.val = .mk k n s x ks' vs') (hy : I64 t.key.num ∧ t.key.str.size ≤ maxLen) (hl : I64 t.link) (ht : TIn w (SX lo v) t.val (vV k n s x A vs'.length c))
    {v' : Value} (ho : w'.ownsRow lo IS 10 v' (sl.length + 1) (xs ++ [.bool t.key.text, .int .i64 t.key.num, .string t.key.str, .int .i64 k, .int .i64 n, .string s, .int .i64 x, .slice A vs'.length c, .bool t.live, .int .i64 t.link])) (hg : w.grownBy w' v.ownBlock) (hat : v'.ownBlock = v.ownBlock ∨ v'.ownBlock = some w.heap.size) :
    SRow w' lo v' (sl ++ [t]) := by
  obtain ⟨h1, h3⟩ := h
  have hxl : xs.length = sl.length * 10 := h1.1
  have st : ∀ {t : Tr} {u : Value}, TIn w (SX lo v) t u → TIn w' (SX lo v') t u := fun {t u} h => by
    have h' : TIn w (fun b => SX lo v b ∧ b < w.heap.size) t u := by
      induction h with
      | mk k n s x ks vs A cap C hk hl hm hcap hc ht ih =>
        refine .mk k n s x ks vs A cap C hk hl hm hcap (fun i hi => ?_) ih
        obtain ⟨a, ha, hS, hky, hs, hj⟩ := hc i hi
        refine ⟨a, ha, ⟨hS, ?_⟩, hky, hs, hj⟩
        have := World.block_lt_of_cell? _ _ hky.1
        rwa [mem.add_block] at this
    exact h'.stays (fun b ⟨⟨hb1, hb2⟩, hb3⟩ => ⟨hb1, fun e => by
      rcases hat with h | h
      · exact hb2 (h ▸ e)
      · rw [h] at e; injection e with e; omega⟩) (fun b ⟨⟨hb1, hb2⟩, hb3⟩ hlt => hg.block b hlt (fun e => hb2 e.symm))
  refine ⟨_, by rw [List.length_append]; exact ho, fun i t2 hi => ?_⟩
  have hil := (List.getElem?_eq_some_iff.1 hi).1
  rw [List.length_append] at hil
  simp only [List.length_cons, List.length_nil] at hil
  by_cases e : i = sl.length
  · subst e
    rw [List.getElem?_append_right (Nat.le_refl _), Nat.sub_self] at hi
    obtain rfl : t = t2 := by simpa using hi
    refine ⟨k, n, s, x, ks', vs', A, c, hv, hy, hl, fun q hq => ?_, st ht⟩
    rw [List.getElem?_append_right (by omega), hxl, Nat.add_sub_cancel_left]
  · rw [List.getElem?_append_left (by omega)] at hi
    obtain ⟨k1, n1, s1, x1, ks1, vs1, A1, c1, a1, a2, a3, a4, a5⟩ := h3 i t2 hi
    refine ⟨k1, n1, s1, x1, ks1, vs1, A1, c1, a1, a2, a3, fun q hq => ?_, st a5⟩
    rw [List.getElem?_append_left (by omega)]
    exact a4 q hq
theorem SRow.sin (h : SRow w lo v sl) (hm : sl.length ≤ maxLen) : ∃ A c, v = .slice A sl.length c ∧ (sl.length ≤ c ∧ c ≤ maxLen) ∧ SIn w (fun b => lo ≤ b) sl A := by
  obtain ⟨xs, h1, h3⟩ := h
  rcases h1.2 with ⟨rfl, h0⟩ | ⟨g, cap, cur, rfl, hlo, hg, hnc, hcm, hsz, htk⟩
  · obtain rfl : sl = [] := List.length_eq_zero_iff.1 h0
    exact ⟨none, 0, rfl, ⟨Nat.le_refl _, Nat.zero_le _⟩, fun i t h => by simp at h⟩
  · refine ⟨some ⟨g, 0, none⟩, cap, rfl, ⟨hnc, hcm⟩, fun i t ht => ?_⟩
    obtain ⟨k, n, s, x, ks, vs, A, c, a1, a2, a3, a4, a5⟩ := h3 i t ht
    have hil := (List.getElem?_eq_some_iff.1 ht).1
    refine ⟨⟨g, 0, none⟩, k, n, s, x, ks, vs, A, c, rfl, hlo, a2, a3, a1, a5.stays (fun b hb => hb.1) (fun _ _ _ => rfl), ?_⟩
    have at_ : ∀ q, q < 10 → w.cell? ⟨g, i * 10 + q, none⟩ = ([.bool t.key.text, .int .i64 t.key.num, .string t.key.str, .int .i64 k, .int .i64 n, .string s, .int .i64 x, .slice A vs.length c, .bool t.live, .int .i64 t.link] : List Value)[q]? := fun q hq => by
      have := a4 q hq
      rw [← htk, List.getElem?_take, if_pos (by omega)] at this
      exact (cell_of_row w g _ cur IS _ hg).trans (by simpa using this)
    rw [Addr.add_lit, Nat.zero_add]
    exact ⟨at_ 0 (by omega), at_ 1 (by omega), at_ 2 (by omega), at_ 3 (by omega), at_ 4 (by omega), at_ 5 (by omega), at_ 6 (by omega), at_ 7 (by omega), at_ 8 (by omega), at_ 9 (by omega)⟩
end

end Go.Proofs.YtdglmnmalfpipaaGreatDoor.tree

/-
  The slots among which a key is found, of the project: the chain of its bucket.
  Conditions: those that each theorem names.
-/
namespace Go.Proofs.YtdglmnmalfpipaaGreatDoor.tree
open Go.ChangeShapes Go.WideShapes Go.ChangeAt Go.RowKit
set_option linter.unusedVariables false

theorem SIn.lt' {w : World} {S : Nat → Prop} {sl : List Sl} {A : Option Addr} (h : SIn w S sl A) : SIn w (fun b => b < w.heap.size) sl A := fun i t ht => by
  obtain ⟨a, k, n, s, x, ks, vs, A', c', e, hSa, hk, hl, hv, hT, hc⟩ := h i t ht
  refine ⟨a, k, n, s, x, ks, vs, A', c', e, ?_, hk, hl, hv, hT.lt', hc⟩
  have := World.block_lt_of_cell? _ _ hc.c0
  rwa [mem.add_block] at this

def ChQ (w : World) (g m : Nat) (sl : List Sl) (y : Ky) (e : Ending) (w' : World) : Prop :=
  ∃ A' L' c' r, e = .returned (.slice A' L' c') ∧ OwnC w' g (w.heap.size + 2) A' L' c' r ∧ (∀ i ∈ r, 0 ≤ i ∧ i < m) ∧ sr sl y r = fd sl y m ∧ L' ≤ 1024 ∧ w.grownBy w' (some g)

theorem three_cell (w : World) (o1 o2 : Obj) (v : Value) (t : TypeId) (N : Nat) (hN : N = w.heap.size + 2) : (((w.alloc o1).alloc o2).alloc (.cells #[v] t)).cell? ⟨N, 0, none⟩ = some v := by
  subst hN
  have h := heap_alloc_new ((w.alloc o1).alloc o2) (.cells #[v] t)
  rw [show ((w.alloc o1).alloc o2).heap.size = w.heap.size + 2 by simp] at h
  exact (rowc h).1 0

theorem one_cell (w : World) (v : Value) (t : TypeId) (N : Nat) (hN : N = w.heap.size) : (w.alloc (.cells #[v] t)).cell? ⟨N, 0, none⟩ = some v := by
  subst hN
  exact (rowc (heap_alloc_new w _)).1 0

set_option maxRecDepth 100000 in
set_option maxHeartbeats 2000000 in
theorem chain_f {l : List Int} {sl : List Sl} {A : Option Addr} {n c : Nat} {B : Option Addr} {m d : Nat} {x k : Int} (w : World) {S : Nat → Prop} (hr : TbIn w S l sl A n c B m d x k) (hok : tabOk false l sl x k) (y : Ky) (g : Nat) (cur : Array Value) (hg : w.heap[g]? = some (.cells cur T8 (0, 0))) (hcs : cur.size = 8) :
    Calls Tryz.prog 149 #[.slice (some ⟨g, 0, none⟩) 0 8, tbV false A n c B m d x k, kyV y] w (ChQ w g m sl y) := by
  have hlen := hr.len
  have hpk : ∀ (i : Nat) t, sl[i]? = some t → t.key = ixK i := fun i t h => by
    rcases (hok.2.2.2.1 i t h).1 with h | h
    · cases h
    · exact h
  have hm := hok.len.1
  have hgl : g < w.heap.size := (Array.getElem?_eq_some_iff.1 hg).1
  rw [hlen] at hm
  have HO : Hid (∀ w', Below w.heap.size w w' → OwnC w' g (w.heap.size + 2) (some ⟨g, 0, none⟩) 0 8 []) := Lib.hid (fun w' hb => OwnC.made w' _ g cur (carry hb hg) hcs)
  obtain ⟨q, HQ⟩ : ∃ q, Hid (nums.inr y.num 0 ((m : Int) - 1) = q) := ⟨_, Lib.hid rfl⟩
  have IR := fun w => HQ.out ▸ nums.implInRange y.num 0 ((m : Int) - 1) w
  cases q with
  | false =>
    have HF : Hid (sr sl y [] = fd sl y m) := Lib.hid (by
      have := fd_out (sl := sl) hpk (y := y) (by
        have h := HQ.out
        unfold nums.inr at h
        simp at h
        rw [hlen]
        omega)
      rw [hlen] at this
      rw [this]
      rfl)
    obtain ⟨yb, yn, ys⟩ := y
    unfold kyV
    simp only at IR
    clear hr hok hpk HQ hg
    go_enter Tryz.func149, Tryz.ntmps149
    go_wp2_with (fail)
    refine (IR _).mono ?_
    rintro e w1 ⟨rfl, rfl⟩
    go_wp2_with (fail)
    go_ret
    exact ⟨_, _, _, [], rfl, HO.out _ (b2 _ _ _), by simp, HF.out, by omega, gb (b2 _ _ _) _⟩
  | true =>
    obtain ⟨i, hi, him⟩ : ∃ i : Nat, y.num = i ∧ i < m := by
      have h := HQ.out
      unfold nums.inr at h
      simp at h
      exact ⟨y.num.toNat, by omega, by omega⟩
    obtain ⟨t, ht⟩ : ∃ t, sl[i]? = some t := ⟨_, List.getElem?_eq_getElem (by omega)⟩
    have HF : Hid (sr sl y [(i : Int)] = fd sl y m) := Lib.hid (by
      have := fd_at (sl := sl) hpk (y := y) ht hi
      rw [hlen] at this
      rw [this, sr_cons ht]
      rfl)
    obtain ⟨yb, yn, ys⟩ := y
    unfold kyV
    simp only at IR hi
    subst hi
    clear hr hok hpk HQ hg ht
    go_enter Tryz.func149, Tryz.ntmps149
    go_wp2_with (fail)
    refine (IR _).mono ?_
    rintro e w1 ⟨rfl, rfl⟩
    go_wp2_with (first
      | (at_builtin; go_loud (refine wpList_appendC _ rfl _ _ rfl g (w.heap.size + 2) _ _ _ [] rfl (HO.out _ (bs (b2 _ _ _) (b1 _ _))) _ (i : Int) rfl (three_cell _ _ _ _ _ _ (by omega)) (by omega) (by simp) ?_)
         intro A9 c9 w9 ho9 hg9
         have HO9 := Lib.hid ho9
         have HG9 := Lib.hid (gtrans (gb (bs (b2 w _ _) (b1 _ _)) _) hg9 (fun j e => by injection e with e; exact .inl e.symm))
         clear ho9 hg9)
      | fail)
    go_ret
    exact ⟨_, _, _, [(i : Int)], rfl, HO9.out, by simp; omega, HF.out, by omega, HG9.out⟩

set_option maxRecDepth 100000 in
set_option maxHeartbeats 4000000 in
theorem chain_t {l : List Int} {sl : List Sl} {A : Option Addr} {n c : Nat} {B : Option Addr} {m d : Nat} {x k : Int} (w : World) {S : Nat → Prop} (hr : TbIn w S l sl A n c B m d x k) (hok : tabOk true l sl x k) (y : Ky) (hys : y.str.size ≤ 140737488355328) (g : Nat) (hSg : ∀ b, S b → b ≠ g) (cur : Array Value) (hg : w.heap[g]? = some (.cells cur T8 (0, 0))) (hcs : cur.size = 8) :
    Calls Tryz.prog 149 #[.slice (some ⟨g, 0, none⟩) 0 8, tbV true A n c B m d x k, kyV y] w (ChQ w g m sl y) := by
  have hlen := hr.len
  have hln : l.length = n := hr.heads.len
  have hm := hok.len.1
  have hp : p2 n := by have := (hok.2.1.1 rfl).1; rwa [hln] at this
  have hn8 : 8 ≤ n ∧ n ≤ 1024 := by unfold p2 at hp; omega
  have hgl : g < w.heap.size := (Array.getElem?_eq_some_iff.1 hg).1
  rw [hlen] at hm
  have HO : Hid (∀ w', Below w.heap.size w w' → OwnC w' g (w.heap.size + 2) (some ⟨g, 0, none⟩) 0 8 []) := Lib.hid (fun w' hb => OwnC.made w' _ g cur (carry hb hg) hcs)
  obtain ⟨q, HQ⟩ : ∃ q : Nat, Hid (bk n y = q) := ⟨_, Lib.hid rfl⟩
  have hq : q < n := HQ.out ▸ bk_lt (by omega) y
  have hqi : (q : Int) < (n : Int) := by omega
  have BK : Hid (∀ w', Calls Tryz.prog 196 #[kyV y, .int .i64 n] w' (LtQ w' q)) := Lib.hid fun w' => HQ.out ▸ bucketOf_i n (by omega) (by omega) y hys w'
  obtain ⟨v, hv⟩ : ∃ v, l[q]? = some v := ⟨_, List.getElem?_eq_getElem (by omega)⟩
  have HV : Hid (v = last n sl q m) := Lib.hid (by
    have h1 := hok.2.2.2.2
    rw [hln, hlen] at h1
    have h2 := hs_get (n := n) (sl := sl) hq m
    rw [h1, hv] at h2
    exact Option.some.inj h2)
  have HLK : Hid (∀ (i : Nat) t, sl[i]? = some t → bk n t.key = q → t.link = last n sl q i) := Lib.hid (fun i t h hb => by
    have h1 := (hok.2.2.2.1 i t h).2
    rw [hln, lk_pos (by omega), hb] at h1
    exact h1)
  have HFD : Hid (∀ r, r = chn n sl q m → sr sl y r = fd sl y m) := Lib.hid (fun r h => by
    rw [h, ← HQ.out]
    exact chn_fd m (by omega))
  obtain ⟨a, ha, hc⟩ := hr.heads.2 (by omega)
  subst ha
  have HC : Hid (w.cell? (a.add q) = some (.int .i64 v)) := Lib.hid (hc q v hv)
  have HS := Lib.hid hr.slots
  have HLN := Lib.hid hlen
  obtain ⟨yb, yn, ys⟩ := y
  unfold kyV at BK ⊢
  simp only at BK
  clear hr hok hp hg hv hc hys hlen hln
  go_enter Tryz.func149, Tryz.ntmps149
  go_upto_region 5 with fail
  generalize hw0 : (w.alloc (.cells #[.bool true, .slice (some a) n c, .slice B m d, .int .i64 x, .int .i64 k] IT)).alloc (.cells #[.bool yb, .int .i64 yn, .string ys] 29) = w0
  have hb0 : Below w.heap.size w w0 := hw0 ▸ b2 _ _ _
  have HA : Hid (w0.heap[w.heap.size]? = some (.cells #[.bool true, .slice (some a) n c, .slice B m d, .int .i64 x, .int .i64 k] IT (0, 0))) := Lib.hid (hw0 ▸ heap_alloc2_old w _ _)
  have HY : Hid (w0.heap[w.heap.size + 1]? = some (.cells #[.bool yb, .int .i64 yn, .string ys] 29 (0, 0))) := Lib.hid (hw0 ▸ heap_alloc2_new w _ _)
  have HB := Lib.hid hb0
  have HC0 : Hid (w0.cell? (a.add q) = some (.int .i64 v)) := Lib.hid (cell_stays (fun hl => hb0.block _ hl) HC.out)
  have y1 : w0.cell? ⟨w.heap.size, 1, none⟩ = some (.slice (some a) n c) := (rowc HA.out).1 1
  have z0 : w0.cell? ⟨w.heap.size + 1, 0, none⟩ = some (.bool yb) := (rowc HY.out).1 0
  have z1 : w0.cell? ⟨w.heap.size + 1, 1, none⟩ = some (.int .i64 yn) := (rowc HY.out).1 1
  have z2 : w0.cell? ⟨w.heap.size + 1, 2, none⟩ = some (.string ys) := (rowc HY.out).1 2
  have hcc := HC0.out
  clear hw0 hb0
  go_wp2_with (fail)
  go_region_held3 (fun w' => w'.cell? ⟨w.heap.size, 1, none⟩ = some (.slice (some a) n c) ∧ w'.cell? ⟨w.heap.size + 1, 0, none⟩ = some (.bool yb) ∧ w'.cell? ⟨w.heap.size + 1, 1, none⟩ = some (.int .i64 yn) ∧ w'.cell? ⟨w.heap.size + 1, 2, none⟩ = some (.string ys) ∧ w'.cell? (a.add q) = some (.int .i64 v)) (first | go_keep | exact ⟨y1, z0, z1, z2, hcc⟩) (first
    | (go_at_call 196; refine (BK.out _).mono ?_
       rintro e w1 ⟨rfl, hb1⟩
       have hbx := bs ((Below.refl w0.heap.size w0).drew) hb1
       have HA1 := Lib.hid (carry hbx HA.out)
       have HY1 := Lib.hid (carry hbx HY.out)
       have HB1 := Lib.hid (bs HB.out hbx)
       have hcc : w1.cell? (a.add q) = some (.int .i64 v) := cell_stays (fun hl => HB1.out.block _ hl) HC.out
       have y1 : w1.cell? ⟨w.heap.size, 1, none⟩ = some (.slice (some a) n c) := (rowc HA1.out).1 1
       have z0 : w1.cell? ⟨w.heap.size + 1, 0, none⟩ = some (.bool yb) := (rowc HY1.out).1 0
       have z1 : w1.cell? ⟨w.heap.size + 1, 1, none⟩ = some (.int .i64 yn) := (rowc HY1.out).1 1
       have z2 : w1.cell? ⟨w.heap.size + 1, 2, none⟩ = some (.string ys) := (rowc HY1.out).1 2
       clear hb1 hbx))
  clear z0 z1 z2 y1 hcc
  go_wp2_with (fail)
  go_loopg [0, 7] m (fun gk s0 s7 wr => ∃ (J L1 c1 : Nat) (v : Int) (r : List Int) (A1 : Option Addr), s0 = .slice A1 L1 c1 ∧ s7 = .int .i64 v ∧ J ≤ gk ∧ J ≤ m ∧ L1 + J ≤ m ∧ Hid (v = last n sl q J) ∧ Hid (r ++ chn n sl q J = chn n sl q m) ∧
    Hid (wr.heap[w.heap.size]? = some (.cells #[.bool true, .slice (some a) n c, .slice B m d, .int .i64 x, .int .i64 k] IT (0, 0))) ∧ Hid (OwnC wr g (w.heap.size + 2) A1 L1 c1 r) ∧ Hid (w.grownBy wr (some g)) ∧ w.heap.size + 2 ≤ wr.heap.size)
  case atStart => exact ⟨m, 0, 8, v, [], _, rfl, rfl, Nat.le_refl _, Nat.le_refl _, by omega, HV, Lib.hid rfl, HA1, Lib.hid (HO.out _ HB1.out), Lib.hid (gb HB1.out _), by have := (Array.getElem?_eq_some_iff.1 HY1.out).1; omega⟩
  case round =>
    clear HA HY HB HC0 HA1 HY1 HB1
    obtain ⟨J, L1, c1, v1, r, A1, rfl, rfl, hgk, hJ, hLJ, HV1, HR, HA, HOC, HG, hz⟩ := hrel
    rcases last_chn (n := n) (sl := sl) (b := q) J (by have := HLN.out; omega) with ⟨h1, h2⟩ | ⟨i, t, hi, h1, h2, h3, h4⟩
    · have hv1 : v1 = -1 := HV1.out.trans h1
      subst hv1
      have HR2 : Hid (r = chn n sl q m) := Lib.hid (by have := HR.out; rw [h2, List.append_nil] at this; exact this)
      clear h1 h2
      go_wp2_with (fail)
      go_ret
      exact ⟨A1, L1, c1, r, rfl, HOC.out, fun i hi => by rw [HR2.out] at hi; exact chn_in m i hi, HFD.out r HR2.out, by omega, HG.out⟩
    · have hv1 : v1 = (i : Int) := HV1.out.trans h1
      subst hv1
      have HR2 : Hid (r ++ [(i : Int)] ++ chn n sl q i = chn n sl q m) := Lib.hid (by have := HR.out; rw [h4] at this; simpa using this)
      have HLI : Hid (t.link = last n sl q i) := Lib.hid (HLK.out i t h2 h3)
      obtain ⟨a2, k2, n2, s2, x2, ks2, vs2, A2, c2, ea, hSa, -, -, -, -, hcell⟩ := HS.out i t h2
      subst ea
      have hne : a2.block ≠ g := hSg _ hSa
      have hlt2 : a2.block < w.heap.size := by
        have := World.block_lt_of_cell? _ _ hcell.c0
        rwa [mem.add_block] at this
      have hil : i < m := by omega
      have hii : (i : Int) < (m : Int) := by omega
      have hi1 : ((i : Int) != -1) = true := by simp
      have HCL : Hid (∀ w', w'.heap[a2.block]? = w.heap[a2.block]? → At10 w' (a2.add (i * 10)) t.key k2 n2 s2 x2 A2 vs2.length c2 t.live t.link) := Lib.hid (fun w' h => hcell.stays (fun _ => by rw [mem.add_block]; exact h))
      obtain ⟨tl, HTL⟩ : ∃ z, Hid (t.link = z) := ⟨_, Lib.hid rfl⟩
      clear h1 h2 h3 h4 hcell hSa
      go_wp2_with (first
        | (at_builtin; go_loud ((refine wpList_appendC _ rfl _ _ rfl g (w.heap.size + 2) _ _ _ r rfl (HOC.out.below (b1 _ _)) _ (i : Int) rfl (one_cell _ _ _ _ rfl) (by omega) (by first | (simp; done) | (simp; omega)) ?_
                                 intro A9 c9 w9 ho9 hg9
                                 have HO9 := Lib.hid ho9
                                 have hob := HOC.out.block
                                 have HA9 := Lib.hid ((hg9.block _ (by first | (simp; done) | (simp; omega)) (fun e => by rcases (hob _ e.symm).1 with h | h <;> omega)).trans (keepAlloc HA.out))
                                 have HG9 := Lib.hid (gtrans (gtrans HG.out (gb (b1 _ _) none) (fun j e => by cases e)) hg9 (fun j e => by rcases (hob _ e).1 with h | h; exact .inl h; exact .inr (by omega)))
                                 have hz9 : w.heap.size + 2 ≤ w9.heap.size := Nat.le_trans (Nat.le_trans hz (by simp)) hg9.size
                                 have hcl := HCL.out w9 (HG9.out.block _ hlt2 (fun e => hne (Option.some.inj e)))
                                 rw [HTL.out] at hcl
                                 have p9 := hcl.c9
                                 have y2 : w9.cell? ⟨w.heap.size, 2, none⟩ = some (.slice (some a2) m d) := (rowc HA9.out).1 2
                                 clear ho9 hg9 hob hcl)))
        | fail)
      go_roundg i
      case rel => exact ⟨i, L1 + 1, c9, tl, r ++ [(i : Int)], A9, by go_num, rfl, Nat.le_refl _, by omega, by omega, Lib.hid (HTL.out.symm.trans HLI.out), HR2, HA9, HO9, HG9, hz9⟩
      case measure => omega

end Go.Proofs.YtdglmnmalfpipaaGreatDoor.tree

/-
  FindSlot of the project.
  Conditions: those that each theorem names; the package variables of the library's reading of numbers hold what the program's text lays.
-/
namespace Go.Proofs.YtdglmnmalfpipaaGreatDoor.tree
open Go.ChangeShapes Go.WideShapes Go.ChangeAt Go.RowKit
set_option linter.unusedVariables false

abbrev Z8 : Array Value := #[.int .i64 0, .int .i64 0, .int .i64 0, .int .i64 0, .int .i64 0, .int .i64 0, .int .i64 0, .int .i64 0]

set_option maxRecDepth 100000 in
set_option maxHeartbeats 4000000 in
theorem findSlot_i {l : List Int} {sl : List Sl} {b : Bool} {A : Option Addr} {n c : Nat} {B : Option Addr} {m d : Nat} {x k : Int} (w : World) {S : Nat → Prop} (hr : TbIn w S l sl A n c B m d x k) (hok : tabOk b l sl x k) (y : Ky) (hys : y.str.size ≤ 140737488355328) :
    Calls Tryz.prog 76 #[tbV b A n c B m d x k, kyV y] w (LtQ w (fd sl y m)) := by
  obtain ⟨g, HG⟩ : ∃ g, Hid (w.heap.size + 2 = g) := ⟨_, Lib.hid rfl⟩
  have hm : m ≤ 1024 := by have := hok.len.1; rw [hr.len] at this; exact this
  have CH : Hid (∀ w', w'.heap[g]? = some (.cells Z8 T8 (0, 0)) → Below w.heap.size w w' → Calls Tryz.prog 149 #[.slice (some ⟨g, 0, none⟩) 0 8, tbV b A n c B m d x k, kyV y] w' (ChQ w' g m sl y)) := Lib.hid fun w' h8 hb => by
    have hr' : TbIn w' (fun b => b < w.heap.size) l sl A n c B m d x k := ⟨hr.heads.below hb, hr.hn, hr.len, hr.cap, hr.slots.lt'.below hb, hr.next, hr.count⟩
    cases b with
    | false => exact chain_f w' hr' hok y g Z8 h8 rfl
    | true => exact chain_t w' hr' hok y hys g (fun b hb2 => by have := HG.out; omega) Z8 h8 rfl
  have HS := Lib.hid hr.slots
  have HLN := Lib.hid hr.len
  obtain ⟨W, HW⟩ : ∃ W, Hid (fd sl y m = W) := ⟨_, Lib.hid rfl⟩
  rw [HW.out]
  obtain ⟨yb, yn, ys⟩ := y
  unfold kyV at CH ⊢
  simp only at CH
  clear hr hok hys
  go_enter Tryz.func76, Tryz.ntmps76
  go_upto_region 2 with fail
  generalize hw0 : ((w.alloc (.cells #[.bool b, .slice A n c, .slice B m d, .int .i64 x, .int .i64 k] IT)).alloc (.cells #[.bool yb, .int .i64 yn, .string ys] 29)).alloc (.cells Z8 T8) = w0
  have hA : w0.heap[w.heap.size]? = some (.cells #[.bool b, .slice A n c, .slice B m d, .int .i64 x, .int .i64 k] IT (0, 0)) := hw0 ▸ keepAlloc (heap_alloc2_old w _ _)
  have hY : w0.heap[w.heap.size + 1]? = some (.cells #[.bool yb, .int .i64 yn, .string ys] 29 (0, 0)) := hw0 ▸ keepAlloc (heap_alloc2_new w _ _)
  have hZ : w0.heap[g]? = some (.cells Z8 T8 (0, 0)) := by
    rw [← hw0, ← HG.out]
    have := heap_alloc_new ((w.alloc (.cells #[.bool b, .slice A n c, .slice B m d, .int .i64 x, .int .i64 k] IT)).alloc (.cells #[.bool yb, .int .i64 yn, .string ys] 29)) (.cells Z8 T8)
    rwa [show ((w.alloc (.cells #[.bool b, .slice A n c, .slice B m d, .int .i64 x, .int .i64 k] IT)).alloc (.cells #[.bool yb, .int .i64 yn, .string ys] 29)).heap.size = w.heap.size + 2 by simp] at this
  have hb0 : Below w.heap.size w w0 := hw0 ▸ bs (b2 _ _ _) (b1 _ _)
  have HA := Lib.hid hA
  have HY := Lib.hid hY
  have HZ := Lib.hid hZ
  have HB := Lib.hid hb0
  have r0 := (rowc HA.out).1
  have y0 := r0 0; have y1 := r0 1; have y2 := r0 2; have y3 := r0 3; have y4 := r0 4
  have r1 := (rowc HY.out).1
  have z0 := r1 0; have z1 := r1 1; have z2 := r1 2
  simp at y0 y1 y2 y3 y4 z0 z1 z2
  rw [HG.out]
  clear hw0 hA hY hZ hb0 r0 r1
  go_wp2_with (fail)
  go_region_held3 (fun w' => w'.cell? ⟨w.heap.size, 0, none⟩ = some (.bool b) ∧ w'.cell? ⟨w.heap.size, 1, none⟩ = some (.slice A n c) ∧ w'.cell? ⟨w.heap.size, 2, none⟩ = some (.slice B m d) ∧ w'.cell? ⟨w.heap.size, 3, none⟩ = some (.int .i64 x) ∧ w'.cell? ⟨w.heap.size, 4, none⟩ = some (.int .i64 k) ∧ w'.cell? ⟨w.heap.size + 1, 0, none⟩ = some (.bool yb) ∧ w'.cell? ⟨w.heap.size + 1, 1, none⟩ = some (.int .i64 yn) ∧ w'.cell? ⟨w.heap.size + 1, 2, none⟩ = some (.string ys)) (first | go_keep | exact ⟨y0, y1, y2, y3, y4, z0, z1, z2⟩) (first
    | (go_at_call 149; refine (CH.out w0.drew HZ.out HB.out.drew).mono ?_
       rintro e w1 ⟨A1, L1, c1, r, rfl, hoc, hri, hsr, hL1, hg1⟩
       have hgs := HG.out
       have HA1 := Lib.hid ((hg1.block _ (Array.getElem?_eq_some_iff.1 HA.out).1 (fun e => by have := Option.some.inj e; omega)).trans HA.out)
       have HY1 := Lib.hid ((hg1.block _ (Array.getElem?_eq_some_iff.1 HY.out).1 (fun e => by have := Option.some.inj e; omega)).trans HY.out)
       have HB1 := Lib.hid (HB.out.drew.grown hg1 HB.out.drew.size (fun j e => by have := Option.some.inj e; omega))
       have HRD := Lib.hid hoc.rd
       have HRI := Lib.hid hri
       have HSR := Lib.hid (hsr.trans HW.out)
       have r0 := (rowc HA1.out).1
       have y0 := r0 0; have y1 := r0 1; have y2 := r0 2; have y3 := r0 3; have y4 := r0 4
       have r1 := (rowc HY1.out).1
       have z0 := r1 0; have z1 := r1 1; have z2 := r1 2
       simp at y0 y1 y2 y3 y4 z0 z1 z2
       clear hoc hri hsr hg1 r0 r1 hgs))
  clear y0 y1 y2 y3 y4 z0 z1 z2
  go_wp2_with (fail)
  go_loopg [13] (L1 + 1) (fun gk s wr => ∃ j : Nat, s = .int .i64 j ∧ gk + j = L1 + 1 ∧ j ≤ L1 ∧ Hid (sr sl ⟨yb, yn, ys⟩ (r.drop j) = W) ∧ Hid (Below w1.heap.size w1 wr))
  case atStart => exact ⟨0, rfl, by omega, by omega, HSR, Lib.hid (Below.refl _ _)⟩
  case round =>
    obtain ⟨j, rfl, hgj, hjL, HQ, HX⟩ := hrel
    have HAx := Lib.hid (carry HX.out HA1.out)
    have HYx := Lib.hid (carry HX.out HY1.out)
    have HBx := Lib.hid (bs HB1.out HX.out)
    by_cases hlt : j < L1
    · obtain ⟨ar, v, rfl, hv, hcv⟩ := (HRD.out.below HX.out).at_ hlt
      obtain ⟨i, rfl, him⟩ : ∃ i : Nat, v = i ∧ i < m := by
        have := HRI.out v (List.mem_of_getElem? hv)
        exact ⟨v.toNat, by omega, by omega⟩
      obtain ⟨t, ht⟩ : ∃ t, sl[i]? = some t := ⟨_, List.getElem?_eq_getElem (by have := HLN.out; omega)⟩
      have HD : Hid ((if t.live = true ∧ t.key = ⟨yb, yn, ys⟩ then (i : Int) else sr sl ⟨yb, yn, ys⟩ (r.drop (j + 1))) = W) := Lib.hid (by
        have h := HQ.out
        obtain ⟨hj, e⟩ := List.getElem?_eq_some_iff.1 hv
        rw [List.drop_eq_getElem_cons hj, e, sr_cons ht] at h
        exact h)
      obtain ⟨a2, k2, n2, s2, x2, ks2, vs2, A2, c2, ea, -, -, -, -, -, hcell⟩ := HS.out i t ht
      subst ea
      have hc10 := hcell.stays (w' := wr) (fun hl => HBx.out.block _ hl)
      obtain ⟨⟨y2b, y2n, y2s⟩, tv2, tb2, tl2⟩ := t
      have NE := fun w => ky_eql w ⟨y2b, y2n, y2s⟩ ⟨yb, yn, ys⟩
      obtain ⟨q9, HQ9⟩ : ∃ q, Hid (decide ((⟨y2b, y2n, y2s⟩ : Ky) = ⟨yb, yn, ys⟩) = q) := ⟨_, Lib.hid rfl⟩
      rw [HQ9.out] at NE
      unfold kyV at NE
      simp only at NE
      obtain ⟨p0, p1, p2, -, -, -, -, -, p8, -⟩ := hc10
      simp only at p0 p1 p2 p8
      have y2 := (rowc HAx.out).1 2
      have r1 := (rowc HYx.out).1
      have z0 := r1 0; have z1 := r1 1; have z2 := r1 2
      simp at y2 z0 z1 z2
      have him2 : (i : Int) < (m : Int) := by omega
      clear hv ht hcell r1
      cases tb2 with
      | false =>
        have HN : Hid (sr sl ⟨yb, yn, ys⟩ (r.drop (j + 1)) = W) := Lib.hid (by have := HD.out; simpa using this)
        go_wp2_with (fail)
        go_quiet ((fail))
        go_wp2_with (fail)
        go_roundg (L1 - j)
        case rel => exact ⟨j + 1, by go_num, by omega, by omega, HN, Lib.hid (bs HX.out (kbelow_drew _ _))⟩
        case measure => omega
      | true =>
        cases q9 with
        | false =>
          have HN : Hid (sr sl ⟨yb, yn, ys⟩ (r.drop (j + 1)) = W) := Lib.hid (by
            have h := HD.out
            rw [if_neg (fun h => of_decide_eq_false HQ9.out h.2)] at h
            exact h)
          go_wp2_with (fail)
          go_quiet ((fail))
          go_wp2_with (fail)
          go_roundg (L1 - j)
          case rel => exact ⟨j + 1, by go_num, by omega, by omega, HN, Lib.hid (bs HX.out (kbelow_drew _ _))⟩
          case measure => omega
        | true =>
          have HN : Hid ((i : Int) = W) := Lib.hid (by
            have h := HD.out
            rw [if_pos ⟨rfl, of_decide_eq_true HQ9.out⟩] at h
            exact h)
          go_wp2_with (fail)
          go_quiet ((fail))
          go_wp2_with (fail)
          go_ret
          exact ⟨by rw [← HN.out]; rfl, bs HBx.out (kbelow_drew _ _)⟩
    · obtain rfl : j = L1 := by omega
      have HN : Hid (-1 = W) := Lib.hid (by
        have h := HQ.out
        rw [List.drop_eq_nil_of_le (Nat.le_of_eq HRD.out.len)] at h
        exact h)
      go_wp2_with (fail)
      go_ret
      exact ⟨by rw [← HN.out]; rfl, HBx.out⟩

def FsQ (w : World) (p : Prop) (z : Int) (e : Ending) (w' : World) : Prop := ∃ v : Int, e = .returned (.int .i64 v) ∧ ((p ∧ v = z) ∨ (¬ p ∧ v = -1)) ∧ Below w.heap.size w w'
theorem findTable_i {l : List Int} {sl : List Sl} {b : Bool} {A : Option Addr} {n c : Nat} {B : Option Addr} {m d : Nat} {x k : Int} (w : World) {S : Nat → Prop} (hr : TbIn w S l sl A n c B m d x k) (hn : n ≤ 1048576) (hm : m ≤ 1048576) (hst : SlB sl) (hE : prs.Env w) (y : Ky) (hys : y.str.size ≤ 140737488355328) :
    Calls Tryz.prog 23 #[tbV b A n c B m d x k, kyV y] w (FsQ w (tabOk b l sl x k) (fd sl y m)) := by
  have TR : Hid (∀ w', Below w.heap.size w w' → TbIn w' S l sl A n c B m d x k) := Lib.hid fun w' hb => ⟨hr.heads.below hb, hr.hn, hr.len, hr.cap, hr.slots.below hb, hr.next, hr.count⟩
  have IS : Hid (∀ w', Below w.heap.size w w' → Calls Tryz.prog 60 #[tbV b A n c B m d x k] w' (BoP w' (tabOk b l sl x k))) := Lib.hid fun w' hb => isTable_i w' (TR.out w' hb) hn hm hst (hE.stays hb)
  have FI : Hid (tabOk b l sl x k → ∀ w', Below w.heap.size w w' → Calls Tryz.prog 76 #[tbV b A n c B m d x k, kyV y] w' (LtQ w' (fd sl y m))) := Lib.hid fun hok w' hb => findSlot_i w' (TR.out w' hb) hok y hys
  obtain ⟨W, HW⟩ : ∃ W, Hid (fd sl y m = W) := ⟨_, Lib.hid rfl⟩
  rw [HW.out] at FI ⊢
  obtain ⟨yb, yn, ys⟩ := y
  unfold kyV at FI ⊢
  simp only at FI
  clear hr hst hE hys TR
  go_enter Tryz.func23, Tryz.ntmps23
  go_wp2_with (fail)
  refine (IS.out _ (b2 _ _ _)).mono ?_
  rintro e w1 ⟨q, rfl, hq, hb⟩
  have HA := Lib.hid (carry hb (heap_alloc2_old w _ _))
  have HY := Lib.hid (carry hb (heap_alloc2_new w _ _))
  have HB := Lib.hid (bs (b2 _ _ _) hb)
  have HQ := Lib.hid hq
  have r0 := (rowc HA.out).1
  have y0 := r0 0; have y1 := r0 1; have y2 := r0 2; have y3 := r0 3; have y4 := r0 4
  have r1 := (rowc HY.out).1
  have z0 := r1 0; have z1 := r1 1; have z2 := r1 2
  simp at y0 y1 y2 y3 y4 z0 z1 z2
  clear hb hq r0 r1 IS
  cases q with
  | false =>
    have HF : Hid (¬ tabOk b l sl x k) := Lib.hid (fun h => by have := HQ.out.2 h; cases this)
    go_wp2_with (fail)
    go_ret
    exact ⟨-1, rfl, .inr ⟨HF.out, rfl⟩, HB.out⟩
  | true =>
    have HF : Hid (tabOk b l sl x k) := Lib.hid (HQ.out.1 rfl)
    go_wp2_with (fail)
    refine (FI.out HF.out _ HB.out).mono ?_
    rintro e w2 ⟨rfl, hb⟩
    replace HB := Lib.hid (bs HB.out hb)
    clear hb y0 y1 y2 y3 y4 z0 z1 z2
    go_wp2_with (fail)
    go_ret
    exact ⟨W, rfl, .inl ⟨HF.out, rfl⟩, HB.out⟩

end Go.Proofs.YtdglmnmalfpipaaGreatDoor.tree

