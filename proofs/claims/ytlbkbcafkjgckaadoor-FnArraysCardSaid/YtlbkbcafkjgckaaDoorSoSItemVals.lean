/-
  The values of a row of items, each of which hangs apart (itemValues of the project).
  Conditions: at most 2^20 and two items.
-/
import Derived.Test.YtlbkbcafkjgckaaDoorSoB2
import Derived.Test.YtlbkbcafkjgckaaDoorCmB7
namespace Go.Proofs.YtlbkbcafkjgckaaDoor.tree
open Go.ChangeShapes Go.WideShapes Go.ChangeAt Go.RowKit
set_option linter.unusedVariables false

def blkOf : Option Addr → Nat
  | some a => a.block
  | none => 0
/-- The first j values of a row of items in block g. -/
def VP5 (w : World) (par : Nat → Nat × Nat) (g : Nat) (vs : List Tr) (arr : Array Value) (j : Nat) : Prop :=
  ∀ i, i < j → ∃ k n s x ks' vs' A' c', vs[i]? = some (.mk k n s x ks' vs') ∧ TPar w par (g, i) (.mk k n s x ks' vs') (vV k n s x A' vs'.length c') ∧ ∀ q, q < 5 → arr[i * 5 + q]? = (#[.int .i64 k, .int .i64 n, .string s, .int .i64 x, .slice A' vs'.length c'] : Array Value)[q]?
theorem VP5.more {w : World} {par : Nat → Nat × Nat} {g : Nat} {vs : List Tr} {arr : Array Value} {j : Nat} (h : VP5 w par g vs arr j) (hs : j * 5 + 5 ≤ arr.size) {k n x : Int} {s : ByteArray} {ks' : List Ky} {vs' : List Tr} {A' : Option Addr} {c' : Nat} (hv : vs[j]? = some (.mk k n s x ks' vs')) (hT : TPar w par (g, j) (.mk k n s x ks' vs') (vV k n s x A' vs'.length c')) :
    VP5 w par g vs (set5 arr (j * 5) (.int .i64 k) (.int .i64 n) (.string s) (.int .i64 x) (.slice A' vs'.length c')) (j + 1) := by
  intro i hi
  by_cases e : i = j
  · subst e
    exact ⟨k, n, s, x, ks', vs', A', c', hv, hT, fun q hq => set5_in _ _ _ _ _ _ _ hs q hq⟩
  · obtain ⟨k2, n2, s2, x2, ks2, vs2, A2, c2, e1, e2, e3⟩ := h i (by omega)
    exact ⟨k2, n2, s2, x2, ks2, vs2, A2, c2, e1, e2, fun q hq => by rw [set5_out _ _ _ _ _ _ _ _ (by omega)]; exact e3 q hq⟩
theorem run_f4 (k n : Int) (s : ByteArray) (x : Int) (A : Option Addr) (L c : Nat) (W : World) : (Instr.field IV (vV k n s x A L c) 4).run Tryd.prog W = .ok (.slice A L c) W := by kernel_rfl
def VoQ (w : World) (vs : List Tr) (e : Ending) (w' : World) : Prop := ∃ v par h hi, e = .returned v ∧ VRow w' par h w.heap.size hi v vs ∧ hi ≤ w'.heap.size ∧ Below w.heap.size w w'
def IvQ (w : World) (par : Nat → Nat × Nat) (h lo : Nat) (vs : List Tr) (e : Ending) (w' : World) : Prop := ∃ v, e = .returned v ∧ VRow w' par h lo w.heap.size v vs ∧ Below w.heap.size w w'

set_option maxRecDepth 100000 in
set_option maxHeartbeats 2000000 in
theorem itemValues_i (ks : List Ky) (vs : List Tr) (A : Option Addr) (c : Nat) (w : World) (par : Nat → Nat × Nat) (R lo : Nat) (hm : vs.length ≤ 1048578) (hR : lo ≤ R) (hlw : lo ≤ w.heap.size)
    (hblk : 0 < vs.length → ∃ g, A = some ⟨g, 0, none⟩ ∧ par g = (R, 0) ∧ R < g ∧ PBlk w par g ks vs) (hhg : ∀ b, Hang par (R, 0) b → Rg (R + 1) w.heap.size b) :
    Calls Tryd.prog 68 #[.slice A vs.length c] w (IvQ w par (blkOf A) lo vs) := by
  obtain ⟨L, HL⟩ : ∃ L, Hid (vs.length = L) := ⟨_, Lib.hid rfl⟩
  rw [HL.out] at hm ⊢
  obtain ⟨i0, hi, hz⟩ := iv_info'
  have hmk := run_make (P := Tryd.prog) w 43 IV i0 _ Tryd.underlying43 hi hz.1 .i64 .i64 L L (by omega) (Int.le_refl _) (by rw [hz.2.2]; omega) (by omega)
  rw [hz.2.1] at hmk
  simp only [Int.toNat_natCast] at hmk
  obtain ⟨arr0, HA⟩ : ∃ a, Hid (a = madeCells (Value.agg #[.int .i64 0, .int .i64 0, .string ⟨#[]⟩, .int .i64 0, .slice none 0 0]).cells (L * 5)) := ⟨_, Lib.hid rfl⟩
  rw [← HA.out] at hmk
  have HSZ0 : Hid (arr0.size = L * 5) := Lib.hid (by rw [HA.out, madeSize])
  have HBLK := Lib.hid hblk
  have HHG := Lib.hid hhg
  have HRR := Lib.hid hR
  have HLW := Lib.hid hlw
  clear hblk hhg hi hz hR hlw
  go_enter Tryd.func68, Tryd.ntmps68
  go_wp2_with (fail)
  obtain ⟨N, HN⟩ : ∃ N, Hid (N = w.heap.size) := ⟨_, Lib.hid rfl⟩
  go_loopg [11] (L + 1) (fun gk i wr => ∃ (j : Nat) (arr : Array Value), i = .int .i64 j ∧ gk + j = L + 1 ∧ j ≤ L ∧ Hid (wr.heap[w.heap.size]? = some (.cells arr IV (0, 0))) ∧ Hid (arr.size = L * 5) ∧ Hid (∀ g, A = some ⟨g, 0, none⟩ → VP5 w par g vs arr j) ∧ Hid (Below w.heap.size w wr))
  case atStart => exact ⟨0, arr0, rfl, by omega, by omega, Lib.hid (heap_alloc_new w _), HSZ0, Lib.hid (fun g _ i hi => absurd hi (by omega)), Lib.hid (b1 w _)⟩
  case round =>
    obtain ⟨j, arr, rfl, hgj, hjL, HG, HSZ, HX, HB⟩ := hrel
    by_cases hlt : j < L
    · obtain ⟨g0, rfl, hpar, hlt0, arr2, hg0, hs2, hi2⟩ := HBLK.out (by rw [HL.out]; omega)
      obtain ⟨y, k1, n1, s1, x1, ks1, vs1, A1, c1, hky, hvs, hyb, hat, htp⟩ := hi2 j (by rw [HL.out]; exact hlt)
      have hgl : g0 < w.heap.size := (Array.getElem?_eq_some_iff.1 hg0).1
      have hgr : wr.heap[g0]? = some (.cells arr2 IE (0, 0)) := (HB.out.block g0 hgl).trans hg0
      obtain ⟨rr, ff⟩ := rowc hgr
      have pc : ∀ q, q < 8 → wr.cell? ⟨g0, j * 8 + q, none⟩ = (eV y k1 n1 s1 x1 A1 vs1.length c1).cells[q]? := fun q hq => (rr _).trans (hat q hq)
      have HLM := Lib.hid ((HX.out g0 rfl).more (by have := HSZ.out; omega) hvs htp)
      obtain ⟨L1, HL1⟩ : ∃ L1, Hid (vs1.length = L1) := ⟨_, Lib.hid rfl⟩
      rw [HL1.out] at pc HLM
      obtain ⟨yb, yn, ys⟩ := y
      have p0 := pc 0 (by omega)
      have p1 := pc 1 (by omega)
      have p2 := pc 2 (by omega)
      have p3 := pc 3 (by omega)
      have p4 := pc 4 (by omega)
      have p5 := pc 5 (by omega)
      have p6 := pc 6 (by omega)
      have p7 := pc 7 (by omega)
      rw [Nat.add_zero] at p0
      simp only [Value.cells, List.getElem?_toArray, List.getElem?_cons_zero, List.getElem?_cons_succ] at p0 p1 p2 p3 p4 p5 p6 p7
      obtain ⟨rg, fg⟩ := rowc (keepAlloc (o' := .cells #[.bool yb, .int .i64 yn, .string ys, .int .i64 k1, .int .i64 n1, .string s1, .int .i64 x1, .slice A1 L1 c1] IE) HG.out)
      have hz := HSZ.out
      have gx : ∀ q, q < 5 → ∃ u, (wr.alloc (.cells #[.bool yb, .int .i64 yn, .string ys, .int .i64 k1, .int .i64 n1, .string s1, .int .i64 x1, .slice A1 L1 c1] IE)).cell? ⟨w.heap.size, j * 5 + q, none⟩ = some u := fun q hq => ⟨_, (rg _).trans (Array.getElem?_eq_getElem (by omega))⟩
      obtain ⟨y0, z0⟩ := gx 0 (by omega)
      obtain ⟨y1, z1⟩ := gx 1 (by omega)
      obtain ⟨y2, z2⟩ := gx 2 (by omega)
      obtain ⟨y3, z3⟩ := gx 3 (by omega)
      obtain ⟨y4, z4⟩ := gx 4 (by omega)
      simp only [Nat.add_zero] at z0
      clear rr ff pc hat hs2 hi2 hky hvs hyb htp hpar hlt0 hg0 hgr hgl rg gx
      go_wp2_with (fail)
      go_roundg (L - j)
      case rel =>
        refine ⟨j + 1, _, by go_num, by omega, by omega, Lib.hid (set5_heap (keepAlloc HG.out) _ _ _ _ _ _), Lib.hid (by rw [set5_size]; exact HSZ.out), Lib.hid (fun g e => ?_), Lib.hid ?_⟩
        · obtain rfl : g0 = g := by simpa using e
          exact HLM.out
        · iterate 5 refine Below.setCell ?_ (show w.heap.size ≤ w.heap.size by omega) _
          exact bs HB.out (b1 wr _)
      case measure => omega
    · obtain rfl : j = L := by omega
      have HVR : Hid (VRow wr par (blkOf A) lo w.heap.size (.slice (some ⟨w.heap.size, 0, none⟩) j j) vs) := Lib.hid (by
        have hgs : w.heap.size < wr.heap.size := (Array.getElem?_eq_some_iff.1 HG.out).1
        rcases Nat.eq_zero_or_pos j with h0 | h0
        · subst h0
          exact .inl ⟨_, 0, rfl, List.length_eq_zero_iff.1 HL.out, fun b hb => by
            simp [Value.ownBlock] at hb
            subst hb
            exact ⟨HLW.out, hgs⟩⟩
        · obtain ⟨g0, rfl, hpar, hlt0, arr2, hg0, hs2, hi2⟩ := HBLK.out (by rw [HL.out]; exact h0)
          refine .inr ⟨w.heap.size, j, by rw [HL.out], ⟨HLW.out, by rw [HL.out]; exact ⟨Nat.le_refl _, by unfold maxLen; omega⟩, ⟨arr, HG.out, HSZ.out, fun i t ht => ?_⟩, fun i hi b hb => ?_⟩⟩
          · have hil := (List.getElem?_eq_some_iff.1 ht).1
            rw [HL.out] at hil
            obtain ⟨k, n, s, x, ks', vs', A, c, e3, e5, e4⟩ := HX.out g0 rfl i hil
            rw [ht] at e3
            obtain rfl := Option.some.inj e3
            exact ⟨k, n, s, x, ks', vs', A, c, rfl, e4, e5.keep fun b hb hl => HB.out.block b hl⟩
          · have := HHG.out b (hb.sub hpar hlt0)
            have := HRR.out
            unfold Rg at *
            omega)
      clear HX
      go_wp2_with (fail)
      go_ret
      exact ⟨_, rfl, HVR.out, HB.out⟩

end Go.Proofs.YtlbkbcafkjgckaaDoor.tree

