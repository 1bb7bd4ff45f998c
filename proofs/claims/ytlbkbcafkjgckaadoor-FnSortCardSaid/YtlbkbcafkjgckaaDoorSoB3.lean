/-
  What the texts behind this one use: 3 parts of one proof.
  Conditions: those that each theorem names.
-/
import Derived.Test.YtlbkbcafkjgckaaDoorSoSCopyV
import Derived.Test.YtlbkbcafkjgckaaDoorCmSVals
import Derived.Test.YtlbkbcafkjgckaaDoorSoB2
import Derived.Test.YtlbkbcafkjgckaaDoorCmB4
import Derived.Test.YtlbkbcafkjgckaaDoorCmSCopyS
import Derived.Test.YtlbkbcafkjgckaaDoorCmSListT
import Derived.Test.YtlbkbcafkjgckaaDoorSoSSortI
import Derived.Test.YtlbkbcafkjgckaaDoorSoSItemVals
/-
  ListOf of the project.
  Conditions: the values hold at most 2^20 and one items and 10^9 letters.
-/
namespace Go.Proofs.YtlbkbcafkjgckaaDoor.tree
open Go.ChangeShapes Go.WideShapes Go.ChangeAt Go.RowKit
set_option linter.unusedVariables false

/-- The keys of a list of n values. -/
def lKeys (n : Nat) : List Ky := (List.range n).map fun (i : Nat) => ⟨false, (i : Int), ⟨#[]⟩⟩
theorem lKeys_len (n : Nat) : (lKeys n).length = n := by simp [lKeys]
theorem lKeys_get {n i : Nat} (h : i < n) : (lKeys n)[i]? = some ⟨false, (i : Int), ⟨#[]⟩⟩ := by
  unfold lKeys
  rw [List.getElem?_map, List.getElem?_range h]
  rfl
/-- The array of a list of values. -/
def listT (vs : List Tr) : Tr := .mk 4 0 ⟨#[]⟩ vs.length (lKeys vs.length) vs
def LiAt (w : World) (S : Nat → Prop) (vs : List Tr) (arr : Array Value) (j : Nat) : Prop :=
  ∀ i, i < j → ∃ k n s x ks' vs' A' c', vs[i]? = some (.mk k n s x ks' vs') ∧ TIn w S (.mk k n s x ks' vs') (vV k n s x A' vs'.length c') ∧ At8r arr i ⟨false, (i : Int), ⟨#[]⟩⟩ k n s x A' vs'.length c'
theorem LiAt.more {w : World} {S : Nat → Prop} {vs : List Tr} {arr : Array Value} {j : Nat} (h : LiAt w S vs arr j) (hs : j * 8 + 8 ≤ arr.size) {k n x : Int} {s : ByteArray} {ks' : List Ky} {vs' : List Tr} {A' : Option Addr} {c' : Nat} (hv : vs[j]? = some (.mk k n s x ks' vs')) (hT : TIn w S (.mk k n s x ks' vs') (vV k n s x A' vs'.length c')) :
    LiAt w S vs (set8 arr (j * 8) (.bool false) (.int .i64 j) (.string ⟨#[]⟩) (.int .i64 k) (.int .i64 n) (.string s) (.int .i64 x) (.slice A' vs'.length c')) (j + 1) := by
  intro i hi
  by_cases e : i = j
  · subst e
    exact ⟨k, n, s, x, ks', vs', A', c', hv, hT, fun q hq => by rw [set8_in _ _ _ _ _ _ _ _ _ _ hs q hq]; rfl⟩
  · obtain ⟨k2, n2, s2, x2, ks2, vs2, A2, c2, e1, e2, e3⟩ := h i (by omega)
    exact ⟨k2, n2, s2, x2, ks2, vs2, A2, c2, e1, e2, fun q hq => by rw [set8_out _ _ _ _ _ _ _ _ _ _ _ (by omega)]; exact e3 q hq⟩
theorem LiAt.isin {w w' : World} {vs : List Tr} {arr : Array Value} {g : Nat} (h : LiAt w (Nw 0 w) vs arr vs.length) (hg : w'.heap[g]? = some (.cells arr IE (0, 0))) (hb : Below w.heap.size w w') (hm : vs.length ≤ maxLen) : IsIn w' (Nw 0 w') (lKeys vs.length) vs (some ⟨g, 0, none⟩) :=
  isin_row hg ⟨Nat.zero_le _, _, _, hg⟩ (lKeys_len _) hm fun i hi => by
    obtain ⟨k, n, s, x, ks', vs', A', c', e1, e2, e3⟩ := h i hi
    exact ⟨_, k, n, s, x, ks', vs', A', c', lKeys_get hi, e1, ⟨by unfold maxLen at hm; unfold I64; show _ ≤ (i : Int) ∧ (i : Int) ≤ _; omega, Nat.zero_le _⟩, e3, e2.nwb hb⟩
theorem set8_heap {W : World} {g : Nat} {arr : Array Value} {t : TypeId} (h : W.heap[g]? = some (.cells arr t (0, 0))) (o : Nat) (c0 c1 c2 c3 c4 c5 c6 c7 : Value) :
    ((((((((W.setCell ⟨g, o, none⟩ c0).setCell ⟨g, o + 1, none⟩ c1).setCell ⟨g, o + 2, none⟩ c2).setCell ⟨g, o + 3, none⟩ c3).setCell ⟨g, o + 4, none⟩ c4).setCell ⟨g, o + 5, none⟩ c5).setCell ⟨g, o + 6, none⟩ c6).setCell ⟨g, o + 7, none⟩ c7).heap[g]? = some (.cells (set8 arr o c0 c1 c2 c3 c4 c5 c6 c7) t (0, 0)) :=
  set_heap (set_heap (set_heap (set_heap (set_heap (set_heap (set_heap (set_heap h _ _) _ _) _ _) _ _) _ _) _ _) _ _) _ _

theorem set8_other {W : World} {g k : Nat} (h : k ≠ g) (o : Nat) (c0 c1 c2 c3 c4 c5 c6 c7 : Value) :
    ((((((((W.setCell ⟨g, o, none⟩ c0).setCell ⟨g, o + 1, none⟩ c1).setCell ⟨g, o + 2, none⟩ c2).setCell ⟨g, o + 3, none⟩ c3).setCell ⟨g, o + 4, none⟩ c4).setCell ⟨g, o + 5, none⟩ c5).setCell ⟨g, o + 6, none⟩ c6).setCell ⟨g, o + 7, none⟩ c7).heap[k]? = W.heap[k]? := by
  iterate 8 refine (set_other h).trans ?_
  rfl

set_option maxRecDepth 100000 in
set_option maxHeartbeats 2000000 in
theorem listOf_i (vs : List Tr) (A : Option Addr) (c : Nat) (w : World) (h : VIn w (Nw 0 w) vs A) (hN : cnt (listT vs) ≤ 1048578) (hT : tot (listT vs) ≤ 1000000000) : Calls Tryd.prog 74 #[.slice A vs.length c] w (CvQ w (listT vs)) := by
  have hlen : vs.length ≤ 1048578 := by have := cnts_len vs; unfold listT at hN; rw [cnt_mk'] at hN; omega
  have CV : Hid (∀ w' g arr, w'.heap[g]? = some (.cells arr IE (0, 0)) → Below w.heap.size w w' → LiAt w (Nw 0 w) vs arr vs.length → Calls Tryd.prog 64 #[vV 4 0 ⟨#[]⟩ vs.length (some ⟨g, 0, none⟩) vs.length vs.length] w' (CvQ w' (listT vs))) := Lib.hid (fun w' g arr hg hb hl => copyValue _ _ _ 0 (TIn.of vs.length ⟨by unfold I64; omega, by unfold I64; omega, by unfold I64; omega, Nat.zero_le _⟩ (hl.isin hg hb (by unfold maxLen; omega)) ⟨Nat.le_refl _, by unfold maxLen; omega⟩) hN hT)
  obtain ⟨L, HL⟩ : ∃ L, Hid (vs.length = L) := ⟨_, Lib.hid rfl⟩
  rw [HL.out] at CV hlen ⊢
  obtain ⟨i0, hi, hz⟩ := ie_info
  have hmk := run_make (P := Tryd.prog) (w.alloc (.cells #[.int .i64 0, .int .i64 0, .string ⟨#[]⟩, .int .i64 0, .slice none 0 0] IV)) 24 IE i0 _ Tryd.underlying24 hi hz.1 .i64 .i64 L L (by omega) (Int.le_refl _) (by rw [hz.2.2]; omega) (by omega)
  rw [hz.2.1] at hmk
  simp only [Int.toNat_natCast] at hmk
  obtain ⟨arr0, HA⟩ : ∃ a, Hid (a = madeCells (Value.agg #[.bool false, .int .i64 0, .string ⟨#[]⟩, .int .i64 0, .int .i64 0, .string ⟨#[]⟩, .int .i64 0, .slice none 0 0]).cells (L * 8)) := ⟨_, Lib.hid rfl⟩
  rw [← HA.out] at hmk
  have HSZ0 : Hid (arr0.size = L * 8) := Lib.hid (by rw [HA.out, madeSize])
  have HV := Lib.hid h
  clear h hN hT hi hz
  go_enter Tryd.func74, Tryd.ntmps74
  go_wp2_with (fail)
  obtain ⟨N, HN⟩ : ∃ N, Hid (N = w.heap.size) := ⟨_, Lib.hid rfl⟩
  go_loopg [11] (L + 1) (fun gk i wr => ∃ (j : Nat) (arr : Array Value), i = .int .i64 j ∧ gk + j = L + 1 ∧ j ≤ L ∧ Hid (wr.heap[w.heap.size]? = some (.cells #[.int .i64 0, .int .i64 0, .string ⟨#[]⟩, .int .i64 0, .slice none 0 0] IV (0, 0))) ∧ Hid (wr.heap[w.heap.size + 1]? = some (.cells arr IE (0, 0))) ∧ Hid (arr.size = L * 8) ∧ Hid (LiAt w (Nw 0 w) vs arr j) ∧ Hid (Below w.heap.size w wr))
  case atStart =>
    refine ⟨0, arr0, rfl, by omega, by omega, Lib.hid (keepAlloc (heap_alloc_new w _)), Lib.hid (by have := heap_alloc_new (w.alloc (.cells #[.int .i64 0, .int .i64 0, .string ⟨#[]⟩, .int .i64 0, .slice none 0 0] IV)) (.cells arr0 IE); rwa [show (w.alloc (.cells #[.int .i64 0, .int .i64 0, .string ⟨#[]⟩, .int .i64 0, .slice none 0 0] IV)).heap.size = w.heap.size + 1 by simp] at this), HSZ0, Lib.hid (fun i hi => absurd hi (by omega)), Lib.hid (b2 _ _ _)⟩
  case round =>
    obtain ⟨j, arr, rfl, hgj, hjL, HBX, HG, HSZ, HLI, HB⟩ := hrel
    by_cases hlt : j < L
    · obtain ⟨t, ht⟩ : ∃ t, vs[j]? = some t := ⟨_, List.getElem?_eq_getElem (by rw [HL.out]; exact hlt)⟩
      obtain ⟨a, k, n, s, x, ks', vs', A1, c1, rfl, -, rfl, hT, hcell⟩ := HV.out.below HB.out j t ht
      have hT0 : TIn w (Nw 0 w) (.mk k n s x ks' vs') (vV k n s x A1 vs'.length c1) := by
        obtain ⟨a2, k2, n2, s2, x2, ks2, vs2, A2, c2, e, -, e1, hT2, hcell2⟩ := HV.out j _ ht
        obtain rfl := Option.some.inj e
        obtain ⟨rfl, rfl, rfl, rfl, rfl, rfl⟩ : k = k2 ∧ n = n2 ∧ s = s2 ∧ x = x2 ∧ ks' = ks2 ∧ vs' = vs2 := by simpa using e1
        have h4 := hcell.c4
        have h5 := (hcell2.below HB.out).c4
        rw [h4] at h5
        obtain ⟨rfl, rfl⟩ : A1 = A2 ∧ c1 = c2 := by simpa using h5
        exact hT2
      obtain ⟨L1, HL1⟩ : ∃ L1, Hid (vs'.length = L1) := ⟨_, Lib.hid rfl⟩
      have HLM := Lib.hid (HLI.out.more (by have := HSZ.out; omega) ht hT0)
      rw [HL1.out] at hcell HLM
      obtain ⟨p0, p1, p2, p3, p4⟩ := hcell
      obtain ⟨rg, fg⟩ := rowc (keepAlloc (o' := .cells #[.int .i64 k, .int .i64 n, .string s, .int .i64 x, .slice A1 L1 c1] 26) HG.out)
      have hz := HSZ.out
      have gx : ∀ q, q < 8 → ∃ u, (wr.alloc (.cells #[.int .i64 k, .int .i64 n, .string s, .int .i64 x, .slice A1 L1 c1] 26)).cell? ⟨w.heap.size + 1, j * 8 + q, none⟩ = some u := fun q hq => ⟨_, (rg _).trans (Array.getElem?_eq_getElem (by omega))⟩
      obtain ⟨y0, z0⟩ := gx 0 (by omega)
      obtain ⟨y1, z1⟩ := gx 1 (by omega)
      obtain ⟨y2, z2⟩ := gx 2 (by omega)
      obtain ⟨y3, z3⟩ := gx 3 (by omega)
      obtain ⟨y4, z4⟩ := gx 4 (by omega)
      obtain ⟨y5, z5⟩ := gx 5 (by omega)
      obtain ⟨y6, z6⟩ := gx 6 (by omega)
      obtain ⟨y7, z7⟩ := gx 7 (by omega)
      simp only [Nat.add_zero] at z0
      clear hT hT0 ht rg gx
      go_wp2_with (fail)
      go_roundg (L - j)
      case rel =>
        refine ⟨j + 1, _, by go_num, by omega, by omega, Lib.hid ((set8_other (by omega) _ _ _ _ _ _ _ _ _).trans (keepAlloc HBX.out)), Lib.hid (set8_heap (keepAlloc HG.out) _ _ _ _ _ _ _ _ _), Lib.hid (by rw [set8_size]; exact HSZ.out), HLM, Lib.hid ?_⟩
        iterate 8 refine Below.setCell ?_ (show w.heap.size ≤ w.heap.size + 1 by omega) _
        exact bs HB.out (b1 wr _)
      case measure => omega
    · obtain rfl : j = L := by omega
      unfold vV at CV
      go_wp2_with (fail)
      refine (CV.out _ _ _ HG.out HB.out HLI.out).mono ?_
      rintro e w1 ⟨v, par, R, rfl, hTP, hR, hb1⟩
      have HTP := Lib.hid hTP
      obtain ⟨A3, c3, rfl, -⟩ := hTP.out
      rw [HL.out] at HTP ⊢
      have a2 := carry hb1 HBX.out
      have HB1 := Lib.hid (bs HB.out hb1)
      have HR : Hid (w.heap.size ≤ R) := Lib.hid (Nat.le_trans HB.out.size hR)
      obtain ⟨r2, f2⟩ := rowc a2
      clear hTP hR hb1 a2
      go_wp2_with (fail)
      refine bodyPost_ret (v := vV 4 0 ⟨#[]⟩ j A3 j c3) (by simp [results, Tryd.results74, go_sem, r2]) rfl ⟨_, par, R, rfl, HTP.out.above (fun b hb hl => ?_), HR.out, ?_⟩
      · have := HR.out
        have hb' : R < b := hb
        iterate 5 refine (set_other (by omega)).trans ?_
        rfl
      · iterate 5 refine Below.setCell ?_ (by simp) _
        exact HB1.out

end Go.Proofs.YtlbkbcafkjgckaaDoor.tree

/-
  What a list of values holds, and the array of it.
  Conditions: none.
-/
namespace Go.Proofs.YtlbkbcafkjgckaaDoor.tree
open Go.ChangeShapes Go.WideShapes Go.ChangeAt Go.RowKit
set_option linter.unusedVariables false

theorem cnts_tll : ∀ {vs : List Tr}, (∀ t ∈ vs, fits t) → cnts vs ≤ vs.length + tll vs
  | [], _ => by simp [cnts_nil]
  | t :: vs, h => by
    have h1 := cnt_tot t (h t List.mem_cons_self)
    have h2 := cnts_tll (vs := vs) (fun u hu => h u (List.mem_cons_of_mem _ hu))
    rw [cnts, tll, List.length_cons]
    omega
theorem tots_l : ∀ (ks : List Ky) (vs : List Tr), (∀ y ∈ ks, y.str.size = 0) → tots ks vs ≤ tll vs
  | [], vs, _ => by simp [tots]
  | y :: ks, [], _ => by simp [tots]
  | y :: ks, t :: vs, h => by
    have h1 := h y List.mem_cons_self
    have h2 := tots_l ks vs (fun u hu => h u (List.mem_cons_of_mem _ hu))
    rw [tots_cons, tll]
    omega
theorem lKeys_str {n : Nat} : ∀ y ∈ lKeys n, y.str.size = 0 := fun y hy => by
  obtain ⟨i, -, rfl⟩ := List.mem_map.1 hy
  rfl
theorem vfits {w : World} {S : Nat → Prop} {vs : List Tr} {A : Option Addr} (h : VIn w S vs A) : ∀ t ∈ vs, fits t := fun t ht => by
  obtain ⟨i, hi, rfl⟩ := List.mem_iff_getElem.1 ht
  obtain ⟨_, _, _, _, _, _, _, _, _, _, _, e, hT, -⟩ := h i _ (List.getElem?_eq_getElem hi)
  exact hT.fits
theorem vnw0 {w : World} {g : Nat} {vs : List Tr} {A : Option Addr} (h : VIn w (Nw g w) vs A) : VIn w (Nw 0 w) vs A := h.stays (fun b hb => ⟨Nat.zero_le _, hb.2⟩) (fun _ _ _ => rfl)

end Go.Proofs.YtlbkbcafkjgckaaDoor.tree

/-
  SortValues of the project.
  Conditions: the values hold at most 2^20 and one items and 10^9 letters.
-/
namespace Go.Proofs.YtlbkbcafkjgckaaDoor.tree
open Go.ChangeShapes Go.WideShapes Go.ChangeAt Go.RowKit ers
set_option linter.unusedVariables false

theorem tll_perm {l l' : List Tr} (h : l.Perm l') : tll l = tll l' := by
  induction h with
  | nil => rfl
  | cons a _ ih => rw [tll, tll, ih]
  | swap a b l => rw [tll, tll, tll, tll]; omega
  | trans _ _ ih1 ih2 => rw [ih1, ih2]

set_option maxRecDepth 100000 in
set_option maxHeartbeats 1600000 in
theorem sortValues_i (vs : List Tr) (A : Option Addr) (c : Nat) (w : World) (h : VIn w (Nw 0 w) vs A) (hc : cnts vs ≤ 1048577) (ht : tll vs ≤ 100000000) (hE : CmE w) :
    Calls Tryd.prog 28 #[.slice A vs.length c] w (VoQ w (isort vs)) := by
  have hp := isort_perm vs
  have hl : (isort vs).length = vs.length := isort_len vs
  have hm : vs.length ≤ 1048577 := by have := cnts_len vs; omega
  have htt : ∀ t ∈ vs, tot t ≤ 1000000000 := fun t h => by have := tll_mem h; omega
  have SI := insertionSort_i vs A c w h (by omega) hE htt
  unfold SiQ at SI
  have LO : Hid (∀ A' c' w', VIn w' (Nw 0 w') (isort vs) A' → Calls Tryd.prog 74 #[.slice A' (isort vs).length c'] w' (CvQ w' (listT (isort vs)))) := Lib.hid (fun A' c' w' h' => by
    refine listOf_i (isort vs) A' c' w' h' ?_ ?_
    · unfold listT; rw [cnt_mk', cnts_perm hp]; omega
    · unfold listT; rw [tot_mk]; have h1 := tots_l (lKeys (isort vs).length) (isort vs) lKeys_str; have h2 := tll_perm hp; show 0 + _ ≤ _; omega)
  have IVS : Hid (∀ A' c' w' par R lo, lo ≤ R → lo ≤ w'.heap.size → (0 < (isort vs).length → ∃ g, A' = some ⟨g, 0, none⟩ ∧ par g = (R, 0) ∧ R < g ∧ PBlk w' par g (lKeys (isort vs).length) (isort vs)) → (∀ b, Hang par (R, 0) b → Rg (R + 1) w'.heap.size b) → Calls Tryd.prog 68 #[.slice A' (isort vs).length c'] w' (IvQ w' par (blkOf A') lo (isort vs))) := Lib.hid (fun A' c' w' par R lo h1 h2 h3 h4 => itemValues_i (lKeys (isort vs).length) (isort vs) A' c' w' par R lo (by omega) h1 h2 h3 h4)
  obtain ⟨sv, HSV⟩ : ∃ sv, Hid (isort vs = sv) := ⟨_, Lib.hid rfl⟩
  rw [HSV.out] at hl SI LO IVS ⊢
  obtain ⟨L, HL⟩ : ∃ L, Hid (vs.length = L) := ⟨_, Lib.hid rfl⟩
  rw [HL.out] at hl SI hm ⊢
  rw [hl] at LO IVS
  have HLS := Lib.hid hl
  clear h hc ht htt hp hl hE
  go_enter Tryd.func28, Tryd.ntmps28
  go_wp2_with (fail)
  refine SI.mono ?_
  rintro e w1 ⟨g, c1, rfl, hv1, hb1⟩
  have HB1 := Lib.hid hb1
  have HV1 := Lib.hid hv1
  clear hv1 hb1 SI
  go_wp2_with (fail)
  refine (LO.out _ _ _ HV1.out).mono ?_
  rintro e w2 ⟨u, par0, R, rfl, hu, hR, hb2⟩
  obtain ⟨par, hu2, hhg⟩ := hu.tight
  unfold listT at hu2
  obtain ⟨A3, c3, rfl, -, -, -, hblk⟩ := hu2.out
  rw [HLS.out] at hblk ⊢
  have HB2 := Lib.hid (bs HB1.out hb2)
  have HIV := Lib.hid (IVS.out A3 c3 w2 par R w.heap.size (by have := HB1.out.size; omega) HB2.out.size hblk hhg)
  have hf4 := run_f4 4 0 ⟨#[]⟩ L A3 L c3
  unfold IV at hf4
  clear hu hu2 hR hb2 hblk hhg LO IVS
  go_wp2_with (fail)
  clear hf4
  refine HIV.out.mono ?_
  rintro e w3 ⟨r, rfl, hvr, hb3⟩
  have HVR := Lib.hid hvr
  have HB3 := Lib.hid (bs HB2.out hb3)
  have hz := hb3.size
  clear hvr hb3
  go_wp2_with (fail)
  go_ret
  exact ⟨_, par, _, w2.heap.size, rfl, HVR.out, hz, HB3.out⟩

end Go.Proofs.YtlbkbcafkjgckaaDoor.tree

