/-
  What the texts behind this one use: 3 parts of one proof.
  Conditions: those that each theorem names.
-/
import Derived.Test.YtlbkbcafkjgckaaGreatDoorCzSCmpI
import Derived.Test.YtlbkbcafkjgckaaGreatDoorCzB4
import Derived.Test.YtlbkbcafkjgckaaGreatDoorCzSCopyV
import Derived.Test.YtlbkbcafkjgckaaGreatDoorCzSVals
import Derived.Test.YtlbkbcafkjgckaaGreatDoorCzB6
import Derived.Test.YtlbkbcafkjgckaaGreatDoorCzSCopyS
import Derived.Test.YtlbkbcafkjgckaaGreatDoorCzSListT
/-
  CompareValues and LooseEqual of the project.
  Conditions: the values hold at most 10^9 items and letters; the table of powers of ten and the project's two errors hold what the program's text lays.
-/
namespace Go.Proofs.YtlbkbcafkjgckaaGreatDoor.tree
open Go.ChangeShapes Go.WideShapes Go.ChangeAt Go.RowKit ers
set_option linter.unusedVariables false

theorem Nw.to {w w' : World} {lo : Nat} (hb : Below w.heap.size w w') {t : Tr} {v : Value} (h : TIn w (Nw lo w) t v) : TIn w' (Nw lo w') t v := h.stays (fun b hb2 => ⟨hb2.1, Plain.same hb2.2 (hb.block b hb2.2.lt)⟩) (fun b hb2 hl => hb.block b hl)

set_option maxHeartbeats 1000000 in
theorem compare_i (t t' : Tr) (hT : tot t ≤ 1000000000) (hT' : tot t' ≤ 1000000000) (w : World) (lo lo' : Nat) (v v' : Value) (hE : CmE w) (h : TIn w (Nw lo w) t v) (h' : TIn w (Nw lo' w) t' v') :
    Calls Tryz.prog 18 #[v, v'] w (GivesQ w (.int .i64 (cmpT t t'))) := by
  have CO := fun w' (hb : Below w.heap.size w w') => compareOutside t t' v v' w' _ _ (h.below' hb) (h'.below' hb) hT hT' (hE.stays hb)
  have hct := cnt_tot t h.fits
  obtain ⟨k, n, s, x, ks, vs⟩ := t
  obtain ⟨k', n', s', x', ks', vs'⟩ := t'
  obtain ⟨A, c, rfl, -, -⟩ := h.out
  obtain ⟨A', c', rfl, -, -⟩ := h'.out
  have CI : k = 4 → k' = 4 → ∀ w' (hb : Below w.heap.size w w'), Calls Tryz.prog 37 #[vV 4 n s x A vs.length c, vV 4 n' s' x' A' vs'.length c'] w' (GivesQ w' (.int .i64 (cmpL ks vs ks' vs'))) := fun h1 h2 w' hb => by
    subst h1 h2
    rw [tot_mk] at hT hT'
    rw [cnt_mk] at hct
    rw [tot_mk] at hct
    exact compareItems n s x ks vs A c n' s' x' ks' vs' A' c' w' lo lo' (Nw.to hb h) (Nw.to hb h') (by omega) (by omega) (by omega) (hE.stays hb)
  obtain ⟨L, HL⟩ : ∃ L, Hid (vs.length = L) := ⟨_, Lib.hid rfl⟩
  obtain ⟨L', HL'⟩ : ∃ L, Hid (vs'.length = L) := ⟨_, Lib.hid rfl⟩
  obtain ⟨z, HZ⟩ : ∃ z, Hid (ordO (.mk k n s x ks vs) (.mk k' n' s' x' ks' vs') = z) := ⟨_, Lib.hid rfl⟩
  obtain ⟨W, HW⟩ : ∃ z, Hid (cmpT (.mk k n s x ks vs) (.mk k' n' s' x' ks' vs') = z) := ⟨_, Lib.hid rfl⟩
  rw [HL.out, HL'.out] at CO CI ⊢
  rw [HZ.out] at CO
  rw [HW.out]
  have HCO := Lib.hid CO
  have HCI := Lib.hid CI
  have AR := Lib.hid (fun w9 => areArrays k n s x A L c k' n' s' x' A' L' c' w9)
  clear h h' hE CO CI hct hT hT'
  go_enter Tryz.func18, Tryz.ntmps18
  go_wp2_with (fail)
  refine (HCO.out _ (b2 w _ _)).mono ?_
  rintro e w1 ⟨rfl, hb1⟩
  have EA := Lib.hid (carry hb1 (heap_alloc2_old w _ _))
  have EB := Lib.hid (carry hb1 (heap_alloc2_new w _ _))
  have HB := Lib.hid (bs (b2 w _ _) hb1)
  clear hb1
  obtain ⟨rA, -⟩ := rowc EA.out
  obtain ⟨rB, -⟩ := rowc EB.out
  by_cases hz : z = 0
  · subst hz
    by_cases h4 : k = 4 ∧ k' = 4
    · obtain ⟨rfl, rfl⟩ := h4
      have h44 : (decide ((4 : Int) = 4) && decide ((4 : Int) = 4)) = true := rfl
      rw [h44] at AR
      have HWC : Hid (cmpL ks vs ks' vs' = W) := Lib.hid (by rw [← HW.out, cmpT_mk, if_pos ⟨HZ.out, rfl, rfl⟩])
      have HC2 := Lib.hid (HCI.out rfl rfl)
      rw [HWC.out] at HC2
      clear h44 HCI
      go_wp2_with (fail)
      refine (AR.out _).mono ?_
      rintro e w2 ⟨rfl, hb2⟩
      have HB2 := Lib.hid (bs HB.out hb2)
      have EA2 := Lib.hid (carry hb2 EA.out)
      have EB2 := Lib.hid (carry hb2 EB.out)
      clear hb2 rA rB
      obtain ⟨rA, -⟩ := rowc EA2.out
      obtain ⟨rB, -⟩ := rowc EB2.out
      go_wp2_with (fail)
      refine (HC2.out _ HB2.out).mono ?_
      rintro e w3 ⟨rfl, hb3⟩
      have HB3 := Lib.hid (bs HB2.out hb3)
      clear hb3
      go_wp2_with (fail)
      go_ret
      exact ⟨rfl, HB3.out⟩
    · have h44 : (decide (k = 4) && decide (k' = 4)) = false := by
        by_cases h5 : k = 4
        · rw [decide_eq_true h5, decide_eq_false (fun h6 => h4 ⟨h5, h6⟩)]; rfl
        · rw [decide_eq_false h5]; rfl
      rw [h44] at AR
      have HWC : Hid (W = 0) := Lib.hid (by rw [← HW.out, cmpT_mk, if_neg (fun h => h4 h.2)]; exact HZ.out)
      clear h44 HCI h4
      go_wp2_with (fail)
      refine (AR.out _).mono ?_
      rintro e w2 ⟨rfl, hb2⟩
      have HB2 := Lib.hid (bs HB.out hb2)
      clear hb2 rA rB
      go_wp2_with (fail)
      go_ret
      exact ⟨by rw [HWC.out]; rfl, HB2.out⟩
  · have HWC : Hid (W = z) := Lib.hid (by rw [← HW.out, cmpT_mk, HZ.out, if_neg (fun h => hz h.1)])
    clear HCI
    go_wp2_with (fail)
    go_ret
    exact ⟨by rw [HWC.out]; rfl, HB.out⟩


end Go.Proofs.YtlbkbcafkjgckaaGreatDoor.tree

/-
  ListOf of the project.
  Conditions: the values hold at most 2^20 and one items and 10^9 letters.
-/
namespace Go.Proofs.YtlbkbcafkjgckaaGreatDoor.tree
open Go.ChangeShapes Go.WideShapes Go.ChangeAt Go.RowKit
set_option linter.unusedVariables false

/-- The keys of a list of n values. -/
def lKeys (n : Nat) : List Ky := (List.range n).map fun (i : Nat) => ⟨false, (i : Int), ⟨#[]⟩⟩
theorem lKeys_len (n : Nat) : (lKeys n).length = n := by simp [lKeys]
theorem lKeys_get {n i : Nat} (h : i < n) : (lKeys n)[i]? = some ⟨false, (i : Int), ⟨#[]⟩⟩ := by
  unfold lKeys
  rw [List.getElem?_map, List.getElem?_range h]
  rfl
/-- The array of a list of values. -/
def listT (vs : List Tr) : Tr := .mk 4 0 ⟨#[]⟩ vs.length (lKeys vs.length) vs
def LiAt (w : World) (S : Nat → Prop) (vs : List Tr) (arr : Array Value) (j : Nat) : Prop :=
  ∀ i, i < j → ∃ k n s x ks' vs' A' c', vs[i]? = some (.mk k n s x ks' vs') ∧ TIn w S (.mk k n s x ks' vs') (vV k n s x A' vs'.length c') ∧ At8r arr i ⟨false, (i : Int), ⟨#[]⟩⟩ k n s x A' vs'.length c'
theorem LiAt.more {w : World} {S : Nat → Prop} {vs : List Tr} {arr : Array Value} {j : Nat} (h : LiAt w S vs arr j) (hs : j * 8 + 8 ≤ arr.size) {k n x : Int} {s : ByteArray} {ks' : List Ky} {vs' : List Tr} {A' : Option Addr} {c' : Nat} (hv : vs[j]? = some (.mk k n s x ks' vs')) (hT : TIn w S (.mk k n s x ks' vs') (vV k n s x A' vs'.length c')) :
    LiAt w S vs (set8 arr (j * 8) (.bool false) (.int .i64 j) (.string ⟨#[]⟩) (.int .i64 k) (.int .i64 n) (.string s) (.int .i64 x) (.slice A' vs'.length c')) (j + 1) := by
  intro i hi
  by_cases e : i = j
  · subst e
    exact ⟨k, n, s, x, ks', vs', A', c', hv, hT, fun q hq => by rw [set8_in _ _ _ _ _ _ _ _ _ _ hs q hq]; rfl⟩
  · obtain ⟨k2, n2, s2, x2, ks2, vs2, A2, c2, e1, e2, e3⟩ := h i (by omega)
    exact ⟨k2, n2, s2, x2, ks2, vs2, A2, c2, e1, e2, fun q hq => by rw [set8_out _ _ _ _ _ _ _ _ _ _ _ (by omega)]; exact e3 q hq⟩
theorem LiAt.isin {w w' : World} {vs : List Tr} {arr : Array Value} {g : Nat} (h : LiAt w (Nw 0 w) vs arr vs.length) (hg : w'.heap[g]? = some (.cells arr IE (0, 0))) (hb : Below w.heap.size w w') (hm : vs.length ≤ maxLen) : IsIn w' (Nw 0 w') (lKeys vs.length) vs (some ⟨g, 0, none⟩) :=
  isin_row hg ⟨Nat.zero_le _, _, _, hg⟩ (lKeys_len _) hm fun i hi => by
    obtain ⟨k, n, s, x, ks', vs', A', c', e1, e2, e3⟩ := h i hi
    exact ⟨_, k, n, s, x, ks', vs', A', c', lKeys_get hi, e1, ⟨by unfold maxLen at hm; unfold I64; show _ ≤ (i : Int) ∧ (i : Int) ≤ _; omega, Nat.zero_le _⟩, e3, e2.nwb hb⟩
theorem set8_heap {W : World} {g : Nat} {arr : Array Value} {t : TypeId} (h : W.heap[g]? = some (.cells arr t (0, 0))) (o : Nat) (c0 c1 c2 c3 c4 c5 c6 c7 : Value) :
    ((((((((W.setCell ⟨g, o, none⟩ c0).setCell ⟨g, o + 1, none⟩ c1).setCell ⟨g, o + 2, none⟩ c2).setCell ⟨g, o + 3, none⟩ c3).setCell ⟨g, o + 4, none⟩ c4).setCell ⟨g, o + 5, none⟩ c5).setCell ⟨g, o + 6, none⟩ c6).setCell ⟨g, o + 7, none⟩ c7).heap[g]? = some (.cells (set8 arr o c0 c1 c2 c3 c4 c5 c6 c7) t (0, 0)) :=
  set_heap (set_heap (set_heap (set_heap (set_heap (set_heap (set_heap (set_heap h _ _) _ _) _ _) _ _) _ _) _ _) _ _) _ _

theorem set8_other {W : World} {g k : Nat} (h : k ≠ g) (o : Nat) (c0 c1 c2 c3 c4 c5 c6 c7 : Value) :
    ((((((((W.setCell ⟨g, o, none⟩ c0).setCell ⟨g, o + 1, none⟩ c1).setCell ⟨g, o + 2, none⟩ c2).setCell ⟨g, o + 3, none⟩ c3).setCell ⟨g, o + 4, none⟩ c4).setCell ⟨g, o + 5, none⟩ c5).setCell ⟨g, o + 6, none⟩ c6).setCell ⟨g, o + 7, none⟩ c7).heap[k]? = W.heap[k]? := by
  iterate 8 refine (set_other h).trans ?_
  rfl

set_option maxRecDepth 100000 in
set_option maxHeartbeats 2000000 in
theorem listOf_i (vs : List Tr) (A : Option Addr) (c : Nat) (w : World) (h : VIn w (Nw 0 w) vs A) (hN : cnt (listT vs) ≤ 1048578) (hT : tot (listT vs) ≤ 1000000000) : Calls Tryz.prog 16 #[.slice A vs.length c] w (CvQ w (listT vs)) := by
  have hlen : vs.length ≤ 1048578 := by have := cnts_len vs; unfold listT at hN; rw [cnt_mk'] at hN; omega
  have CV : Hid (∀ w' g arr, w'.heap[g]? = some (.cells arr IE (0, 0)) → Below w.heap.size w w' → LiAt w (Nw 0 w) vs arr vs.length → Calls Tryz.prog 33 #[vV 4 0 ⟨#[]⟩ vs.length (some ⟨g, 0, none⟩) vs.length vs.length] w' (CvQ w' (listT vs))) := Lib.hid (fun w' g arr hg hb hl => copyValue _ _ _ 0 (TIn.of vs.length ⟨by unfold I64; omega, by unfold I64; omega, by unfold I64; omega, Nat.zero_le _⟩ (hl.isin hg hb (by unfold maxLen; omega)) ⟨Nat.le_refl _, by unfold maxLen; omega⟩) hN hT)
  obtain ⟨L, HL⟩ : ∃ L, Hid (vs.length = L) := ⟨_, Lib.hid rfl⟩
  rw [HL.out] at CV hlen ⊢
  obtain ⟨i0, hi, hz⟩ := ie_info
  have hmk := run_make (P := Tryz.prog) (w.alloc (.cells #[.int .i64 0, .int .i64 0, .string ⟨#[]⟩, .int .i64 0, .slice none 0 0] IV)) 35 IE i0 _ Tryz.underlying35 hi hz.1 .i64 .i64 L L (by omega) (Int.le_refl _) (by rw [hz.2.2]; omega) (by omega)
  rw [hz.2.1] at hmk
  simp only [Int.toNat_natCast] at hmk
  obtain ⟨arr0, HA⟩ : ∃ a, Hid (a = madeCells (Value.agg #[.bool false, .int .i64 0, .string ⟨#[]⟩, .int .i64 0, .int .i64 0, .string ⟨#[]⟩, .int .i64 0, .slice none 0 0]).cells (L * 8)) := ⟨_, Lib.hid rfl⟩
  rw [← HA.out] at hmk
  have HSZ0 : Hid (arr0.size = L * 8) := Lib.hid (by rw [HA.out, madeSize])
  have HV := Lib.hid h
  clear h hN hT hi hz
  go_enter Tryz.func16, Tryz.ntmps16
  go_wp2_with (fail)
  obtain ⟨N, HN⟩ : ∃ N, Hid (N = w.heap.size) := ⟨_, Lib.hid rfl⟩
  go_loopg [11] (L + 1) (fun gk i wr => ∃ (j : Nat) (arr : Array Value), i = .int .i64 j ∧ gk + j = L + 1 ∧ j ≤ L ∧ Hid (wr.heap[w.heap.size]? = some (.cells #[.int .i64 0, .int .i64 0, .string ⟨#[]⟩, .int .i64 0, .slice none 0 0] IV (0, 0))) ∧ Hid (wr.heap[w.heap.size + 1]? = some (.cells arr IE (0, 0))) ∧ Hid (arr.size = L * 8) ∧ Hid (LiAt w (Nw 0 w) vs arr j) ∧ Hid (Below w.heap.size w wr))
  case atStart =>
    refine ⟨0, arr0, rfl, by omega, by omega, Lib.hid (keepAlloc (heap_alloc_new w _)), Lib.hid (by have := heap_alloc_new (w.alloc (.cells #[.int .i64 0, .int .i64 0, .string ⟨#[]⟩, .int .i64 0, .slice none 0 0] IV)) (.cells arr0 IE); rwa [show (w.alloc (.cells #[.int .i64 0, .int .i64 0, .string ⟨#[]⟩, .int .i64 0, .slice none 0 0] IV)).heap.size = w.heap.size + 1 by simp] at this), HSZ0, Lib.hid (fun i hi => absurd hi (by omega)), Lib.hid (b2 _ _ _)⟩
  case round =>
    obtain ⟨j, arr, rfl, hgj, hjL, HBX, HG, HSZ, HLI, HB⟩ := hrel
    by_cases hlt : j < L
    · obtain ⟨t, ht⟩ : ∃ t, vs[j]? = some t := ⟨_, List.getElem?_eq_getElem (by rw [HL.out]; exact hlt)⟩
      obtain ⟨a, k, n, s, x, ks', vs', A1, c1, rfl, -, rfl, hT, hcell⟩ := HV.out.below HB.out j t ht
      have hT0 : TIn w (Nw 0 w) (.mk k n s x ks' vs') (vV k n s x A1 vs'.length c1) := by
        obtain ⟨a2, k2, n2, s2, x2, ks2, vs2, A2, c2, e, -, e1, hT2, hcell2⟩ := HV.out j _ ht
        obtain rfl := Option.some.inj e
        obtain ⟨rfl, rfl, rfl, rfl, rfl, rfl⟩ : k = k2 ∧ n = n2 ∧ s = s2 ∧ x = x2 ∧ ks' = ks2 ∧ vs' = vs2 := by simpa using e1
        have h4 := hcell.c4
        have h5 := (hcell2.below HB.out).c4
        rw [h4] at h5
        obtain ⟨rfl, rfl⟩ : A1 = A2 ∧ c1 = c2 := by simpa using h5
        exact hT2
      obtain ⟨L1, HL1⟩ : ∃ L1, Hid (vs'.length = L1) := ⟨_, Lib.hid rfl⟩
      have HLM := Lib.hid (HLI.out.more (by have := HSZ.out; omega) ht hT0)
      rw [HL1.out] at hcell HLM
      obtain ⟨p0, p1, p2, p3, p4⟩ := hcell
      obtain ⟨rg, fg⟩ := rowc (keepAlloc (o' := .cells #[.int .i64 k, .int .i64 n, .string s, .int .i64 x, .slice A1 L1 c1] 37) HG.out)
      have hz := HSZ.out
      have gx : ∀ q, q < 8 → ∃ u, (wr.alloc (.cells #[.int .i64 k, .int .i64 n, .string s, .int .i64 x, .slice A1 L1 c1] 37)).cell? ⟨w.heap.size + 1, j * 8 + q, none⟩ = some u := fun q hq => ⟨_, (rg _).trans (Array.getElem?_eq_getElem (by omega))⟩
      obtain ⟨y0, z0⟩ := gx 0 (by omega)
      obtain ⟨y1, z1⟩ := gx 1 (by omega)
      obtain ⟨y2, z2⟩ := gx 2 (by omega)
      obtain ⟨y3, z3⟩ := gx 3 (by omega)
      obtain ⟨y4, z4⟩ := gx 4 (by omega)
      obtain ⟨y5, z5⟩ := gx 5 (by omega)
      obtain ⟨y6, z6⟩ := gx 6 (by omega)
      obtain ⟨y7, z7⟩ := gx 7 (by omega)
      simp only [Nat.add_zero] at z0
      clear hT hT0 ht rg gx
      go_wp2_with (fail)
      go_roundg (L - j)
      case rel =>
        refine ⟨j + 1, _, by go_num, by omega, by omega, Lib.hid ((set8_other (by omega) _ _ _ _ _ _ _ _ _).trans (keepAlloc HBX.out)), Lib.hid (set8_heap (keepAlloc HG.out) _ _ _ _ _ _ _ _ _), Lib.hid (by rw [set8_size]; exact HSZ.out), HLM, Lib.hid ?_⟩
        iterate 8 refine Below.setCell ?_ (show w.heap.size ≤ w.heap.size + 1 by omega) _
        exact bs HB.out (b1 wr _)
      case measure => omega
    · obtain rfl : j = L := by omega
      unfold vV at CV
      go_wp2_with (fail)
      refine (CV.out _ _ _ HG.out HB.out HLI.out).mono ?_
      rintro e w1 ⟨v, par, R, rfl, hTP, hR, hb1⟩
      have HTP := Lib.hid hTP
      obtain ⟨A3, c3, rfl, -⟩ := hTP.out
      rw [HL.out] at HTP ⊢
      have a2 := carry hb1 HBX.out
      have HB1 := Lib.hid (bs HB.out hb1)
      have HR : Hid (w.heap.size ≤ R) := Lib.hid (Nat.le_trans HB.out.size hR)
      obtain ⟨r2, f2⟩ := rowc a2
      clear hTP hR hb1 a2
      go_wp2_with (fail)
      refine bodyPost_ret (v := vV 4 0 ⟨#[]⟩ j A3 j c3) (by simp [results, Tryz.results16, go_sem, r2]) rfl ⟨_, par, R, rfl, HTP.out.above (fun b hb hl => ?_), HR.out, ?_⟩
      · have := HR.out
        have hb' : R < b := hb
        iterate 5 refine (set_other (by omega)).trans ?_
        rfl
      · iterate 5 refine Below.setCell ?_ (by simp) _
        exact HB1.out

end Go.Proofs.YtlbkbcafkjgckaaGreatDoor.tree

/-
  What a list of values holds, and the array of it.
  Conditions: none.
-/
namespace Go.Proofs.YtlbkbcafkjgckaaGreatDoor.tree
open Go.ChangeShapes Go.WideShapes Go.ChangeAt Go.RowKit
set_option linter.unusedVariables false

theorem cnts_tll : ∀ {vs : List Tr}, (∀ t ∈ vs, fits t) → cnts vs ≤ vs.length + tll vs
  | [], _ => by simp [cnts_nil]
  | t :: vs, h => by
    have h1 := cnt_tot t (h t List.mem_cons_self)
    have h2 := cnts_tll (vs := vs) (fun u hu => h u (List.mem_cons_of_mem _ hu))
    rw [cnts, tll, List.length_cons]
    omega
theorem tots_l : ∀ (ks : List Ky) (vs : List Tr), (∀ y ∈ ks, y.str.size = 0) → tots ks vs ≤ tll vs
  | [], vs, _ => by simp [tots]
  | y :: ks, [], _ => by simp [tots]
  | y :: ks, t :: vs, h => by
    have h1 := h y List.mem_cons_self
    have h2 := tots_l ks vs (fun u hu => h u (List.mem_cons_of_mem _ hu))
    rw [tots_cons, tll]
    omega
theorem lKeys_str {n : Nat} : ∀ y ∈ lKeys n, y.str.size = 0 := fun y hy => by
  obtain ⟨i, -, rfl⟩ := List.mem_map.1 hy
  rfl
theorem vfits {w : World} {S : Nat → Prop} {vs : List Tr} {A : Option Addr} (h : VIn w S vs A) : ∀ t ∈ vs, fits t := fun t ht => by
  obtain ⟨i, hi, rfl⟩ := List.mem_iff_getElem.1 ht
  obtain ⟨_, _, _, _, _, _, _, _, _, _, _, e, hT, -⟩ := h i _ (List.getElem?_eq_getElem hi)
  exact hT.fits
theorem vnw0 {w : World} {g : Nat} {vs : List Tr} {A : Option Addr} (h : VIn w (Nw g w) vs A) : VIn w (Nw 0 w) vs A := h.stays (fun b hb => ⟨Nat.zero_le _, hb.2⟩) (fun _ _ _ => rfl)

end Go.Proofs.YtlbkbcafkjgckaaGreatDoor.tree

