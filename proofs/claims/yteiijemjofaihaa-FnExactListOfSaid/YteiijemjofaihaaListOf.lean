/-
  ListOf of the project and of the model.
  Conditions: the values hold at most 2^20 and one items and 10^9 letters.
-/
import Derived.Test.YteiijemjofaihaaCopyV
import Derived.Test.YteiijemjofaihaaVals
import Derived.Test.YteiijemjofaihaaItems
import Derived.Test.YteiijemjofaihaaOwn
import Derived.Test.YteiijemjofaihaaCopyS
namespace Go.Proofs.Yteiijemjofaihaa.tree
open Go.ChangeShapes Go.WideShapes Go.ChangeAt Go.RowKit
set_option linter.unusedVariables false

/-- The keys of a list of n values. -/
def lKeys (n : Nat) : List Ky := (List.range n).map fun (i : Nat) => ⟨false, (i : Int), ⟨#[]⟩⟩
theorem lKeys_len (n : Nat) : (lKeys n).length = n := by simp [lKeys]
theorem lKeys_get {n i : Nat} (h : i < n) : (lKeys n)[i]? = some ⟨false, (i : Int), ⟨#[]⟩⟩ := by
  unfold lKeys
  rw [List.getElem?_map, List.getElem?_range h]
  rfl
/-- The array of a list of values. -/
def listT (vs : List Tr) : Tr := .mk 4 0 ⟨#[]⟩ vs.length (lKeys vs.length) vs
def LiAt (w : World) (S : Nat → Prop) (vs : List Tr) (arr : Array Value) (j : Nat) : Prop :=
  ∀ i, i < j → ∃ k n s x ks' vs' A' c', vs[i]? = some (.mk k n s x ks' vs') ∧ TIn w S (.mk k n s x ks' vs') (vV k n s x A' vs'.length c') ∧ At8r arr i ⟨false, (i : Int), ⟨#[]⟩⟩ k n s x A' vs'.length c'
theorem LiAt.more {w : World} {S : Nat → Prop} {vs : List Tr} {arr : Array Value} {j : Nat} (h : LiAt w S vs arr j) (hs : j * 8 + 8 ≤ arr.size) {k n x : Int} {s : ByteArray} {ks' : List Ky} {vs' : List Tr} {A' : Option Addr} {c' : Nat} (hv : vs[j]? = some (.mk k n s x ks' vs')) (hT : TIn w S (.mk k n s x ks' vs') (vV k n s x A' vs'.length c')) :
    LiAt w S vs (set8 arr (j * 8) (.bool false) (.int .i64 j) (.string ⟨#[]⟩) (.int .i64 k) (.int .i64 n) (.string s) (.int .i64 x) (.slice A' vs'.length c')) (j + 1) := by
  intro i hi
  by_cases e : i = j
  · subst e
    exact ⟨k, n, s, x, ks', vs', A', c', hv, hT, fun q hq => by rw [set8_in _ _ _ _ _ _ _ _ _ _ hs q hq]; rfl⟩
  · obtain ⟨k2, n2, s2, x2, ks2, vs2, A2, c2, e1, e2, e3⟩ := h i (by omega)
    exact ⟨k2, n2, s2, x2, ks2, vs2, A2, c2, e1, e2, fun q hq => by rw [set8_out _ _ _ _ _ _ _ _ _ _ _ (by omega)]; exact e3 q hq⟩
theorem LiAt.isin {w w' : World} {vs : List Tr} {arr : Array Value} {g : Nat} (h : LiAt w (Nw 0 w) vs arr vs.length) (hg : w'.heap[g]? = some (.cells arr IE (0, 0))) (hb : Below w.heap.size w w') (hm : vs.length ≤ maxLen) : IsIn w' (Nw 0 w') (lKeys vs.length) vs (some ⟨g, 0, none⟩) :=
  isin_row hg ⟨Nat.zero_le _, _, _, hg⟩ (lKeys_len _) hm fun i hi => by
    obtain ⟨k, n, s, x, ks', vs', A', c', e1, e2, e3⟩ := h i hi
    exact ⟨_, k, n, s, x, ks', vs', A', c', lKeys_get hi, e1, ⟨by unfold maxLen at hm; unfold I64; show _ ≤ (i : Int) ∧ (i : Int) ≤ _; omega, Nat.zero_le _⟩, e3, e2.nwb hb⟩
theorem set8_heap {W : World} {g : Nat} {arr : Array Value} {t : TypeId} (h : W.heap[g]? = some (.cells arr t (0, 0))) (o : Nat) (c0 c1 c2 c3 c4 c5 c6 c7 : Value) :
    ((((((((W.setCell ⟨g, o, none⟩ c0).setCell ⟨g, o + 1, none⟩ c1).setCell ⟨g, o + 2, none⟩ c2).setCell ⟨g, o + 3, none⟩ c3).setCell ⟨g, o + 4, none⟩ c4).setCell ⟨g, o + 5, none⟩ c5).setCell ⟨g, o + 6, none⟩ c6).setCell ⟨g, o + 7, none⟩ c7).heap[g]? = some (.cells (set8 arr o c0 c1 c2 c3 c4 c5 c6 c7) t (0, 0)) :=
  set_heap (set_heap (set_heap (set_heap (set_heap (set_heap (set_heap (set_heap h _ _) _ _) _ _) _ _) _ _) _ _) _ _) _ _

theorem set8_other {W : World} {g k : Nat} (h : k ≠ g) (o : Nat) (c0 c1 c2 c3 c4 c5 c6 c7 : Value) :
    ((((((((W.setCell ⟨g, o, none⟩ c0).setCell ⟨g, o + 1, none⟩ c1).setCell ⟨g, o + 2, none⟩ c2).setCell ⟨g, o + 3, none⟩ c3).setCell ⟨g, o + 4, none⟩ c4).setCell ⟨g, o + 5, none⟩ c5).setCell ⟨g, o + 6, none⟩ c6).setCell ⟨g, o + 7, none⟩ c7).heap[k]? = W.heap[k]? := by
  iterate 8 refine (set_other h).trans ?_
  rfl

set_option maxRecDepth 100000 in
set_option maxHeartbeats 2000000 in
theorem listOf_i (vs : List Tr) (A : Option Addr) (c : Nat) (w : World) (h : VIn w (Nw 0 w) vs A) (hN : cnt (listT vs) ≤ 1048578) (hT : tot (listT vs) ≤ 1000000000) : Calls Try.prog 12 #[.slice A vs.length c] w (CvQ w (listT vs)) := by
  have hlen : vs.length ≤ 1048578 := by have := cnts_len vs; unfold listT at hN; rw [cnt_mk'] at hN; omega
  have CV : Hid (∀ w' g arr, w'.heap[g]? = some (.cells arr IE (0, 0)) → Below w.heap.size w w' → LiAt w (Nw 0 w) vs arr vs.length → Calls Try.prog 36 #[vV 4 0 ⟨#[]⟩ vs.length (some ⟨g, 0, none⟩) vs.length vs.length] w' (CvQ w' (listT vs))) := Lib.hid (fun w' g arr hg hb hl => copyValue _ _ _ 0 (TIn.of vs.length ⟨by unfold I64; omega, by unfold I64; omega, by unfold I64; omega, Nat.zero_le _⟩ (hl.isin hg hb (by unfold maxLen; omega)) ⟨Nat.le_refl _, by unfold maxLen; omega⟩) hN hT)
  obtain ⟨L, HL⟩ : ∃ L, Hid (vs.length = L) := ⟨_, Lib.hid rfl⟩
  rw [HL.out] at CV hlen ⊢
  obtain ⟨i0, hi, hz⟩ := ie_info
  have hmk := run_make (P := Try.prog) (w.alloc (.cells #[.int .i64 0, .int .i64 0, .string ⟨#[]⟩, .int .i64 0, .slice none 0 0] IV)) 24 IE i0 _ Try.underlying24 hi hz.1 .i64 .i64 L L (by omega) (Int.le_refl _) (by rw [hz.2.2]; omega) (by omega)
  rw [hz.2.1] at hmk
  simp only [Int.toNat_natCast] at hmk
  obtain ⟨arr0, HA⟩ : ∃ a, Hid (a = madeCells (Value.agg #[.bool false, .int .i64 0, .string ⟨#[]⟩, .int .i64 0, .int .i64 0, .string ⟨#[]⟩, .int .i64 0, .slice none 0 0]).cells (L * 8)) := ⟨_, Lib.hid rfl⟩
  rw [← HA.out] at hmk
  have HSZ0 : Hid (arr0.size = L * 8) := Lib.hid (by rw [HA.out, madeSize])
  have HV := Lib.hid h
  clear h hN hT hi hz
  go_enter Try.func12, Try.ntmps12
  go_wp2_with (fail)
  obtain ⟨N, HN⟩ : ∃ N, Hid (N = w.heap.size) := ⟨_, Lib.hid rfl⟩
  go_loopg [11] (L + 1) (fun gk i wr => ∃ (j : Nat) (arr : Array Value), i = .int .i64 j ∧ gk + j = L + 1 ∧ j ≤ L ∧ Hid (wr.heap[w.heap.size]? = some (.cells #[.int .i64 0, .int .i64 0, .string ⟨#[]⟩, .int .i64 0, .slice none 0 0] IV (0, 0))) ∧ Hid (wr.heap[w.heap.size + 1]? = some (.cells arr IE (0, 0))) ∧ Hid (arr.size = L * 8) ∧ Hid (LiAt w (Nw 0 w) vs arr j) ∧ Hid (Below w.heap.size w wr))
  case atStart =>
    refine ⟨0, arr0, rfl, by omega, by omega, Lib.hid (keepAlloc (heap_alloc_new w _)), Lib.hid (by have := heap_alloc_new (w.alloc (.cells #[.int .i64 0, .int .i64 0, .string ⟨#[]⟩, .int .i64 0, .slice none 0 0] IV)) (.cells arr0 IE); rwa [show (w.alloc (.cells #[.int .i64 0, .int .i64 0, .string ⟨#[]⟩, .int .i64 0, .slice none 0 0] IV)).heap.size = w.heap.size + 1 by simp] at this), HSZ0, Lib.hid (fun i hi => absurd hi (by omega)), Lib.hid (b2 _ _ _)⟩
  case round =>
    obtain ⟨j, arr, rfl, hgj, hjL, HBX, HG, HSZ, HLI, HB⟩ := hrel
    by_cases hlt : j < L
    · obtain ⟨t, ht⟩ : ∃ t, vs[j]? = some t := ⟨_, List.getElem?_eq_getElem (by rw [HL.out]; exact hlt)⟩
      obtain ⟨a, k, n, s, x, ks', vs', A1, c1, rfl, -, rfl, hT, hcell⟩ := HV.out.below HB.out j t ht
      have hT0 : TIn w (Nw 0 w) (.mk k n s x ks' vs') (vV k n s x A1 vs'.length c1) := by
        obtain ⟨a2, k2, n2, s2, x2, ks2, vs2, A2, c2, e, -, e1, hT2, hcell2⟩ := HV.out j _ ht
        obtain rfl := Option.some.inj e
        obtain ⟨rfl, rfl, rfl, rfl, rfl, rfl⟩ : k = k2 ∧ n = n2 ∧ s = s2 ∧ x = x2 ∧ ks' = ks2 ∧ vs' = vs2 := by simpa using e1
        have h4 := hcell.c4
        have h5 := (hcell2.below HB.out).c4
        rw [h4] at h5
        obtain ⟨rfl, rfl⟩ : A1 = A2 ∧ c1 = c2 := by simpa using h5
        exact hT2
      obtain ⟨L1, HL1⟩ : ∃ L1, Hid (vs'.length = L1) := ⟨_, Lib.hid rfl⟩
      have HLM := Lib.hid (HLI.out.more (by have := HSZ.out; omega) ht hT0)
      rw [HL1.out] at hcell HLM
      obtain ⟨p0, p1, p2, p3, p4⟩ := hcell
      obtain ⟨rg, fg⟩ := rowc (keepAlloc (o' := .cells #[.int .i64 k, .int .i64 n, .string s, .int .i64 x, .slice A1 L1 c1] 26) HG.out)
      have hz := HSZ.out
      have gx : ∀ q, q < 8 → ∃ u, (wr.alloc (.cells #[.int .i64 k, .int .i64 n, .string s, .int .i64 x, .slice A1 L1 c1] 26)).cell? ⟨w.heap.size + 1, j * 8 + q, none⟩ = some u := fun q hq => ⟨_, (rg _).trans (Array.getElem?_eq_getElem (by omega))⟩
      obtain ⟨y0, z0⟩ := gx 0 (by omega)
      obtain ⟨y1, z1⟩ := gx 1 (by omega)
      obtain ⟨y2, z2⟩ := gx 2 (by omega)
      obtain ⟨y3, z3⟩ := gx 3 (by omega)
      obtain ⟨y4, z4⟩ := gx 4 (by omega)
      obtain ⟨y5, z5⟩ := gx 5 (by omega)
      obtain ⟨y6, z6⟩ := gx 6 (by omega)
      obtain ⟨y7, z7⟩ := gx 7 (by omega)
      simp only [Nat.add_zero] at z0
      clear hT hT0 ht rg gx
      go_wp2_with (fail)
      go_roundg (L - j)
      case rel =>
        refine ⟨j + 1, _, by go_num, by omega, by omega, Lib.hid ((set8_other (by omega) _ _ _ _ _ _ _ _ _).trans (keepAlloc HBX.out)), Lib.hid (set8_heap (keepAlloc HG.out) _ _ _ _ _ _ _ _ _), Lib.hid (by rw [set8_size]; exact HSZ.out), HLM, Lib.hid ?_⟩
        iterate 8 refine Below.setCell ?_ (show w.heap.size ≤ w.heap.size + 1 by omega) _
        exact bs HB.out (b1 wr _)
      case measure => omega
    · obtain rfl : j = L := by omega
      unfold vV at CV
      go_wp2_with (fail)
      refine (CV.out _ _ _ HG.out HB.out HLI.out).mono ?_
      rintro e w1 ⟨v, par, R, rfl, hTP, hR, hb1⟩
      have HTP := Lib.hid hTP
      obtain ⟨A3, c3, rfl, -⟩ := hTP.out
      rw [HL.out] at HTP ⊢
      have a2 := carry hb1 HBX.out
      have HB1 := Lib.hid (bs HB.out hb1)
      have HR : Hid (w.heap.size ≤ R) := Lib.hid (Nat.le_trans HB.out.size hR)
      obtain ⟨r2, f2⟩ := rowc a2
      clear hTP hR hb1 a2
      go_wp2_with (fail)
      refine bodyPost_ret (v := vV 4 0 ⟨#[]⟩ j A3 j c3) (by simp [results, Try.results12, go_sem, r2]) rfl ⟨_, par, R, rfl, HTP.out.above (fun b hb hl => ?_), HR.out, ?_⟩
      · have := HR.out
        have hb' : R < b := hb
        iterate 5 refine (set_other (by omega)).trans ?_
        rfl
      · iterate 5 refine Below.setCell ?_ (by simp) _
        exact HB1.out

theorem lKeys_succ (n : Nat) : lKeys (n + 1) = lKeys n ++ [⟨false, (n : Int), ⟨#[]⟩⟩] := by simp [lKeys, List.range_succ]
theorem arrV_s (w : World) : Calls Try.prog 43 #[] w (GivesQ w (vV 4 0 ⟨#[]⟩ 0 none 0 0)) := by
  go_enter Try.func43, Try.ntmps43
  go_wp2
  exact bodyPost_ret (v := vV 4 0 ⟨#[]⟩ 0 none 0 0) (by simp [results, Try.results43, go_sem]) rfl ⟨rfl, b1 _ _⟩
def LsQ (w : World) (vs : List Tr) (e : Ending) (w' : World) : Prop := ∃ v, e = .returned v ∧ TIn w' (fun _ => True) (listT vs) v ∧ Below w.heap.size w w'

set_option maxRecDepth 100000 in
set_option maxHeartbeats 4000000 in
theorem l6List_s (vs : List Tr) (A : Option Addr) (c : Nat) (w : World) (h : VIn w (Nw 0 w) vs A) (hlen : vs.length ≤ 1048578) : Calls Try.prog 35 #[.slice A vs.length c] w (LsQ w vs) := by
  obtain ⟨L, HL⟩ : ∃ L, Hid (vs.length = L) := ⟨_, Lib.hid rfl⟩
  rw [HL.out] at hlen ⊢
  obtain ⟨i0, hi, hz⟩ := ie_info
  have HII := Lib.hid hi
  have HZZ := Lib.hid hz
  have HV := Lib.hid h
  have AV := arrV_s
  unfold vV at AV
  clear h hi hz
  go_enter Try.func35, Try.ntmps35
  go_wp2_with (fail)
  refine (AV _).mono ?_
  rintro e w1 ⟨rfl, hb1⟩
  have HA2 := Lib.hid (carry hb1 (heap_alloc_new w _))
  have HB1 := Lib.hid (bs (b1 w _) hb1)
  clear hb1 AV
  obtain ⟨M, HM⟩ : ∃ M, Hid (w1.heap.size = M) := ⟨_, Lib.hid rfl⟩
  have hNM : w.heap.size < M := by rw [← HM.out]; exact (Array.getElem?_eq_some_iff.1 HA2.out).1
  go_wp2_with (fail)
  rw [HM.out]
  go_loopg [4] (L + 1) (fun gk i wr => ∃ (j : Nat) (A1 : Option Addr) (c1 : Nat) (xs : List Value), i = .int .i64 j ∧ gk + j = L + 1 ∧ j ≤ L ∧ Hid (wr.heap[w.heap.size]? = some (.cells #[.int .i64 0, .int .i64 0, .string ⟨#[]⟩, .int .i64 0, .slice none 0 0] IV (0, 0))) ∧ Hid (wr.heap[M]? = some (.cells #[.int .i64 4, .int .i64 0, .string ⟨#[]⟩, .int .i64 0, .slice A1 j c1] IV (0, 0))) ∧ Hid (OwR wr (fun b => b < w.heap.size ∨ M < b) (.slice A1 j c1) xs (lKeys j) (vs.take j)) ∧ Hid (∀ b, (Value.slice A1 j c1).ownBlock = some b → M < b) ∧ Hid (Below w.heap.size w wr))
  case atStart =>
    refine ⟨0, none, 0, [], rfl, by omega, by omega, Lib.hid (keepAlloc HA2.out), Lib.hid (by rw [← HM.out]; exact heap_alloc_new w1 _), Lib.hid ⟨World.ownsRow_nil _ _ _ 8, by simp [Value.ownBlock], by simp [lKeys], fun i hi => absurd hi (by simp)⟩, Lib.hid (by simp [Value.ownBlock]), Lib.hid (bs HB1.out (b1 w1 _))⟩
  case round =>
    obtain ⟨j, A1, c1, xs, rfl, hgj, hjL, HBX, HE, HO, HOB, HB⟩ := hrel
    obtain ⟨rm, fm⟩ := rowc HE.out
    have m4 : wr.cell? ⟨M, 4, none⟩ = some (.slice A1 j c1) := rm 4
    have m4a : ∀ o, (wr.alloc o).cell? ⟨M, 4, none⟩ = some (.slice A1 j c1) := fun o => (rowc (keepAlloc HE.out)).1 4
    by_cases hlt : j < L
    · obtain ⟨t, ht⟩ : ∃ t, vs[j]? = some t := ⟨_, List.getElem?_eq_getElem (by rw [HL.out]; exact hlt)⟩
      obtain ⟨a, k, n, s, x, ks', vs', A2, c2, rfl, hSa, rfl, hT, hcell⟩ := HV.out.below HB.out j t ht
      have HAB : Hid ((a.add (j * 5)).block < w.heap.size) := Lib.hid (by rw [mem.add_block]; exact hSa.2.lt)
      obtain ⟨L1, HL1⟩ : ∃ L1, Hid (vs'.length = L1) := ⟨_, Lib.hid rfl⟩
      have HT := Lib.hid hT
      have HVS := Lib.hid ht
      have HOW : Hid (∀ o, (wr.alloc o).ownsRow 0 IE 8 (.slice A1 j c1) j xs) := Lib.hid fun o => by
        have h0 := (HO.out.below (b1 wr o)).1
        rwa [show (vs.take j).length = j by rw [List.length_take, HL.out]; omega] at h0
      rw [HL1.out] at hcell
      have hsm : M < wr.heap.size := (Array.getElem?_eq_some_iff.1 HE.out).1
      have HNE : Hid (∀ p : Addr, p.block < w.heap.size + 1 → (⟨M, 4, none⟩ : Addr) ≠ p) := Lib.hid (addr_far hNM 4)
      obtain ⟨p0, p1, p2, p3, p4⟩ := hcell
      clear hT ht hSa rm fm
      go_wp2_with (fail)
      refine wp_region_held_drew (S := (fun w' => w'.cell? (a.add (j * 5)) = some (.int .i64 k) ∧ w'.cell? ⟨(a.add (j * 5)).block, (a.add (j * 5)).off + 1, none⟩ = some (.int .i64 n) ∧ w'.cell? ⟨(a.add (j * 5)).block, (a.add (j * 5)).off + 2, none⟩ = some (.string s) ∧ w'.cell? ⟨(a.add (j * 5)).block, (a.add (j * 5)).off + 3, none⟩ = some (.int .i64 x) ∧ w'.cell? ⟨(a.add (j * 5)).block, (a.add (j * 5)).off + 4, none⟩ = some (.slice A2 L1 c2))) (by kernel_rfl) ?_ (fun hHeld => ?_)
      · (try dsimp only) <;> go_keep
      refine wpAnyH_take (i := 0) (v := ?_) rfl (by kernel_rfl) (by kernel_rfl) (by kernel_rfl) (fun _ _ _ h => h) (Or.inl ⟨by kernel_rfl, ?_⟩) (by assumption) ?_
      rotate_left
      · (intro w hSw; (try dsimp only at hSw); go_split_ands; go_simp; try (with_reducible rfl))
      try simp only [Act.put, List.setIfInBounds_toArray, List.set_cons_zero, List.set_cons_succ, List.getElem_toArray, List.getElem_cons_zero, List.getElem_cons_succ]
      refine wpAnyH_take (i := 2) (v := ?_) rfl (by kernel_rfl) (by kernel_rfl) (by kernel_rfl) (fun _ _ _ h => h) (Or.inl ⟨by kernel_rfl, ?_⟩) (by assumption) ?_
      rotate_left
      · (intro w hSw; (try dsimp only at hSw); go_split_ands; go_simp; try (with_reducible rfl))
      try simp only [Act.put, List.setIfInBounds_toArray, List.set_cons_zero, List.set_cons_succ, List.getElem_toArray, List.getElem_cons_zero, List.getElem_cons_succ]
      refine wpAnyH_take (i := 3) (v := ?_) rfl (by kernel_rfl) (by kernel_rfl) (by kernel_rfl) (fun _ _ _ h => h) (Or.inl ⟨by kernel_rfl, ?_⟩) (by assumption) ?_
      rotate_left
      · (intro w hSw; (try dsimp only at hSw); go_split_ands; go_simp; try (with_reducible rfl))
      try simp only [Act.put, List.setIfInBounds_toArray, List.set_cons_zero, List.set_cons_succ, List.getElem_toArray, List.getElem_cons_zero, List.getElem_cons_succ]
      refine wpAnyH_take (i := 4) (v := ?_) rfl (by kernel_rfl) (by kernel_rfl) (by kernel_rfl) (fun _ _ _ h => h) (Or.inl ⟨by kernel_rfl, ?_⟩) (by assumption) ?_
      rotate_left
      · (intro w hSw; (try dsimp only at hSw); go_split_ands; go_simp; try (with_reducible rfl))
      try simp only [Act.put, List.setIfInBounds_toArray, List.set_cons_zero, List.set_cons_succ, List.getElem_toArray, List.getElem_cons_zero, List.getElem_cons_succ]
      refine wpAnyH_take (i := 5) (v := ?_) rfl (by kernel_rfl) (by kernel_rfl) (by kernel_rfl) (fun _ _ _ h => h) (Or.inl ⟨by kernel_rfl, ?_⟩) (by assumption) ?_
      rotate_left
      · (intro w hSw; (try dsimp only at hSw); go_split_ands; go_simp; try (with_reducible rfl))
      try simp only [Act.put, List.setIfInBounds_toArray, List.set_cons_zero, List.set_cons_succ, List.getElem_toArray, List.getElem_cons_zero, List.getElem_cons_succ]
      refine wpAnyH_take (i := 6) (v := ?_) rfl (by kernel_rfl) (by kernel_rfl) (by kernel_rfl) (fun _ _ _ h => h) (Or.inl ⟨by kernel_rfl, ?_⟩) (by assumption) ?_
      rotate_left
      · (intro w hSw; (try dsimp only at hSw); go_split_ands; go_simp; try (with_reducible rfl))
      try simp only [Act.put, List.setIfInBounds_toArray, List.set_cons_zero, List.set_cons_succ, List.getElem_toArray, List.getElem_cons_zero, List.getElem_cons_succ]
      refine wpAnyH_take (i := 7) (v := ?_) rfl (by kernel_rfl) (by kernel_rfl) (by kernel_rfl) (fun _ _ _ h => h) (Or.inl ⟨by kernel_rfl, ?_⟩) (by assumption) ?_
      rotate_left
      · (intro w hSw; (try dsimp only at hSw); go_split_ands; go_simp; try (with_reducible rfl))
      try simp only [Act.put, List.setIfInBounds_toArray, List.set_cons_zero, List.set_cons_succ, List.getElem_toArray, List.getElem_cons_zero, List.getElem_cons_succ]
      refine wpAnyH_take (i := 8) (v := ?_) rfl (by kernel_rfl) (by kernel_rfl) (by kernel_rfl) (fun _ _ _ h => h) (Or.inl ⟨by kernel_rfl, ?_⟩) (by assumption) ?_
      rotate_left
      · (intro w hSw; (try dsimp only at hSw); go_split_ands; go_simp; try (with_reducible rfl))
      try simp only [Act.put, List.setIfInBounds_toArray, List.set_cons_zero, List.set_cons_succ, List.getElem_toArray, List.getElem_cons_zero, List.getElem_cons_succ]
      refine wpAnyH_ready (rs := [1, 9]) (by kernel_rfl) (by simp) ?_
      refine AllReadyH.cons rfl (fun K hK => ?_) ?_
      · go_simp
        refine hK.out _ _ ?_ (fun hHeld => ?_)
        · (first | go_keep | (go_split_ands; refine ⟨?_, ?_, ?_, ?_, ?_⟩ <;> first | assumption | (rw [World.cell?_setCell_other _ _ _ _ (HNE.out _ (by exact Nat.lt_succ_of_lt HAB.out))]; assumption)))
        clear hK K
        try simp only [Act.put, List.setIfInBounds_toArray, List.set_cons_zero, List.set_cons_succ, List.getElem_toArray, List.getElem_cons_zero, List.getElem_cons_succ]
        refine wpAnyH_ready (rs := [9]) (by kernel_rfl) (by simp) ?_
        refine AllReadyH.cons rfl (fun K hK => ?_) AllReadyH.nil
        go_simp
        refine hK.out _ _ ?_ (fun hHeld => ?_)
        · (first | go_keep | (go_split_ands; refine ⟨?_, ?_, ?_, ?_, ?_⟩ <;> first | assumption | (rw [World.cell?_setCell_other _ _ _ _ (HNE.out _ (by exact Nat.lt_succ_of_lt HAB.out))]; assumption)))
        clear hK K
        try simp only [Act.put, List.setIfInBounds_toArray, List.set_cons_zero, List.set_cons_succ, List.getElem_toArray, List.getElem_cons_zero, List.getElem_cons_succ]
        refine wpAnyH_ready (rs := [10]) (by kernel_rfl) (by simp) ?_
        refine AllReadyH.cons rfl (fun K hK => ?_) AllReadyH.nil
        refine step_append_lies _ (by rfl) _ _ 24 (by rfl) 0 IE i0 _ 8 96 Try.underlying24 HII.out HZZ.out.1 HZZ.out.2.1 HZZ.out.2.2 rfl (by decide) (.slice A1 j c1) j xs (by rfl) (HOW.out _) ⟨wr.heap.size, 0, none⟩ 1 1 [.bool false, .int .i64 j, .string ⟨#[]⟩, .int .i64 k, .int .i64 n, .string s, .int .i64 x, .slice A2 L1 c2] (by rfl) (by rfl) (eight_new wr _ _ _ _ _ _ _ _ _) (eight_one _ _ _ _ _ _ _ _ _ _) (by omega) (by unfold maxLen; omega) (by omega) (Nat.zero_le _) (wr.heap.size + 1) (by simp) ?_
        intro g3 c3 w2 hown hgrow hat hlt3
        have hown2 : w2.ownsRow 0 IE 8 (.slice (some ⟨g3, 0, none⟩) (j + 1) c3) ((vs.take j).length + 1) (xs ++ [.bool false, .int .i64 j, .string ⟨#[]⟩, .int .i64 k, .int .i64 n, .string s, .int .i64 x, .slice A2 vs'.length c2]) := by
          rw [show (vs.take j).length = j by rw [List.length_take, HL.out]; omega, HL1.out]
          exact hown
        have HOR := Lib.hid (((HO.out.below ((b1 wr _).drew)).more (Q := fun b => b < w.heap.size) (y := ⟨false, (j : Int), ⟨#[]⟩⟩) (k := k) (n := n) (s := s) (x := x) (ks' := ks') (vs' := vs') (A := A2) (c := c2) (v' := .slice (some ⟨g3, 0, none⟩) (j + 1) c3) ⟨by unfold I64; show _ ≤ (j : Int) ∧ (j : Int) ≤ _; omega, Nat.zero_le _⟩ ((HT.out.stays (S' := fun b => b < w.heap.size) (fun b hb => hb.2.lt) (fun b _ hlt => rfl)).below' ((b1 wr _).drew)) (fun b hb e => by have := HOB.out b e; omega) hown2 hgrow (hat.imp (fun h => h.symm) (fun h => by rw [h]; simp [Value.ownBlock]))))
        have hat2 : M < g3 := by
          rcases hat with h | h
          · exact HOB.out g3 h
          · rw [h]; (try simp); omega
        have HB2 : Hid (Below w.heap.size w w2) := Lib.hid (((bs HB.out ((b1 wr _).drew))).grown hgrow (by simp; have := HB.out.size; omega) (fun k hk => by have := HOB.out k hk; omega))
        have blk : ∀ (b : Nat) (o : Obj), wr.heap[b]? = some o → b ≤ M → w2.heap[b]? = some o := fun b o h hb => (hgrow.block b (by simp; omega) (fun e => by have := HOB.out _ e.symm; omega)).trans (carry ((b1 wr _).drew) h)
        have HF0 := Lib.hid (blk _ _ HBX.out (by omega))
        have HF2 := Lib.hid (blk _ _ HE.out (Nat.le_refl _))
        have far : ∀ (p : Addr) (u : Value), wr.cell? p = some u → p.block ≤ M → w2.cell? p = some u := fun p u hu hlt => by
          rw [hgrow.cell_far p (by simp; have := World.block_lt_of_cell? _ _ hu; omega) (fun e => by have := HOB.out _ e.symm; omega)]
          exact cell_stays (fun hlt => ((b1 wr _).drew).block _ hlt) hu
        have hab : (a.add (j * 5)).block ≤ M := by have := HAB.out; omega
        have t0 := far _ _ p0 hab
        have t1 := far _ _ p1 hab
        have t2 := far _ _ p2 hab
        have t3 := far _ _ p3 hab
        have t4 := far _ _ p4 hab
        have t24 : w2.cell? ⟨M, 4, none⟩ = some (.slice A1 j c1) := (rowc HF2.out).1 4
        have ff2 : w2.frozen? ⟨M, 4, none⟩ = false := (rowc HF2.out).2 4
        clear hown hown2 hgrow hat far blk hab
        refine hK.out _ _ ?_ (fun hHeld => ?_)
        · (first | go_keep | (go_split_ands; refine ⟨?_, ?_, ?_, ?_, ?_⟩ <;> first | assumption | (rw [World.cell?_setCell_other _ _ _ _ (HNE.out _ (by exact Nat.lt_succ_of_lt HAB.out))]; assumption)))
        clear hK K
        try simp only [Act.put, List.setIfInBounds_toArray, List.set_cons_zero, List.set_cons_succ, List.getElem_toArray, List.getElem_cons_zero, List.getElem_cons_succ]
        refine wpAnyH_take (i := 11) (v := ?_) rfl (by kernel_rfl) (by kernel_rfl) (by kernel_rfl) (fun _ _ _ h => h) (Or.inl ⟨by kernel_rfl, ?_⟩) (by assumption) ?_
        rotate_left
        · (intro w hSw; (try dsimp only at hSw); go_split_ands; go_simp; try (with_reducible rfl))
        try simp only [Act.put, List.setIfInBounds_toArray, List.set_cons_zero, List.set_cons_succ, List.getElem_toArray, List.getElem_cons_zero, List.getElem_cons_succ]
        refine wpAnyH_ready (rs := [12]) (by kernel_rfl) (by simp) ?_
        refine AllReadyH.cons rfl (fun K hK => ?_) AllReadyH.nil
        go_simp
        refine hK.out _ _ ?_ (fun hHeld => ?_)
        · (first | go_keep | (go_split_ands; refine ⟨?_, ?_, ?_, ?_, ?_⟩ <;> first | assumption | (rw [World.cell?_setCell_other _ _ _ _ (HNE.out _ (by exact Nat.lt_succ_of_lt HAB.out))]; assumption)))
        clear hK K
        try simp only [Act.put, List.setIfInBounds_toArray, List.set_cons_zero, List.set_cons_succ, List.getElem_toArray, List.getElem_cons_zero, List.getElem_cons_succ]
        refine wpAnyH_done (by kernel_rfl) ?_ _
        go_wp2_with (fail)
        go_roundg (L - j)
        case rel =>
          have hr := HOR.out
          rw [← lKeys_succ, show vs.take j ++ [Tr.mk k n s x ks' vs'] = vs.take (j + 1) by
            obtain ⟨hj, e⟩ := List.getElem?_eq_some_iff.1 HVS.out
            rw [List.take_succ_eq_append_getElem hj, e]] at hr
          refine ⟨j + 1, some ⟨g3, 0, none⟩, c3, _, by go_num, by omega, by omega, Lib.hid ((set_other (by omega)).trans HF0.out), Lib.hid (set_heap HF2.out 4 _), Lib.hid ((hr.mono (P' := fun b => b < w.heap.size ∨ M < b) (fun b hb => ?_)).keep fun b hb _ => set_other (by omega)), Lib.hid (fun b hb => ?_), Lib.hid (HB2.out.setCell (by simp; omega) _)⟩
          · rcases hb with (h | h) | h
            · exact h.1
            · exact .inl h
            · obtain rfl : g3 = b := by simpa [Value.ownBlock] using h
              exact .inr hat2
          · obtain rfl : g3 = b := by simpa [Value.ownBlock] using hb
            exact hat2
        case measure => omega
      refine AllReadyH.cons rfl (fun K hK => ?_) AllReadyH.nil
      go_simp
      refine hK.out _ _ ?_ (fun hHeld => ?_)
      · (first | go_keep | (go_split_ands; refine ⟨?_, ?_, ?_, ?_, ?_⟩ <;> first | assumption | (rw [World.cell?_setCell_other _ _ _ _ (HNE.out _ (by exact Nat.lt_succ_of_lt HAB.out))]; assumption)))
      clear hK K
      try simp only [Act.put, List.setIfInBounds_toArray, List.set_cons_zero, List.set_cons_succ, List.getElem_toArray, List.getElem_cons_zero, List.getElem_cons_succ]
      refine wpAnyH_ready (rs := [1]) (by kernel_rfl) (by simp) ?_
      refine AllReadyH.cons rfl (fun K hK => ?_) AllReadyH.nil
      go_simp
      refine hK.out _ _ ?_ (fun hHeld => ?_)
      · (first | go_keep | (go_split_ands; refine ⟨?_, ?_, ?_, ?_, ?_⟩ <;> first | assumption | (rw [World.cell?_setCell_other _ _ _ _ (HNE.out _ (by exact Nat.lt_succ_of_lt HAB.out))]; assumption)))
      clear hK K
      try simp only [Act.put, List.setIfInBounds_toArray, List.set_cons_zero, List.set_cons_succ, List.getElem_toArray, List.getElem_cons_zero, List.getElem_cons_succ]
      refine wpAnyH_ready (rs := [10]) (by kernel_rfl) (by simp) ?_
      refine AllReadyH.cons rfl (fun K hK => ?_) AllReadyH.nil
      refine step_append_lies _ (by rfl) _ _ 24 (by rfl) 0 IE i0 _ 8 96 Try.underlying24 HII.out HZZ.out.1 HZZ.out.2.1 HZZ.out.2.2 rfl (by decide) (.slice A1 j c1) j xs (by rfl) (HOW.out _) ⟨wr.heap.size, 0, none⟩ 1 1 [.bool false, .int .i64 j, .string ⟨#[]⟩, .int .i64 k, .int .i64 n, .string s, .int .i64 x, .slice A2 L1 c2] (by rfl) (by rfl) (eight_new wr _ _ _ _ _ _ _ _ _) (eight_one _ _ _ _ _ _ _ _ _ _) (by omega) (by unfold maxLen; omega) (by omega) (Nat.zero_le _) (wr.heap.size + 1) (by simp) ?_
      intro g3 c3 w2 hown hgrow hat hlt3
      have hown2 : w2.ownsRow 0 IE 8 (.slice (some ⟨g3, 0, none⟩) (j + 1) c3) ((vs.take j).length + 1) (xs ++ [.bool false, .int .i64 j, .string ⟨#[]⟩, .int .i64 k, .int .i64 n, .string s, .int .i64 x, .slice A2 vs'.length c2]) := by
        rw [show (vs.take j).length = j by rw [List.length_take, HL.out]; omega, HL1.out]
        exact hown
      have HOR := Lib.hid (((HO.out.below ((b1 wr _).drew)).more (Q := fun b => b < w.heap.size) (y := ⟨false, (j : Int), ⟨#[]⟩⟩) (k := k) (n := n) (s := s) (x := x) (ks' := ks') (vs' := vs') (A := A2) (c := c2) (v' := .slice (some ⟨g3, 0, none⟩) (j + 1) c3) ⟨by unfold I64; show _ ≤ (j : Int) ∧ (j : Int) ≤ _; omega, Nat.zero_le _⟩ ((HT.out.stays (S' := fun b => b < w.heap.size) (fun b hb => hb.2.lt) (fun b _ hlt => rfl)).below' ((b1 wr _).drew)) (fun b hb e => by have := HOB.out b e; omega) hown2 hgrow (hat.imp (fun h => h.symm) (fun h => by rw [h]; simp [Value.ownBlock]))))
      have hat2 : M < g3 := by
        rcases hat with h | h
        · exact HOB.out g3 h
        · rw [h]; (try simp); omega
      have HB2 : Hid (Below w.heap.size w w2) := Lib.hid (((bs HB.out ((b1 wr _).drew))).grown hgrow (by simp; have := HB.out.size; omega) (fun k hk => by have := HOB.out k hk; omega))
      have blk : ∀ (b : Nat) (o : Obj), wr.heap[b]? = some o → b ≤ M → w2.heap[b]? = some o := fun b o h hb => (hgrow.block b (by simp; omega) (fun e => by have := HOB.out _ e.symm; omega)).trans (carry ((b1 wr _).drew) h)
      have HF0 := Lib.hid (blk _ _ HBX.out (by omega))
      have HF2 := Lib.hid (blk _ _ HE.out (Nat.le_refl _))
      have far : ∀ (p : Addr) (u : Value), wr.cell? p = some u → p.block ≤ M → w2.cell? p = some u := fun p u hu hlt => by
        rw [hgrow.cell_far p (by simp; have := World.block_lt_of_cell? _ _ hu; omega) (fun e => by have := HOB.out _ e.symm; omega)]
        exact cell_stays (fun hlt => ((b1 wr _).drew).block _ hlt) hu
      have hab : (a.add (j * 5)).block ≤ M := by have := HAB.out; omega
      have t0 := far _ _ p0 hab
      have t1 := far _ _ p1 hab
      have t2 := far _ _ p2 hab
      have t3 := far _ _ p3 hab
      have t4 := far _ _ p4 hab
      have t24 : w2.cell? ⟨M, 4, none⟩ = some (.slice A1 j c1) := (rowc HF2.out).1 4
      have ff2 : w2.frozen? ⟨M, 4, none⟩ = false := (rowc HF2.out).2 4
      clear hown hown2 hgrow hat far blk hab
      refine hK.out _ _ ?_ (fun hHeld => ?_)
      · (first | go_keep | (go_split_ands; refine ⟨?_, ?_, ?_, ?_, ?_⟩ <;> first | assumption | (rw [World.cell?_setCell_other _ _ _ _ (HNE.out _ (by exact Nat.lt_succ_of_lt HAB.out))]; assumption)))
      clear hK K
      try simp only [Act.put, List.setIfInBounds_toArray, List.set_cons_zero, List.set_cons_succ, List.getElem_toArray, List.getElem_cons_zero, List.getElem_cons_succ]
      refine wpAnyH_take (i := 11) (v := ?_) rfl (by kernel_rfl) (by kernel_rfl) (by kernel_rfl) (fun _ _ _ h => h) (Or.inl ⟨by kernel_rfl, ?_⟩) (by assumption) ?_
      rotate_left
      · (intro w hSw; (try dsimp only at hSw); go_split_ands; go_simp; try (with_reducible rfl))
      try simp only [Act.put, List.setIfInBounds_toArray, List.set_cons_zero, List.set_cons_succ, List.getElem_toArray, List.getElem_cons_zero, List.getElem_cons_succ]
      refine wpAnyH_ready (rs := [12]) (by kernel_rfl) (by simp) ?_
      refine AllReadyH.cons rfl (fun K hK => ?_) AllReadyH.nil
      go_simp
      refine hK.out _ _ ?_ (fun hHeld => ?_)
      · (first | go_keep | (go_split_ands; refine ⟨?_, ?_, ?_, ?_, ?_⟩ <;> first | assumption | (rw [World.cell?_setCell_other _ _ _ _ (HNE.out _ (by exact Nat.lt_succ_of_lt HAB.out))]; assumption)))
      clear hK K
      try simp only [Act.put, List.setIfInBounds_toArray, List.set_cons_zero, List.set_cons_succ, List.getElem_toArray, List.getElem_cons_zero, List.getElem_cons_succ]
      refine wpAnyH_done (by kernel_rfl) ?_ _
      go_wp2_with (fail)
      go_roundg (L - j)
      case rel =>
        have hr := HOR.out
        rw [← lKeys_succ, show vs.take j ++ [Tr.mk k n s x ks' vs'] = vs.take (j + 1) by
          obtain ⟨hj, e⟩ := List.getElem?_eq_some_iff.1 HVS.out
          rw [List.take_succ_eq_append_getElem hj, e]] at hr
        refine ⟨j + 1, some ⟨g3, 0, none⟩, c3, _, by go_num, by omega, by omega, Lib.hid ((set_other (by omega)).trans HF0.out), Lib.hid (set_heap HF2.out 4 _), Lib.hid ((hr.mono (P' := fun b => b < w.heap.size ∨ M < b) (fun b hb => ?_)).keep fun b hb _ => set_other (by omega)), Lib.hid (fun b hb => ?_), Lib.hid (HB2.out.setCell (by simp; omega) _)⟩
        · rcases hb with (h | h) | h
          · exact h.1
          · exact .inl h
          · obtain rfl : g3 = b := by simpa [Value.ownBlock] using h
            exact .inr hat2
        · obtain rfl : g3 = b := by simpa [Value.ownBlock] using hb
          exact hat2
      case measure => omega
    · obtain rfl : j = L := by omega
      clear m4 m4a
      obtain ⟨rb, fb⟩ := rowc HBX.out
      go_wp2_with (fail)
      refine bodyPost_ret (v := vV 4 0 ⟨#[]⟩ j A1 j c1) (by simp [results, Try.results35, go_sem, rb, rm]) rfl ⟨_, rfl, ?_, ?_⟩
      · have ho := HO.out
        rw [show vs.take j = vs by rw [← HL.out]; exact List.take_length] at ho
        obtain ⟨A9, c9, e9, hc9, hin⟩ := ho.isinP (by unfold maxLen; rw [HL.out]; omega)
        rw [HL.out] at e9
        obtain ⟨rfl, rfl⟩ : A1 = A9 ∧ c1 = c9 := by simpa using e9
        have hT := TIn.of (k := 4) (n := 0) (x := (j : Int)) (s := ⟨#[]⟩) c1 ⟨by unfold I64; omega, by unfold I64; omega, by unfold I64; omega, Nat.zero_le _⟩ hin hc9
        rw [HL.out] at hT
        rw [show listT vs = .mk 4 0 ⟨#[]⟩ j (lKeys j) vs by unfold listT; rw [HL.out]]
        refine hT.stays (S' := fun _ => True) (fun _ _ => trivial) (fun b hb _ => ?_)
        iterate 6 refine (set_other (by omega)).trans ?_
        rfl
      · iterate 6 refine Below.setCell ?_ (by simp <;> omega) _
        exact HB.out

theorem VIn.nwb {w w' : World} {vs : List Tr} {A : Option Addr} (hb : Below w.heap.size w w') (h : VIn w (Nw 0 w) vs A) : VIn w' (Nw 0 w') vs A :=
  h.stays (fun b hb' => by
    obtain ⟨h0, cs, t, e⟩ := hb'
    exact ⟨h0, cs, t, carry hb e⟩) (fun b _ hlt => hb.block b hlt)
set_option maxHeartbeats 1000000 in
theorem listOf_s (vs : List Tr) (A : Option Addr) (c : Nat) (w : World) (h : VIn w (Nw 0 w) vs A) (hN : cnt (listT vs) ≤ 1048578) : Calls Try.prog 10 #[.slice A vs.length c] w (ToQ w (listT vs)) := by
  have hlen : vs.length ≤ 1048578 := by have := cnts_len vs; unfold listT at hN; rw [cnt_mk'] at hN; omega
  have L6 : Hid (∀ w', Below w.heap.size w w' → Calls Try.prog 35 #[.slice A vs.length c] w' (LsQ w' vs)) := Lib.hid (fun w' hb => l6List_s vs A c w' (h.nwb hb) hlen)
  have L5 : Hid (∀ w' v, TIn w' (fun _ => True) (listT vs) v → Calls Try.prog 34 #[v] w' (ToQ w' (listT vs))) := Lib.hid (fun w' v h => l5Copy _ (by omega) w' _ v h)
  obtain ⟨L, HL⟩ : ∃ L, Hid (vs.length = L) := ⟨_, Lib.hid rfl⟩
  rw [HL.out] at L6 hlen ⊢
  clear h hN
  go_enter Try.func10, Try.ntmps10
  go_wp2_with (fail)
  refine (L6.out _ (b1 w _)).mono ?_
  rintro e w1 ⟨v, rfl, hT, hb1⟩
  have HA2 := Lib.hid (carry hb1 (heap_alloc_new w _))
  have HB1 := Lib.hid (bs (b1 w _) hb1)
  have HT := Lib.hid hT
  clear hT hb1
  go_wp2_with (fail)
  refine (L5.out _ _ HT.out).mono ?_
  rintro e w2 ⟨u, rfl, hU, hb2⟩
  have HB2 := Lib.hid (bs HB1.out hb2)
  have HU := Lib.hid hU
  obtain ⟨A3, c3, rfl, -⟩ := hU.out
  obtain ⟨r2, f2⟩ := rowc (carry hb2 HA2.out)
  have hz : w.heap.size < w1.heap.size := (Array.getElem?_eq_some_iff.1 HA2.out).1
  rw [HL.out] at HU ⊢
  clear hU hb2
  go_wp2_with (fail)
  refine bodyPost_ret (v := vV 4 0 ⟨#[]⟩ L A3 L c3) (by simp [results, Try.results10, go_sem, r2]) rfl ⟨_, rfl, HU.out.stays (fun b hb => Nat.le_trans (Nat.le_of_lt hz) hb) (fun b hb _ => ?_), ?_⟩
  · have hb' : w1.heap.size ≤ b := hb
    iterate 5 refine (set_other (by omega)).trans ?_
    rfl
  · iterate 5 refine Below.setCell ?_ (by simp) _
    exact HB2.out

end Go.Proofs.Yteiijemjofaihaa.tree
