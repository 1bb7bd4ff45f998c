/-
  What the texts behind this one use: 4 parts of one proof.
  Conditions: those that each theorem names.
-/
import Derived.Test.YtlbkbcafkjgckaaDoorCmB5
import Derived.Test.YtlbkbcafkjgckaaDoorCmSVals
import Derived.Test.YtlbkbcafkjgckaaDoorCmB2
import Derived.Deep.RegionWith
import Derived.Test.YtlbkbcafkjgckaaDoorCmSCmpK
import Derived.Test.YtlbkbcafkjgckaaDoorCmSTreeCp
/-
  Whether a list of values is in order, of the project and of the model.
  Conditions: those that each theorem names.
-/
namespace Go.Proofs.YtlbkbcafkjgckaaDoor.tree
open Go.ChangeShapes Go.WideShapes Go.ChangeAt Go.RowKit
set_option linter.unusedVariables false

set_option maxRecDepth 100000 in
set_option maxHeartbeats 1600000 in
theorem isOrdered_i (vs : List Tr) (A : Option Addr) (c : Nat) (w : World) (S : Nat → Prop) (h : VIn w S vs A) (hm : vs.length ≤ 1048578)
    (CV : ∀ w' t t' v v', t ∈ vs → t' ∈ vs → Below w.heap.size w w' → TIn w' S t v → TIn w' S t' v' → Calls Tryd.prog 24 #[v, v'] w' (GivesQ w' (.int .i64 (cmpT t t')))) :
    Calls Tryd.prog 29 #[.slice A vs.length c] w (GivesQ w (.bool (ordB vs))) := by
  obtain ⟨L, HL⟩ : ∃ L, Hid (vs.length = L) := ⟨_, Lib.hid rfl⟩
  have HV := Lib.hid h
  have HC := Lib.hid CV
  obtain ⟨W, HW⟩ : ∃ W, Hid (ordB vs = W) := ⟨_, Lib.hid rfl⟩
  rw [HL.out] at hm ⊢
  rw [HW.out]
  clear h CV
  go_enter Tryd.func29, Tryd.ntmps29
  go_wp2_with (fail)
  go_loopg [3] (L + 1) (fun gk i wr => ∃ j : Nat, i = .int .i64 j ∧ 1 ≤ j ∧ gk + j = L + 2 ∧ Hid (ordB (vs.drop (j - 1)) = W) ∧ Hid (Below w.heap.size w wr))
  case atStart => exact ⟨1, rfl, by omega, by omega, Lib.hid HW.out, Lib.hid (Below.refl _ _)⟩
  case round =>
    obtain ⟨j1, rfl, hj1, hgj, HQ, HB⟩ := hrel
    obtain ⟨j, HJ⟩ : ∃ j, Hid (j1 = j + 1) := ⟨j1 - 1, Lib.hid (by omega)⟩
    have hj0 : j1 - 1 = j := by have := HJ.out; omega
    rw [hj0] at HQ
    clear hj0
    by_cases hlt : j1 < L
    · have i1 : j < L := by have := HJ.out; omega
      have i2 : (j1 : Int) - 1 = (j : Int) := by have := HJ.out; omega
      have i3 : IntKind.i64.wrap (j : Int) = (j : Int) := by rw [IntKind.wrap_i64]; omega
      obtain ⟨t, ht⟩ : ∃ t, vs[j]? = some t := ⟨_, List.getElem?_eq_getElem (by rw [HL.out]; omega)⟩
      obtain ⟨u, hu⟩ : ∃ u, vs[j1]? = some u := ⟨_, List.getElem?_eq_getElem (by rw [HL.out]; omega)⟩
      obtain ⟨a, k, n, s, x, ks', vs', A1, c1, rfl, -, rfl, hT, hcell⟩ := HV.out.below HB.out j t ht
      obtain ⟨a', k', n', s', x', ks2, vs2, A2, c2, e, -, rfl, hT', hcell'⟩ := HV.out.below HB.out j1 u hu
      obtain rfl := Option.some.inj e
      have hd : vs.drop j = .mk k n s x ks' vs' :: .mk k' n' s' x' ks2 vs2 :: vs.drop (j + 1 + 1) := by
        rw [HJ.out] at hu
        obtain ⟨h1, e1⟩ := List.getElem?_eq_some_iff.1 ht
        obtain ⟨h2, e2⟩ := List.getElem?_eq_some_iff.1 hu
        rw [List.drop_eq_getElem_cons h1, List.drop_eq_getElem_cons h2, e1, e2]
      have hd1 : vs.drop j1 = .mk k' n' s' x' ks2 vs2 :: vs.drop (j + 1 + 1) := by
        rw [HJ.out] at hu ⊢
        obtain ⟨h2, e2⟩ := List.getElem?_eq_some_iff.1 hu
        rw [List.drop_eq_getElem_cons h2, e2]
      have HQ2 := HQ.out
      rw [hd, ordB, ← hd1] at HQ2
      have HQ3 := Lib.hid HQ2
      have CV := fun w' (hb : Below wr.heap.size wr w') => HC.out w' _ _ _ _ (List.mem_of_getElem? ht) (List.mem_of_getElem? hu) (bs HB.out hb) (hT.below' hb) (hT'.below' hb)
      obtain ⟨z, HZ⟩ : ∃ z, Hid (cmpT (.mk k n s x ks' vs') (.mk k' n' s' x' ks2 vs2) = z) := ⟨_, Lib.hid rfl⟩
      rw [HZ.out] at CV HQ3
      obtain ⟨L1, HL1⟩ : ∃ L, Hid (vs'.length = L) := ⟨_, Lib.hid rfl⟩
      obtain ⟨L2, HL2⟩ : ∃ L, Hid (vs2.length = L) := ⟨_, Lib.hid rfl⟩
      rw [HL1.out] at CV hcell
      rw [HL2.out] at CV hcell'
      obtain ⟨p0, p1, p2, p3, p4⟩ := hcell
      obtain ⟨q0, q1, q2, q3, q4⟩ := hcell'
      have HCV := Lib.hid CV
      clear CV hT hT' ht hu hd hd1 HQ2 HQ HZ e
      by_cases hz : z = 1
      · subst hz
        have HWF : Hid (W = false) := Lib.hid (by rw [← HQ3.out]; rfl)
        go_upto_region 4 with fail
        go_region_with ((go_at_call 24; refine (HCV.out _ ?_).mono ?_; exact ((Below.refl wr.heap.size wr).drew); rintro e w1 ⟨rfl, hb1⟩; have HB1 := Lib.hid (bs HB.out (bs ((Below.refl wr.heap.size wr).drew) hb1)); clear hb1))
        all_goals
          go_wp2_with (fail)
          go_ret
          exact ⟨by rw [HWF.out]; rfl, HB1.out⟩
      · have HWT : Hid (ordB (vs.drop j1) = W) := Lib.hid (by rw [← HQ3.out, decide_eq_false hz]; rfl)
        clear HQ3
        go_upto_region 4 with fail
        go_region_with ((go_at_call 24; refine (HCV.out _ ?_).mono ?_; exact ((Below.refl wr.heap.size wr).drew); rintro e w1 ⟨rfl, hb1⟩; have HB1 := Lib.hid (bs HB.out (bs ((Below.refl wr.heap.size wr).drew) hb1)); clear hb1))
        all_goals
          go_wp2_with (fail)
          go_roundg (L + 1 - j1)
          case rel => exact ⟨j1 + 1, by go_num, by omega, by omega, HWT, HB1⟩
          case measure => omega
    · have HWT : Hid (W = true) := Lib.hid (by
        rw [← HQ.out]
        have : (vs.drop j).length ≤ 1 := by rw [List.length_drop, HL.out]; have := HJ.out; omega
        match hq : vs.drop j, this with
        | [], _ => rfl
        | [t], _ => rfl
        | t :: u :: l, h => simp at h)
      go_wp2_with (fail)
      go_ret
      exact ⟨by rw [HWT.out]; rfl, HB.out⟩

set_option maxRecDepth 100000 in
set_option maxHeartbeats 1600000 in
theorem isOrdered_s (vs : List Tr) (A : Option Addr) (c : Nat) (w : World) (S : Nat → Prop) (h : VIn w S vs A) (hm : vs.length ≤ 1048578)
    (CV : ∀ w' t t' v v', t ∈ vs → t' ∈ vs → Below w.heap.size w w' → TIn w' S t v → TIn w' S t' v' → Calls Tryd.prog 47 #[v, v'] w' (GivesQ w' (.int .i64 (cmpT t t')))) :
    Calls Tryd.prog 50 #[.slice A vs.length c] w (GivesQ w (.bool (ordB vs))) := by
  obtain ⟨L, HL⟩ : ∃ L, Hid (vs.length = L) := ⟨_, Lib.hid rfl⟩
  have HV := Lib.hid h
  have HC := Lib.hid CV
  obtain ⟨W, HW⟩ : ∃ W, Hid (ordB vs = W) := ⟨_, Lib.hid rfl⟩
  rw [HL.out] at hm ⊢
  rw [HW.out]
  clear h CV
  go_enter Tryd.func50, Tryd.ntmps50
  go_wp2_with (fail)
  go_loopg [3] (L + 1) (fun gk i wr => ∃ j : Nat, i = .int .i64 j ∧ 1 ≤ j ∧ gk + j = L + 2 ∧ Hid (ordB (vs.drop (j - 1)) = W) ∧ Hid (Below w.heap.size w wr))
  case atStart => exact ⟨1, rfl, by omega, by omega, Lib.hid HW.out, Lib.hid (Below.refl _ _)⟩
  case round =>
    obtain ⟨j1, rfl, hj1, hgj, HQ, HB⟩ := hrel
    obtain ⟨j, HJ⟩ : ∃ j, Hid (j1 = j + 1) := ⟨j1 - 1, Lib.hid (by omega)⟩
    have hj0 : j1 - 1 = j := by have := HJ.out; omega
    rw [hj0] at HQ
    clear hj0
    by_cases hlt : j1 < L
    · have i1 : j < L := by have := HJ.out; omega
      have i2 : (j1 : Int) - 1 = (j : Int) := by have := HJ.out; omega
      have i3 : IntKind.i64.wrap (j : Int) = (j : Int) := by rw [IntKind.wrap_i64]; omega
      obtain ⟨t, ht⟩ : ∃ t, vs[j]? = some t := ⟨_, List.getElem?_eq_getElem (by rw [HL.out]; omega)⟩
      obtain ⟨u, hu⟩ : ∃ u, vs[j1]? = some u := ⟨_, List.getElem?_eq_getElem (by rw [HL.out]; omega)⟩
      obtain ⟨a, k, n, s, x, ks', vs', A1, c1, rfl, -, rfl, hT, hcell⟩ := HV.out.below HB.out j t ht
      obtain ⟨a', k', n', s', x', ks2, vs2, A2, c2, e, -, rfl, hT', hcell'⟩ := HV.out.below HB.out j1 u hu
      obtain rfl := Option.some.inj e
      have hd : vs.drop j = .mk k n s x ks' vs' :: .mk k' n' s' x' ks2 vs2 :: vs.drop (j + 1 + 1) := by
        rw [HJ.out] at hu
        obtain ⟨h1, e1⟩ := List.getElem?_eq_some_iff.1 ht
        obtain ⟨h2, e2⟩ := List.getElem?_eq_some_iff.1 hu
        rw [List.drop_eq_getElem_cons h1, List.drop_eq_getElem_cons h2, e1, e2]
      have hd1 : vs.drop j1 = .mk k' n' s' x' ks2 vs2 :: vs.drop (j + 1 + 1) := by
        rw [HJ.out] at hu ⊢
        obtain ⟨h2, e2⟩ := List.getElem?_eq_some_iff.1 hu
        rw [List.drop_eq_getElem_cons h2, e2]
      have HQ2 := HQ.out
      rw [hd, ordB, ← hd1] at HQ2
      have HQ3 := Lib.hid HQ2
      have CV := fun w' (hb : Below wr.heap.size wr w') => HC.out w' _ _ _ _ (List.mem_of_getElem? ht) (List.mem_of_getElem? hu) (bs HB.out hb) (hT.below' hb) (hT'.below' hb)
      obtain ⟨z, HZ⟩ : ∃ z, Hid (cmpT (.mk k n s x ks' vs') (.mk k' n' s' x' ks2 vs2) = z) := ⟨_, Lib.hid rfl⟩
      rw [HZ.out] at CV HQ3
      obtain ⟨L1, HL1⟩ : ∃ L, Hid (vs'.length = L) := ⟨_, Lib.hid rfl⟩
      obtain ⟨L2, HL2⟩ : ∃ L, Hid (vs2.length = L) := ⟨_, Lib.hid rfl⟩
      rw [HL1.out] at CV hcell
      rw [HL2.out] at CV hcell'
      obtain ⟨p0, p1, p2, p3, p4⟩ := hcell
      obtain ⟨q0, q1, q2, q3, q4⟩ := hcell'
      have HCV := Lib.hid CV
      clear CV hT hT' ht hu hd hd1 HQ2 HQ HZ e
      by_cases hz : z = 1
      · subst hz
        have HWF : Hid (W = false) := Lib.hid (by rw [← HQ3.out]; rfl)
        go_upto_region 4 with fail
        go_region_with ((go_at_call 47; refine (HCV.out _ ?_).mono ?_; exact ((Below.refl wr.heap.size wr).drew); rintro e w1 ⟨rfl, hb1⟩; have HB1 := Lib.hid (bs HB.out (bs ((Below.refl wr.heap.size wr).drew) hb1)); clear hb1))
        all_goals
          go_wp2_with (fail)
          go_ret
          exact ⟨by rw [HWF.out]; rfl, HB1.out⟩
      · have HWT : Hid (ordB (vs.drop j1) = W) := Lib.hid (by rw [← HQ3.out, decide_eq_false hz]; rfl)
        clear HQ3
        go_upto_region 4 with fail
        go_region_with ((go_at_call 47; refine (HCV.out _ ?_).mono ?_; exact ((Below.refl wr.heap.size wr).drew); rintro e w1 ⟨rfl, hb1⟩; have HB1 := Lib.hid (bs HB.out (bs ((Below.refl wr.heap.size wr).drew) hb1)); clear hb1))
        all_goals
          go_wp2_with (fail)
          go_roundg (L + 1 - j1)
          case rel => exact ⟨j1 + 1, by go_num, by omega, by omega, HWT, HB1⟩
          case measure => omega
    · have HWT : Hid (W = true) := Lib.hid (by
        rw [← HQ.out]
        have : (vs.drop j).length ≤ 1 := by rw [List.length_drop, HL.out]; have := HJ.out; omega
        match hq : vs.drop j, this with
        | [], _ => rfl
        | [t], _ => rfl
        | t :: u :: l, h => simp at h)
      go_wp2_with (fail)
      go_ret
      exact ⟨by rw [HWT.out]; rfl, HB.out⟩

end Go.Proofs.YtlbkbcafkjgckaaDoor.tree

/-
  Two arrays of which the comparison begins.
  Conditions: none.
-/
namespace Go.Proofs.YtlbkbcafkjgckaaDoor.tree
open Go.ChangeShapes Go.WideShapes Go.ChangeAt Go.RowKit
set_option linter.unusedVariables false

def NmQ (w : World) (A : Option Addr) (L c : Nat) (A' : Option Addr) (L' c' : Nat) (e : Ending) (w' : World) : Prop :=
  ∃ b, e = .returned (.agg #[.slice A L c, .slice A' L' c', .int .i64 0, .map (some b)]) ∧ w.heap.size ≤ b ∧ raw.Holds w' GK b (fun _ => none) ∧ Below w.heap.size w w'
set_option maxHeartbeats 1000000 in
theorem newMatching (k n : Int) (s : ByteArray) (x : Int) (A : Option Addr) (L c : Nat) (k' n' : Int) (s' : ByteArray) (x' : Int) (A' : Option Addr) (L' c' : Nat) (w : World) :
    Calls Tryd.prog 117 #[vV k n s x A L c, vV k' n' s' x' A' L' c'] w (NmQ w A L c A' L' c') := by
  have hmm := @run_makeMap Tryd.prog
  go_enter Tryd.func117, Tryd.ntmps117
  go_wp2_with (fail)
  obtain ⟨_, _, _, az, ab⟩ := al3 w #[.int .i64 k, .int .i64 n, .string s, .int .i64 x, .slice A L c] #[.int .i64 k', .int .i64 n', .string s', .int .i64 x', .slice A' L' c'] #[.slice A L c, .slice A' L' c', .int .i64 0, .map (some (w.heap.size + 1 + 1 + 1))] IV IV MG
  have hmd := raw.Holds.made (((w.alloc (.cells #[.int .i64 k, .int .i64 n, .string s, .int .i64 x, .slice A L c] IV)).alloc (.cells #[.int .i64 k', .int .i64 n', .string s', .int .i64 x', .slice A' L' c'] IV)).alloc (.cells #[.slice A L c, .slice A' L' c', .int .i64 0, .map (some (w.heap.size + 1 + 1 + 1))] MG)) GK
  rw [az] at hmd
  refine bodyPost_ret (v := .agg #[.slice A L c, .slice A' L' c', .int .i64 0, .map (some (w.heap.size + 1 + 1 + 1))]) (by simp [results, Tryd.results117, go_sem]) rfl ⟨_, rfl, by omega, hmd, bs ab (b1 _ _)⟩

end Go.Proofs.YtlbkbcafkjgckaaDoor.tree

/-
  Rows of values: five cells written at once; the first j values of a row.
  Conditions: those that each theorem names.
-/
namespace Go.Proofs.YtlbkbcafkjgckaaDoor.tree
open Go.ChangeShapes Go.WideShapes Go.ChangeAt Go.RowKit
set_option linter.unusedVariables false

def set5 (arr : Array Value) (o : Nat) (c0 c1 c2 c3 c4 : Value) : Array Value := ((((arr.setIfInBounds o c0).setIfInBounds (o + 1) c1).setIfInBounds (o + 2) c2).setIfInBounds (o + 3) c3).setIfInBounds (o + 4) c4
theorem set5_size (arr : Array Value) (o : Nat) (c0 c1 c2 c3 c4 : Value) : (set5 arr o c0 c1 c2 c3 c4).size = arr.size := by simp [set5]
theorem set5_out (arr : Array Value) (o : Nat) (c0 c1 c2 c3 c4 : Value) (p : Nat) (h : p < o ∨ o + 5 ≤ p) : (set5 arr o c0 c1 c2 c3 c4)[p]? = arr[p]? := by
  unfold set5
  rw [Array.getElem?_setIfInBounds_ne (by omega), Array.getElem?_setIfInBounds_ne (by omega), Array.getElem?_setIfInBounds_ne (by omega), Array.getElem?_setIfInBounds_ne (by omega), Array.getElem?_setIfInBounds_ne (by omega)]
theorem set5_in (arr : Array Value) (o : Nat) (c0 c1 c2 c3 c4 : Value) (h : o + 5 ≤ arr.size) (q : Nat) (hq : q < 5) : (set5 arr o c0 c1 c2 c3 c4)[o + q]? = (#[c0, c1, c2, c3, c4] : Array Value)[q]? := by
  unfold set5
  have hq' : q = 0 ∨ q = 1 ∨ q = 2 ∨ q = 3 ∨ q = 4 := by omega
  rcases hq' with rfl | rfl | rfl | rfl | rfl <;> simp [Array.getElem?_setIfInBounds] <;> omega
theorem set5_heap {W : World} {g : Nat} {arr : Array Value} {t : TypeId} (h : W.heap[g]? = some (.cells arr t (0, 0))) (o : Nat) (c0 c1 c2 c3 c4 : Value) :
    (((((W.setCell ⟨g, o, none⟩ c0).setCell ⟨g, o + 1, none⟩ c1).setCell ⟨g, o + 2, none⟩ c2).setCell ⟨g, o + 3, none⟩ c3).setCell ⟨g, o + 4, none⟩ c4).heap[g]? = some (.cells (set5 arr o c0 c1 c2 c3 c4) t (0, 0)) :=
  set_heap (set_heap (set_heap (set_heap (set_heap h _ _) _ _) _ _) _ _) _ _
theorem set5_other {W : World} {g k : Nat} (h : k ≠ g) (o : Nat) (c0 c1 c2 c3 c4 : Value) :
    (((((W.setCell ⟨g, o, none⟩ c0).setCell ⟨g, o + 1, none⟩ c1).setCell ⟨g, o + 2, none⟩ c2).setCell ⟨g, o + 3, none⟩ c3).setCell ⟨g, o + 4, none⟩ c4).heap[k]? = W.heap[k]? := by
  iterate 5 refine (set_other h).trans ?_
  rfl
theorem iv_info' : ∃ i, Tryd.prog.info? IV = some i ∧ (i.zero = some (.agg #[.int .i64 0, .int .i64 0, .string ⟨#[]⟩, .int .i64 0, .slice none 0 0]) ∧ i.size = 5 ∧ i.bytes = 64) := by
  have : (Tryd.prog.info? IV).map (fun i => (i.zero, i.size, i.bytes)) = some (some (.agg #[.int .i64 0, .int .i64 0, .string ⟨#[]⟩, .int .i64 0, .slice none 0 0]), 5, 64) := by kernel_rfl
  cases hq : Tryd.prog.info? IV with
  | none => rw [hq] at this; cases this
  | some i => rw [hq] at this; simp at this; exact ⟨i, rfl, this⟩
/-- The first j values of a row. -/
def V5 (w : World) (lo : Nat) (vs : List Tr) (arr : Array Value) (j : Nat) : Prop :=
  ∀ i, i < j → ∃ k n s x ks' vs' A' c', vs[i]? = some (.mk k n s x ks' vs') ∧ TIn w (Nw lo w) (.mk k n s x ks' vs') (vV k n s x A' vs'.length c') ∧ ∀ q, q < 5 → arr[i * 5 + q]? = (#[.int .i64 k, .int .i64 n, .string s, .int .i64 x, .slice A' vs'.length c'] : Array Value)[q]?
theorem V5.keep {w w' : World} {lo : Nat} {vs : List Tr} {arr : Array Value} {j : Nat} (h : V5 w lo vs arr j) (hb : ∀ b, lo ≤ b → b < w.heap.size → w'.heap[b]? = w.heap[b]?) : V5 w' lo vs arr j := fun i hi => by
  obtain ⟨k, n, s, x, ks', vs', A', c', e1, e2, e3⟩ := h i hi
  exact ⟨k, n, s, x, ks', vs', A', c', e1, e2.nw (Nat.le_refl _) fun b hb' hlt => hb b hb' hlt, e3⟩
theorem V5.more {w : World} {lo : Nat} {vs : List Tr} {arr : Array Value} {j : Nat} (h : V5 w lo vs arr j) (hs : j * 5 + 5 ≤ arr.size) {k n x : Int} {s : ByteArray} {ks' : List Ky} {vs' : List Tr} {A' : Option Addr} {c' : Nat} (hv : vs[j]? = some (.mk k n s x ks' vs')) (hT : TIn w (Nw lo w) (.mk k n s x ks' vs') (vV k n s x A' vs'.length c')) :
    V5 w lo vs (set5 arr (j * 5) (.int .i64 k) (.int .i64 n) (.string s) (.int .i64 x) (.slice A' vs'.length c')) (j + 1) := by
  intro i hi
  by_cases e : i = j
  · subst e
    exact ⟨k, n, s, x, ks', vs', A', c', hv, hT, fun q hq => set5_in _ _ _ _ _ _ _ hs q hq⟩
  · obtain ⟨k2, n2, s2, x2, ks2, vs2, A2, c2, e1, e2, e3⟩ := h i (by omega)
    exact ⟨k2, n2, s2, x2, ks2, vs2, A2, c2, e1, e2, fun q hq => by rw [set5_out _ _ _ _ _ _ _ _ (by omega)]; exact e3 q hq⟩
theorem V5.vin {w : World} {lo g : Nat} {vs : List Tr} {arr : Array Value} (h : V5 w lo vs arr vs.length) (hg : w.heap[g]? = some (.cells arr IV (0, 0))) (hlo : g ≤ lo) : VIn w (Nw g w) vs (some ⟨g, 0, none⟩) := fun i t ht => by
  obtain ⟨k, n, s, x, ks', vs', A', c', e1, e2, e3⟩ := h i (List.getElem?_eq_some_iff.1 ht).1
  rw [ht] at e1
  obtain rfl := Option.some.inj e1
  have at_ : ∀ q, q < 5 → w.cell? ⟨g, i * 5 + q, none⟩ = (#[.int .i64 k, .int .i64 n, .string s, .int .i64 x, .slice A' vs'.length c'] : Array Value)[q]? := fun q hq => by rw [cell_of_row w g _ arr IV _ hg]; exact e3 q hq
  refine ⟨_, k, n, s, x, ks', vs', A', c', rfl, ⟨Nat.le_refl _, _, _, hg⟩, rfl, e2.stays (fun b hb => ⟨Nat.le_trans hlo hb.1, hb.2⟩) (fun _ _ _ => rfl), ?_⟩
  rw [Addr.add_lit, Nat.zero_add]
  exact ⟨at_ 0 (by omega), at_ 1 (by omega), at_ 2 (by omega), at_ 3 (by omega), at_ 4 (by omega)⟩
end Go.Proofs.YtlbkbcafkjgckaaDoor.tree

/-
  How a list of values that came in is opened.
  Conditions: those that each theorem names.
-/
namespace Go.Proofs.YtlbkbcafkjgckaaDoor.tree
open Go.ChangeShapes Go.WideShapes Go.ChangeAt Go.RowKit mem
set_option linter.unusedVariables false

section
variable {H : Type} {enc : TypeId × Value → H} {P : Program} {w : World} {base : Nat} {spare : Nat → Bool} {held : Bool}
theorem open_valS {tV tE tK tS tSS : TypeId} (T : Types P tV tE tK tS) (hSS : P.underlying tSS = some (.slice tV)) {fuel : Nat} {c0 : Value} {x : DataW H × List MemPlace} (h : DataW.trod enc P w base spare held fuel tSS [c0] = some x) :
    ∃ A c vs, c0 = .slice A (List.length vs) c ∧ (vs.length ≤ c ∧ c ≤ maxLen) ∧ VIn w (fun _ => True) vs A := by
  rcases DataW.trod_slice hSS h with ⟨hc4, _⟩ | ⟨a, len, cap, elems, rest, m, hfm, hc4, _, hbs, hlc, hcm, hel, hat, _⟩
  · simp at hc4
    subst hc4
    exact ⟨none, 0, [], rfl, ⟨Nat.le_refl _, Nat.zero_le _⟩, fun i t ht => by simp at ht⟩
  · simp at hc4
    subst hc4
    have each : ∀ i, i < len → ∃ t : Tr, ∃ k n s x ks vs A' c', t = .mk k n s x ks vs ∧ TIn w (fun _ => True) t (vV k n s x A' vs.length c') ∧ At5 w (a.add (i * 5)) k n s x A' vs.length c' := by
      intro i hi
      have hi2 := hat i hi
      rw [List.getElem?_eq_getElem (by omega)] at hi2
      obtain ⟨cs', hcs, htr⟩ := Option.bind_eq_some_iff.1 hi2
      rw [T.cV] at hcs
      obtain ⟨_, hcl, hcat⟩ := World.cells?_some hcs
      match cs', hcl with
      | [d3, d4, d5, d6, d7], _ =>
        obtain ⟨t, ht⟩ := open_tree T _ _ _ htr
        obtain ⟨k, n, s, x, ks, vs⟩ := t
        obtain ⟨A', c', e, -, -⟩ := ht.out
        have e' : d3 = .int .i64 k ∧ d4 = .int .i64 n ∧ d5 = .string s ∧ d6 = .int .i64 x ∧ d7 = .slice A' vs.length c' := by simpa using e
        obtain ⟨rfl, rfl, rfl, rfl, rfl⟩ := e'
        have at' : ∀ j, j < 5 → w.cell? (a.add (i * 5 + j)) = ([.int .i64 k, .int .i64 n, .string s, .int .i64 x, .slice A' vs.length c'] : List Value)[j]? := fun j hj => by
          have := hcat j hj
          rwa [add_add'] at this
        have sp : ∀ j, j ≠ 0 → a.add (i * 5 + j) = ⟨(a.add (i * 5)).block, (a.add (i * 5)).off + j, none⟩ := fun j hj => by rw [← add_add', add_pos _ _ hj]
        have at2 : ∀ j, j ≠ 0 → j < 5 → w.cell? ⟨(a.add (i * 5)).block, (a.add (i * 5)).off + j, none⟩ = _ := fun j h0 hj => (congrArg w.cell? (sp j h0)).symm.trans (at' j hj)
        exact ⟨.mk k n s x ks vs, k, n, s, x, ks, vs, A', c', rfl, ht, ⟨at' 0 (by omega), at2 1 (by omega) (by omega), at2 2 (by omega) (by omega), at2 3 (by omega) (by omega), at2 4 (by omega) (by omega)⟩⟩
    have hl : ((List.range len).map (fun i => if hi : i < len then (each i hi).choose else Tr.mk 0 0 ⟨#[]⟩ 0 [] [])).length = len := by simp
    refine ⟨some a, cap, (List.range len).map (fun i => if hi : i < len then (each i hi).choose else Tr.mk 0 0 ⟨#[]⟩ 0 [] []), by rw [hl], ⟨by rw [hl]; exact hlc, hcm⟩, fun i t ht => ?_⟩
    rw [List.getElem?_map] at ht
    obtain ⟨i', hi', rfl⟩ := Option.map_eq_some_iff.1 ht
    have hil : i < len := by
      have := (List.getElem?_eq_some_iff.1 hi').1
      simpa using this
    rw [List.getElem?_range hil] at hi'
    obtain rfl := Option.some.inj hi'
    simp only [dif_pos hil]
    obtain ⟨k, n, s, x, ks, vs, A', c', h1, h2, h3⟩ := (each i hil).choose_spec
    exact ⟨a, k, n, s, x, ks, vs, A', c', rfl, trivial, h1, h1 ▸ h2, h3⟩
end

set_option maxRecDepth 100000 in
theorem open_values {H : Type} {enc : TypeId × Value → H} {W : World} {base : Nat} {v : Value} {d : DataW H} {ps : List MemPlace} (hval : Value.okWide Tryd.prog W .any base 71 v) (h : DataW.Trod enc Tryd.prog W 0 (fun _ => true) true 71 v d ps) :
    ∃ A c vs, v = .slice A (List.length vs) c ∧ (vs.length ≤ c ∧ c ≤ maxLen) ∧ VIn W (fun _ => True) vs A := by
  obtain ⟨A, n, c, rfl⟩ := okWide_slice Tryd.underlying71 hval
  obtain ⟨fuel, hf⟩ := h
  exact open_valS opt.types Tryd.underlying71 hf

end Go.Proofs.YtlbkbcafkjgckaaDoor.tree

