/-
  KeysOf of the project and of the model.
  Conditions: the value holds at most 10^9 items and letters.
-/
import Derived.Test.YtclnbfndkcpopaaKeyRow
import Derived.Test.YtclnbfndkcpopaaClone
namespace Go.Proofs.Ytclnbfndkcpopaa.tree
open Go.ChangeShapes Go.WideShapes Go.ChangeAt Go.RowKit
set_option linter.unusedVariables false

set_option maxRecDepth 100000 in
set_option maxHeartbeats 1600000 in
theorem keysOf_i (t : Tr) (v : Value) (w : World) (S : Nat → Prop) (h : TIn w S t v) (hT : tot t ≤ 1000000000) : Calls Try.prog 26 #[v] w (KsQ w (keysT t)) := by
  obtain ⟨k, n, s, x, ks, vs⟩ := t
  obtain ⟨A, c, rfl, -, hin⟩ := h.out
  rw [tot_mk] at hT
  obtain ⟨L, HL⟩ : ∃ L, Hid (L = vs.length) := ⟨_, Lib.hid rfl⟩
  have hm : L ≤ 1000000000 := by rw [HL.out]; omega
  have hkl : Hid (ks.length = L) := Lib.hid (by rw [HL.out]; exact hin.1)
  have HTT := Lib.hid (show tots ks vs ≤ 1000000000 by omega)
  have HI := Lib.hid hin
  rw [← HL.out]
  clear h hT hin
  show Calls _ _ _ _ (KsQ w (if k = 4 then ks else []))
  by_cases h4 : k = 4
  · subst h4
    rw [if_pos rfl]
    obtain ⟨i0, hi, hz⟩ := ik_info
    have HII := Lib.hid hi
    have HZZ := Lib.hid hz
    clear hi hz
    go_enter Try.func26, Try.ntmps26
    go_wp2_with (fail)
    go_loopg [3, 15] (L + 1) (fun gk r i wr => ∃ j : Nat, i = .int .i64 j ∧ gk + j = L + 1 ∧ j ≤ L ∧ Hid (KRow wr w.heap.size r (ks.take j)) ∧ Below w.heap.size w wr)
    case atStart =>
      refine ⟨0, rfl, by omega, by omega, Lib.hid ?_, b2 _ _ _⟩
      have := (World.ownsRow_made (base := w.heap.size) (e := IK) (size := 3) (w.alloc (.cells #[.int .i64 4, .int .i64 n, .string s, .int .i64 x, .slice A L c] IV)) #[] 0 (by simp) (Nat.zero_le _) rfl)
      rwa [show (w.alloc (.cells #[.int .i64 4, .int .i64 n, .string s, .int .i64 x, .slice A L c] IV)).heap.size = w.heap.size + 1 by simp] at this
    case round =>
      obtain ⟨j, rfl, hgj, hjL, HR, hb⟩ := hrel
      have HB := Lib.hid hb
      clear hb
      by_cases hlt : j < L
      · obtain ⟨a, y, k1, n1, s1, x1, ks1, vs1, A1, c1, rfl, hS, hky, hvs, ht, hyb, hkb, hin1, hcell⟩ := (HI.out.below HB.out).item (i := j) (by rw [← HL.out]; exact hlt)
        have hys : y.str.size ≤ 1000000000 := by have := tots_key hky hvs; have := HTT.out; omega
        have HKY := Lib.hid hky
        obtain ⟨L1, HL1⟩ : ∃ L1, Hid (L1 = vs1.length) := ⟨_, Lib.hid rfl⟩
        rw [← HL1.out] at hcell
        obtain ⟨p0, p1, p2, p3, p4, p5, p6, p7⟩ := hcell
        clear hvs ht hin1 hkb hS hky
        obtain ⟨yb, yn, ys⟩ := y
        simp only at p0 p1 p2 hys
        go_wp2_with (fail)
        refine (implClone' ys (by omega) _).mono ?_
        rintro e w1 ⟨rfl, hb1⟩
        have EK := Lib.hid (carry hb1 (heap_alloc2_new wr _ _))
        have HB1 := Lib.hid (bs HB.out (bs (b2 wr _ _) hb1))
        have HR1 := Lib.hid (HR.out.below (bs (b2 wr _ _) hb1))
        obtain ⟨r1, f1⟩ := rowc EK.out
        obtain ⟨W2, HW2⟩ : ∃ W, Hid (W = w1.setCell ⟨wr.heap.size + 1, 2, none⟩ (.string ys)) := ⟨_, Lib.hid rfl⟩
        have hz2 : W2.heap.size = w1.heap.size := by rw [HW2.out]; exact set_size
        have hwb : wr.heap.size + 2 ≤ w1.heap.size := by have := hb1.size; simp at this; omega
        have HZ2 := Lib.hid hz2
        have HR2 : Hid (KRow W2 w.heap.size u3 (ks.take j)) := Lib.hid (HR1.out.blk fun b hb _ _ => by
          have := HR.out.own b hb
          rw [HW2.out]
          exact set_other (by omega))
        have HB2 : Hid (Below w.heap.size w W2) := Lib.hid (by rw [HW2.out]; exact HB1.out.setCell (by have := HB.out.size; simp; omega) _)
        have HNW : Hid (∀ q u, [Value.bool yb, .int .i64 yn, .string ys][q]? = some u → (W2.alloc (.cells #[.bool yb, .int .i64 yn, .string ys] IK)).cell? ((⟨w1.heap.size, 0, none⟩ : Addr).add q) = some u) := Lib.hid (by rw [← hz2]; exact three_new _ _ _ _ _)
        have HLJ : Hid ((ks.take j).length = j) := Lib.hid (by rw [List.length_take, hkl.out]; omega)
        clear hb1 p0 p1 p2 p3 p4 p5 p6 p7 hz2 hwb
        go_wp2_with (first
          | (at_builtin; rw [← HW2.out]; refine wpList_append_own _ rfl _ _ 51 rfl w.heap.size IK i0 _ 3 32 Try.underlying51 HII.out HZZ.out.1 HZZ.out.2.1 HZZ.out.2.2 rfl (by decide) _ (ks.take j).length _ rfl (HR2.out.below (b1 _ _)) ⟨w1.heap.size, 0, none⟩ 1 1 [.bool yb, .int .i64 yn, .string ys] rfl rfl HNW.out (three_one _ _ _) (by rw [HLJ.out]; unfold maxLen; omega) (by rw [HLJ.out]; omega) (by have := HB2.out.size; simp; omega) ?_
             intro v' w5 hown' hgrow' hnil
             have HR5 := Lib.hid hown'
             have HG5 := Lib.hid hgrow'
             clear hown' hgrow' hnil)
          | fail)
        go_roundg (L - j)
        case rel =>
          refine ⟨j + 1, by go_num, by omega, by omega, Lib.hid ?_, ?_⟩
          · have e : ks.take (j + 1) = ks.take j ++ [⟨yb, yn, ys⟩] := by rw [List.take_add_one, HKY.out]; rfl
            have := HR5.out
            rw [e]
            unfold KRow
            rw [kcs_append, List.length_append]
            exact this
          · exact grown_below' (HB2.out.alloc HB2.out.size _) HG5.out (by have := HB2.out.size; simp; omega) (fun b hb => (HR2.out.own b hb).1)
        case measure => omega
      · obtain rfl : j = L := by omega
        have e : ks.take j = ks := by rw [← hkl.out, List.take_length]
        have HR3 := Lib.hid (e ▸ HR.out)
        clear e HR
        go_wp2_with (fail)
        go_ret
        exact ⟨_, rfl, HR3.out, HB.out⟩
  · rw [if_neg h4]
    go_enter Try.func26, Try.ntmps26
    go_wp2_with (fail)
    go_ret
    refine ⟨_, rfl, ?_, b2 _ _ _⟩
    have := (World.ownsRow_made (base := w.heap.size) (e := IK) (size := 3) (w.alloc (.cells #[.int .i64 k, .int .i64 n, .string s, .int .i64 x, .slice A L c] IV)) #[] 0 (by simp) (Nat.zero_le _) rfl)
    rwa [show (w.alloc (.cells #[.int .i64 k, .int .i64 n, .string s, .int .i64 x, .slice A L c] IV)).heap.size = w.heap.size + 1 by simp] at this

set_option maxRecDepth 100000 in
set_option maxHeartbeats 1600000 in
theorem keysOf_s (t : Tr) (v : Value) (w : World) (S : Nat → Prop) (h : TIn w S t v) (hT : tot t ≤ 1000000000) : Calls Try.prog 24 #[v] w (KsQ w (keysT t)) := by
  obtain ⟨k, n, s, x, ks, vs⟩ := t
  obtain ⟨A, c, rfl, -, hin⟩ := h.out
  rw [tot_mk] at hT
  obtain ⟨L, HL⟩ : ∃ L, Hid (L = vs.length) := ⟨_, Lib.hid rfl⟩
  have hm : L ≤ 1000000000 := by rw [HL.out]; omega
  have hkl : Hid (ks.length = L) := Lib.hid (by rw [HL.out]; exact hin.1)
  have HI := Lib.hid hin
  rw [← HL.out]
  clear h hT hin
  have A0 : ∀ k, Hid (KRow ((w.alloc (.cells #[.int .i64 k, .int .i64 n, .string s, .int .i64 x, .slice A L c] IV)).alloc (.cells #[] IK)) (w.heap.size + 1) (.slice (some ⟨w.heap.size + 1, 0, none⟩) 0 0) []) := fun k => Lib.hid (by
    have := (World.ownsRow_made (base := w.heap.size + 1) (e := IK) (size := 3) (w.alloc (.cells #[.int .i64 k, .int .i64 n, .string s, .int .i64 x, .slice A L c] IV)) #[] 0 (by simp) (Nat.zero_le _) rfl)
    rwa [show (w.alloc (.cells #[.int .i64 k, .int .i64 n, .string s, .int .i64 x, .slice A L c] IV)).heap.size = w.heap.size + 1 by simp] at this)
  show Calls _ _ _ _ (KsQ w (if k = 4 then ks else []))
  by_cases h4 : k = 4
  · subst h4
    rw [if_pos rfl]
    obtain ⟨i0, hi, hz⟩ := ik_info
    have HII := Lib.hid hi
    have HZZ := Lib.hid hz
    clear hi hz
    go_enter Try.func24, Try.ntmps24
    go_wp2_with (fail)
    go_loopg [3, 4] (L + 1) (fun gk r i wr => ∃ j : Nat, i = .int .i64 j ∧ gk + j = L + 1 ∧ j ≤ L ∧ Hid (KRow wr (w.heap.size + 1) r (ks.take j)) ∧ Below w.heap.size w wr ∧ Hid (wr.heap[w.heap.size]? = some (.cells #[.int .i64 4, .int .i64 n, .string s, .int .i64 x, .slice A L c] IV (0, 0))))
    case atStart => exact ⟨0, rfl, by omega, by omega, A0 4, b2 _ _ _, Lib.hid (heap_alloc2_old w _ _)⟩
    case round =>
      obtain ⟨j, rfl, hgj, hjL, HR, hb, HE⟩ := hrel
      have HB := Lib.hid hb
      clear hb
      obtain ⟨e0, -⟩ := rowc HE.out
      by_cases hlt : j < L
      · obtain ⟨a, y, k1, n1, s1, x1, ks1, vs1, A1, c1, rfl, hS, hky, hvs, ht, hyb, hkb, hin1, hcell⟩ := (HI.out.below HB.out).item (i := j) (by rw [← HL.out]; exact hlt)
        have HKY := Lib.hid hky
        obtain ⟨p0, p1, p2, -, -, -, -, -⟩ := hcell
        clear hvs ht hin1 hkb hS hky
        obtain ⟨yb, yn, ys⟩ := y
        simp only at p0 p1 p2
        have HLJ : Hid ((ks.take j).length = j) := Lib.hid (by rw [List.length_take, hkl.out]; omega)
        go_wp2_with (first
          | (at_builtin; refine wpList_append_own _ rfl _ _ 51 rfl (w.heap.size + 1) IK i0 _ 3 32 Try.underlying51 HII.out HZZ.out.1 HZZ.out.2.1 HZZ.out.2.2 rfl (by decide) _ (ks.take j).length _ rfl (HR.out.below (b1 _ _)) ⟨wr.heap.size, 0, none⟩ 1 1 [.bool yb, .int .i64 yn, .string ys] rfl rfl (three_new _ _ _ _ _) (three_one _ _ _) (by rw [HLJ.out]; unfold maxLen; omega) (by rw [HLJ.out]; omega) (by have := (Array.getElem?_eq_some_iff.1 HE.out).1; simp; omega) ?_
             intro v' w5 hown' hgrow' hnil
             have HR5 := Lib.hid hown'
             have HG5 := Lib.hid hgrow'
             clear hown' hgrow' hnil)
          | fail)
        go_roundg (L - j)
        case rel =>
          refine ⟨j + 1, by go_num, by omega, by omega, Lib.hid ?_, ?_, Lib.hid ?_⟩
          · have e : ks.take (j + 1) = ks.take j ++ [⟨yb, yn, ys⟩] := by rw [List.take_add_one, HKY.out]; rfl
            have := HR5.out
            rw [e]
            unfold KRow
            rw [kcs_append, List.length_append]
            exact this
          · exact grown_below' (HB.out.alloc HB.out.size _) HG5.out (by have := HB.out.size; simp; omega) (fun b hb => Nat.le_of_succ_le (HR.out.own b hb).1)
          · have hlt0 := (Array.getElem?_eq_some_iff.1 HE.out).1
            exact (HG5.out.block _ (by simp; omega) (fun e => by have := (HR.out.own _ e.symm).1; omega)).trans (keepAlloc HE.out)
        case measure => omega
      · obtain rfl : j = L := by omega
        have e : ks.take j = ks := by rw [← hkl.out, List.take_length]
        have HR3 := Lib.hid (e ▸ HR.out)
        clear e HR
        go_wp2_with (fail)
        go_ret
        exact ⟨_, rfl, HR3.out.lo (Nat.le_succ _), HB.out⟩
  · rw [if_neg h4]
    go_enter Try.func24, Try.ntmps24
    go_wp2_with (fail)
    go_loopg [3, 4] 1 (fun gk r i wr => i = .int .i64 0 ∧ r = .slice (some ⟨w.heap.size + 1, 0, none⟩) 0 0 ∧ wr = ((w.alloc (.cells #[.int .i64 k, .int .i64 n, .string s, .int .i64 x, .slice A L c] IV)).alloc (.cells #[] IK)))
    case atStart => exact ⟨rfl, rfl, rfl⟩
    case round =>
      obtain ⟨rfl, rfl, rfl⟩ := hrel
      go_wp2_with (fail)
      go_ret
      exact ⟨_, rfl, (A0 k).out.lo (Nat.le_succ _), b2 _ _ _⟩

end Go.Proofs.Ytclnbfndkcpopaa.tree
