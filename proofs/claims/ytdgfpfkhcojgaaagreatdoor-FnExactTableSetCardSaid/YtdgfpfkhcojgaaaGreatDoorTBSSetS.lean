/-
  SetKey of the model.
  Conditions: the values hold at most 10^9 values; the package variables of the library's reading of numbers hold what the program's text lays.
-/
import Derived.Test.YtdgfpfkhcojgaaaGreatDoorTBB6
import Derived.Test.YtdgfpfkhcojgaaaGreatDoorTBSSetK
namespace Go.Proofs.YtdgfpfkhcojgaaaGreatDoor.tree
open Go.ChangeShapes Go.WideShapes Go.ChangeAt Go.RowKit
set_option linter.unusedVariables false

set_option maxRecDepth 100000 in
set_option maxHeartbeats 1600000 in
theorem setKey_s (t : Tr) (v : Value) (y : Ky) (u : Tr) (vu : Value) (w : World) (S : Nat → Prop) (h : TIn w S t v) (hu : TIn w S u vu) (hy : I64 y.num ∧ y.str.size ≤ maxLen) (hN : cnt t + cnt u ≤ 1000000000) (hs : y.str.size ≤ 281474976710656) (hE : prs.Env w) :
    Calls Tryz.prog 16 #[v, kyV y, vu] w (OutS w (setR t y u) (setB t y)) := by
  have hN2 := setT_cnt t y u
  have KI := fun w' => isKey_s y hs w'
  have LS := fun w' (h : TIn w' S t v) (hu : TIn w' S u vu) (h4) (hk : keyB y = true) => l6Set_s t v y u vu w' S h hu hy (by omega) h4 (fun e => by have := keyB_num hk e; omega)
  obtain ⟨k, n, s, x, ks, vs⟩ := t
  obtain ⟨ku, nu, su, xu, ksu, vsu⟩ := u
  obtain ⟨A, c, rfl, -, -⟩ := h.out
  obtain ⟨Au, cu, rfl, -, -⟩ := hu.out
  have HKI := Lib.hid KI
  have HLS := Lib.hid LS
  have HT := Lib.hid h
  have HTu := Lib.hid hu
  have HE := Lib.hid hE
  have HN := Lib.hid hN
  have HN2 := Lib.hid (Nat.le_trans hN2 hN)
  obtain ⟨L, HLQ⟩ : ∃ L, Hid (vs.length = L) := ⟨_, Lib.hid rfl⟩
  obtain ⟨Lu, HLu⟩ : ∃ L, Hid (vsu.length = L) := ⟨_, Lib.hid rfl⟩
  rw [HLQ.out] at HT HLS
  rw [HLu.out] at HTu HLS
  clear h hu hy hN hs hE KI LS hN2
  rw [HLQ.out, HLu.out]
  by_cases hk4 : k = 4
  · subst hk4
    cases hkb : keyB y with
    | false =>
      have e1 : setB (.mk 4 n s x ks vs) y = false := by rw [setB_mk, hkb]; rfl
      have e2 : setR (.mk 4 n s x ks vs) y (.mk ku nu su xu ksu vsu) = .mk 4 n s x ks vs := by unfold setR; rw [e1]; rfl
      rw [e1, e2]
      rw [hkb] at HKI
      clear e1 e2 hkb HLS HN2 HTu
      have HCT : Hid (cnt (.mk 4 n s x ks vs) ≤ 1000000000) := Lib.hid (by have := HN.out; omega)
      obtain ⟨yb, yn, ys⟩ := y
      unfold kyV at HKI ⊢
      go_enter Tryz.func16, Tryz.ntmps16
      go_wp2_with (fail)
      obtain ⟨a0, -, -, a3, az, ab⟩ := al4 w _ _ _ _ _ _ _ _ _ rfl
      refine (HKI.out _ (HE.out.stays ab)).mono ?_
      rintro e w1 ⟨rfl, hb1⟩
      have A0 := Lib.hid (carry hb1 a0)
      have A3H := Lib.hid (carry hb1 a3)
      have HBC := Lib.hid (bs ab hb1)
      obtain ⟨r0, f0⟩ := rowc A0.out
      clear a0 a3 az ab hb1
      go_wp2_with (fail)
      have CP := l5Copy (.mk 4 n s x ks vs) HCT.out _ _ _ (HT.out.below' HBC.out)
      try rw [HLQ.out] at CP
      refine CP.mono ?_
      rintro e wz ⟨uz, rfl, hu2, hb2⟩
      obtain ⟨Az, cz, rfl, -, -⟩ := hu2.out
      rw [HLQ.out] at hu2 ⊢
      have HU := Lib.hid hu2
      have HZ3 := Lib.hid (carry hb2 A3H.out)
      obtain ⟨rz, fz⟩ := rowc HZ3.out
      have HBZ := Lib.hid (bs HBC.out hb2)
      have HLT := Lib.hid (Array.getElem?_eq_some_iff.1 A3H.out).1
      clear hb2 hu2 CP
      go_wp2_with (fail)
      generalize hwF : (((((wz.setCell ⟨w.heap.size + 1 + 1 + 1, 0, none⟩ (.int .i64 4)).setCell ⟨w.heap.size + 1 + 1 + 1, 1, none⟩ (.int .i64 n)).setCell ⟨w.heap.size + 1 + 1 + 1, 2, none⟩ (.string s)).setCell ⟨w.heap.size + 1 + 1 + 1, 3, none⟩ (.int .i64 x)).setCell ⟨w.heap.size + 1 + 1 + 1, 4, none⟩ (.slice Az L cz)) = wF
      obtain ⟨rF, oF, bF⟩ := fill5 HZ3.out hwF
      refine bodyPost_ret (v := .tuple #[vV 4 n s x Az L cz, .bool false]) ?_ rfl ?_
      · simp [results, Tryz.results16, go_sem, rF]
      · have hlt := HLT.out
        refine ⟨_, by first | rfl | rw [HLQ.out], HU.out.stays (fun q hq => ?_) (fun q hq _ => oF q ?_), bF _ _ (by omega) HBZ.out⟩
        · have h1 : w1.heap.size ≤ q := hq
          show w.heap.size ≤ q
          have := HBC.out.size
          omega
        · have h1 : w1.heap.size ≤ q := hq
          omega
    | true =>
      have e1 : setB (.mk 4 n s x ks vs) y = true := by rw [setB_mk, hkb]; rfl
      have e2 : setR (.mk 4 n s x ks vs) y (.mk ku nu su xu ksu vsu) = setT (.mk 4 n s x ks vs) y (.mk ku nu su xu ksu vsu) := by unfold setR; rw [e1]; rfl
      rw [e1, e2]
      rw [hkb] at HKI
      have LS := fun w' h hu => HLS.out w' h hu (fun k n s x ks vs e => by cases e; rfl) hkb
      obtain ⟨T, HTE⟩ : ∃ T, Hid (setT (.mk 4 n s x ks vs) y (.mk ku nu su xu ksu vsu) = T) := ⟨_, Lib.hid rfl⟩
      rw [HTE.out] at HN2 LS ⊢
      have HLS2 := Lib.hid LS
      clear e1 e2 hkb HLS LS HTE
      obtain ⟨yb, yn, ys⟩ := y
      unfold kyV at HKI HLS2 ⊢
      go_enter Tryz.func16, Tryz.ntmps16
      go_wp2_with (fail)
      obtain ⟨a0, a1, a2, a3, az, ab⟩ := al4 w _ _ _ _ _ _ _ _ _ rfl
      refine (HKI.out _ (HE.out.stays ab)).mono ?_
      rintro e w1 ⟨rfl, hb1⟩
      have A0 := Lib.hid (carry hb1 a0)
      have A1 := Lib.hid (carry hb1 a1)
      have A2 := Lib.hid (carry hb1 a2)
      have A3 := Lib.hid (carry hb1 a3)
      have HB1 := Lib.hid (bs ab hb1)
      obtain ⟨r0, f0⟩ := rowc A0.out
      obtain ⟨r1, f1⟩ := rowc A1.out
      obtain ⟨r2, f2⟩ := rowc A2.out
      clear a0 a1 a2 a3 az ab hb1
      go_wp2_with (fail)
      refine (HLS2.out _ (HT.out.below' HB1.out) (HTu.out.below' HB1.out)).mono ?_
      rintro e w2 ⟨u2, rfl, hu2, hb2⟩
      obtain ⟨K, N, Z, X, RK, RV⟩ := T
      obtain ⟨A2', c2', rfl, -, -⟩ := hu2.out
      have A3H := Lib.hid (carry hb2 A3.out)
      have HBC := Lib.hid (bs HB1.out hb2)
      have HT2 := Lib.hid hu2
      have HCT := HN2
      clear hb2 hu2 r0 f0 r1 f1 r2 f2 HLQ
      obtain ⟨RL, HLQ⟩ : ∃ L, Hid (RV.length = L) := ⟨_, Lib.hid rfl⟩
      rw [HLQ.out] at HT2 ⊢
      go_wp2_with (fail)
      have CP := l5Copy (.mk K N Z X RK RV) HCT.out _ _ _ HT2.out
      try rw [HLQ.out] at CP
      refine CP.mono ?_
      rintro e wz ⟨uz, rfl, hu2, hb2⟩
      obtain ⟨Az, cz, rfl, -, -⟩ := hu2.out
      rw [HLQ.out] at hu2 ⊢
      have HU := Lib.hid hu2
      have HZ3 := Lib.hid (carry hb2 A3H.out)
      obtain ⟨rz, fz⟩ := rowc HZ3.out
      have HBZ := Lib.hid (bs HBC.out hb2)
      have HLT := Lib.hid (Array.getElem?_eq_some_iff.1 A3H.out).1
      clear hb2 hu2 CP
      go_wp2_with (fail)
      generalize hwF : (((((wz.setCell ⟨w.heap.size + 1 + 1 + 1, 0, none⟩ (.int .i64 K)).setCell ⟨w.heap.size + 1 + 1 + 1, 1, none⟩ (.int .i64 N)).setCell ⟨w.heap.size + 1 + 1 + 1, 2, none⟩ (.string Z)).setCell ⟨w.heap.size + 1 + 1 + 1, 3, none⟩ (.int .i64 X)).setCell ⟨w.heap.size + 1 + 1 + 1, 4, none⟩ (.slice Az RL cz)) = wF
      obtain ⟨rF, oF, bF⟩ := fill5 HZ3.out hwF
      refine bodyPost_ret (v := .tuple #[vV K N Z X Az RL cz, .bool true]) ?_ rfl ?_
      · simp [results, Tryz.results16, go_sem, rF]
      · have hlt := HLT.out
        refine ⟨_, by first | rfl | rw [HLQ.out], HU.out.stays (fun q hq => ?_) (fun q hq _ => oF q ?_), bF _ _ (by omega) HBZ.out⟩
        · have h1 : w2.heap.size ≤ q := hq
          show w.heap.size ≤ q
          have := HBC.out.size
          omega
        · have h1 : w2.heap.size ≤ q := hq
          omega
  · have e1 : setB (.mk k n s x ks vs) y = false := by rw [setB_mk, decide_eq_false hk4]; rfl
    have e2 : setR (.mk k n s x ks vs) y (.mk ku nu su xu ksu vsu) = .mk k n s x ks vs := by unfold setR; rw [e1]; rfl
    rw [e1, e2]
    clear e1 e2 HLS HN2 HTu HKI
    have HCT : Hid (cnt (.mk k n s x ks vs) ≤ 1000000000) := Lib.hid (by have := HN.out; omega)
    obtain ⟨yb, yn, ys⟩ := y
    unfold kyV
    go_enter Tryz.func16, Tryz.ntmps16
    obtain ⟨W, HW⟩ : ∃ W, Hid (W = (((w.alloc (.cells #[.int .i64 k, .int .i64 n, .string s, .int .i64 x, .slice A L c] IV)).alloc (.cells #[.bool yb, .int .i64 yn, .string ys] IK)).alloc (.cells #[.int .i64 ku, .int .i64 nu, .string su, .int .i64 xu, .slice Au Lu cu] IV)).alloc (.cells #[.int .i64 0, .int .i64 0, .string ⟨#[]⟩, .int .i64 0, .slice none 0 0] IV)) := ⟨_, Lib.hid rfl⟩
    obtain ⟨a0, -, -, a3, az, ab⟩ := al4 w _ _ _ _ _ _ _ _ _ HW.out
    have A3H := Lib.hid a3
    have HBC := Lib.hid ab
    clear a0 a3 az ab
    go_wp2_with (fail)
    rw [← HW.out]
    have CP := l5Copy (.mk k n s x ks vs) HCT.out _ _ _ (HT.out.below' HBC.out)
    try rw [HLQ.out] at CP
    refine CP.mono ?_
    rintro e wz ⟨uz, rfl, hu2, hb2⟩
    obtain ⟨Az, cz, rfl, -, -⟩ := hu2.out
    rw [HLQ.out] at hu2 ⊢
    have HU := Lib.hid hu2
    have HZ3 := Lib.hid (carry hb2 A3H.out)
    obtain ⟨rz, fz⟩ := rowc HZ3.out
    have HBZ := Lib.hid (bs HBC.out hb2)
    have HLT := Lib.hid (Array.getElem?_eq_some_iff.1 A3H.out).1
    clear hb2 hu2 CP
    go_wp2_with (fail)
    generalize hwF : (((((wz.setCell ⟨w.heap.size + 1 + 1 + 1, 0, none⟩ (.int .i64 k)).setCell ⟨w.heap.size + 1 + 1 + 1, 1, none⟩ (.int .i64 n)).setCell ⟨w.heap.size + 1 + 1 + 1, 2, none⟩ (.string s)).setCell ⟨w.heap.size + 1 + 1 + 1, 3, none⟩ (.int .i64 x)).setCell ⟨w.heap.size + 1 + 1 + 1, 4, none⟩ (.slice Az L cz)) = wF
    obtain ⟨rF, oF, bF⟩ := fill5 HZ3.out hwF
    refine bodyPost_ret (v := .tuple #[vV k n s x Az L cz, .bool false]) ?_ rfl ?_
    · simp [results, Tryz.results16, go_sem, rF]
    · have hlt := HLT.out
      refine ⟨_, by first | rfl | rw [HLQ.out], HU.out.stays (fun q hq => ?_) (fun q hq _ => oF q ?_), bF _ _ (by omega) HBZ.out⟩
      · have h1 : W.heap.size ≤ q := hq
        show w.heap.size ≤ q
        have := HBC.out.size
        omega
      · have h1 : W.heap.size ≤ q := hq
        omega


end Go.Proofs.YtdgfpfkhcojgaaaGreatDoor.tree

