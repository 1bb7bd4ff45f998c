/-
  AppendItem of the project and of the model.
  Conditions: the values hold at most 2^20 and two items and 10^9 letters; the package variables of the library's reading of numbers hold what the program's text lays.
-/
import Derived.Test.YtclnbfndkcpopaaDoorSetS
namespace Go.Proofs.YtclnbfndkcpopaaDoor.tree
open Go.ChangeShapes Go.WideShapes Go.ChangeAt Go.RowKit
set_option linter.unusedVariables false

/-- The next free index of a value, as a key. -/
def appY : Tr → Ky
  | .mk _ _ _ x _ _ => ⟨false, x, ⟨#[]⟩⟩
def appB : Tr → Bool
  | .mk k _ _ x _ _ => decide (k = 4) && nums.inr x 0 1000000000
def appR (t u : Tr) : Tr := if appB t then setT t (appY t) u else t
theorem appB_mk (k n x : Int) (s : ByteArray) (ks : List Ky) (vs : List Tr) : appB (.mk k n s x ks vs) = (decide (k = 4) && nums.inr x 0 1000000000) := rfl
theorem app_key {x : Int} (h : nums.inr x 0 1000000000 = true) : keyB ⟨false, x, ⟨#[]⟩⟩ = true := by
  unfold nums.inr at h
  unfold keyB nums.inr
  simp at h ⊢
  exact ⟨⟨by omega, by omega⟩, rfl⟩
theorem app_set {t u : Tr} {k n x : Int} {s : ByteArray} {ks : List Ky} {vs : List Tr} (e : t = .mk k n s x ks vs) (h : nums.inr x 0 1000000000 = true) : setB t (appY t) = appB t ∧ setR t (appY t) u = appR t u := by
  subst e
  have e1 : setB (.mk k n s x ks vs) (appY (.mk k n s x ks vs)) = appB (.mk k n s x ks vs) := by
    rw [setB_mk, appB_mk]
    show (_ && keyB ⟨false, x, ⟨#[]⟩⟩) = _
    rw [app_key h, h]
  refine ⟨e1, ?_⟩
  unfold setR appR
  rw [e1]

set_option maxRecDepth 100000 in
set_option maxHeartbeats 1600000 in
theorem appendItem_i (t : Tr) (v : Value) (u : Tr) (vu : Value) (w : World) (h : TIn w (Nw 0 w) t v) (hu : TIn w (Nw 0 w) u vu) (hN : cnt t + cnt u ≤ 1048578) (hT : tot t + tot u + 1 ≤ 1000000000) (hE : prs.Env w) :
    Calls Tryd.prog 43 #[v, vu] w (OutI w (appR t u) (appB t)) := by
  have SK := fun w' (h : TIn w' (Nw 0 w') t v) (hu : TIn w' (Nw 0 w') u vu) (hy) (hT2) => setKey_i t v (appY t) u vu w' h hu hy hN hT2
  obtain ⟨k, n, s, x, ks, vs⟩ := t
  obtain ⟨ku, nu, su, xu, ksu, vsu⟩ := u
  obtain ⟨A, c, rfl, hk, -⟩ := h.out
  obtain ⟨Au, cu, rfl, -, -⟩ := hu.out
  have CV := fun w' (h : TIn w' (Nw 0 w') _ (vV k n s x A vs.length c)) => copyValue (.mk k n s x ks vs) (vV k n s x A vs.length c) w' 0 h (by omega) (by omega)
  have SK2 := fun w' h hu => SK w' h hu ⟨hk.2.2.1, Nat.zero_le _⟩ (by show tot _ + 0 + tot _ + 1 ≤ _; omega)
  have IR := nums.implInRange x 0 1000000000
  obtain ⟨L, HL⟩ : ∃ L, Hid (vs.length = L) := ⟨_, Lib.hid rfl⟩
  obtain ⟨Lu, HLu⟩ : ∃ L, Hid (vsu.length = L) := ⟨_, Lib.hid rfl⟩
  rw [HL.out] at h CV SK2
  rw [HLu.out] at hu SK2
  have HT := Lib.hid h
  have HTu := Lib.hid hu
  have HCV := Lib.hid CV
  have HE := Lib.hid hE
  cases hr : nums.inr x 0 1000000000 with
  | false =>
    have e1 : appB (.mk k n s x ks vs) = false := by rw [appB_mk, hr]; simp
    have e2 : appR (.mk k n s x ks vs) (.mk ku nu su xu ksu vsu) = .mk k n s x ks vs := by unfold appR; rw [e1]; rfl
    rw [e1, e2]
    rw [hr] at IR
    clear h hu hN hT hE SK SK2 CV hr e1 e2 hk
    rw [HL.out, HLu.out]
    go_enter Tryd.func43, Tryd.ntmps43
    obtain ⟨W, HW⟩ : ∃ W, Hid (W = ((w.alloc (.cells #[.int .i64 k, .int .i64 n, .string s, .int .i64 x, .slice A L c] IV)).alloc (.cells #[.int .i64 ku, .int .i64 nu, .string su, .int .i64 xu, .slice Au Lu cu] IV)).alloc (.cells #[.int .i64 0, .int .i64 0, .string ⟨#[]⟩, .int .i64 0, .slice none 0 0] IV)) := ⟨_, Lib.hid rfl⟩
    obtain ⟨a0, a1, a2, az, ab⟩ := al3 w #[.int .i64 k, .int .i64 n, .string s, .int .i64 x, .slice A L c] #[.int .i64 ku, .int .i64 nu, .string su, .int .i64 xu, .slice Au Lu cu] #[.int .i64 0, .int .i64 0, .string ⟨#[]⟩, .int .i64 0, .slice none 0 0] IV IV IV
    rw [← HW.out] at a0 a1 a2 az ab
    have A0 := Lib.hid a0
    have A3H := Lib.hid a2
    have HBC := Lib.hid ab
    obtain ⟨r0, f0⟩ := rowc a0
    clear a0 a1 a2 az ab
    go_wp2_with (fail)
    rw [← HW.out]
    refine (IR _).mono ?_
    rintro e w1 ⟨rfl, rfl⟩
    go_wp2_with (fail)
    refine (HCV.out _ (HT.out.nwb HBC.out)).mono ?_
    rintro e wz ⟨uz, par, R, rfl, hu, hR, hb2⟩
    obtain ⟨Az, cz, rfl, -⟩ := hu.out
    rw [HL.out] at hu ⊢
    have HU := Lib.hid hu
    have HR := Lib.hid hR
    have HBz := Lib.hid hb2
    have HZ3 := Lib.hid (carry hb2 A3H.out)
    obtain ⟨rz, fz⟩ := rowc HZ3.out
    have HBZ := Lib.hid (bs HBC.out hb2)
    have HLT := Lib.hid (Array.getElem?_eq_some_iff.1 A3H.out).1
    clear hb2 hu hR
    go_wp2_with (fail)
    generalize hwF : (((((wz.setCell ⟨w.heap.size + 1 + 1, 0, none⟩ (.int .i64 k)).setCell ⟨w.heap.size + 1 + 1, 1, none⟩ (.int .i64 n)).setCell ⟨w.heap.size + 1 + 1, 2, none⟩ (.string s)).setCell ⟨w.heap.size + 1 + 1, 3, none⟩ (.int .i64 x)).setCell ⟨w.heap.size + 1 + 1, 4, none⟩ (.slice Az L cz)) = wF
    obtain ⟨rF, oF, bF⟩ := fill5 HZ3.out hwF
    refine bodyPost_ret (v := .tuple #[vV k n s x Az L cz, .bool false]) ?_ rfl ?_
    · simp [results, Tryd.results43, go_sem, rF]
    · have hlt := HLT.out
      have hR := HR.out
      refine ⟨_, par, R, by first | rfl | rw [HL.out], ?_, Nat.le_trans HBC.out.size hR, bF _ _ (by omega) HBZ.out⟩
      exact HU.out.above fun b hb _ => oF b (by simp at hb; omega)
  | true =>
    obtain ⟨e1, e2⟩ := app_set (u := .mk ku nu su xu ksu vsu) (rfl : Tr.mk k n s x ks vs = _) hr
    rw [e1, e2] at SK2
    rw [hr] at IR
    obtain ⟨T, HTT⟩ : ∃ T, Hid (appR (.mk k n s x ks vs) (.mk ku nu su xu ksu vsu) = T) := ⟨_, Lib.hid rfl⟩
    obtain ⟨bb, HBB⟩ : ∃ b, Hid (appB (.mk k n s x ks vs) = b) := ⟨_, Lib.hid rfl⟩
    rw [HTT.out, HBB.out] at SK2 ⊢
    have HSK := Lib.hid SK2
    clear h hu hN hT hE SK SK2 CV hr e1 e2 hk HTT HBB
    rw [HL.out, HLu.out]
    obtain ⟨K, N, Z, X, RK, RV⟩ := T
    unfold appY kyV at HSK
    go_enter Tryd.func43, Tryd.ntmps43
    obtain ⟨W, HW⟩ : ∃ W, Hid (W = ((w.alloc (.cells #[.int .i64 k, .int .i64 n, .string s, .int .i64 x, .slice A L c] IV)).alloc (.cells #[.int .i64 ku, .int .i64 nu, .string su, .int .i64 xu, .slice Au Lu cu] IV)).alloc (.cells #[.int .i64 0, .int .i64 0, .string ⟨#[]⟩, .int .i64 0, .slice none 0 0] IV)) := ⟨_, Lib.hid rfl⟩
    obtain ⟨a0, a1, a2, az, ab⟩ := al3 w #[.int .i64 k, .int .i64 n, .string s, .int .i64 x, .slice A L c] #[.int .i64 ku, .int .i64 nu, .string su, .int .i64 xu, .slice Au Lu cu] #[.int .i64 0, .int .i64 0, .string ⟨#[]⟩, .int .i64 0, .slice none 0 0] IV IV IV
    rw [← HW.out] at a0 a1 a2 az ab
    have A3H := Lib.hid a2
    have HBC := Lib.hid ab
    obtain ⟨r0, f0⟩ := rowc a0
    obtain ⟨r1, f1⟩ := rowc a1
    clear a0 a1 a2 az ab
    go_wp2_with (fail)
    rw [← HW.out]
    refine (IR _).mono ?_
    rintro e w1 ⟨rfl, rfl⟩
    go_wp2_with (fail)
    refine (HSK.out _ (HT.out.nwb HBC.out) (HTu.out.nwb HBC.out) (HE.out.stays HBC.out)).mono ?_
    rintro e wz ⟨uz, par, R, rfl, hu, hR, hb2⟩
    obtain ⟨Az, cz, rfl, -⟩ := hu.out
    have HU := Lib.hid hu
    have HR := Lib.hid hR
    have HZ3 := Lib.hid (carry hb2 A3H.out)
    obtain ⟨rz, fz⟩ := rowc HZ3.out
    have HBZ := Lib.hid (bs HBC.out hb2)
    have HLT := Lib.hid (Array.getElem?_eq_some_iff.1 A3H.out).1
    clear hb2 hu hR r0 f0 r1 f1
    go_wp2_with (fail)
    generalize hwF : (((((wz.setCell ⟨w.heap.size + 1 + 1, 0, none⟩ (.int .i64 K)).setCell ⟨w.heap.size + 1 + 1, 1, none⟩ (.int .i64 N)).setCell ⟨w.heap.size + 1 + 1, 2, none⟩ (.string Z)).setCell ⟨w.heap.size + 1 + 1, 3, none⟩ (.int .i64 X)).setCell ⟨w.heap.size + 1 + 1, 4, none⟩ (.slice Az RV.length cz)) = wF
    obtain ⟨rF, oF, bF⟩ := fill5 HZ3.out hwF
    refine bodyPost_ret (v := .tuple #[vV K N Z X Az RV.length cz, .bool bb]) ?_ rfl ?_
    · simp [results, Tryd.results43, go_sem, rF]
    · have hlt := HLT.out
      have hR := HR.out
      refine ⟨_, par, R, rfl, ?_, Nat.le_trans HBC.out.size hR, bF _ _ (by omega) HBZ.out⟩
      exact HU.out.above fun b hb _ => oF b (by simp at hb; omega)

set_option maxRecDepth 100000 in
set_option maxHeartbeats 1600000 in
theorem appendItem_s (t : Tr) (v : Value) (u : Tr) (vu : Value) (w : World) (S : Nat → Prop) (h : TIn w S t v) (hu : TIn w S u vu) (hN : cnt t + cnt u ≤ 1000000000) :
    Calls Tryd.prog 42 #[v, vu] w (OutS w (appR t u) (appB t)) := by
  have hN2 := setT_cnt t (appY t) u
  have LS := fun w' (h : TIn w' S t v) (hu : TIn w' S u vu) (hy) (h4) (hk) => l6Set_s t v (appY t) u vu w' S h hu hy (by omega) h4 hk
  obtain ⟨k, n, s, x, ks, vs⟩ := t
  obtain ⟨ku, nu, su, xu, ksu, vsu⟩ := u
  obtain ⟨A, c, rfl, hkk, -⟩ := h.out
  obtain ⟨Au, cu, rfl, -, -⟩ := hu.out
  have HT := Lib.hid h
  have HTu := Lib.hid hu
  have HN := Lib.hid hN
  have HN2 := Lib.hid (Nat.le_trans hN2 hN)
  have IR := nums.l1In x 0 1000000000
  obtain ⟨L, HLQ⟩ : ∃ L, Hid (vs.length = L) := ⟨_, Lib.hid rfl⟩
  obtain ⟨Lu, HLu⟩ : ∃ L, Hid (vsu.length = L) := ⟨_, Lib.hid rfl⟩
  have LS2 := fun w' h hu h4 hk => LS w' h hu ⟨hkk.2.2.1, Nat.zero_le _⟩ h4 hk
  rw [HLQ.out] at HT LS2
  rw [HLu.out] at HTu LS2
  have HLS := Lib.hid LS2
  clear h hu hN LS LS2 hN2 hkk
  rw [HLQ.out, HLu.out]
  obtain ⟨W, HW⟩ : ∃ W, Hid (W = ((w.alloc (.cells #[.int .i64 k, .int .i64 n, .string s, .int .i64 x, .slice A L c] IV)).alloc (.cells #[.int .i64 ku, .int .i64 nu, .string su, .int .i64 xu, .slice Au Lu cu] IV)).alloc (.cells #[.int .i64 0, .int .i64 0, .string ⟨#[]⟩, .int .i64 0, .slice none 0 0] IV)) := ⟨_, Lib.hid rfl⟩
  obtain ⟨a0, a1, a2, az, ab⟩ := al3 w #[.int .i64 k, .int .i64 n, .string s, .int .i64 x, .slice A L c] #[.int .i64 ku, .int .i64 nu, .string su, .int .i64 xu, .slice Au Lu cu] #[.int .i64 0, .int .i64 0, .string ⟨#[]⟩, .int .i64 0, .slice none 0 0] IV IV IV
  rw [← HW.out] at a0 a1 a2 az ab
  have A3H := Lib.hid a2
  have HBC := Lib.hid ab
  obtain ⟨r0, f0⟩ := rowc a0
  obtain ⟨r1, f1⟩ := rowc a1
  clear a0 a1 a2 az ab
  by_cases hk4 : k = 4
  · subst hk4
    cases hr : nums.inr x 0 1000000000 with
    | false =>
      have e1 : appB (.mk 4 n s x ks vs) = false := by rw [appB_mk, hr]; rfl
      have e2 : appR (.mk 4 n s x ks vs) (.mk ku nu su xu ksu vsu) = .mk 4 n s x ks vs := by unfold appR; rw [e1]; rfl
      rw [e1, e2]
      rw [hr] at IR
      have HCT : Hid (cnt (.mk 4 n s x ks vs) ≤ 1000000000) := Lib.hid (by have := HN.out; omega)
      clear e1 e2 hr HLS HN2 HTu
      go_enter Tryd.func42, Tryd.ntmps42
      go_wp2_with (fail)
      rw [← HW.out]
      refine (IR _).mono ?_
      rintro e w1 ⟨rfl, rfl⟩
      go_wp2_with (fail)
      have CP := l5Copy (.mk 4 n s x ks vs) HCT.out _ _ _ (HT.out.below' HBC.out)
      try rw [HLQ.out] at CP
      refine CP.mono ?_
      rintro e wz ⟨uz, rfl, hu2, hb2⟩
      obtain ⟨Az, cz, rfl, -, -⟩ := hu2.out
      rw [HLQ.out] at hu2 ⊢
      have HU := Lib.hid hu2
      have HZ3 := Lib.hid (carry hb2 A3H.out)
      obtain ⟨rz, fz⟩ := rowc HZ3.out
      have HBZ := Lib.hid (bs HBC.out hb2)
      have HLT := Lib.hid (Array.getElem?_eq_some_iff.1 A3H.out).1
      clear hb2 hu2 CP
      go_wp2_with (fail)
      generalize hwF : (((((wz.setCell ⟨w.heap.size + 1 + 1, 0, none⟩ (.int .i64 4)).setCell ⟨w.heap.size + 1 + 1, 1, none⟩ (.int .i64 n)).setCell ⟨w.heap.size + 1 + 1, 2, none⟩ (.string s)).setCell ⟨w.heap.size + 1 + 1, 3, none⟩ (.int .i64 x)).setCell ⟨w.heap.size + 1 + 1, 4, none⟩ (.slice Az L cz)) = wF
      obtain ⟨rF, oF, bF⟩ := fill5 HZ3.out hwF
      refine bodyPost_ret (v := .tuple #[vV 4 n s x Az L cz, .bool false]) ?_ rfl ?_
      · simp [results, Tryd.results42, go_sem, rF]
      · have hlt := HLT.out
        refine ⟨_, by first | rfl | rw [HLQ.out], HU.out.stays (fun q hq => ?_) (fun q hq _ => oF q ?_), bF _ _ (by omega) HBZ.out⟩
        · have h1 : W.heap.size ≤ q := hq
          show w.heap.size ≤ q
          have := HBC.out.size
          omega
        · have h1 : W.heap.size ≤ q := hq
          omega
    | true =>
      have e1 : appB (.mk 4 n s x ks vs) = true := by rw [appB_mk, hr]; rfl
      have e2 : appR (.mk 4 n s x ks vs) (.mk ku nu su xu ksu vsu) = setT (.mk 4 n s x ks vs) (appY (.mk 4 n s x ks vs)) (.mk ku nu su xu ksu vsu) := by unfold appR; rw [e1]; rfl
      rw [e1, e2]
      rw [hr] at IR
      have hrr : x < 9223372036854775807 := by unfold nums.inr at hr; simp at hr; omega
      have LS := fun w' h hu => HLS.out w' h hu (fun k n s x ks vs e => by cases e; rfl) (fun _ => hrr)
      obtain ⟨T, HTE⟩ : ∃ T, Hid (setT (.mk 4 n s x ks vs) (appY (.mk 4 n s x ks vs)) (.mk ku nu su xu ksu vsu) = T) := ⟨_, Lib.hid rfl⟩
      rw [HTE.out] at HN2 LS ⊢
      have HLS2 := Lib.hid LS
      unfold appY kyV at HLS2
      clear e1 e2 hr HLS LS HTE hrr
      go_enter Tryd.func42, Tryd.ntmps42
      go_wp2_with (fail)
      rw [← HW.out]
      refine (IR _).mono ?_
      rintro e w1 ⟨rfl, rfl⟩
      go_wp2_with (fail)
      refine (HLS2.out _ (HT.out.below' HBC.out) (HTu.out.below' HBC.out)).mono ?_
      rintro e w2 ⟨u2, rfl, hu2, hb2⟩
      obtain ⟨K, N, Z, X, RK, RV⟩ := T
      obtain ⟨A2', c2', rfl, -, -⟩ := hu2.out
      replace A3H := Lib.hid (carry hb2 A3H.out)
      replace HBC := Lib.hid (bs HBC.out hb2)
      have HT2 := Lib.hid hu2
      have HCT := HN2
      clear hb2 hu2 r0 f0 r1 f1 HLQ
      obtain ⟨RL, HLQ⟩ : ∃ L, Hid (RV.length = L) := ⟨_, Lib.hid rfl⟩
      rw [HLQ.out] at HT2 ⊢
      go_wp2_with (fail)
      have CP := l5Copy (.mk K N Z X RK RV) HCT.out _ _ _ HT2.out
      try rw [HLQ.out] at CP
      refine CP.mono ?_
      rintro e wz ⟨uz, rfl, hu2, hb2⟩
      obtain ⟨Az, cz, rfl, -, -⟩ := hu2.out
      rw [HLQ.out] at hu2 ⊢
      have HU := Lib.hid hu2
      have HZ3 := Lib.hid (carry hb2 A3H.out)
      obtain ⟨rz, fz⟩ := rowc HZ3.out
      have HBZ := Lib.hid (bs HBC.out hb2)
      have HLT := Lib.hid (Array.getElem?_eq_some_iff.1 A3H.out).1
      clear hb2 hu2 CP
      go_wp2_with (fail)
      generalize hwF : (((((wz.setCell ⟨w.heap.size + 1 + 1, 0, none⟩ (.int .i64 K)).setCell ⟨w.heap.size + 1 + 1, 1, none⟩ (.int .i64 N)).setCell ⟨w.heap.size + 1 + 1, 2, none⟩ (.string Z)).setCell ⟨w.heap.size + 1 + 1, 3, none⟩ (.int .i64 X)).setCell ⟨w.heap.size + 1 + 1, 4, none⟩ (.slice Az RL cz)) = wF
      obtain ⟨rF, oF, bF⟩ := fill5 HZ3.out hwF
      refine bodyPost_ret (v := .tuple #[vV K N Z X Az RL cz, .bool true]) ?_ rfl ?_
      · simp [results, Tryd.results42, go_sem, rF]
      · have hlt := HLT.out
        refine ⟨_, by first | rfl | rw [HLQ.out], HU.out.stays (fun q hq => ?_) (fun q hq _ => oF q ?_), bF _ _ (by omega) HBZ.out⟩
        · have h1 : w2.heap.size ≤ q := hq
          show w.heap.size ≤ q
          have := HBC.out.size
          omega
        · have h1 : w2.heap.size ≤ q := hq
          omega
  · have e1 : appB (.mk k n s x ks vs) = false := by rw [appB_mk, decide_eq_false hk4]; rfl
    have e2 : appR (.mk k n s x ks vs) (.mk ku nu su xu ksu vsu) = .mk k n s x ks vs := by unfold appR; rw [e1]; rfl
    rw [e1, e2]
    have HCT : Hid (cnt (.mk k n s x ks vs) ≤ 1000000000) := Lib.hid (by have := HN.out; omega)
    clear e1 e2 HLS HN2 HTu IR
    go_enter Tryd.func42, Tryd.ntmps42
    go_wp2_with (fail)
    rw [← HW.out]
    have CP := l5Copy (.mk k n s x ks vs) HCT.out _ _ _ (HT.out.below' HBC.out)
    try rw [HLQ.out] at CP
    refine CP.mono ?_
    rintro e wz ⟨uz, rfl, hu2, hb2⟩
    obtain ⟨Az, cz, rfl, -, -⟩ := hu2.out
    rw [HLQ.out] at hu2 ⊢
    have HU := Lib.hid hu2
    have HZ3 := Lib.hid (carry hb2 A3H.out)
    obtain ⟨rz, fz⟩ := rowc HZ3.out
    have HBZ := Lib.hid (bs HBC.out hb2)
    have HLT := Lib.hid (Array.getElem?_eq_some_iff.1 A3H.out).1
    clear hb2 hu2 CP
    go_wp2_with (fail)
    generalize hwF : (((((wz.setCell ⟨w.heap.size + 1 + 1, 0, none⟩ (.int .i64 k)).setCell ⟨w.heap.size + 1 + 1, 1, none⟩ (.int .i64 n)).setCell ⟨w.heap.size + 1 + 1, 2, none⟩ (.string s)).setCell ⟨w.heap.size + 1 + 1, 3, none⟩ (.int .i64 x)).setCell ⟨w.heap.size + 1 + 1, 4, none⟩ (.slice Az L cz)) = wF
    obtain ⟨rF, oF, bF⟩ := fill5 HZ3.out hwF
    refine bodyPost_ret (v := .tuple #[vV k n s x Az L cz, .bool false]) ?_ rfl ?_
    · simp [results, Tryd.results42, go_sem, rF]
    · have hlt := HLT.out
      refine ⟨_, by first | rfl | rw [HLQ.out], HU.out.stays (fun q hq => ?_) (fun q hq _ => oF q ?_), bF _ _ (by omega) HBZ.out⟩
      · have h1 : W.heap.size ≤ q := hq
        show w.heap.size ≤ q
        have := HBC.out.size
        omega
      · have h1 : W.heap.size ≤ q := hq
        omega

end Go.Proofs.YtclnbfndkcpopaaDoor.tree
