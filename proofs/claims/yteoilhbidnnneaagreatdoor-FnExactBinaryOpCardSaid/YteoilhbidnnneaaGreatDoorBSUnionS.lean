/-
  Union of the model.
  Conditions: the values hold at most 2^20 and two values and 2^48 letters and items; the package variables of the library's reading of numbers hold what the program's text lays.
-/
import Derived.Test.YteoilhbidnnneaaGreatDoorBSUniS
import Derived.Test.YteoilhbidnnneaaGreatDoorBSValidS
namespace Go.Proofs.YteoilhbidnnneaaGreatDoor.tree
open Go.ChangeShapes Go.WideShapes Go.ChangeAt Go.RowKit
set_option linter.unusedVariables false

/-- A value and an error of the model. -/
def OutMC (w : World) (t : Tr) (cd : Int) (e : Ending) (w' : World) : Prop := ∃ u, e = .returned (.tuple #[u, .int .i64 cd]) ∧ TIn w' (fun q => w.heap.size ≤ q) t u ∧ Below w.heap.size w w'

set_option maxRecDepth 100000 in
set_option maxHeartbeats 4000000 in
theorem union_s (t u : Tr) (v vu : Value) (w : World) (h : TIn w (fun _ => True) t v) (h' : TIn w (fun _ => True) u vu) (hN : cnt t + cnt u ≤ 900000000) (hT : tot t ≤ 281474976710656 ∧ tot u ≤ 281474976710656) (hE : prs.Env w) :
    Calls Tryz.prog 40 #[v, vu] w (OutMC w (uniR t u) (uniC t u)) := by
  have IT : Hid (∀ w', Below w.heap.size w w' → Calls Tryz.prog 82 #[v] w' (BoQ w' (valB t))) := Lib.hid (fun w' hb => isValue_s t hT.1 w' _ v (hE.stays hb) (h.below' hb))
  have IU : Hid (∀ w', Below w.heap.size w w' → Calls Tryz.prog 82 #[vu] w' (BoQ w' (valB u))) := Lib.hid (fun w' hb => isValue_s u hT.2 w' _ vu (hE.stays hb) (h'.below' hb))
  obtain ⟨k, n, s, x, ks, vs⟩ := t
  obtain ⟨k', n', s', x', ks', vs'⟩ := u
  obtain ⟨A, c, rfl, hk, -⟩ := h.out
  obtain ⟨A', c', rfl, hk', -⟩ := h'.out
  have HH := Lib.hid h
  have HH' := Lib.hid h'
  have HN := Lib.hid hN
  obtain ⟨L, HL⟩ : ∃ L, Hid (vs.length = L) := ⟨_, Lib.hid rfl⟩
  obtain ⟨L', HL'⟩ : ∃ L, Hid (vs'.length = L) := ⟨_, Lib.hid rfl⟩
  rw [HL.out] at IT
  rw [HL'.out] at IU
  rw [HL.out, HL'.out]
  clear h h' hN hT hE hk hk'
  by_cases hk4 : k = 4
  · subst hk4
    by_cases hk4' : k' = 4
    · subst hk4'
      cases hv : valB (.mk 4 n s x ks vs) with
      | false =>
        obtain ⟨e1, e2⟩ := uni_not (t := .mk 4 n s x ks vs) (u := .mk 4 n' s' x' ks' vs') (by unfold uniB; rw [hv]; simp)
        rw [e1, e2]
        rw [hv] at IT
        clear e1 e2 hv IU HH HH' HN
        obtain ⟨a0, a1, a2, az, ab⟩ := al3 w #[.int .i64 4, .int .i64 n, .string s, .int .i64 x, .slice A L c] #[.int .i64 4, .int .i64 n', .string s', .int .i64 x', .slice A' L' c'] #[.int .i64 0, .int .i64 0, .string ⟨#[]⟩, .int .i64 0, .slice none 0 0] IV IV IV
        obtain ⟨W0, HW0⟩ : ∃ W, Hid (W = ((w.alloc (.cells #[.int .i64 4, .int .i64 n, .string s, .int .i64 x, .slice A L c] IV)).alloc (.cells #[.int .i64 4, .int .i64 n', .string s', .int .i64 x', .slice A' L' c'] IV)).alloc (.cells #[.int .i64 0, .int .i64 0, .string ⟨#[]⟩, .int .i64 0, .slice none 0 0] IV)) := ⟨_, Lib.hid rfl⟩
        rw [← HW0.out] at a0 a1 a2 az ab
        have A0 := Lib.hid a0
        have A1 := Lib.hid a1
        have A2 := Lib.hid a2
        have AB := Lib.hid ab
        obtain ⟨r0, f0⟩ := rowc a0
        obtain ⟨r1, f1⟩ := rowc a1
        obtain ⟨r2, f2⟩ := rowc a2
        clear a0 a1 a2 az ab
        go_enter Tryz.func40, Tryz.ntmps40
        go_wp2_with (fail)
        rw [← HW0.out]
        refine (IT.out _ AB.out).mono ?_
        rintro e w1 ⟨rfl, hb⟩
        replace A0 := Lib.hid (carry hb A0.out)
        replace A1 := Lib.hid (carry hb A1.out)
        replace A2 := Lib.hid (carry hb A2.out)
        replace AB := Lib.hid (bs AB.out hb)
        clear hb r0 f0 r1 f1 r2 f2
        obtain ⟨r0, f0⟩ := rowc A0.out
        obtain ⟨r1, f1⟩ := rowc A1.out
        obtain ⟨r2, f2⟩ := rowc A2.out
        go_wp2_with (fail)
        generalize hwF : (((((w1.setCell ⟨w.heap.size + 1 + 1, 0, none⟩ (.int .i64 0)).setCell ⟨w.heap.size + 1 + 1, 1, none⟩ (.int .i64 0)).setCell ⟨w.heap.size + 1 + 1, 2, none⟩ (.string ⟨#[]⟩)).setCell ⟨w.heap.size + 1 + 1, 3, none⟩ (.int .i64 0)).setCell ⟨w.heap.size + 1 + 1, 4, none⟩ (.slice none 0 0)) = wF
        obtain ⟨rF, oF, bF⟩ := fill5 A2.out hwF
        refine bodyPost_ret (v := .tuple #[vV 0 0 ⟨#[]⟩ 0 none 0 0, .int .i64 2]) ?_ rfl ?_
        · simp [results, Tryz.results40, go_sem, rF]
        · exact ⟨_, rfl, flat (by unfold I64; decide) _ _ none 0 (Nat.zero_le _), bF _ _ (by omega) AB.out⟩
      | true =>
        rw [hv] at IT
        cases hv' : valB (.mk 4 n' s' x' ks' vs') with
        | false =>
          obtain ⟨e1, e2⟩ := uni_not (t := .mk 4 n s x ks vs) (u := .mk 4 n' s' x' ks' vs') (by unfold uniB; rw [hv']; simp)
          rw [e1, e2]
          rw [hv'] at IU
          clear e1 e2 hv hv' HH HH' HN
          obtain ⟨a0, a1, a2, az, ab⟩ := al3 w #[.int .i64 4, .int .i64 n, .string s, .int .i64 x, .slice A L c] #[.int .i64 4, .int .i64 n', .string s', .int .i64 x', .slice A' L' c'] #[.int .i64 0, .int .i64 0, .string ⟨#[]⟩, .int .i64 0, .slice none 0 0] IV IV IV
          obtain ⟨W0, HW0⟩ : ∃ W, Hid (W = ((w.alloc (.cells #[.int .i64 4, .int .i64 n, .string s, .int .i64 x, .slice A L c] IV)).alloc (.cells #[.int .i64 4, .int .i64 n', .string s', .int .i64 x', .slice A' L' c'] IV)).alloc (.cells #[.int .i64 0, .int .i64 0, .string ⟨#[]⟩, .int .i64 0, .slice none 0 0] IV)) := ⟨_, Lib.hid rfl⟩
          rw [← HW0.out] at a0 a1 a2 az ab
          have A0 := Lib.hid a0
          have A1 := Lib.hid a1
          have A2 := Lib.hid a2
          have AB := Lib.hid ab
          obtain ⟨r0, f0⟩ := rowc a0
          obtain ⟨r1, f1⟩ := rowc a1
          obtain ⟨r2, f2⟩ := rowc a2
          clear a0 a1 a2 az ab
          go_enter Tryz.func40, Tryz.ntmps40
          go_wp2_with (fail)
          rw [← HW0.out]
          refine (IT.out _ AB.out).mono ?_
          rintro e w1 ⟨rfl, hb⟩
          replace A0 := Lib.hid (carry hb A0.out)
          replace A1 := Lib.hid (carry hb A1.out)
          replace A2 := Lib.hid (carry hb A2.out)
          replace AB := Lib.hid (bs AB.out hb)
          clear hb r0 f0 r1 f1 r2 f2
          obtain ⟨r0, f0⟩ := rowc A0.out
          obtain ⟨r1, f1⟩ := rowc A1.out
          obtain ⟨r2, f2⟩ := rowc A2.out
          go_wp2_with (fail)
          refine (IU.out _ AB.out).mono ?_
          rintro e w2 ⟨rfl, hb⟩
          replace A0 := Lib.hid (carry hb A0.out)
          replace A1 := Lib.hid (carry hb A1.out)
          replace A2 := Lib.hid (carry hb A2.out)
          replace AB := Lib.hid (bs AB.out hb)
          clear hb r0 f0 r1 f1 r2 f2
          obtain ⟨r0, f0⟩ := rowc A0.out
          obtain ⟨r1, f1⟩ := rowc A1.out
          obtain ⟨r2, f2⟩ := rowc A2.out
          go_wp2_with (fail)
          generalize hwF : (((((w2.setCell ⟨w.heap.size + 1 + 1, 0, none⟩ (.int .i64 0)).setCell ⟨w.heap.size + 1 + 1, 1, none⟩ (.int .i64 0)).setCell ⟨w.heap.size + 1 + 1, 2, none⟩ (.string ⟨#[]⟩)).setCell ⟨w.heap.size + 1 + 1, 3, none⟩ (.int .i64 0)).setCell ⟨w.heap.size + 1 + 1, 4, none⟩ (.slice none 0 0)) = wF
          obtain ⟨rF, oF, bF⟩ := fill5 A2.out hwF
          refine bodyPost_ret (v := .tuple #[vV 0 0 ⟨#[]⟩ 0 none 0 0, .int .i64 2]) ?_ rfl ?_
          · simp [results, Tryz.results40, go_sem, rF]
          · exact ⟨_, rfl, flat (by unfold I64; decide) _ _ none 0 (Nat.zero_le _), bF _ _ (by omega) AB.out⟩
        | true =>
          rw [hv'] at IU
          have hB : uniB (.mk 4 n s x ks vs) (.mk 4 n' s' x' ks' vs') = true := by unfold uniB; rw [hv, hv']; rfl
          obtain ⟨-, -, hx', hit'⟩ := val_four hv'
          have hcn := HN.out
          rw [cnt_mk', cnt_mk'] at hcn
          have LU : Hid (∀ w', Below w.heap.size w w' → Calls Tryz.prog 83 #[vV 4 n s x A L c, vV 4 n' s' x' A' L' c'] w' (OutV w' (uniT (.mk 4 n s x ks vs) (.mk 4 n' s' x' ks' vs')) (fun _ => True))) := Lib.hid (fun w' hb => by
            have := l10Union_s n x n' x' s s' ks ks' vs vs' A A' c c' w' (HH.out.below' hb) (HH'.out.below' hb) (by omega) hx'.2 hit'
            rw [HL.out, HL'.out] at this
            exact this)
          have hUc := uni_cnt (.mk 4 n s x ks vs) (.mk 4 n' s' x' ks' vs')
          have HUC : Hid (cnt (uniT (.mk 4 n s x ks vs) (.mk 4 n' s' x' ks' vs')) ≤ 1000000000) := Lib.hid (by have := HN.out; omega)
          have HCD := Lib.hid (And.intro (fun hw => uni_fits hB hw) (fun hw => uni_big hB hw))
          obtain ⟨U, HU⟩ : ∃ U, Hid (uniT (.mk 4 n s x ks vs) (.mk 4 n' s' x' ks' vs') = U) := ⟨_, Lib.hid rfl⟩
          rw [HU.out] at LU HUC HCD
          obtain ⟨cd, HCDD⟩ : ∃ cd, Hid (uniC (.mk 4 n s x ks vs) (.mk 4 n' s' x' ks' vs') = cd) := ⟨_, Lib.hid rfl⟩
          obtain ⟨RR, HRR⟩ : ∃ RR, Hid (uniR (.mk 4 n s x ks vs) (.mk 4 n' s' x' ks' vs') = RR) := ⟨_, Lib.hid rfl⟩
          rw [HCDD.out, HRR.out] at HCD ⊢
          have CY : Hid (∀ w' S' v', TIn w' S' U v' → Calls Tryz.prog 66 #[v'] w' (ToQ w' U)) := Lib.hid (fun w' S' v' h => l5Copy U HUC.out w' S' v' h)
          have WE : Hid (∀ w' S' v', TIn w' S' U v' → Calls Tryz.prog 84 #[v', .int .i64 200] w' (LtQ w' (cut 200 (wgt U)))) := Lib.hid (fun w' S' v' h => weigh_s U w' S' v' h 200 (by omega) (by omega))
          clear hv hv' hB hx' hit' hcn hUc HU HH HH' HN
          obtain ⟨K, N, Z, X, RK, RV⟩ := U
          obtain ⟨RL, HRL⟩ : ∃ L, Hid (RV.length = L) := ⟨_, Lib.hid rfl⟩
          obtain ⟨g, HG⟩ : ∃ g, Hid (cut 200 (wgt (.mk K N Z X RK RV)) = g) := ⟨_, Lib.hid rfl⟩
          rw [HG.out] at WE
          obtain ⟨a0, a1, a2, az, ab⟩ := al3 w #[.int .i64 4, .int .i64 n, .string s, .int .i64 x, .slice A L c] #[.int .i64 4, .int .i64 n', .string s', .int .i64 x', .slice A' L' c'] #[.int .i64 0, .int .i64 0, .string ⟨#[]⟩, .int .i64 0, .slice none 0 0] IV IV IV
          obtain ⟨W0, HW0⟩ : ∃ W, Hid (W = ((w.alloc (.cells #[.int .i64 4, .int .i64 n, .string s, .int .i64 x, .slice A L c] IV)).alloc (.cells #[.int .i64 4, .int .i64 n', .string s', .int .i64 x', .slice A' L' c'] IV)).alloc (.cells #[.int .i64 0, .int .i64 0, .string ⟨#[]⟩, .int .i64 0, .slice none 0 0] IV)) := ⟨_, Lib.hid rfl⟩
          rw [← HW0.out] at a0 a1 a2 az ab
          have A0 := Lib.hid a0
          have A1 := Lib.hid a1
          have A2 := Lib.hid a2
          have AB := Lib.hid ab
          obtain ⟨r0, f0⟩ := rowc a0
          obtain ⟨r1, f1⟩ := rowc a1
          obtain ⟨r2, f2⟩ := rowc a2
          clear a0 a1 a2 az ab
          go_enter Tryz.func40, Tryz.ntmps40
          go_wp2_with (fail)
          rw [← HW0.out]
          refine (IT.out _ AB.out).mono ?_
          rintro e w1 ⟨rfl, hb⟩
          replace A0 := Lib.hid (carry hb A0.out)
          replace A1 := Lib.hid (carry hb A1.out)
          replace A2 := Lib.hid (carry hb A2.out)
          replace AB := Lib.hid (bs AB.out hb)
          clear hb r0 f0 r1 f1 r2 f2
          obtain ⟨r0, f0⟩ := rowc A0.out
          obtain ⟨r1, f1⟩ := rowc A1.out
          obtain ⟨r2, f2⟩ := rowc A2.out
          go_wp2_with (fail)
          refine (IU.out _ AB.out).mono ?_
          rintro e w2 ⟨rfl, hb⟩
          replace A0 := Lib.hid (carry hb A0.out)
          replace A1 := Lib.hid (carry hb A1.out)
          replace A2 := Lib.hid (carry hb A2.out)
          replace AB := Lib.hid (bs AB.out hb)
          clear hb r0 f0 r1 f1 r2 f2
          obtain ⟨r0, f0⟩ := rowc A0.out
          obtain ⟨r1, f1⟩ := rowc A1.out
          obtain ⟨r2, f2⟩ := rowc A2.out
          go_wp2_with (fail)
          refine (LU.out _ AB.out).mono ?_
          rintro e w3 ⟨u3, rfl, hu3, hb⟩
          replace A0 := Lib.hid (carry hb A0.out)
          replace A1 := Lib.hid (carry hb A1.out)
          replace A2 := Lib.hid (carry hb A2.out)
          replace AB := Lib.hid (bs AB.out hb)
          have hz3 : w.heap.size + 1 + 1 < w3.heap.size := (Array.getElem?_eq_some_iff.1 A2.out).1
          clear hb r0 f0 r1 f1 r2 f2
          have CY3 := Lib.hid (CY.out _ _ _ hu3)
          obtain ⟨A3, c3, rfl, -, -⟩ := hu3.out
          rw [HRL.out] at CY3 ⊢
          clear hu3
          go_wp2_with (fail)
          refine CY3.out.mono ?_
          rintro e w4 ⟨u4, rfl, hu4, hb⟩
          replace A0 := Lib.hid (carry hb A0.out)
          replace A1 := Lib.hid (carry hb A1.out)
          replace A2 := Lib.hid (carry hb A2.out)
          replace AB := Lib.hid (bs AB.out hb)
          have HU4 := Lib.hid (show TIn w4 (fun q => w3.heap.size ≤ q) _ u4 from hu4)
          have HZ3 := Lib.hid hz3
          obtain ⟨A4, c4, rfl, -, -⟩ := hu4.out
          rw [HRL.out] at HU4 ⊢
          clear hb hu4 CY3 hz3
          obtain ⟨NB, HNB⟩ : ∃ N, Hid (N = w4.heap.size) := ⟨_, Lib.hid rfl⟩
          go_wp2_with (fail)
          refine (WE.out _ _ _ (HU4.out.below' (b1 _ _))).mono ?_
          rintro e w5 ⟨rfl, hb⟩
          have E6 := Lib.hid (carry hb (heap_alloc_new w4 (.cells #[.int .i64 K, .int .i64 N, .string Z, .int .i64 X, .slice A4 RL c4] IV)))
          replace A2 := Lib.hid (carry hb (keepAlloc A2.out))
          have HB5 := Lib.hid (bs (b1 w4 (.cells #[.int .i64 K, .int .i64 N, .string Z, .int .i64 X, .slice A4 RL c4] IV)) hb)
          replace AB := Lib.hid (bs AB.out HB5.out)
          replace HU4 := Lib.hid (HU4.out.below' HB5.out)
          clear hb
          obtain ⟨r6, f6⟩ := rowc E6.out
          obtain ⟨r2, f2⟩ := rowc A2.out
          by_cases hw : wgt (.mk K N Z X RK RV) ≤ 200
          · obtain ⟨e1, e2⟩ := HCD.out.1 hw
            subst e1 e2
            have hg : g ≤ 200 := by rw [← HG.out]; unfold cut; split <;> omega
            go_wp2_with (fail)
            generalize hwF : (((((w5.setCell ⟨w.heap.size + 1 + 1, 0, none⟩ (.int .i64 K)).setCell ⟨w.heap.size + 1 + 1, 1, none⟩ (.int .i64 N)).setCell ⟨w.heap.size + 1 + 1, 2, none⟩ (.string Z)).setCell ⟨w.heap.size + 1 + 1, 3, none⟩ (.int .i64 X)).setCell ⟨w.heap.size + 1 + 1, 4, none⟩ (.slice A4 RL c4)) = wF
            obtain ⟨rF, oF, bF⟩ := fill5 A2.out hwF
            refine bodyPost_ret (v := .tuple #[vV K N Z X A4 RL c4, .int .i64 0]) ?_ rfl ?_
            · simp [results, Tryz.results40, go_sem, rF]
            · have h3 := HZ3.out
              exact ⟨_, rfl, HU4.out.stays (fun b hb => by have hb' : w3.heap.size ≤ b := hb; show w.heap.size ≤ b; omega) (fun b hb _ => oF b (by have hb' : w3.heap.size ≤ b := hb; omega)), bF _ _ (by omega) AB.out⟩
          · obtain ⟨e1, e2⟩ := HCD.out.2 hw
            subst e1 e2
            have hg : g = 201 := by rw [← HG.out]; unfold cut; split <;> omega
            subst hg
            go_wp2_with (fail)
            generalize hwF : (((((w5.setCell ⟨w.heap.size + 1 + 1, 0, none⟩ (.int .i64 0)).setCell ⟨w.heap.size + 1 + 1, 1, none⟩ (.int .i64 0)).setCell ⟨w.heap.size + 1 + 1, 2, none⟩ (.string ⟨#[]⟩)).setCell ⟨w.heap.size + 1 + 1, 3, none⟩ (.int .i64 0)).setCell ⟨w.heap.size + 1 + 1, 4, none⟩ (.slice none 0 0)) = wF
            obtain ⟨rF, oF, bF⟩ := fill5 A2.out hwF
            refine bodyPost_ret (v := .tuple #[vV 0 0 ⟨#[]⟩ 0 none 0 0, .int .i64 9]) ?_ rfl ?_
            · simp [results, Tryz.results40, go_sem, rF]
            · exact ⟨_, rfl, flat (by unfold I64; decide) _ _ none 0 (Nat.zero_le _), bF _ _ (by omega) AB.out⟩
    · obtain ⟨e1, e2⟩ := uni_not (t := .mk 4 n s x ks vs) (u := .mk k' n' s' x' ks' vs') (by unfold uniB isA; simp [hk4'])
      rw [e1, e2]
      clear e1 e2 IT IU HH HH' HN
      obtain ⟨a0, a1, a2, az, ab⟩ := al3 w #[.int .i64 4, .int .i64 n, .string s, .int .i64 x, .slice A L c] #[.int .i64 k', .int .i64 n', .string s', .int .i64 x', .slice A' L' c'] #[.int .i64 0, .int .i64 0, .string ⟨#[]⟩, .int .i64 0, .slice none 0 0] IV IV IV
      obtain ⟨W0, HW0⟩ : ∃ W, Hid (W = ((w.alloc (.cells #[.int .i64 4, .int .i64 n, .string s, .int .i64 x, .slice A L c] IV)).alloc (.cells #[.int .i64 k', .int .i64 n', .string s', .int .i64 x', .slice A' L' c'] IV)).alloc (.cells #[.int .i64 0, .int .i64 0, .string ⟨#[]⟩, .int .i64 0, .slice none 0 0] IV)) := ⟨_, Lib.hid rfl⟩
      rw [← HW0.out] at a0 a1 a2 az ab
      have A0 := Lib.hid a0
      have A1 := Lib.hid a1
      have A2 := Lib.hid a2
      have AB := Lib.hid ab
      obtain ⟨r0, f0⟩ := rowc a0
      obtain ⟨r1, f1⟩ := rowc a1
      obtain ⟨r2, f2⟩ := rowc a2
      clear a0 a1 a2 az ab
      go_enter Tryz.func40, Tryz.ntmps40
      go_wp2_with (fail)
      rw [← HW0.out]
      refine bodyPost_ret (v := .tuple #[vV 0 0 ⟨#[]⟩ 0 none 0 0, .int .i64 2]) ?_ rfl ?_
      · simp [results, Tryz.results40, go_sem, r2]
      · exact ⟨_, rfl, flat (by unfold I64; decide) _ _ none 0 (Nat.zero_le _), AB.out⟩
  · obtain ⟨e1, e2⟩ := uni_not (t := .mk k n s x ks vs) (u := .mk k' n' s' x' ks' vs') (by unfold uniB isA; simp [hk4])
    rw [e1, e2]
    clear e1 e2 IT IU HH HH' HN
    obtain ⟨a0, a1, a2, az, ab⟩ := al3 w #[.int .i64 k, .int .i64 n, .string s, .int .i64 x, .slice A L c] #[.int .i64 k', .int .i64 n', .string s', .int .i64 x', .slice A' L' c'] #[.int .i64 0, .int .i64 0, .string ⟨#[]⟩, .int .i64 0, .slice none 0 0] IV IV IV
    obtain ⟨W0, HW0⟩ : ∃ W, Hid (W = ((w.alloc (.cells #[.int .i64 k, .int .i64 n, .string s, .int .i64 x, .slice A L c] IV)).alloc (.cells #[.int .i64 k', .int .i64 n', .string s', .int .i64 x', .slice A' L' c'] IV)).alloc (.cells #[.int .i64 0, .int .i64 0, .string ⟨#[]⟩, .int .i64 0, .slice none 0 0] IV)) := ⟨_, Lib.hid rfl⟩
    rw [← HW0.out] at a0 a1 a2 az ab
    have A0 := Lib.hid a0
    have A1 := Lib.hid a1
    have A2 := Lib.hid a2
    have AB := Lib.hid ab
    obtain ⟨r0, f0⟩ := rowc a0
    obtain ⟨r1, f1⟩ := rowc a1
    obtain ⟨r2, f2⟩ := rowc a2
    clear a0 a1 a2 az ab
    go_enter Tryz.func40, Tryz.ntmps40
    go_wp2_with (fail)
    rw [← HW0.out]
    refine bodyPost_ret (v := .tuple #[vV 0 0 ⟨#[]⟩ 0 none 0 0, .int .i64 2]) ?_ rfl ?_
    · simp [results, Tryz.results40, go_sem, r2]
    · exact ⟨_, rfl, flat (by unfold I64; decide) _ _ none 0 (Nat.zero_le _), AB.out⟩

end Go.Proofs.YteoilhbidnnneaaGreatDoor.tree

