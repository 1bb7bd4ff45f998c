/-
  BinaryOp and UnaryOp of the model.
  Conditions: the values hold at most 2^20 and two values and 10^9 items and letters; the package variables hold what the program's text lays.
-/
import Derived.Test.YteoilhbidnnneaaGreatDoorBSBinS
import Derived.Test.YteoilhbidnnneaaGreatDoorBSUnionS
import Derived.Test.YteoilhbidnnneaaGreatDoorBB8
import Derived.Test.YteoilhbidnnneaaGreatDoorBB5
namespace Go.Proofs.YteoilhbidnnneaaGreatDoor.tree
open Go.ChangeShapes Go.WideShapes Go.ChangeAt Go.RowKit ers
set_option linter.unusedVariables false

set_option maxRecDepth 100000 in
set_option maxHeartbeats 4000000 in
theorem binary_s (op : Int) (t u : Tr) (v vu : Value) (w : World) (h : TIn w (fun _ => True) t v) (h' : TIn w (fun _ => True) u vu) (hN : cnt t + cnt u ≤ 1048578) (hT : tot t + tot u ≤ 1000000000) (hE : OpE w) : Calls Tryz.prog 13 #[.int .i64 op, v, vu] w (OutMC w (binT op t u) (binC op t u)) := by
  cases hU : isU op t u with
  | false =>
    unfold binT binC
    rw [hU, if_neg (by simp), if_neg (by simp)]
    refine (binFlat_s op t u v vu w _ _ h h' hT hU).mono ?_
    rintro e w' ⟨rfl, hb⟩
    exact ⟨_, rfl, flat (fits_fl op t u) _ _ none 0 (Nat.zero_le _), hb⟩
  | true =>
    unfold binT binC
    rw [hU, if_pos rfl, if_pos rfl]
    have UN : Hid (∀ w', Below w.heap.size w w' → Calls Tryz.prog 40 #[v, vu] w' (OutMC w' (uniR t u) (uniC t u))) := Lib.hid (fun w' hb => union_s t u v vu w' (h.below' hb) (h'.below' hb) (by omega) ⟨by omega, by omega⟩ (hE.1.stays hb))
    obtain ⟨k, n, s, x, ks, vs⟩ := t
    obtain ⟨k', n', s', x', ks', vs'⟩ := u
    obtain ⟨A, c, rfl, -, -⟩ := h.out
    obtain ⟨A', c', rfl, -, -⟩ := h'.out
    unfold isU isA at hU
    obtain ⟨rfl, rfl, rfl⟩ : op = 1 ∧ k = 4 ∧ k' = 4 := by simpa using hU
    obtain ⟨L, HL⟩ : ∃ L, Hid (vs.length = L) := ⟨_, Lib.hid rfl⟩
    obtain ⟨L', HL'⟩ : ∃ L, Hid (vs'.length = L) := ⟨_, Lib.hid rfl⟩
    rw [HL.out, HL'.out] at UN ⊢
    obtain ⟨RR, HRR⟩ : ∃ q, Hid (uniR (.mk 4 n s x ks vs) (.mk 4 n' s' x' ks' vs') = q) := ⟨_, Lib.hid rfl⟩
    obtain ⟨cd, HCD⟩ : ∃ q, Hid (uniC (.mk 4 n s x ks vs) (.mk 4 n' s' x' ks' vs') = q) := ⟨_, Lib.hid rfl⟩
    rw [HRR.out, HCD.out] at UN ⊢
    obtain ⟨K, N, Z, X, RK, RV⟩ := RR
    obtain ⟨RL, HRL⟩ : ∃ q, Hid (RV.length = q) := ⟨_, Lib.hid rfl⟩
    clear h h' hN hT hE hU
    obtain ⟨a0, a1, a2, az, ab⟩ := al3 w #[.int .i64 4, .int .i64 n, .string s, .int .i64 x, .slice A L c] #[.int .i64 4, .int .i64 n', .string s', .int .i64 x', .slice A' L' c'] #[.int .i64 0, .int .i64 0, .string ⟨#[]⟩, .int .i64 0, .slice none 0 0] IV IV IV
    obtain ⟨W0, HW0⟩ : ∃ W, Hid (W = ((w.alloc (.cells #[.int .i64 4, .int .i64 n, .string s, .int .i64 x, .slice A L c] IV)).alloc (.cells #[.int .i64 4, .int .i64 n', .string s', .int .i64 x', .slice A' L' c'] IV)).alloc (.cells #[.int .i64 0, .int .i64 0, .string ⟨#[]⟩, .int .i64 0, .slice none 0 0] IV)) := ⟨_, Lib.hid rfl⟩
    rw [← HW0.out] at a0 a1 a2 az ab
    have A0 := Lib.hid a0
    have A1 := Lib.hid a1
    have A2 := Lib.hid a2
    have AB := Lib.hid ab
    obtain ⟨r0, f0⟩ := rowc a0
    obtain ⟨r1, f1⟩ := rowc a1
    obtain ⟨r2, f2⟩ := rowc a2
    clear a0 a1 a2 az ab
    go_enter Tryz.func13, Tryz.ntmps13
    go_wp2_with (fail)
    rw [← HW0.out]
    refine (UN.out _ AB.out).mono ?_
    rintro e w1 ⟨uu, rfl, hu, hb⟩
    have hz2 := (Array.getElem?_eq_some_iff.1 A2.out).1
    have hzB := AB.out.size
    replace A2 := Lib.hid (carry hb A2.out)
    replace AB := Lib.hid (bs AB.out hb)
    have HU2 := Lib.hid hu
    obtain ⟨Az, cz, rfl, -, -⟩ := hu.out
    have HQ := Lib.hid (show w.heap.size + 1 + 1 < W0.heap.size from hz2)
    rw [HRL.out] at HU2 ⊢
    clear hb hu hz2 hzB r0 f0 r1 f1 r2 f2
    obtain ⟨r2, f2⟩ := rowc A2.out
    go_wp2_with (fail)
    generalize hwF : (((((w1.setCell ⟨w.heap.size + 1 + 1, 0, none⟩ (.int .i64 K)).setCell ⟨w.heap.size + 1 + 1, 1, none⟩ (.int .i64 N)).setCell ⟨w.heap.size + 1 + 1, 2, none⟩ (.string Z)).setCell ⟨w.heap.size + 1 + 1, 3, none⟩ (.int .i64 X)).setCell ⟨w.heap.size + 1 + 1, 4, none⟩ (.slice Az RL cz)) = wF
    obtain ⟨rF, oF, bF⟩ := fill5 A2.out hwF
    refine bodyPost_ret (v := .tuple #[vV K N Z X Az RL cz, .int .i64 cd]) ?_ rfl ?_
    · simp [results, Tryz.results13, go_sem, rF]
    · have hq := HQ.out
      exact ⟨_, rfl, HU2.out.stays (fun b hb => by have hb2 : W0.heap.size ≤ b := hb; show w.heap.size ≤ b; omega) (fun b hb _ => oF b (by have hb2 : W0.heap.size ≤ b := hb; omega)), bF _ _ (by omega) AB.out⟩

set_option maxRecDepth 100000 in
set_option maxHeartbeats 4000000 in
theorem unary_s (op : Int) (t : Tr) (v : Value) (w : World) (S : Nat → Prop) (h : TIn w S t v) (hT : tot t ≤ 1000000000) : Calls Tryz.prog 18 #[.int .i64 op, v] w (GivesQ w (.tuple #[fV (unF op t).1, .int .i64 (unF op t).2])) := by
  have TB : Hid (∀ w', Below w.heap.size w w' → Calls Tryz.prog 54 #[v] w' (GivesQ w' (.bool (tb t)))) := Lib.hid (fun w' hb => toBool_s t v w' _ (h.below' hb))
  have BO : Hid (∀ w', Below w.heap.size w w' → Calls Tryz.prog 13 #[.int .i64 2, vV 2 0 ⟨#[]⟩ 0 none 0 0, v] w' (GivesQ w' (.tuple #[fV (flF 2 (fT (2, 0, ⟨#[]⟩)) t).1, .int .i64 (flF 2 (fT (2, 0, ⟨#[]⟩)) t).2]))) := Lib.hid (fun w' hb => binFlat_s 2 (fT (2, 0, ⟨#[]⟩)) t _ v w' _ _ (flat (fits_in i64_lit.1) _ S none 0 (Nat.zero_le _)) (h.below' hb) (zeroTot t hT) rfl)
  obtain ⟨⟨⟨dk, dn, dz⟩, dc⟩, HDF⟩ : ∃ q, Hid (flF 2 (fT (2, 0, ⟨#[]⟩)) t = q) := ⟨_, Lib.hid rfl⟩
  obtain ⟨bi, HBI⟩ : ∃ q, Hid (tb t = q) := ⟨_, Lib.hid rfl⟩
  rw [HDF.out] at BO
  rw [HBI.out] at TB
  unfold fV at BO
  simp only at BO
  unfold unF
  rw [HDF.out, HBI.out]
  obtain ⟨k, n, s, x, ks, vs⟩ := t
  obtain ⟨A, c, rfl, -, -⟩ := h.out
  obtain ⟨L, HL⟩ : ∃ L, Hid (vs.length = L) := ⟨_, Lib.hid rfl⟩
  rw [HL.out] at TB BO ⊢
  have BT := Lib.hid (boolValue_s true)
  have BN := Lib.hid (boolValue_s false)
  unfold boolV at BT BN
  simp only [if_true, Bool.false_eq_true, if_false] at BT BN
  clear h hT HDF HBI
  by_cases h1 : op = 1
  · subst h1
    cases bi
    · obtain ⟨W0, HW0⟩ : ∃ W, Hid (W = (w.alloc (.cells #[.int .i64 k, .int .i64 n, .string s, .int .i64 x, .slice A L c] IV)).alloc (.cells #[.int .i64 0, .int .i64 0, .string ⟨#[]⟩, .int .i64 0, .slice none 0 0] IV)) := ⟨_, Lib.hid rfl⟩
      have A0 : Hid (W0.heap[w.heap.size]? = some (.cells #[.int .i64 k, .int .i64 n, .string s, .int .i64 x, .slice A L c] IV (0, 0))) := Lib.hid (by rw [HW0.out]; exact heap_alloc2_old w _ _)
      have A2 : Hid (W0.heap[w.heap.size + 1]? = some (.cells #[.int .i64 0, .int .i64 0, .string ⟨#[]⟩, .int .i64 0, .slice none 0 0] IV (0, 0))) := Lib.hid (by rw [HW0.out]; exact heap_alloc2_new w _ _)
      have AB : Hid (Below w.heap.size w W0) := Lib.hid (by rw [HW0.out]; exact b2 w _ _)
      obtain ⟨r0, f0⟩ := rowc A0.out
      obtain ⟨r2, f2⟩ := rowc A2.out
      show Calls _ _ _ _ (GivesQ w (.tuple #[vV 1 1 ⟨#[]⟩ 0 none 0 0, .int .i64 0]))
      go_enter Tryz.func18, Tryz.ntmps18
      go_wp2_with (fail)
      rw [← HW0.out]
      refine (TB.out _ AB.out).mono ?_
      rintro e w1 ⟨rfl, hb⟩
      replace A0 := Lib.hid (carry hb A0.out)
      replace A2 := Lib.hid (carry hb A2.out)
      replace AB := Lib.hid (bs AB.out hb)
      clear hb r0 f0 r2 f2
      obtain ⟨r0, f0⟩ := rowc A0.out
      obtain ⟨r2, f2⟩ := rowc A2.out
      go_wp2_with (fail)
      refine (BT.out _).mono ?_
      rintro e w2 ⟨rfl, hb⟩
      replace A0 := Lib.hid (carry hb A0.out)
      replace A2 := Lib.hid (carry hb A2.out)
      replace AB := Lib.hid (bs AB.out hb)
      clear hb r0 f0 r2 f2
      obtain ⟨r0, f0⟩ := rowc A0.out
      obtain ⟨r2, f2⟩ := rowc A2.out
      go_wp2_with (fail)
      generalize hwF : (((((w2.setCell ⟨w.heap.size + 1, 0, none⟩ (.int .i64 1)).setCell ⟨w.heap.size + 1, 1, none⟩ (.int .i64 1)).setCell ⟨w.heap.size + 1, 2, none⟩ (.string ⟨#[]⟩)).setCell ⟨w.heap.size + 1, 3, none⟩ (.int .i64 0)).setCell ⟨w.heap.size + 1, 4, none⟩ (.slice none 0 0)) = wF
      obtain ⟨rF, oF, bF⟩ := fill5 A2.out hwF
      refine bodyPost_ret (v := .tuple #[vV 1 1 ⟨#[]⟩ 0 none 0 0, .int .i64 0]) ?_ rfl ?_
      · simp [results, Tryz.results18, go_sem, rF]
      · exact ⟨rfl, bF _ _ (by omega) AB.out⟩
    · obtain ⟨W0, HW0⟩ : ∃ W, Hid (W = (w.alloc (.cells #[.int .i64 k, .int .i64 n, .string s, .int .i64 x, .slice A L c] IV)).alloc (.cells #[.int .i64 0, .int .i64 0, .string ⟨#[]⟩, .int .i64 0, .slice none 0 0] IV)) := ⟨_, Lib.hid rfl⟩
      have A0 : Hid (W0.heap[w.heap.size]? = some (.cells #[.int .i64 k, .int .i64 n, .string s, .int .i64 x, .slice A L c] IV (0, 0))) := Lib.hid (by rw [HW0.out]; exact heap_alloc2_old w _ _)
      have A2 : Hid (W0.heap[w.heap.size + 1]? = some (.cells #[.int .i64 0, .int .i64 0, .string ⟨#[]⟩, .int .i64 0, .slice none 0 0] IV (0, 0))) := Lib.hid (by rw [HW0.out]; exact heap_alloc2_new w _ _)
      have AB : Hid (Below w.heap.size w W0) := Lib.hid (by rw [HW0.out]; exact b2 w _ _)
      obtain ⟨r0, f0⟩ := rowc A0.out
      obtain ⟨r2, f2⟩ := rowc A2.out
      show Calls _ _ _ _ (GivesQ w (.tuple #[vV 1 0 ⟨#[]⟩ 0 none 0 0, .int .i64 0]))
      go_enter Tryz.func18, Tryz.ntmps18
      go_wp2_with (fail)
      rw [← HW0.out]
      refine (TB.out _ AB.out).mono ?_
      rintro e w1 ⟨rfl, hb⟩
      replace A0 := Lib.hid (carry hb A0.out)
      replace A2 := Lib.hid (carry hb A2.out)
      replace AB := Lib.hid (bs AB.out hb)
      clear hb r0 f0 r2 f2
      obtain ⟨r0, f0⟩ := rowc A0.out
      obtain ⟨r2, f2⟩ := rowc A2.out
      go_wp2_with (fail)
      refine (BN.out _).mono ?_
      rintro e w2 ⟨rfl, hb⟩
      replace A0 := Lib.hid (carry hb A0.out)
      replace A2 := Lib.hid (carry hb A2.out)
      replace AB := Lib.hid (bs AB.out hb)
      clear hb r0 f0 r2 f2
      obtain ⟨r0, f0⟩ := rowc A0.out
      obtain ⟨r2, f2⟩ := rowc A2.out
      go_wp2_with (fail)
      generalize hwF : (((((w2.setCell ⟨w.heap.size + 1, 0, none⟩ (.int .i64 1)).setCell ⟨w.heap.size + 1, 1, none⟩ (.int .i64 0)).setCell ⟨w.heap.size + 1, 2, none⟩ (.string ⟨#[]⟩)).setCell ⟨w.heap.size + 1, 3, none⟩ (.int .i64 0)).setCell ⟨w.heap.size + 1, 4, none⟩ (.slice none 0 0)) = wF
      obtain ⟨rF, oF, bF⟩ := fill5 A2.out hwF
      refine bodyPost_ret (v := .tuple #[vV 1 0 ⟨#[]⟩ 0 none 0 0, .int .i64 0]) ?_ rfl ?_
      · simp [results, Tryz.results18, go_sem, rF]
      · exact ⟨rfl, bF _ _ (by omega) AB.out⟩
  by_cases h2 : op = 2
  · subst h2
    obtain ⟨W0, HW0⟩ : ∃ W, Hid (W = (w.alloc (.cells #[.int .i64 k, .int .i64 n, .string s, .int .i64 x, .slice A L c] IV)).alloc (.cells #[.int .i64 0, .int .i64 0, .string ⟨#[]⟩, .int .i64 0, .slice none 0 0] IV)) := ⟨_, Lib.hid rfl⟩
    have A0 : Hid (W0.heap[w.heap.size]? = some (.cells #[.int .i64 k, .int .i64 n, .string s, .int .i64 x, .slice A L c] IV (0, 0))) := Lib.hid (by rw [HW0.out]; exact heap_alloc2_old w _ _)
    have A2 : Hid (W0.heap[w.heap.size + 1]? = some (.cells #[.int .i64 0, .int .i64 0, .string ⟨#[]⟩, .int .i64 0, .slice none 0 0] IV (0, 0))) := Lib.hid (by rw [HW0.out]; exact heap_alloc2_new w _ _)
    have AB : Hid (Below w.heap.size w W0) := Lib.hid (by rw [HW0.out]; exact b2 w _ _)
    obtain ⟨r0, f0⟩ := rowc A0.out
    obtain ⟨r2, f2⟩ := rowc A2.out
    show Calls _ _ _ _ (GivesQ w (.tuple #[vV dk dn dz 0 none 0 0, .int .i64 dc]))
    go_enter Tryz.func18, Tryz.ntmps18
    go_wp2_with (fail)
    rw [← HW0.out]
    have ka : ∀ {w'}, Below W0.heap.size W0 w' → w'.heap[w.heap.size]? = _ := fun h => carry h A0.out
    go_region_with (first
      | (go_at_call 44
         refine (intValue_s 0 _).mono ?_
         rintro e w1 ⟨rfl, hb⟩
         have hbx : Below W0.heap.size W0 w1 := bs ((Below.refl W0.heap.size W0).drew) hb
         have AB1 := Lib.hid (bs AB.out hbx)
         have A21 := Lib.hid (carry hbx A2.out)
         obtain ⟨s0, g0⟩ := rowc (carry hbx A0.out)
         clear hb hbx)
      | (go_at_call 13
         refine (BO.out _ (by first | exact AB1.out | exact AB1.out.drew)).mono ?_
         rintro e w2 ⟨rfl, hb⟩
         have hbx : Below w1.heap.size w1 w2 := by first | exact hb | exact bs ((Below.refl w1.heap.size w1).drew) hb
         have AB2 := Lib.hid (bs AB1.out hbx)
         have A22 := Lib.hid (carry hbx A21.out)
         obtain ⟨s2, g2⟩ := rowc A22.out
         clear hb hbx))
    all_goals
      go_wp2_with (fail)
      generalize hwF : (((((w2.setCell ⟨w.heap.size + 1, 0, none⟩ (.int .i64 dk)).setCell ⟨w.heap.size + 1, 1, none⟩ (.int .i64 dn)).setCell ⟨w.heap.size + 1, 2, none⟩ (.string dz)).setCell ⟨w.heap.size + 1, 3, none⟩ (.int .i64 0)).setCell ⟨w.heap.size + 1, 4, none⟩ (.slice none 0 0)) = wF
      obtain ⟨rF, oF, bF⟩ := fill5 A22.out hwF
      refine bodyPost_ret (v := .tuple #[vV dk dn dz 0 none 0 0, .int .i64 dc]) ?_ rfl ?_
      · simp [results, Tryz.results18, go_sem, rF]
      · exact ⟨rfl, bF _ _ (by omega) AB2.out⟩
  rw [if_neg h1, if_neg h2]
  obtain ⟨W0, HW0⟩ : ∃ W, Hid (W = (w.alloc (.cells #[.int .i64 k, .int .i64 n, .string s, .int .i64 x, .slice A L c] IV)).alloc (.cells #[.int .i64 0, .int .i64 0, .string ⟨#[]⟩, .int .i64 0, .slice none 0 0] IV)) := ⟨_, Lib.hid rfl⟩
  have A0 : Hid (W0.heap[w.heap.size]? = some (.cells #[.int .i64 k, .int .i64 n, .string s, .int .i64 x, .slice A L c] IV (0, 0))) := Lib.hid (by rw [HW0.out]; exact heap_alloc2_old w _ _)
  have A2 : Hid (W0.heap[w.heap.size + 1]? = some (.cells #[.int .i64 0, .int .i64 0, .string ⟨#[]⟩, .int .i64 0, .slice none 0 0] IV (0, 0))) := Lib.hid (by rw [HW0.out]; exact heap_alloc2_new w _ _)
  have AB : Hid (Below w.heap.size w W0) := Lib.hid (by rw [HW0.out]; exact b2 w _ _)
  obtain ⟨r0, f0⟩ := rowc A0.out
  obtain ⟨r2, f2⟩ := rowc A2.out
  show Calls _ _ _ _ (GivesQ w (.tuple #[vV 0 0 ⟨#[]⟩ 0 none 0 0, .int .i64 2]))
  go_enter Tryz.func18, Tryz.ntmps18
  go_wp2_with (fail)
  rw [← HW0.out]
  refine bodyPost_ret (v := .tuple #[vV 0 0 ⟨#[]⟩ 0 none 0 0, .int .i64 2]) ?_ rfl ?_
  · simp [results, Tryz.results18, go_sem, r2]
  · exact ⟨rfl, AB.out⟩

end Go.Proofs.YteoilhbidnnneaaGreatDoor.tree

