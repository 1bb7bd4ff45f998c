/-
  BinaryOp of the project where no union is asked.
  Conditions: the values hold at most 2^20 and two values and 10^9 items and letters; the package variables hold what the program's text lays.
-/
import Derived.Test.YtdglmnmalfpipaaGreatDoorVSBinF
import Derived.Test.YtdglmnmalfpipaaGreatDoorVSCmpJ
import Derived.Test.YtdglmnmalfpipaaGreatDoorVB11
import Derived.Test.YtdglmnmalfpipaaGreatDoorVB7
import Derived.Test.YtdglmnmalfpipaaGreatDoorVB14
namespace Go.Proofs.YtdglmnmalfpipaaGreatDoor.tree
open Go.ChangeShapes Go.WideShapes Go.ChangeAt Go.RowKit ers
set_option linter.unusedVariables false

set_option maxRecDepth 100000 in
set_option maxHeartbeats 16000000 in
theorem binFlat_i (op : Int) (t u : Tr) (v vu : Value) (w : World) (h : TIn w (Nw 0 w) t v) (h' : TIn w (Nw 0 w) u vu) (hN : cnt t ≤ 1048578) (hE : OpE w) (hT : tot t + tot u ≤ 1000000000) (hU : isU op t u = false) : Calls Tryz.prog 37 #[.int .i64 op, v, vu] w (GivesQ w (.tuple #[fV (flF op t u).1, .int .i64 (flF op t u).2])) := by
  obtain ⟨-, hCE⟩ := id hE
  obtain ⟨a, hEa⟩ := hCE.2.1
  obtain ⟨b, hEb⟩ := hCE.2.2
  have ID : Hid (∀ w', Below w.heap.size w w' → Calls Tryz.prog 104 #[v, vu] w' (GivesQ w' (.bool (identB t u)))) := Lib.hid (fun w' hb => identical_i t u v vu w' 0 0 (h.nwb hb) (h'.nwb hb) (by omega))
  have CM : Hid (∀ w', Below w.heap.size w w' → Calls Tryz.prog 106 #[v, vu] w' (GivesQ w' (.int .i64 (cmpT t u)))) := Lib.hid (fun w' hb => compare_i t u (by omega) (by omega) w' 0 0 v vu (hCE.stays hb) (h.nwb hb) (h'.nwb hb))
  have CO : Hid (∀ w', Below w.heap.size w w' → Calls Tryz.prog 102 #[v, vu] w' (GivesQ w' (.tuple #[fV (conF t u).1, .int .i64 (conF t u).2]))) := Lib.hid (fun w' hb => concat_i t u v vu w' _ _ (h.below' hb) (h'.below' hb) hT a (hCE.1.stays hb) (hEa.stays hb))
  have AV : Hid (∀ w', Below w.heap.size w w' → Calls Tryz.prog 108 #[.int .i64 op, v, vu] w' (GivesQ w' (.tuple #[fV (ariF op t u).1, .int .i64 (ariF op t u).2]))) := Lib.hid (fun w' hb => arithValues_i op t u v vu w' _ _ (h.below' hb) (h'.below' hb) hT b (hEb.stays hb))
  obtain ⟨k, n, s, x, ks, vs⟩ := t
  obtain ⟨k', n', s', x', ks', vs'⟩ := u
  obtain ⟨A, c, rfl, -, -⟩ := h.out
  obtain ⟨A', c', rfl, -, -⟩ := h'.out
  have AR := Lib.hid (areArrays k n s x A vs.length c k' n' s' x' A' vs'.length c')
  obtain ⟨L, HL⟩ : ∃ L, Hid (vs.length = L) := ⟨_, Lib.hid rfl⟩
  obtain ⟨L', HL'⟩ : ∃ L, Hid (vs'.length = L) := ⟨_, Lib.hid rfl⟩
  rw [HL.out, HL'.out] at ID CM CO AV AR ⊢
  obtain ⟨bi, HBI⟩ : ∃ q, Hid (identB (.mk k n s x ks vs) (.mk k' n' s' x' ks' vs') = q) := ⟨_, Lib.hid rfl⟩
  obtain ⟨oc, HOC⟩ : ∃ q, Hid (cmpT (.mk k n s x ks vs) (.mk k' n' s' x' ks' vs') = q) := ⟨_, Lib.hid rfl⟩
  obtain ⟨⟨⟨ck, cn, cz⟩, cc⟩, HCF⟩ : ∃ q, Hid (conF (.mk k n s x ks vs) (.mk k' n' s' x' ks' vs') = q) := ⟨_, Lib.hid rfl⟩
  obtain ⟨⟨⟨dk, dn, dz⟩, dc⟩, HDF⟩ : ∃ q, Hid (ariF op (.mk k n s x ks vs) (.mk k' n' s' x' ks' vs') = q) := ⟨_, Lib.hid rfl⟩
  rw [HBI.out] at ID
  rw [HOC.out] at CM
  rw [HCF.out] at CO
  rw [HDF.out] at AV
  unfold fV at CO AV
  simp only at CO AV
  unfold flF
  rw [HBI.out, HOC.out, HCF.out, HDF.out]
  unfold isU isA at hU
  have BT := Lib.hid (boolValue_i true)
  have BN := Lib.hid (boolValue_i false)
  unfold boolV at BT BN
  simp only [if_true, Bool.false_eq_true, if_false] at BT BN
  clear h h' hT hN hE hCE hEa hEb
  by_cases h6 : op = 6
  · subst h6
    obtain ⟨a0, a1, a2, az, ab⟩ := al3 w #[.int .i64 k, .int .i64 n, .string s, .int .i64 x, .slice A L c] #[.int .i64 k', .int .i64 n', .string s', .int .i64 x', .slice A' L' c'] #[.int .i64 0, .int .i64 0, .string ⟨#[]⟩, .int .i64 0, .slice none 0 0] IV IV IV
    obtain ⟨W0, HW0⟩ : ∃ W, Hid (W = ((w.alloc (.cells #[.int .i64 k, .int .i64 n, .string s, .int .i64 x, .slice A L c] IV)).alloc (.cells #[.int .i64 k', .int .i64 n', .string s', .int .i64 x', .slice A' L' c'] IV)).alloc (.cells #[.int .i64 0, .int .i64 0, .string ⟨#[]⟩, .int .i64 0, .slice none 0 0] IV)) := ⟨_, Lib.hid rfl⟩
    rw [← HW0.out] at a0 a1 a2 az ab
    have A0 := Lib.hid a0
    have A1 := Lib.hid a1
    have A2 := Lib.hid a2
    have AB := Lib.hid ab
    obtain ⟨r0, f0⟩ := rowc a0
    obtain ⟨r1, f1⟩ := rowc a1
    obtain ⟨r2, f2⟩ := rowc a2
    clear a0 a1 a2 az ab
    show Calls _ _ _ _ (GivesQ w (.tuple #[vV ck cn cz 0 none 0 0, .int .i64 cc]))
    go_enter Tryz.func37, Tryz.ntmps37
    go_wp2_with (fail)
    rw [← HW0.out]
    refine (CO.out _ AB.out).mono ?_
    rintro e w1 ⟨rfl, hb⟩
    replace A0 := Lib.hid (carry hb A0.out)
    replace A1 := Lib.hid (carry hb A1.out)
    replace A2 := Lib.hid (carry hb A2.out)
    replace AB := Lib.hid (bs AB.out hb)
    clear hb r0 f0 r1 f1 r2 f2
    obtain ⟨r0, f0⟩ := rowc A0.out
    obtain ⟨r1, f1⟩ := rowc A1.out
    obtain ⟨r2, f2⟩ := rowc A2.out
    go_wp2_with (fail)
    generalize hwF : (((((w1.setCell ⟨w.heap.size + 1 + 1, 0, none⟩ (.int .i64 ck)).setCell ⟨w.heap.size + 1 + 1, 1, none⟩ (.int .i64 cn)).setCell ⟨w.heap.size + 1 + 1, 2, none⟩ (.string cz)).setCell ⟨w.heap.size + 1 + 1, 3, none⟩ (.int .i64 0)).setCell ⟨w.heap.size + 1 + 1, 4, none⟩ (.slice none 0 0)) = wF
    obtain ⟨rF, oF, bF⟩ := fill5 A2.out hwF
    refine bodyPost_ret (v := .tuple #[vV ck cn cz 0 none 0 0, .int .i64 cc]) ?_ rfl ?_
    · simp [results, Tryz.results37, go_sem, rF]
    · exact ⟨rfl, bF _ _ (by omega) AB.out⟩
  by_cases h9 : op = 9
  · subst h9
    cases bi
    · obtain ⟨a0, a1, a2, az, ab⟩ := al3 w #[.int .i64 k, .int .i64 n, .string s, .int .i64 x, .slice A L c] #[.int .i64 k', .int .i64 n', .string s', .int .i64 x', .slice A' L' c'] #[.int .i64 0, .int .i64 0, .string ⟨#[]⟩, .int .i64 0, .slice none 0 0] IV IV IV
      obtain ⟨W0, HW0⟩ : ∃ W, Hid (W = ((w.alloc (.cells #[.int .i64 k, .int .i64 n, .string s, .int .i64 x, .slice A L c] IV)).alloc (.cells #[.int .i64 k', .int .i64 n', .string s', .int .i64 x', .slice A' L' c'] IV)).alloc (.cells #[.int .i64 0, .int .i64 0, .string ⟨#[]⟩, .int .i64 0, .slice none 0 0] IV)) := ⟨_, Lib.hid rfl⟩
      rw [← HW0.out] at a0 a1 a2 az ab
      have A0 := Lib.hid a0
      have A1 := Lib.hid a1
      have A2 := Lib.hid a2
      have AB := Lib.hid ab
      obtain ⟨r0, f0⟩ := rowc a0
      obtain ⟨r1, f1⟩ := rowc a1
      obtain ⟨r2, f2⟩ := rowc a2
      clear a0 a1 a2 az ab
      show Calls _ _ _ _ (GivesQ w (.tuple #[vV 1 0 ⟨#[]⟩ 0 none 0 0, .int .i64 0]))
      go_enter Tryz.func37, Tryz.ntmps37
      go_wp2_with (fail)
      rw [← HW0.out]
      refine (ID.out _ AB.out).mono ?_
      rintro e w1 ⟨rfl, hb⟩
      replace A0 := Lib.hid (carry hb A0.out)
      replace A1 := Lib.hid (carry hb A1.out)
      replace A2 := Lib.hid (carry hb A2.out)
      replace AB := Lib.hid (bs AB.out hb)
      clear hb r0 f0 r1 f1 r2 f2
      obtain ⟨r0, f0⟩ := rowc A0.out
      obtain ⟨r1, f1⟩ := rowc A1.out
      obtain ⟨r2, f2⟩ := rowc A2.out
      go_wp2_with (fail)
      refine (BN.out _).mono ?_
      rintro e w2 ⟨rfl, hb⟩
      replace A0 := Lib.hid (carry hb A0.out)
      replace A1 := Lib.hid (carry hb A1.out)
      replace A2 := Lib.hid (carry hb A2.out)
      replace AB := Lib.hid (bs AB.out hb)
      clear hb r0 f0 r1 f1 r2 f2
      obtain ⟨r0, f0⟩ := rowc A0.out
      obtain ⟨r1, f1⟩ := rowc A1.out
      obtain ⟨r2, f2⟩ := rowc A2.out
      go_wp2_with (fail)
      generalize hwF : (((((w2.setCell ⟨w.heap.size + 1 + 1, 0, none⟩ (.int .i64 1)).setCell ⟨w.heap.size + 1 + 1, 1, none⟩ (.int .i64 0)).setCell ⟨w.heap.size + 1 + 1, 2, none⟩ (.string ⟨#[]⟩)).setCell ⟨w.heap.size + 1 + 1, 3, none⟩ (.int .i64 0)).setCell ⟨w.heap.size + 1 + 1, 4, none⟩ (.slice none 0 0)) = wF
      obtain ⟨rF, oF, bF⟩ := fill5 A2.out hwF
      refine bodyPost_ret (v := .tuple #[vV 1 0 ⟨#[]⟩ 0 none 0 0, .int .i64 0]) ?_ rfl ?_
      · simp [results, Tryz.results37, go_sem, rF]
      · exact ⟨rfl, bF _ _ (by omega) AB.out⟩
    · obtain ⟨a0, a1, a2, az, ab⟩ := al3 w #[.int .i64 k, .int .i64 n, .string s, .int .i64 x, .slice A L c] #[.int .i64 k', .int .i64 n', .string s', .int .i64 x', .slice A' L' c'] #[.int .i64 0, .int .i64 0, .string ⟨#[]⟩, .int .i64 0, .slice none 0 0] IV IV IV
      obtain ⟨W0, HW0⟩ : ∃ W, Hid (W = ((w.alloc (.cells #[.int .i64 k, .int .i64 n, .string s, .int .i64 x, .slice A L c] IV)).alloc (.cells #[.int .i64 k', .int .i64 n', .string s', .int .i64 x', .slice A' L' c'] IV)).alloc (.cells #[.int .i64 0, .int .i64 0, .string ⟨#[]⟩, .int .i64 0, .slice none 0 0] IV)) := ⟨_, Lib.hid rfl⟩
      rw [← HW0.out] at a0 a1 a2 az ab
      have A0 := Lib.hid a0
      have A1 := Lib.hid a1
      have A2 := Lib.hid a2
      have AB := Lib.hid ab
      obtain ⟨r0, f0⟩ := rowc a0
      obtain ⟨r1, f1⟩ := rowc a1
      obtain ⟨r2, f2⟩ := rowc a2
      clear a0 a1 a2 az ab
      show Calls _ _ _ _ (GivesQ w (.tuple #[vV 1 1 ⟨#[]⟩ 0 none 0 0, .int .i64 0]))
      go_enter Tryz.func37, Tryz.ntmps37
      go_wp2_with (fail)
      rw [← HW0.out]
      refine (ID.out _ AB.out).mono ?_
      rintro e w1 ⟨rfl, hb⟩
      replace A0 := Lib.hid (carry hb A0.out)
      replace A1 := Lib.hid (carry hb A1.out)
      replace A2 := Lib.hid (carry hb A2.out)
      replace AB := Lib.hid (bs AB.out hb)
      clear hb r0 f0 r1 f1 r2 f2
      obtain ⟨r0, f0⟩ := rowc A0.out
      obtain ⟨r1, f1⟩ := rowc A1.out
      obtain ⟨r2, f2⟩ := rowc A2.out
      go_wp2_with (fail)
      refine (BT.out _).mono ?_
      rintro e w2 ⟨rfl, hb⟩
      replace A0 := Lib.hid (carry hb A0.out)
      replace A1 := Lib.hid (carry hb A1.out)
      replace A2 := Lib.hid (carry hb A2.out)
      replace AB := Lib.hid (bs AB.out hb)
      clear hb r0 f0 r1 f1 r2 f2
      obtain ⟨r0, f0⟩ := rowc A0.out
      obtain ⟨r1, f1⟩ := rowc A1.out
      obtain ⟨r2, f2⟩ := rowc A2.out
      go_wp2_with (fail)
      generalize hwF : (((((w2.setCell ⟨w.heap.size + 1 + 1, 0, none⟩ (.int .i64 1)).setCell ⟨w.heap.size + 1 + 1, 1, none⟩ (.int .i64 1)).setCell ⟨w.heap.size + 1 + 1, 2, none⟩ (.string ⟨#[]⟩)).setCell ⟨w.heap.size + 1 + 1, 3, none⟩ (.int .i64 0)).setCell ⟨w.heap.size + 1 + 1, 4, none⟩ (.slice none 0 0)) = wF
      obtain ⟨rF, oF, bF⟩ := fill5 A2.out hwF
      refine bodyPost_ret (v := .tuple #[vV 1 1 ⟨#[]⟩ 0 none 0 0, .int .i64 0]) ?_ rfl ?_
      · simp [results, Tryz.results37, go_sem, rF]
      · exact ⟨rfl, bF _ _ (by omega) AB.out⟩
  by_cases h10 : op = 10
  · subst h10
    cases bi
    · obtain ⟨a0, a1, a2, az, ab⟩ := al3 w #[.int .i64 k, .int .i64 n, .string s, .int .i64 x, .slice A L c] #[.int .i64 k', .int .i64 n', .string s', .int .i64 x', .slice A' L' c'] #[.int .i64 0, .int .i64 0, .string ⟨#[]⟩, .int .i64 0, .slice none 0 0] IV IV IV
      obtain ⟨W0, HW0⟩ : ∃ W, Hid (W = ((w.alloc (.cells #[.int .i64 k, .int .i64 n, .string s, .int .i64 x, .slice A L c] IV)).alloc (.cells #[.int .i64 k', .int .i64 n', .string s', .int .i64 x', .slice A' L' c'] IV)).alloc (.cells #[.int .i64 0, .int .i64 0, .string ⟨#[]⟩, .int .i64 0, .slice none 0 0] IV)) := ⟨_, Lib.hid rfl⟩
      rw [← HW0.out] at a0 a1 a2 az ab
      have A0 := Lib.hid a0
      have A1 := Lib.hid a1
      have A2 := Lib.hid a2
      have AB := Lib.hid ab
      obtain ⟨r0, f0⟩ := rowc a0
      obtain ⟨r1, f1⟩ := rowc a1
      obtain ⟨r2, f2⟩ := rowc a2
      clear a0 a1 a2 az ab
      show Calls _ _ _ _ (GivesQ w (.tuple #[vV 1 1 ⟨#[]⟩ 0 none 0 0, .int .i64 0]))
      go_enter Tryz.func37, Tryz.ntmps37
      go_wp2_with (fail)
      rw [← HW0.out]
      refine (ID.out _ AB.out).mono ?_
      rintro e w1 ⟨rfl, hb⟩
      replace A0 := Lib.hid (carry hb A0.out)
      replace A1 := Lib.hid (carry hb A1.out)
      replace A2 := Lib.hid (carry hb A2.out)
      replace AB := Lib.hid (bs AB.out hb)
      clear hb r0 f0 r1 f1 r2 f2
      obtain ⟨r0, f0⟩ := rowc A0.out
      obtain ⟨r1, f1⟩ := rowc A1.out
      obtain ⟨r2, f2⟩ := rowc A2.out
      go_wp2_with (fail)
      refine (BT.out _).mono ?_
      rintro e w2 ⟨rfl, hb⟩
      replace A0 := Lib.hid (carry hb A0.out)
      replace A1 := Lib.hid (carry hb A1.out)
      replace A2 := Lib.hid (carry hb A2.out)
      replace AB := Lib.hid (bs AB.out hb)
      clear hb r0 f0 r1 f1 r2 f2
      obtain ⟨r0, f0⟩ := rowc A0.out
      obtain ⟨r1, f1⟩ := rowc A1.out
      obtain ⟨r2, f2⟩ := rowc A2.out
      go_wp2_with (fail)
      generalize hwF : (((((w2.setCell ⟨w.heap.size + 1 + 1, 0, none⟩ (.int .i64 1)).setCell ⟨w.heap.size + 1 + 1, 1, none⟩ (.int .i64 1)).setCell ⟨w.heap.size + 1 + 1, 2, none⟩ (.string ⟨#[]⟩)).setCell ⟨w.heap.size + 1 + 1, 3, none⟩ (.int .i64 0)).setCell ⟨w.heap.size + 1 + 1, 4, none⟩ (.slice none 0 0)) = wF
      obtain ⟨rF, oF, bF⟩ := fill5 A2.out hwF
      refine bodyPost_ret (v := .tuple #[vV 1 1 ⟨#[]⟩ 0 none 0 0, .int .i64 0]) ?_ rfl ?_
      · simp [results, Tryz.results37, go_sem, rF]
      · exact ⟨rfl, bF _ _ (by omega) AB.out⟩
    · obtain ⟨a0, a1, a2, az, ab⟩ := al3 w #[.int .i64 k, .int .i64 n, .string s, .int .i64 x, .slice A L c] #[.int .i64 k', .int .i64 n', .string s', .int .i64 x', .slice A' L' c'] #[.int .i64 0, .int .i64 0, .string ⟨#[]⟩, .int .i64 0, .slice none 0 0] IV IV IV
      obtain ⟨W0, HW0⟩ : ∃ W, Hid (W = ((w.alloc (.cells #[.int .i64 k, .int .i64 n, .string s, .int .i64 x, .slice A L c] IV)).alloc (.cells #[.int .i64 k', .int .i64 n', .string s', .int .i64 x', .slice A' L' c'] IV)).alloc (.cells #[.int .i64 0, .int .i64 0, .string ⟨#[]⟩, .int .i64 0, .slice none 0 0] IV)) := ⟨_, Lib.hid rfl⟩
      rw [← HW0.out] at a0 a1 a2 az ab
      have A0 := Lib.hid a0
      have A1 := Lib.hid a1
      have A2 := Lib.hid a2
      have AB := Lib.hid ab
      obtain ⟨r0, f0⟩ := rowc a0
      obtain ⟨r1, f1⟩ := rowc a1
      obtain ⟨r2, f2⟩ := rowc a2
      clear a0 a1 a2 az ab
      show Calls _ _ _ _ (GivesQ w (.tuple #[vV 1 0 ⟨#[]⟩ 0 none 0 0, .int .i64 0]))
      go_enter Tryz.func37, Tryz.ntmps37
      go_wp2_with (fail)
      rw [← HW0.out]
      refine (ID.out _ AB.out).mono ?_
      rintro e w1 ⟨rfl, hb⟩
      replace A0 := Lib.hid (carry hb A0.out)
      replace A1 := Lib.hid (carry hb A1.out)
      replace A2 := Lib.hid (carry hb A2.out)
      replace AB := Lib.hid (bs AB.out hb)
      clear hb r0 f0 r1 f1 r2 f2
      obtain ⟨r0, f0⟩ := rowc A0.out
      obtain ⟨r1, f1⟩ := rowc A1.out
      obtain ⟨r2, f2⟩ := rowc A2.out
      go_wp2_with (fail)
      refine (BN.out _).mono ?_
      rintro e w2 ⟨rfl, hb⟩
      replace A0 := Lib.hid (carry hb A0.out)
      replace A1 := Lib.hid (carry hb A1.out)
      replace A2 := Lib.hid (carry hb A2.out)
      replace AB := Lib.hid (bs AB.out hb)
      clear hb r0 f0 r1 f1 r2 f2
      obtain ⟨r0, f0⟩ := rowc A0.out
      obtain ⟨r1, f1⟩ := rowc A1.out
      obtain ⟨r2, f2⟩ := rowc A2.out
      go_wp2_with (fail)
      generalize hwF : (((((w2.setCell ⟨w.heap.size + 1 + 1, 0, none⟩ (.int .i64 1)).setCell ⟨w.heap.size + 1 + 1, 1, none⟩ (.int .i64 0)).setCell ⟨w.heap.size + 1 + 1, 2, none⟩ (.string ⟨#[]⟩)).setCell ⟨w.heap.size + 1 + 1, 3, none⟩ (.int .i64 0)).setCell ⟨w.heap.size + 1 + 1, 4, none⟩ (.slice none 0 0)) = wF
      obtain ⟨rF, oF, bF⟩ := fill5 A2.out hwF
      refine bodyPost_ret (v := .tuple #[vV 1 0 ⟨#[]⟩ 0 none 0 0, .int .i64 0]) ?_ rfl ?_
      · simp [results, Tryz.results37, go_sem, rF]
      · exact ⟨rfl, bF _ _ (by omega) AB.out⟩
  by_cases h15 : op = 15
  · subst h15
    obtain ⟨a0, a1, a2, az, ab⟩ := al3 w #[.int .i64 k, .int .i64 n, .string s, .int .i64 x, .slice A L c] #[.int .i64 k', .int .i64 n', .string s', .int .i64 x', .slice A' L' c'] #[.int .i64 0, .int .i64 0, .string ⟨#[]⟩, .int .i64 0, .slice none 0 0] IV IV IV
    obtain ⟨W0, HW0⟩ : ∃ W, Hid (W = ((w.alloc (.cells #[.int .i64 k, .int .i64 n, .string s, .int .i64 x, .slice A L c] IV)).alloc (.cells #[.int .i64 k', .int .i64 n', .string s', .int .i64 x', .slice A' L' c'] IV)).alloc (.cells #[.int .i64 0, .int .i64 0, .string ⟨#[]⟩, .int .i64 0, .slice none 0 0] IV)) := ⟨_, Lib.hid rfl⟩
    rw [← HW0.out] at a0 a1 a2 az ab
    have A0 := Lib.hid a0
    have A1 := Lib.hid a1
    have A2 := Lib.hid a2
    have AB := Lib.hid ab
    obtain ⟨r0, f0⟩ := rowc a0
    obtain ⟨r1, f1⟩ := rowc a1
    obtain ⟨r2, f2⟩ := rowc a2
    clear a0 a1 a2 az ab
    show Calls _ _ _ _ (GivesQ w (.tuple #[vV 2 oc ⟨#[]⟩ 0 none 0 0, .int .i64 0]))
    go_enter Tryz.func37, Tryz.ntmps37
    go_wp2_with (fail)
    rw [← HW0.out]
    refine (CM.out _ AB.out).mono ?_
    rintro e w1 ⟨rfl, hb⟩
    replace A0 := Lib.hid (carry hb A0.out)
    replace A1 := Lib.hid (carry hb A1.out)
    replace A2 := Lib.hid (carry hb A2.out)
    replace AB := Lib.hid (bs AB.out hb)
    clear hb r0 f0 r1 f1 r2 f2
    obtain ⟨r0, f0⟩ := rowc A0.out
    obtain ⟨r1, f1⟩ := rowc A1.out
    obtain ⟨r2, f2⟩ := rowc A2.out
    go_wp2_with (fail)
    refine (intValue_i oc _).mono ?_
    rintro e w2 ⟨rfl, hb⟩
    replace A0 := Lib.hid (carry hb A0.out)
    replace A1 := Lib.hid (carry hb A1.out)
    replace A2 := Lib.hid (carry hb A2.out)
    replace AB := Lib.hid (bs AB.out hb)
    clear hb r0 f0 r1 f1 r2 f2
    obtain ⟨r0, f0⟩ := rowc A0.out
    obtain ⟨r1, f1⟩ := rowc A1.out
    obtain ⟨r2, f2⟩ := rowc A2.out
    go_wp2_with (fail)
    generalize hwF : (((((w2.setCell ⟨w.heap.size + 1 + 1, 0, none⟩ (.int .i64 2)).setCell ⟨w.heap.size + 1 + 1, 1, none⟩ (.int .i64 oc)).setCell ⟨w.heap.size + 1 + 1, 2, none⟩ (.string ⟨#[]⟩)).setCell ⟨w.heap.size + 1 + 1, 3, none⟩ (.int .i64 0)).setCell ⟨w.heap.size + 1 + 1, 4, none⟩ (.slice none 0 0)) = wF
    obtain ⟨rF, oF, bF⟩ := fill5 A2.out hwF
    refine bodyPost_ret (v := .tuple #[vV 2 oc ⟨#[]⟩ 0 none 0 0, .int .i64 0]) ?_ rfl ?_
    · simp [results, Tryz.results37, go_sem, rF]
    · exact ⟨rfl, bF _ _ (by omega) AB.out⟩
  by_cases hr : 7 ≤ op ∧ op ≤ 14
  · rw [if_neg h6, if_neg h9, if_neg h10, if_neg h15, if_pos hr]
    have RE := Lib.hid (rels.relation_i op oc)
    obtain ⟨q, HQ⟩ : ∃ q, Hid (rels.relB op oc = q) := ⟨_, Lib.hid rfl⟩
    rw [HQ.out] at RE ⊢
    obtain rfl | rfl | rfl | rfl | rfl | rfl : op = 7 ∨ op = 8 ∨ op = 11 ∨ op = 12 ∨ op = 13 ∨ op = 14 := by omega
    all_goals
      clear hr h6 h9 h10 h15 HQ hU
      cases q
      · obtain ⟨a0, a1, a2, az, ab⟩ := al3 w #[.int .i64 k, .int .i64 n, .string s, .int .i64 x, .slice A L c] #[.int .i64 k', .int .i64 n', .string s', .int .i64 x', .slice A' L' c'] #[.int .i64 0, .int .i64 0, .string ⟨#[]⟩, .int .i64 0, .slice none 0 0] IV IV IV
        obtain ⟨W0, HW0⟩ : ∃ W, Hid (W = ((w.alloc (.cells #[.int .i64 k, .int .i64 n, .string s, .int .i64 x, .slice A L c] IV)).alloc (.cells #[.int .i64 k', .int .i64 n', .string s', .int .i64 x', .slice A' L' c'] IV)).alloc (.cells #[.int .i64 0, .int .i64 0, .string ⟨#[]⟩, .int .i64 0, .slice none 0 0] IV)) := ⟨_, Lib.hid rfl⟩
        rw [← HW0.out] at a0 a1 a2 az ab
        have A0 := Lib.hid a0
        have A1 := Lib.hid a1
        have A2 := Lib.hid a2
        have AB := Lib.hid ab
        obtain ⟨r0, f0⟩ := rowc a0
        obtain ⟨r1, f1⟩ := rowc a1
        obtain ⟨r2, f2⟩ := rowc a2
        clear a0 a1 a2 az ab
        show Calls _ _ _ _ (GivesQ w (.tuple #[vV 1 0 ⟨#[]⟩ 0 none 0 0, .int .i64 0]))
        go_enter Tryz.func37, Tryz.ntmps37
        go_wp2_with (fail)
        rw [← HW0.out]
        refine (CM.out _ AB.out).mono ?_
        rintro e w1 ⟨rfl, hb⟩
        replace A0 := Lib.hid (carry hb A0.out)
        replace A1 := Lib.hid (carry hb A1.out)
        replace A2 := Lib.hid (carry hb A2.out)
        replace AB := Lib.hid (bs AB.out hb)
        clear hb r0 f0 r1 f1 r2 f2
        obtain ⟨r0, f0⟩ := rowc A0.out
        obtain ⟨r1, f1⟩ := rowc A1.out
        obtain ⟨r2, f2⟩ := rowc A2.out
        go_wp2_with (fail)
        refine (RE.out _).mono ?_
        rintro e w9 ⟨rfl, rfl⟩
        go_wp2_with (fail)
        refine (BN.out _).mono ?_
        rintro e w2 ⟨rfl, hb⟩
        replace A0 := Lib.hid (carry hb A0.out)
        replace A1 := Lib.hid (carry hb A1.out)
        replace A2 := Lib.hid (carry hb A2.out)
        replace AB := Lib.hid (bs AB.out hb)
        clear hb r0 f0 r1 f1 r2 f2
        obtain ⟨r0, f0⟩ := rowc A0.out
        obtain ⟨r1, f1⟩ := rowc A1.out
        obtain ⟨r2, f2⟩ := rowc A2.out
        go_wp2_with (fail)
        generalize hwF : (((((w2.setCell ⟨w.heap.size + 1 + 1, 0, none⟩ (.int .i64 1)).setCell ⟨w.heap.size + 1 + 1, 1, none⟩ (.int .i64 0)).setCell ⟨w.heap.size + 1 + 1, 2, none⟩ (.string ⟨#[]⟩)).setCell ⟨w.heap.size + 1 + 1, 3, none⟩ (.int .i64 0)).setCell ⟨w.heap.size + 1 + 1, 4, none⟩ (.slice none 0 0)) = wF
        obtain ⟨rF, oF, bF⟩ := fill5 A2.out hwF
        refine bodyPost_ret (v := .tuple #[vV 1 0 ⟨#[]⟩ 0 none 0 0, .int .i64 0]) ?_ rfl ?_
        · simp [results, Tryz.results37, go_sem, rF]
        · exact ⟨rfl, bF _ _ (by omega) AB.out⟩
      · obtain ⟨a0, a1, a2, az, ab⟩ := al3 w #[.int .i64 k, .int .i64 n, .string s, .int .i64 x, .slice A L c] #[.int .i64 k', .int .i64 n', .string s', .int .i64 x', .slice A' L' c'] #[.int .i64 0, .int .i64 0, .string ⟨#[]⟩, .int .i64 0, .slice none 0 0] IV IV IV
        obtain ⟨W0, HW0⟩ : ∃ W, Hid (W = ((w.alloc (.cells #[.int .i64 k, .int .i64 n, .string s, .int .i64 x, .slice A L c] IV)).alloc (.cells #[.int .i64 k', .int .i64 n', .string s', .int .i64 x', .slice A' L' c'] IV)).alloc (.cells #[.int .i64 0, .int .i64 0, .string ⟨#[]⟩, .int .i64 0, .slice none 0 0] IV)) := ⟨_, Lib.hid rfl⟩
        rw [← HW0.out] at a0 a1 a2 az ab
        have A0 := Lib.hid a0
        have A1 := Lib.hid a1
        have A2 := Lib.hid a2
        have AB := Lib.hid ab
        obtain ⟨r0, f0⟩ := rowc a0
        obtain ⟨r1, f1⟩ := rowc a1
        obtain ⟨r2, f2⟩ := rowc a2
        clear a0 a1 a2 az ab
        show Calls _ _ _ _ (GivesQ w (.tuple #[vV 1 1 ⟨#[]⟩ 0 none 0 0, .int .i64 0]))
        go_enter Tryz.func37, Tryz.ntmps37
        go_wp2_with (fail)
        rw [← HW0.out]
        refine (CM.out _ AB.out).mono ?_
        rintro e w1 ⟨rfl, hb⟩
        replace A0 := Lib.hid (carry hb A0.out)
        replace A1 := Lib.hid (carry hb A1.out)
        replace A2 := Lib.hid (carry hb A2.out)
        replace AB := Lib.hid (bs AB.out hb)
        clear hb r0 f0 r1 f1 r2 f2
        obtain ⟨r0, f0⟩ := rowc A0.out
        obtain ⟨r1, f1⟩ := rowc A1.out
        obtain ⟨r2, f2⟩ := rowc A2.out
        go_wp2_with (fail)
        refine (RE.out _).mono ?_
        rintro e w9 ⟨rfl, rfl⟩
        go_wp2_with (fail)
        refine (BT.out _).mono ?_
        rintro e w2 ⟨rfl, hb⟩
        replace A0 := Lib.hid (carry hb A0.out)
        replace A1 := Lib.hid (carry hb A1.out)
        replace A2 := Lib.hid (carry hb A2.out)
        replace AB := Lib.hid (bs AB.out hb)
        clear hb r0 f0 r1 f1 r2 f2
        obtain ⟨r0, f0⟩ := rowc A0.out
        obtain ⟨r1, f1⟩ := rowc A1.out
        obtain ⟨r2, f2⟩ := rowc A2.out
        go_wp2_with (fail)
        generalize hwF : (((((w2.setCell ⟨w.heap.size + 1 + 1, 0, none⟩ (.int .i64 1)).setCell ⟨w.heap.size + 1 + 1, 1, none⟩ (.int .i64 1)).setCell ⟨w.heap.size + 1 + 1, 2, none⟩ (.string ⟨#[]⟩)).setCell ⟨w.heap.size + 1 + 1, 3, none⟩ (.int .i64 0)).setCell ⟨w.heap.size + 1 + 1, 4, none⟩ (.slice none 0 0)) = wF
        obtain ⟨rF, oF, bF⟩ := fill5 A2.out hwF
        refine bodyPost_ret (v := .tuple #[vV 1 1 ⟨#[]⟩ 0 none 0 0, .int .i64 0]) ?_ rfl ?_
        · simp [results, Tryz.results37, go_sem, rF]
        · exact ⟨rfl, bF _ _ (by omega) AB.out⟩
  rw [if_neg h6, if_neg h9, if_neg h10, if_neg h15, if_neg hr]
  by_cases h1 : op = 1
  · subst h1
    have e : (decide (k = 4) && decide (k' = 4)) = false := by simpa using hU
    rw [e] at AR
    clear e hU h6 h9 h10 h15 hr
    obtain ⟨a0, a1, a2, az, ab⟩ := al3 w #[.int .i64 k, .int .i64 n, .string s, .int .i64 x, .slice A L c] #[.int .i64 k', .int .i64 n', .string s', .int .i64 x', .slice A' L' c'] #[.int .i64 0, .int .i64 0, .string ⟨#[]⟩, .int .i64 0, .slice none 0 0] IV IV IV
    obtain ⟨W0, HW0⟩ : ∃ W, Hid (W = ((w.alloc (.cells #[.int .i64 k, .int .i64 n, .string s, .int .i64 x, .slice A L c] IV)).alloc (.cells #[.int .i64 k', .int .i64 n', .string s', .int .i64 x', .slice A' L' c'] IV)).alloc (.cells #[.int .i64 0, .int .i64 0, .string ⟨#[]⟩, .int .i64 0, .slice none 0 0] IV)) := ⟨_, Lib.hid rfl⟩
    rw [← HW0.out] at a0 a1 a2 az ab
    have A0 := Lib.hid a0
    have A1 := Lib.hid a1
    have A2 := Lib.hid a2
    have AB := Lib.hid ab
    obtain ⟨r0, f0⟩ := rowc a0
    obtain ⟨r1, f1⟩ := rowc a1
    obtain ⟨r2, f2⟩ := rowc a2
    clear a0 a1 a2 az ab
    show Calls _ _ _ _ (GivesQ w (.tuple #[vV dk dn dz 0 none 0 0, .int .i64 dc]))
    go_enter Tryz.func37, Tryz.ntmps37
    go_wp2_with (fail)
    rw [← HW0.out]
    refine (AR.out _).mono ?_
    rintro e w1 ⟨rfl, hb⟩
    replace A0 := Lib.hid (carry hb A0.out)
    replace A1 := Lib.hid (carry hb A1.out)
    replace A2 := Lib.hid (carry hb A2.out)
    replace AB := Lib.hid (bs AB.out hb)
    clear hb r0 f0 r1 f1 r2 f2
    obtain ⟨r0, f0⟩ := rowc A0.out
    obtain ⟨r1, f1⟩ := rowc A1.out
    obtain ⟨r2, f2⟩ := rowc A2.out
    go_wp2_with (fail)
    refine (AV.out _ AB.out).mono ?_
    rintro e w2 ⟨rfl, hb⟩
    replace A0 := Lib.hid (carry hb A0.out)
    replace A1 := Lib.hid (carry hb A1.out)
    replace A2 := Lib.hid (carry hb A2.out)
    replace AB := Lib.hid (bs AB.out hb)
    clear hb r0 f0 r1 f1 r2 f2
    obtain ⟨r0, f0⟩ := rowc A0.out
    obtain ⟨r1, f1⟩ := rowc A1.out
    obtain ⟨r2, f2⟩ := rowc A2.out
    go_wp2_with (fail)
    generalize hwF : (((((w2.setCell ⟨w.heap.size + 1 + 1, 0, none⟩ (.int .i64 dk)).setCell ⟨w.heap.size + 1 + 1, 1, none⟩ (.int .i64 dn)).setCell ⟨w.heap.size + 1 + 1, 2, none⟩ (.string dz)).setCell ⟨w.heap.size + 1 + 1, 3, none⟩ (.int .i64 0)).setCell ⟨w.heap.size + 1 + 1, 4, none⟩ (.slice none 0 0)) = wF
    obtain ⟨rF, oF, bF⟩ := fill5 A2.out hwF
    refine bodyPost_ret (v := .tuple #[vV dk dn dz 0 none 0 0, .int .i64 dc]) ?_ rfl ?_
    · simp [results, Tryz.results37, go_sem, rF]
    · exact ⟨rfl, bF _ _ (by omega) AB.out⟩
  · have h7 : ¬ op = 7 := by omega
    have h8 : ¬ op = 8 := by omega
    have h11 : ¬ op = 11 := by omega
    have h12 : ¬ op = 12 := by omega
    have h13 : ¬ op = 13 := by omega
    have h14 : ¬ op = 14 := by omega
    clear hr hU
    obtain ⟨a0, a1, a2, az, ab⟩ := al3 w #[.int .i64 k, .int .i64 n, .string s, .int .i64 x, .slice A L c] #[.int .i64 k', .int .i64 n', .string s', .int .i64 x', .slice A' L' c'] #[.int .i64 0, .int .i64 0, .string ⟨#[]⟩, .int .i64 0, .slice none 0 0] IV IV IV
    obtain ⟨W0, HW0⟩ : ∃ W, Hid (W = ((w.alloc (.cells #[.int .i64 k, .int .i64 n, .string s, .int .i64 x, .slice A L c] IV)).alloc (.cells #[.int .i64 k', .int .i64 n', .string s', .int .i64 x', .slice A' L' c'] IV)).alloc (.cells #[.int .i64 0, .int .i64 0, .string ⟨#[]⟩, .int .i64 0, .slice none 0 0] IV)) := ⟨_, Lib.hid rfl⟩
    rw [← HW0.out] at a0 a1 a2 az ab
    have A0 := Lib.hid a0
    have A1 := Lib.hid a1
    have A2 := Lib.hid a2
    have AB := Lib.hid ab
    obtain ⟨r0, f0⟩ := rowc a0
    obtain ⟨r1, f1⟩ := rowc a1
    obtain ⟨r2, f2⟩ := rowc a2
    clear a0 a1 a2 az ab
    show Calls _ _ _ _ (GivesQ w (.tuple #[vV dk dn dz 0 none 0 0, .int .i64 dc]))
    go_enter Tryz.func37, Tryz.ntmps37
    go_wp2_with (fail)
    rw [← HW0.out]
    refine (AV.out _ AB.out).mono ?_
    rintro e w1 ⟨rfl, hb⟩
    replace A0 := Lib.hid (carry hb A0.out)
    replace A1 := Lib.hid (carry hb A1.out)
    replace A2 := Lib.hid (carry hb A2.out)
    replace AB := Lib.hid (bs AB.out hb)
    clear hb r0 f0 r1 f1 r2 f2
    obtain ⟨r0, f0⟩ := rowc A0.out
    obtain ⟨r1, f1⟩ := rowc A1.out
    obtain ⟨r2, f2⟩ := rowc A2.out
    go_wp2_with (fail)
    generalize hwF : (((((w1.setCell ⟨w.heap.size + 1 + 1, 0, none⟩ (.int .i64 dk)).setCell ⟨w.heap.size + 1 + 1, 1, none⟩ (.int .i64 dn)).setCell ⟨w.heap.size + 1 + 1, 2, none⟩ (.string dz)).setCell ⟨w.heap.size + 1 + 1, 3, none⟩ (.int .i64 0)).setCell ⟨w.heap.size + 1 + 1, 4, none⟩ (.slice none 0 0)) = wF
    obtain ⟨rF, oF, bF⟩ := fill5 A2.out hwF
    refine bodyPost_ret (v := .tuple #[vV dk dn dz 0 none 0 0, .int .i64 dc]) ?_ rfl ?_
    · simp [results, Tryz.results37, go_sem, rF]
    · exact ⟨rfl, bF _ _ (by omega) AB.out⟩

end Go.Proofs.YtdglmnmalfpipaaGreatDoor.tree

