/-
  BinaryOp of the model where no union is asked.
  Conditions: the values hold at most 10^9 items and letters.
-/
import Derived.Test.YteoilhbidnnneaaGreatDoorBSBinF
import Derived.Test.YteoilhbidnnneaaGreatDoorBSCmpV
import Derived.Test.YteoilhbidnnneaaGreatDoorBSIdentS
import Derived.Test.YteoilhbidnnneaaGreatDoorBB3
namespace Go.Proofs.YteoilhbidnnneaaGreatDoor.tree
open Go.ChangeShapes Go.WideShapes Go.ChangeAt Go.RowKit ers
set_option linter.unusedVariables false

theorem ari.inO (op : Int) (q : Bool) (h : nums.inr op 7 14 = q) (w : World) : Calls Tryz.prog 46 #[.int .i64 op, .int .i64 7, .int .i64 14] w fun e w' => e = .returned (.bool q) ∧ w = w' := h ▸ nums.l1In op 7 14 w

set_option maxRecDepth 100000 in
set_option maxHeartbeats 16000000 in
theorem binFlat_s (op : Int) (t u : Tr) (v vu : Value) (w : World) (S S' : Nat → Prop) (h : TIn w S t v) (h' : TIn w S' u vu) (hT : tot t + tot u ≤ 1000000000) (hU : isU op t u = false) : Calls Tryz.prog 13 #[.int .i64 op, v, vu] w (GivesQ w (.tuple #[fV (flF op t u).1, .int .i64 (flF op t u).2])) := by
  have ID : Hid (∀ w', Below w.heap.size w w' → Calls Tryz.prog 43 #[v, vu] w' (GivesQ w' (.bool (identB t u)))) := Lib.hid (fun w' hb => ident_s t u w' S S' v vu (h.below' hb) (h'.below' hb))
  have CM : Hid (∀ w', Below w.heap.size w w' → Calls Tryz.prog 45 #[v, vu] w' (GivesQ w' (.int .i64 (cmpT t u)))) := Lib.hid (fun w' hb => compare_s t u (by omega) (by omega) w' S S' v vu (h.below' hb) (h'.below' hb))
  have CO : Hid (∀ w', Below w.heap.size w w' → Calls Tryz.prog 41 #[v, vu] w' (GivesQ w' (.tuple #[fV (conF t u).1, .int .i64 (conF t u).2]))) := Lib.hid (fun w' hb => concat_s t u v vu w' S S' (h.below' hb) (h'.below' hb) hT)
  have N1 : Hid (∀ w', Below w.heap.size w w' → Calls Tryz.prog 48 #[v] w' (GivesQ w' (nnV t))) := Lib.hid (fun w' hb => toNumber_s t v w' S (h.below' hb) (by omega))
  have N2 : Hid (∀ w', Below w.heap.size w w' → Calls Tryz.prog 48 #[vu] w' (GivesQ w' (nnV u))) := Lib.hid (fun w' hb => toNumber_s u vu w' S' (h'.below' hb) (by omega))
  obtain ⟨k, n, s, x, ks, vs⟩ := t
  obtain ⟨k', n', s', x', ks', vs'⟩ := u
  obtain ⟨A, c, rfl, -, -⟩ := h.out
  obtain ⟨A', c', rfl, -, -⟩ := h'.out
  obtain ⟨L, HL⟩ : ∃ L, Hid (vs.length = L) := ⟨_, Lib.hid rfl⟩
  obtain ⟨L', HL'⟩ : ∃ L, Hid (vs'.length = L) := ⟨_, Lib.hid rfl⟩
  rw [HL.out, HL'.out] at ID CM CO ⊢
  rw [HL.out] at N1
  rw [HL'.out] at N2
  obtain ⟨bi, HBI⟩ : ∃ q, Hid (identB (.mk k n s x ks vs) (.mk k' n' s' x' ks' vs') = q) := ⟨_, Lib.hid rfl⟩
  obtain ⟨oc, HOC⟩ : ∃ q, Hid (cmpT (.mk k n s x ks vs) (.mk k' n' s' x' ks' vs') = q) := ⟨_, Lib.hid rfl⟩
  obtain ⟨⟨⟨ck, cn, cz⟩, cc⟩, HCF⟩ : ∃ q, Hid (conF (.mk k n s x ks vs) (.mk k' n' s' x' ks' vs') = q) := ⟨_, Lib.hid rfl⟩
  obtain ⟨⟨⟨dk, dn, dz⟩, dc⟩, HDF⟩ : ∃ q, Hid (ariF op (.mk k n s x ks vs) (.mk k' n' s' x' ks' vs') = q) := ⟨_, Lib.hid rfl⟩
  rw [HBI.out] at ID
  rw [HOC.out] at CM
  rw [HCF.out] at CO
  unfold fV at CO
  simp only at CO
  unfold flF
  rw [HBI.out, HOC.out, HCF.out, HDF.out]
  unfold isU isA at hU
  have BT := Lib.hid (boolValue_s true)
  have BN := Lib.hid (boolValue_s false)
  unfold boolV at BT BN
  simp only [if_true, Bool.false_eq_true, if_false] at BT BN
  clear h h' hT
  by_cases h6 : op = 6
  · subst h6
    obtain ⟨a0, a1, a2, az, ab⟩ := al3 w #[.int .i64 k, .int .i64 n, .string s, .int .i64 x, .slice A L c] #[.int .i64 k', .int .i64 n', .string s', .int .i64 x', .slice A' L' c'] #[.int .i64 0, .int .i64 0, .string ⟨#[]⟩, .int .i64 0, .slice none 0 0] IV IV IV
    obtain ⟨W0, HW0⟩ : ∃ W, Hid (W = ((w.alloc (.cells #[.int .i64 k, .int .i64 n, .string s, .int .i64 x, .slice A L c] IV)).alloc (.cells #[.int .i64 k', .int .i64 n', .string s', .int .i64 x', .slice A' L' c'] IV)).alloc (.cells #[.int .i64 0, .int .i64 0, .string ⟨#[]⟩, .int .i64 0, .slice none 0 0] IV)) := ⟨_, Lib.hid rfl⟩
    rw [← HW0.out] at a0 a1 a2 az ab
    have A0 := Lib.hid a0
    have A1 := Lib.hid a1
    have A2 := Lib.hid a2
    have AB := Lib.hid ab
    obtain ⟨r0, f0⟩ := rowc a0
    obtain ⟨r1, f1⟩ := rowc a1
    obtain ⟨r2, f2⟩ := rowc a2
    clear a0 a1 a2 az ab
    show Calls _ _ _ _ (GivesQ w (.tuple #[vV ck cn cz 0 none 0 0, .int .i64 cc]))
    go_enter Tryz.func13, Tryz.ntmps13
    go_wp2_with (fail)
    rw [← HW0.out]
    refine (CO.out _ AB.out).mono ?_
    rintro e w1 ⟨rfl, hb⟩
    replace A0 := Lib.hid (carry hb A0.out)
    replace A1 := Lib.hid (carry hb A1.out)
    replace A2 := Lib.hid (carry hb A2.out)
    replace AB := Lib.hid (bs AB.out hb)
    clear hb r0 f0 r1 f1 r2 f2
    obtain ⟨r0, f0⟩ := rowc A0.out
    obtain ⟨r1, f1⟩ := rowc A1.out
    obtain ⟨r2, f2⟩ := rowc A2.out
    go_wp2_with (fail)
    generalize hwF : (((((w1.setCell ⟨w.heap.size + 1 + 1, 0, none⟩ (.int .i64 ck)).setCell ⟨w.heap.size + 1 + 1, 1, none⟩ (.int .i64 cn)).setCell ⟨w.heap.size + 1 + 1, 2, none⟩ (.string cz)).setCell ⟨w.heap.size + 1 + 1, 3, none⟩ (.int .i64 0)).setCell ⟨w.heap.size + 1 + 1, 4, none⟩ (.slice none 0 0)) = wF
    obtain ⟨rF, oF, bF⟩ := fill5 A2.out hwF
    refine bodyPost_ret (v := .tuple #[vV ck cn cz 0 none 0 0, .int .i64 cc]) ?_ rfl ?_
    · simp [results, Tryz.results13, go_sem, rF]
    · exact ⟨rfl, bF _ _ (by omega) AB.out⟩
  by_cases h9 : op = 9
  · subst h9
    cases bi
    · obtain ⟨a0, a1, a2, az, ab⟩ := al3 w #[.int .i64 k, .int .i64 n, .string s, .int .i64 x, .slice A L c] #[.int .i64 k', .int .i64 n', .string s', .int .i64 x', .slice A' L' c'] #[.int .i64 0, .int .i64 0, .string ⟨#[]⟩, .int .i64 0, .slice none 0 0] IV IV IV
      obtain ⟨W0, HW0⟩ : ∃ W, Hid (W = ((w.alloc (.cells #[.int .i64 k, .int .i64 n, .string s, .int .i64 x, .slice A L c] IV)).alloc (.cells #[.int .i64 k', .int .i64 n', .string s', .int .i64 x', .slice A' L' c'] IV)).alloc (.cells #[.int .i64 0, .int .i64 0, .string ⟨#[]⟩, .int .i64 0, .slice none 0 0] IV)) := ⟨_, Lib.hid rfl⟩
      rw [← HW0.out] at a0 a1 a2 az ab
      have A0 := Lib.hid a0
      have A1 := Lib.hid a1
      have A2 := Lib.hid a2
      have AB := Lib.hid ab
      obtain ⟨r0, f0⟩ := rowc a0
      obtain ⟨r1, f1⟩ := rowc a1
      obtain ⟨r2, f2⟩ := rowc a2
      clear a0 a1 a2 az ab
      show Calls _ _ _ _ (GivesQ w (.tuple #[vV 1 0 ⟨#[]⟩ 0 none 0 0, .int .i64 0]))
      go_enter Tryz.func13, Tryz.ntmps13
      go_wp2_with (fail)
      rw [← HW0.out]
      refine (ID.out _ AB.out).mono ?_
      rintro e w1 ⟨rfl, hb⟩
      replace A0 := Lib.hid (carry hb A0.out)
      replace A1 := Lib.hid (carry hb A1.out)
      replace A2 := Lib.hid (carry hb A2.out)
      replace AB := Lib.hid (bs AB.out hb)
      clear hb r0 f0 r1 f1 r2 f2
      obtain ⟨r0, f0⟩ := rowc A0.out
      obtain ⟨r1, f1⟩ := rowc A1.out
      obtain ⟨r2, f2⟩ := rowc A2.out
      go_wp2_with (fail)
      refine (BN.out _).mono ?_
      rintro e w2 ⟨rfl, hb⟩
      replace A0 := Lib.hid (carry hb A0.out)
      replace A1 := Lib.hid (carry hb A1.out)
      replace A2 := Lib.hid (carry hb A2.out)
      replace AB := Lib.hid (bs AB.out hb)
      clear hb r0 f0 r1 f1 r2 f2
      obtain ⟨r0, f0⟩ := rowc A0.out
      obtain ⟨r1, f1⟩ := rowc A1.out
      obtain ⟨r2, f2⟩ := rowc A2.out
      go_wp2_with (fail)
      generalize hwF : (((((w2.setCell ⟨w.heap.size + 1 + 1, 0, none⟩ (.int .i64 1)).setCell ⟨w.heap.size + 1 + 1, 1, none⟩ (.int .i64 0)).setCell ⟨w.heap.size + 1 + 1, 2, none⟩ (.string ⟨#[]⟩)).setCell ⟨w.heap.size + 1 + 1, 3, none⟩ (.int .i64 0)).setCell ⟨w.heap.size + 1 + 1, 4, none⟩ (.slice none 0 0)) = wF
      obtain ⟨rF, oF, bF⟩ := fill5 A2.out hwF
      refine bodyPost_ret (v := .tuple #[vV 1 0 ⟨#[]⟩ 0 none 0 0, .int .i64 0]) ?_ rfl ?_
      · simp [results, Tryz.results13, go_sem, rF]
      · exact ⟨rfl, bF _ _ (by omega) AB.out⟩
    · obtain ⟨a0, a1, a2, az, ab⟩ := al3 w #[.int .i64 k, .int .i64 n, .string s, .int .i64 x, .slice A L c] #[.int .i64 k', .int .i64 n', .string s', .int .i64 x', .slice A' L' c'] #[.int .i64 0, .int .i64 0, .string ⟨#[]⟩, .int .i64 0, .slice none 0 0] IV IV IV
      obtain ⟨W0, HW0⟩ : ∃ W, Hid (W = ((w.alloc (.cells #[.int .i64 k, .int .i64 n, .string s, .int .i64 x, .slice A L c] IV)).alloc (.cells #[.int .i64 k', .int .i64 n', .string s', .int .i64 x', .slice A' L' c'] IV)).alloc (.cells #[.int .i64 0, .int .i64 0, .string ⟨#[]⟩, .int .i64 0, .slice none 0 0] IV)) := ⟨_, Lib.hid rfl⟩
      rw [← HW0.out] at a0 a1 a2 az ab
      have A0 := Lib.hid a0
      have A1 := Lib.hid a1
      have A2 := Lib.hid a2
      have AB := Lib.hid ab
      obtain ⟨r0, f0⟩ := rowc a0
      obtain ⟨r1, f1⟩ := rowc a1
      obtain ⟨r2, f2⟩ := rowc a2
      clear a0 a1 a2 az ab
      show Calls _ _ _ _ (GivesQ w (.tuple #[vV 1 1 ⟨#[]⟩ 0 none 0 0, .int .i64 0]))
      go_enter Tryz.func13, Tryz.ntmps13
      go_wp2_with (fail)
      rw [← HW0.out]
      refine (ID.out _ AB.out).mono ?_
      rintro e w1 ⟨rfl, hb⟩
      replace A0 := Lib.hid (carry hb A0.out)
      replace A1 := Lib.hid (carry hb A1.out)
      replace A2 := Lib.hid (carry hb A2.out)
      replace AB := Lib.hid (bs AB.out hb)
      clear hb r0 f0 r1 f1 r2 f2
      obtain ⟨r0, f0⟩ := rowc A0.out
      obtain ⟨r1, f1⟩ := rowc A1.out
      obtain ⟨r2, f2⟩ := rowc A2.out
      go_wp2_with (fail)
      refine (BT.out _).mono ?_
      rintro e w2 ⟨rfl, hb⟩
      replace A0 := Lib.hid (carry hb A0.out)
      replace A1 := Lib.hid (carry hb A1.out)
      replace A2 := Lib.hid (carry hb A2.out)
      replace AB := Lib.hid (bs AB.out hb)
      clear hb r0 f0 r1 f1 r2 f2
      obtain ⟨r0, f0⟩ := rowc A0.out
      obtain ⟨r1, f1⟩ := rowc A1.out
      obtain ⟨r2, f2⟩ := rowc A2.out
      go_wp2_with (fail)
      generalize hwF : (((((w2.setCell ⟨w.heap.size + 1 + 1, 0, none⟩ (.int .i64 1)).setCell ⟨w.heap.size + 1 + 1, 1, none⟩ (.int .i64 1)).setCell ⟨w.heap.size + 1 + 1, 2, none⟩ (.string ⟨#[]⟩)).setCell ⟨w.heap.size + 1 + 1, 3, none⟩ (.int .i64 0)).setCell ⟨w.heap.size + 1 + 1, 4, none⟩ (.slice none 0 0)) = wF
      obtain ⟨rF, oF, bF⟩ := fill5 A2.out hwF
      refine bodyPost_ret (v := .tuple #[vV 1 1 ⟨#[]⟩ 0 none 0 0, .int .i64 0]) ?_ rfl ?_
      · simp [results, Tryz.results13, go_sem, rF]
      · exact ⟨rfl, bF _ _ (by omega) AB.out⟩
  by_cases h10 : op = 10
  · subst h10
    cases bi
    · obtain ⟨a0, a1, a2, az, ab⟩ := al3 w #[.int .i64 k, .int .i64 n, .string s, .int .i64 x, .slice A L c] #[.int .i64 k', .int .i64 n', .string s', .int .i64 x', .slice A' L' c'] #[.int .i64 0, .int .i64 0, .string ⟨#[]⟩, .int .i64 0, .slice none 0 0] IV IV IV
      obtain ⟨W0, HW0⟩ : ∃ W, Hid (W = ((w.alloc (.cells #[.int .i64 k, .int .i64 n, .string s, .int .i64 x, .slice A L c] IV)).alloc (.cells #[.int .i64 k', .int .i64 n', .string s', .int .i64 x', .slice A' L' c'] IV)).alloc (.cells #[.int .i64 0, .int .i64 0, .string ⟨#[]⟩, .int .i64 0, .slice none 0 0] IV)) := ⟨_, Lib.hid rfl⟩
      rw [← HW0.out] at a0 a1 a2 az ab
      have A0 := Lib.hid a0
      have A1 := Lib.hid a1
      have A2 := Lib.hid a2
      have AB := Lib.hid ab
      obtain ⟨r0, f0⟩ := rowc a0
      obtain ⟨r1, f1⟩ := rowc a1
      obtain ⟨r2, f2⟩ := rowc a2
      clear a0 a1 a2 az ab
      show Calls _ _ _ _ (GivesQ w (.tuple #[vV 1 1 ⟨#[]⟩ 0 none 0 0, .int .i64 0]))
      go_enter Tryz.func13, Tryz.ntmps13
      go_wp2_with (fail)
      rw [← HW0.out]
      refine (ID.out _ AB.out).mono ?_
      rintro e w1 ⟨rfl, hb⟩
      replace A0 := Lib.hid (carry hb A0.out)
      replace A1 := Lib.hid (carry hb A1.out)
      replace A2 := Lib.hid (carry hb A2.out)
      replace AB := Lib.hid (bs AB.out hb)
      clear hb r0 f0 r1 f1 r2 f2
      obtain ⟨r0, f0⟩ := rowc A0.out
      obtain ⟨r1, f1⟩ := rowc A1.out
      obtain ⟨r2, f2⟩ := rowc A2.out
      go_wp2_with (fail)
      refine (BT.out _).mono ?_
      rintro e w2 ⟨rfl, hb⟩
      replace A0 := Lib.hid (carry hb A0.out)
      replace A1 := Lib.hid (carry hb A1.out)
      replace A2 := Lib.hid (carry hb A2.out)
      replace AB := Lib.hid (bs AB.out hb)
      clear hb r0 f0 r1 f1 r2 f2
      obtain ⟨r0, f0⟩ := rowc A0.out
      obtain ⟨r1, f1⟩ := rowc A1.out
      obtain ⟨r2, f2⟩ := rowc A2.out
      go_wp2_with (fail)
      generalize hwF : (((((w2.setCell ⟨w.heap.size + 1 + 1, 0, none⟩ (.int .i64 1)).setCell ⟨w.heap.size + 1 + 1, 1, none⟩ (.int .i64 1)).setCell ⟨w.heap.size + 1 + 1, 2, none⟩ (.string ⟨#[]⟩)).setCell ⟨w.heap.size + 1 + 1, 3, none⟩ (.int .i64 0)).setCell ⟨w.heap.size + 1 + 1, 4, none⟩ (.slice none 0 0)) = wF
      obtain ⟨rF, oF, bF⟩ := fill5 A2.out hwF
      refine bodyPost_ret (v := .tuple #[vV 1 1 ⟨#[]⟩ 0 none 0 0, .int .i64 0]) ?_ rfl ?_
      · simp [results, Tryz.results13, go_sem, rF]
      · exact ⟨rfl, bF _ _ (by omega) AB.out⟩
    · obtain ⟨a0, a1, a2, az, ab⟩ := al3 w #[.int .i64 k, .int .i64 n, .string s, .int .i64 x, .slice A L c] #[.int .i64 k', .int .i64 n', .string s', .int .i64 x', .slice A' L' c'] #[.int .i64 0, .int .i64 0, .string ⟨#[]⟩, .int .i64 0, .slice none 0 0] IV IV IV
      obtain ⟨W0, HW0⟩ : ∃ W, Hid (W = ((w.alloc (.cells #[.int .i64 k, .int .i64 n, .string s, .int .i64 x, .slice A L c] IV)).alloc (.cells #[.int .i64 k', .int .i64 n', .string s', .int .i64 x', .slice A' L' c'] IV)).alloc (.cells #[.int .i64 0, .int .i64 0, .string ⟨#[]⟩, .int .i64 0, .slice none 0 0] IV)) := ⟨_, Lib.hid rfl⟩
      rw [← HW0.out] at a0 a1 a2 az ab
      have A0 := Lib.hid a0
      have A1 := Lib.hid a1
      have A2 := Lib.hid a2
      have AB := Lib.hid ab
      obtain ⟨r0, f0⟩ := rowc a0
      obtain ⟨r1, f1⟩ := rowc a1
      obtain ⟨r2, f2⟩ := rowc a2
      clear a0 a1 a2 az ab
      show Calls _ _ _ _ (GivesQ w (.tuple #[vV 1 0 ⟨#[]⟩ 0 none 0 0, .int .i64 0]))
      go_enter Tryz.func13, Tryz.ntmps13
      go_wp2_with (fail)
      rw [← HW0.out]
      refine (ID.out _ AB.out).mono ?_
      rintro e w1 ⟨rfl, hb⟩
      replace A0 := Lib.hid (carry hb A0.out)
      replace A1 := Lib.hid (carry hb A1.out)
      replace A2 := Lib.hid (carry hb A2.out)
      replace AB := Lib.hid (bs AB.out hb)
      clear hb r0 f0 r1 f1 r2 f2
      obtain ⟨r0, f0⟩ := rowc A0.out
      obtain ⟨r1, f1⟩ := rowc A1.out
      obtain ⟨r2, f2⟩ := rowc A2.out
      go_wp2_with (fail)
      refine (BN.out _).mono ?_
      rintro e w2 ⟨rfl, hb⟩
      replace A0 := Lib.hid (carry hb A0.out)
      replace A1 := Lib.hid (carry hb A1.out)
      replace A2 := Lib.hid (carry hb A2.out)
      replace AB := Lib.hid (bs AB.out hb)
      clear hb r0 f0 r1 f1 r2 f2
      obtain ⟨r0, f0⟩ := rowc A0.out
      obtain ⟨r1, f1⟩ := rowc A1.out
      obtain ⟨r2, f2⟩ := rowc A2.out
      go_wp2_with (fail)
      generalize hwF : (((((w2.setCell ⟨w.heap.size + 1 + 1, 0, none⟩ (.int .i64 1)).setCell ⟨w.heap.size + 1 + 1, 1, none⟩ (.int .i64 0)).setCell ⟨w.heap.size + 1 + 1, 2, none⟩ (.string ⟨#[]⟩)).setCell ⟨w.heap.size + 1 + 1, 3, none⟩ (.int .i64 0)).setCell ⟨w.heap.size + 1 + 1, 4, none⟩ (.slice none 0 0)) = wF
      obtain ⟨rF, oF, bF⟩ := fill5 A2.out hwF
      refine bodyPost_ret (v := .tuple #[vV 1 0 ⟨#[]⟩ 0 none 0 0, .int .i64 0]) ?_ rfl ?_
      · simp [results, Tryz.results13, go_sem, rF]
      · exact ⟨rfl, bF _ _ (by omega) AB.out⟩
  by_cases h15 : op = 15
  · subst h15
    obtain ⟨a0, a1, a2, az, ab⟩ := al3 w #[.int .i64 k, .int .i64 n, .string s, .int .i64 x, .slice A L c] #[.int .i64 k', .int .i64 n', .string s', .int .i64 x', .slice A' L' c'] #[.int .i64 0, .int .i64 0, .string ⟨#[]⟩, .int .i64 0, .slice none 0 0] IV IV IV
    obtain ⟨W0, HW0⟩ : ∃ W, Hid (W = ((w.alloc (.cells #[.int .i64 k, .int .i64 n, .string s, .int .i64 x, .slice A L c] IV)).alloc (.cells #[.int .i64 k', .int .i64 n', .string s', .int .i64 x', .slice A' L' c'] IV)).alloc (.cells #[.int .i64 0, .int .i64 0, .string ⟨#[]⟩, .int .i64 0, .slice none 0 0] IV)) := ⟨_, Lib.hid rfl⟩
    rw [← HW0.out] at a0 a1 a2 az ab
    have A0 := Lib.hid a0
    have A1 := Lib.hid a1
    have A2 := Lib.hid a2
    have AB := Lib.hid ab
    obtain ⟨r0, f0⟩ := rowc a0
    obtain ⟨r1, f1⟩ := rowc a1
    obtain ⟨r2, f2⟩ := rowc a2
    clear a0 a1 a2 az ab
    show Calls _ _ _ _ (GivesQ w (.tuple #[vV 2 oc ⟨#[]⟩ 0 none 0 0, .int .i64 0]))
    go_enter Tryz.func13, Tryz.ntmps13
    go_wp2_with (fail)
    rw [← HW0.out]
    refine (CM.out _ AB.out).mono ?_
    rintro e w1 ⟨rfl, hb⟩
    replace A0 := Lib.hid (carry hb A0.out)
    replace A1 := Lib.hid (carry hb A1.out)
    replace A2 := Lib.hid (carry hb A2.out)
    replace AB := Lib.hid (bs AB.out hb)
    clear hb r0 f0 r1 f1 r2 f2
    obtain ⟨r0, f0⟩ := rowc A0.out
    obtain ⟨r1, f1⟩ := rowc A1.out
    obtain ⟨r2, f2⟩ := rowc A2.out
    go_wp2_with (fail)
    refine (intValue_s oc _).mono ?_
    rintro e w2 ⟨rfl, hb⟩
    replace A0 := Lib.hid (carry hb A0.out)
    replace A1 := Lib.hid (carry hb A1.out)
    replace A2 := Lib.hid (carry hb A2.out)
    replace AB := Lib.hid (bs AB.out hb)
    clear hb r0 f0 r1 f1 r2 f2
    obtain ⟨r0, f0⟩ := rowc A0.out
    obtain ⟨r1, f1⟩ := rowc A1.out
    obtain ⟨r2, f2⟩ := rowc A2.out
    go_wp2_with (fail)
    generalize hwF : (((((w2.setCell ⟨w.heap.size + 1 + 1, 0, none⟩ (.int .i64 2)).setCell ⟨w.heap.size + 1 + 1, 1, none⟩ (.int .i64 oc)).setCell ⟨w.heap.size + 1 + 1, 2, none⟩ (.string ⟨#[]⟩)).setCell ⟨w.heap.size + 1 + 1, 3, none⟩ (.int .i64 0)).setCell ⟨w.heap.size + 1 + 1, 4, none⟩ (.slice none 0 0)) = wF
    obtain ⟨rF, oF, bF⟩ := fill5 A2.out hwF
    refine bodyPost_ret (v := .tuple #[vV 2 oc ⟨#[]⟩ 0 none 0 0, .int .i64 0]) ?_ rfl ?_
    · simp [results, Tryz.results13, go_sem, rF]
    · exact ⟨rfl, bF _ _ (by omega) AB.out⟩
  by_cases hr : 7 ≤ op ∧ op ≤ 14
  · rw [if_neg h6, if_neg h9, if_neg h10, if_neg h15, if_pos hr]
    have RE := Lib.hid (rels.relation_s op oc)
    obtain ⟨q, HQ⟩ : ∃ q, Hid (rels.relB op oc = q) := ⟨_, Lib.hid rfl⟩
    rw [HQ.out] at RE ⊢
    have IR := Lib.hid (ari.inO op true (by unfold nums.inr; simp; omega))
    obtain rfl | rfl | rfl | rfl | rfl | rfl : op = 7 ∨ op = 8 ∨ op = 11 ∨ op = 12 ∨ op = 13 ∨ op = 14 := by omega
    all_goals
      clear hr h6 h9 h10 h15 HQ hU
      cases q
      · obtain ⟨a0, a1, a2, az, ab⟩ := al3 w #[.int .i64 k, .int .i64 n, .string s, .int .i64 x, .slice A L c] #[.int .i64 k', .int .i64 n', .string s', .int .i64 x', .slice A' L' c'] #[.int .i64 0, .int .i64 0, .string ⟨#[]⟩, .int .i64 0, .slice none 0 0] IV IV IV
        obtain ⟨W0, HW0⟩ : ∃ W, Hid (W = ((w.alloc (.cells #[.int .i64 k, .int .i64 n, .string s, .int .i64 x, .slice A L c] IV)).alloc (.cells #[.int .i64 k', .int .i64 n', .string s', .int .i64 x', .slice A' L' c'] IV)).alloc (.cells #[.int .i64 0, .int .i64 0, .string ⟨#[]⟩, .int .i64 0, .slice none 0 0] IV)) := ⟨_, Lib.hid rfl⟩
        rw [← HW0.out] at a0 a1 a2 az ab
        have A0 := Lib.hid a0
        have A1 := Lib.hid a1
        have A2 := Lib.hid a2
        have AB := Lib.hid ab
        obtain ⟨r0, f0⟩ := rowc a0
        obtain ⟨r1, f1⟩ := rowc a1
        obtain ⟨r2, f2⟩ := rowc a2
        clear a0 a1 a2 az ab
        show Calls _ _ _ _ (GivesQ w (.tuple #[vV 1 0 ⟨#[]⟩ 0 none 0 0, .int .i64 0]))
        go_enter Tryz.func13, Tryz.ntmps13
        go_wp2_with (fail)
        rw [← HW0.out]
        refine (IR.out _).mono ?_
        rintro e w9 ⟨rfl, rfl⟩
        go_wp2_with (fail)
        refine (CM.out _ AB.out).mono ?_
        rintro e w1 ⟨rfl, hb⟩
        replace A0 := Lib.hid (carry hb A0.out)
        replace A1 := Lib.hid (carry hb A1.out)
        replace A2 := Lib.hid (carry hb A2.out)
        replace AB := Lib.hid (bs AB.out hb)
        clear hb r0 f0 r1 f1 r2 f2
        obtain ⟨r0, f0⟩ := rowc A0.out
        obtain ⟨r1, f1⟩ := rowc A1.out
        obtain ⟨r2, f2⟩ := rowc A2.out
        go_wp2_with (fail)
        refine (RE.out _).mono ?_
        rintro e w9 ⟨rfl, rfl⟩
        go_wp2_with (fail)
        refine (BN.out _).mono ?_
        rintro e w2 ⟨rfl, hb⟩
        replace A0 := Lib.hid (carry hb A0.out)
        replace A1 := Lib.hid (carry hb A1.out)
        replace A2 := Lib.hid (carry hb A2.out)
        replace AB := Lib.hid (bs AB.out hb)
        clear hb r0 f0 r1 f1 r2 f2
        obtain ⟨r0, f0⟩ := rowc A0.out
        obtain ⟨r1, f1⟩ := rowc A1.out
        obtain ⟨r2, f2⟩ := rowc A2.out
        go_wp2_with (fail)
        generalize hwF : (((((w2.setCell ⟨w.heap.size + 1 + 1, 0, none⟩ (.int .i64 1)).setCell ⟨w.heap.size + 1 + 1, 1, none⟩ (.int .i64 0)).setCell ⟨w.heap.size + 1 + 1, 2, none⟩ (.string ⟨#[]⟩)).setCell ⟨w.heap.size + 1 + 1, 3, none⟩ (.int .i64 0)).setCell ⟨w.heap.size + 1 + 1, 4, none⟩ (.slice none 0 0)) = wF
        obtain ⟨rF, oF, bF⟩ := fill5 A2.out hwF
        refine bodyPost_ret (v := .tuple #[vV 1 0 ⟨#[]⟩ 0 none 0 0, .int .i64 0]) ?_ rfl ?_
        · simp [results, Tryz.results13, go_sem, rF]
        · exact ⟨rfl, bF _ _ (by omega) AB.out⟩
      · obtain ⟨a0, a1, a2, az, ab⟩ := al3 w #[.int .i64 k, .int .i64 n, .string s, .int .i64 x, .slice A L c] #[.int .i64 k', .int .i64 n', .string s', .int .i64 x', .slice A' L' c'] #[.int .i64 0, .int .i64 0, .string ⟨#[]⟩, .int .i64 0, .slice none 0 0] IV IV IV
        obtain ⟨W0, HW0⟩ : ∃ W, Hid (W = ((w.alloc (.cells #[.int .i64 k, .int .i64 n, .string s, .int .i64 x, .slice A L c] IV)).alloc (.cells #[.int .i64 k', .int .i64 n', .string s', .int .i64 x', .slice A' L' c'] IV)).alloc (.cells #[.int .i64 0, .int .i64 0, .string ⟨#[]⟩, .int .i64 0, .slice none 0 0] IV)) := ⟨_, Lib.hid rfl⟩
        rw [← HW0.out] at a0 a1 a2 az ab
        have A0 := Lib.hid a0
        have A1 := Lib.hid a1
        have A2 := Lib.hid a2
        have AB := Lib.hid ab
        obtain ⟨r0, f0⟩ := rowc a0
        obtain ⟨r1, f1⟩ := rowc a1
        obtain ⟨r2, f2⟩ := rowc a2
        clear a0 a1 a2 az ab
        show Calls _ _ _ _ (GivesQ w (.tuple #[vV 1 1 ⟨#[]⟩ 0 none 0 0, .int .i64 0]))
        go_enter Tryz.func13, Tryz.ntmps13
        go_wp2_with (fail)
        rw [← HW0.out]
        refine (IR.out _).mono ?_
        rintro e w9 ⟨rfl, rfl⟩
        go_wp2_with (fail)
        refine (CM.out _ AB.out).mono ?_
        rintro e w1 ⟨rfl, hb⟩
        replace A0 := Lib.hid (carry hb A0.out)
        replace A1 := Lib.hid (carry hb A1.out)
        replace A2 := Lib.hid (carry hb A2.out)
        replace AB := Lib.hid (bs AB.out hb)
        clear hb r0 f0 r1 f1 r2 f2
        obtain ⟨r0, f0⟩ := rowc A0.out
        obtain ⟨r1, f1⟩ := rowc A1.out
        obtain ⟨r2, f2⟩ := rowc A2.out
        go_wp2_with (fail)
        refine (RE.out _).mono ?_
        rintro e w9 ⟨rfl, rfl⟩
        go_wp2_with (fail)
        refine (BT.out _).mono ?_
        rintro e w2 ⟨rfl, hb⟩
        replace A0 := Lib.hid (carry hb A0.out)
        replace A1 := Lib.hid (carry hb A1.out)
        replace A2 := Lib.hid (carry hb A2.out)
        replace AB := Lib.hid (bs AB.out hb)
        clear hb r0 f0 r1 f1 r2 f2
        obtain ⟨r0, f0⟩ := rowc A0.out
        obtain ⟨r1, f1⟩ := rowc A1.out
        obtain ⟨r2, f2⟩ := rowc A2.out
        go_wp2_with (fail)
        generalize hwF : (((((w2.setCell ⟨w.heap.size + 1 + 1, 0, none⟩ (.int .i64 1)).setCell ⟨w.heap.size + 1 + 1, 1, none⟩ (.int .i64 1)).setCell ⟨w.heap.size + 1 + 1, 2, none⟩ (.string ⟨#[]⟩)).setCell ⟨w.heap.size + 1 + 1, 3, none⟩ (.int .i64 0)).setCell ⟨w.heap.size + 1 + 1, 4, none⟩ (.slice none 0 0)) = wF
        obtain ⟨rF, oF, bF⟩ := fill5 A2.out hwF
        refine bodyPost_ret (v := .tuple #[vV 1 1 ⟨#[]⟩ 0 none 0 0, .int .i64 0]) ?_ rfl ?_
        · simp [results, Tryz.results13, go_sem, rF]
        · exact ⟨rfl, bF _ _ (by omega) AB.out⟩
  rw [if_neg h6, if_neg h9, if_neg h10, if_neg h15, if_neg hr]
  have IR := Lib.hid (ari.inO op false (by unfold nums.inr; simp; omega))
  have HU2 : Hid (¬ op = 1 ∨ (¬ k = 4) ∨ ¬ k' = 4) := Lib.hid (by
    rcases Decidable.em (op = 1) with h | h
    · rcases Decidable.em (k = 4) with h1 | h1
      · refine .inr (.inr fun h2 => ?_)
        simp [h, h1, h2] at hU
      · exact .inr (.inl h1)
    · exact .inl h)
  unfold ariF at HDF
  obtain ⟨⟨z, ok⟩, HZ⟩ : ∃ z, Hid (nn (.mk k n s x ks vs) = z) := ⟨_, Lib.hid rfl⟩
  obtain ⟨⟨z', ok'⟩, HZ'⟩ : ∃ z, Hid (nn (.mk k' n' s' x' ks' vs') = z) := ⟨_, Lib.hid rfl⟩
  unfold nnV at N1 N2
  rw [HZ.out] at N1
  rw [HZ'.out] at N2
  rw [HZ.out, HZ'.out] at HDF
  simp only at HDF N1 N2
  have AI := Lib.hid (ari.arith_s op z z')
  obtain ⟨⟨p, q⟩, HP⟩ : ∃ p, Hid (ari.arT op z z' = p) := ⟨_, Lib.hid rfl⟩
  rw [HP.out] at AI HDF
  unfold ari.ArQ at AI
  simp only at AI
  clear hr hU HZ HZ' HP
  have KK : Hid (∀ (dk dn : Int) (dz : ByteArray) (dc : Int), (∀ w0, w0 = w → True) → True) := Lib.hid (fun _ _ _ _ _ => trivial)
  clear KK
  by_cases h1 : op = 1
  · subst h1
    by_cases hk : k = 4
    · subst hk
      have hk' : ¬ k' = 4 := by rcases HU2.out with h | h | h; exact absurd rfl h; exact absurd rfl h; exact h
      clear HU2 h6 h9 h10 h15
      cases ok with
      | false =>
        have N1 := Lib.hid N1.out
        simp only [Bool.false_eq_true, if_false] at N1
        have eq := HDF.out
        simp only [Bool.false_eq_true, if_false] at eq
        unfold nulF at eq
        obtain ⟨⟨rfl, rfl, rfl⟩, rfl⟩ : ((0 : Int) = dk ∧ (0 : Int) = dn ∧ (⟨#[]⟩ : ByteArray) = dz) ∧ (2 : Int) = dc := by simpa using eq
        clear eq HDF
        cases ok'
        all_goals
          simp only [Bool.false_eq_true, if_false, if_true] at N2
          obtain ⟨a0, a1, a2, az, ab⟩ := al3 w #[.int .i64 4, .int .i64 n, .string s, .int .i64 x, .slice A L c] #[.int .i64 k', .int .i64 n', .string s', .int .i64 x', .slice A' L' c'] #[.int .i64 0, .int .i64 0, .string ⟨#[]⟩, .int .i64 0, .slice none 0 0] IV IV IV
          obtain ⟨W0, HW0⟩ : ∃ W, Hid (W = ((w.alloc (.cells #[.int .i64 4, .int .i64 n, .string s, .int .i64 x, .slice A L c] IV)).alloc (.cells #[.int .i64 k', .int .i64 n', .string s', .int .i64 x', .slice A' L' c'] IV)).alloc (.cells #[.int .i64 0, .int .i64 0, .string ⟨#[]⟩, .int .i64 0, .slice none 0 0] IV)) := ⟨_, Lib.hid rfl⟩
          rw [← HW0.out] at a0 a1 a2 az ab
          have A0 := Lib.hid a0
          have A1 := Lib.hid a1
          have A2 := Lib.hid a2
          have AB := Lib.hid ab
          obtain ⟨r0, f0⟩ := rowc a0
          obtain ⟨r1, f1⟩ := rowc a1
          obtain ⟨r2, f2⟩ := rowc a2
          clear a0 a1 a2 az ab
          show Calls _ _ _ _ (GivesQ w (.tuple #[vV 0 0 ⟨#[]⟩ 0 none 0 0, .int .i64 2]))
          go_enter Tryz.func13, Tryz.ntmps13
          go_wp2_with (fail)
          rw [← HW0.out]
          refine (IR.out _).mono ?_
          rintro e w9 ⟨rfl, rfl⟩
          go_wp2_with (fail)
          refine (N1.out _ AB.out).mono ?_
          rintro e w1 ⟨rfl, hb⟩
          replace A0 := Lib.hid (carry hb A0.out)
          replace A1 := Lib.hid (carry hb A1.out)
          replace A2 := Lib.hid (carry hb A2.out)
          replace AB := Lib.hid (bs AB.out hb)
          clear hb r0 f0 r1 f1 r2 f2
          obtain ⟨r0, f0⟩ := rowc A0.out
          obtain ⟨r1, f1⟩ := rowc A1.out
          obtain ⟨r2, f2⟩ := rowc A2.out
          go_wp2_with (fail)
          refine (N2.out _ AB.out).mono ?_
          rintro e w2 ⟨rfl, hb⟩
          replace A0 := Lib.hid (carry hb A0.out)
          replace A1 := Lib.hid (carry hb A1.out)
          replace A2 := Lib.hid (carry hb A2.out)
          replace AB := Lib.hid (bs AB.out hb)
          clear hb r0 f0 r1 f1 r2 f2
          obtain ⟨r0, f0⟩ := rowc A0.out
          obtain ⟨r1, f1⟩ := rowc A1.out
          obtain ⟨r2, f2⟩ := rowc A2.out
          go_wp2_with (fail)
          generalize hwF : (((((w2.setCell ⟨w.heap.size + 1 + 1, 0, none⟩ (.int .i64 0)).setCell ⟨w.heap.size + 1 + 1, 1, none⟩ (.int .i64 0)).setCell ⟨w.heap.size + 1 + 1, 2, none⟩ (.string ⟨#[]⟩)).setCell ⟨w.heap.size + 1 + 1, 3, none⟩ (.int .i64 0)).setCell ⟨w.heap.size + 1 + 1, 4, none⟩ (.slice none 0 0)) = wF
          obtain ⟨rF, oF, bF⟩ := fill5 A2.out hwF
          refine bodyPost_ret (v := .tuple #[vV 0 0 ⟨#[]⟩ 0 none 0 0, .int .i64 2]) ?_ rfl ?_
          · simp [results, Tryz.results13, go_sem, rF]
          · exact ⟨rfl, bF _ _ (by omega) AB.out⟩
      | true =>
        simp only [if_true] at N1
        cases ok' with
        | false =>
          simp only [Bool.false_eq_true, if_false] at N2
          have eq := HDF.out
          simp only [Bool.false_eq_true, if_false, if_true] at eq
          unfold nulF at eq
          obtain ⟨⟨rfl, rfl, rfl⟩, rfl⟩ : ((0 : Int) = dk ∧ (0 : Int) = dn ∧ (⟨#[]⟩ : ByteArray) = dz) ∧ (2 : Int) = dc := by simpa using eq
          clear eq HDF
          obtain ⟨a0, a1, a2, az, ab⟩ := al3 w #[.int .i64 4, .int .i64 n, .string s, .int .i64 x, .slice A L c] #[.int .i64 k', .int .i64 n', .string s', .int .i64 x', .slice A' L' c'] #[.int .i64 0, .int .i64 0, .string ⟨#[]⟩, .int .i64 0, .slice none 0 0] IV IV IV
          obtain ⟨W0, HW0⟩ : ∃ W, Hid (W = ((w.alloc (.cells #[.int .i64 4, .int .i64 n, .string s, .int .i64 x, .slice A L c] IV)).alloc (.cells #[.int .i64 k', .int .i64 n', .string s', .int .i64 x', .slice A' L' c'] IV)).alloc (.cells #[.int .i64 0, .int .i64 0, .string ⟨#[]⟩, .int .i64 0, .slice none 0 0] IV)) := ⟨_, Lib.hid rfl⟩
          rw [← HW0.out] at a0 a1 a2 az ab
          have A0 := Lib.hid a0
          have A1 := Lib.hid a1
          have A2 := Lib.hid a2
          have AB := Lib.hid ab
          obtain ⟨r0, f0⟩ := rowc a0
          obtain ⟨r1, f1⟩ := rowc a1
          obtain ⟨r2, f2⟩ := rowc a2
          clear a0 a1 a2 az ab
          show Calls _ _ _ _ (GivesQ w (.tuple #[vV 0 0 ⟨#[]⟩ 0 none 0 0, .int .i64 2]))
          go_enter Tryz.func13, Tryz.ntmps13
          go_wp2_with (fail)
          rw [← HW0.out]
          refine (IR.out _).mono ?_
          rintro e w9 ⟨rfl, rfl⟩
          go_wp2_with (fail)
          refine (N1.out _ AB.out).mono ?_
          rintro e w1 ⟨rfl, hb⟩
          replace A0 := Lib.hid (carry hb A0.out)
          replace A1 := Lib.hid (carry hb A1.out)
          replace A2 := Lib.hid (carry hb A2.out)
          replace AB := Lib.hid (bs AB.out hb)
          clear hb r0 f0 r1 f1 r2 f2
          obtain ⟨r0, f0⟩ := rowc A0.out
          obtain ⟨r1, f1⟩ := rowc A1.out
          obtain ⟨r2, f2⟩ := rowc A2.out
          go_wp2_with (fail)
          refine (N2.out _ AB.out).mono ?_
          rintro e w2 ⟨rfl, hb⟩
          replace A0 := Lib.hid (carry hb A0.out)
          replace A1 := Lib.hid (carry hb A1.out)
          replace A2 := Lib.hid (carry hb A2.out)
          replace AB := Lib.hid (bs AB.out hb)
          clear hb r0 f0 r1 f1 r2 f2
          obtain ⟨r0, f0⟩ := rowc A0.out
          obtain ⟨r1, f1⟩ := rowc A1.out
          obtain ⟨r2, f2⟩ := rowc A2.out
          go_wp2_with (fail)
          generalize hwF : (((((w2.setCell ⟨w.heap.size + 1 + 1, 0, none⟩ (.int .i64 0)).setCell ⟨w.heap.size + 1 + 1, 1, none⟩ (.int .i64 0)).setCell ⟨w.heap.size + 1 + 1, 2, none⟩ (.string ⟨#[]⟩)).setCell ⟨w.heap.size + 1 + 1, 3, none⟩ (.int .i64 0)).setCell ⟨w.heap.size + 1 + 1, 4, none⟩ (.slice none 0 0)) = wF
          obtain ⟨rF, oF, bF⟩ := fill5 A2.out hwF
          refine bodyPost_ret (v := .tuple #[vV 0 0 ⟨#[]⟩ 0 none 0 0, .int .i64 2]) ?_ rfl ?_
          · simp [results, Tryz.results13, go_sem, rF]
          · exact ⟨rfl, bF _ _ (by omega) AB.out⟩
        | true =>
          simp only [if_true] at N2
          have eq := HDF.out
          simp only [if_true] at eq
          unfold finF inF nulF at eq
          simp only at eq
          by_cases hq : q = 0
          · subst hq
            rw [if_pos rfl] at eq
            obtain ⟨⟨rfl, rfl, rfl⟩, rfl⟩ : ((2 : Int) = dk ∧ p = dn ∧ (⟨#[]⟩ : ByteArray) = dz) ∧ (0 : Int) = dc := by simpa using eq
            clear eq HDF
            obtain ⟨a0, a1, a2, az, ab⟩ := al3 w #[.int .i64 4, .int .i64 n, .string s, .int .i64 x, .slice A L c] #[.int .i64 k', .int .i64 n', .string s', .int .i64 x', .slice A' L' c'] #[.int .i64 0, .int .i64 0, .string ⟨#[]⟩, .int .i64 0, .slice none 0 0] IV IV IV
            obtain ⟨W0, HW0⟩ : ∃ W, Hid (W = ((w.alloc (.cells #[.int .i64 4, .int .i64 n, .string s, .int .i64 x, .slice A L c] IV)).alloc (.cells #[.int .i64 k', .int .i64 n', .string s', .int .i64 x', .slice A' L' c'] IV)).alloc (.cells #[.int .i64 0, .int .i64 0, .string ⟨#[]⟩, .int .i64 0, .slice none 0 0] IV)) := ⟨_, Lib.hid rfl⟩
            rw [← HW0.out] at a0 a1 a2 az ab
            have A0 := Lib.hid a0
            have A1 := Lib.hid a1
            have A2 := Lib.hid a2
            have AB := Lib.hid ab
            obtain ⟨r0, f0⟩ := rowc a0
            obtain ⟨r1, f1⟩ := rowc a1
            obtain ⟨r2, f2⟩ := rowc a2
            clear a0 a1 a2 az ab
            show Calls _ _ _ _ (GivesQ w (.tuple #[vV 2 p ⟨#[]⟩ 0 none 0 0, .int .i64 0]))
            go_enter Tryz.func13, Tryz.ntmps13
            go_wp2_with (fail)
            rw [← HW0.out]
            refine (IR.out _).mono ?_
            rintro e w9 ⟨rfl, rfl⟩
            go_wp2_with (fail)
            refine (N1.out _ AB.out).mono ?_
            rintro e w1 ⟨rfl, hb⟩
            replace A0 := Lib.hid (carry hb A0.out)
            replace A1 := Lib.hid (carry hb A1.out)
            replace A2 := Lib.hid (carry hb A2.out)
            replace AB := Lib.hid (bs AB.out hb)
            clear hb r0 f0 r1 f1 r2 f2
            obtain ⟨r0, f0⟩ := rowc A0.out
            obtain ⟨r1, f1⟩ := rowc A1.out
            obtain ⟨r2, f2⟩ := rowc A2.out
            go_wp2_with (fail)
            refine (N2.out _ AB.out).mono ?_
            rintro e w2 ⟨rfl, hb⟩
            replace A0 := Lib.hid (carry hb A0.out)
            replace A1 := Lib.hid (carry hb A1.out)
            replace A2 := Lib.hid (carry hb A2.out)
            replace AB := Lib.hid (bs AB.out hb)
            clear hb r0 f0 r1 f1 r2 f2
            obtain ⟨r0, f0⟩ := rowc A0.out
            obtain ⟨r1, f1⟩ := rowc A1.out
            obtain ⟨r2, f2⟩ := rowc A2.out
            go_wp2_with (fail)
            refine (AI.out _).mono ?_
            rintro e w3 ⟨rfl, hb⟩
            replace A0 := Lib.hid (carry hb A0.out)
            replace A1 := Lib.hid (carry hb A1.out)
            replace A2 := Lib.hid (carry hb A2.out)
            replace AB := Lib.hid (bs AB.out hb)
            clear hb r0 f0 r1 f1 r2 f2
            obtain ⟨r0, f0⟩ := rowc A0.out
            obtain ⟨r1, f1⟩ := rowc A1.out
            obtain ⟨r2, f2⟩ := rowc A2.out
            go_wp2_with (fail)
            refine (intValue_s p _).mono ?_
            rintro e w4 ⟨rfl, hb⟩
            replace A0 := Lib.hid (carry hb A0.out)
            replace A1 := Lib.hid (carry hb A1.out)
            replace A2 := Lib.hid (carry hb A2.out)
            replace AB := Lib.hid (bs AB.out hb)
            clear hb r0 f0 r1 f1 r2 f2
            obtain ⟨r0, f0⟩ := rowc A0.out
            obtain ⟨r1, f1⟩ := rowc A1.out
            obtain ⟨r2, f2⟩ := rowc A2.out
            go_wp2_with (fail)
            generalize hwF : (((((w4.setCell ⟨w.heap.size + 1 + 1, 0, none⟩ (.int .i64 2)).setCell ⟨w.heap.size + 1 + 1, 1, none⟩ (.int .i64 p)).setCell ⟨w.heap.size + 1 + 1, 2, none⟩ (.string ⟨#[]⟩)).setCell ⟨w.heap.size + 1 + 1, 3, none⟩ (.int .i64 0)).setCell ⟨w.heap.size + 1 + 1, 4, none⟩ (.slice none 0 0)) = wF
            obtain ⟨rF, oF, bF⟩ := fill5 A2.out hwF
            refine bodyPost_ret (v := .tuple #[vV 2 p ⟨#[]⟩ 0 none 0 0, .int .i64 0]) ?_ rfl ?_
            · simp [results, Tryz.results13, go_sem, rF]
            · exact ⟨rfl, bF _ _ (by omega) AB.out⟩
          · rw [if_neg hq] at eq
            obtain ⟨⟨rfl, rfl, rfl⟩, rfl⟩ : ((0 : Int) = dk ∧ (0 : Int) = dn ∧ (⟨#[]⟩ : ByteArray) = dz) ∧ q = dc := by simpa using eq
            clear eq HDF
            obtain ⟨a0, a1, a2, az, ab⟩ := al3 w #[.int .i64 4, .int .i64 n, .string s, .int .i64 x, .slice A L c] #[.int .i64 k', .int .i64 n', .string s', .int .i64 x', .slice A' L' c'] #[.int .i64 0, .int .i64 0, .string ⟨#[]⟩, .int .i64 0, .slice none 0 0] IV IV IV
            obtain ⟨W0, HW0⟩ : ∃ W, Hid (W = ((w.alloc (.cells #[.int .i64 4, .int .i64 n, .string s, .int .i64 x, .slice A L c] IV)).alloc (.cells #[.int .i64 k', .int .i64 n', .string s', .int .i64 x', .slice A' L' c'] IV)).alloc (.cells #[.int .i64 0, .int .i64 0, .string ⟨#[]⟩, .int .i64 0, .slice none 0 0] IV)) := ⟨_, Lib.hid rfl⟩
            rw [← HW0.out] at a0 a1 a2 az ab
            have A0 := Lib.hid a0
            have A1 := Lib.hid a1
            have A2 := Lib.hid a2
            have AB := Lib.hid ab
            obtain ⟨r0, f0⟩ := rowc a0
            obtain ⟨r1, f1⟩ := rowc a1
            obtain ⟨r2, f2⟩ := rowc a2
            clear a0 a1 a2 az ab
            show Calls _ _ _ _ (GivesQ w (.tuple #[vV 0 0 ⟨#[]⟩ 0 none 0 0, .int .i64 q]))
            go_enter Tryz.func13, Tryz.ntmps13
            go_wp2_with (fail)
            rw [← HW0.out]
            refine (IR.out _).mono ?_
            rintro e w9 ⟨rfl, rfl⟩
            go_wp2_with (fail)
            refine (N1.out _ AB.out).mono ?_
            rintro e w1 ⟨rfl, hb⟩
            replace A0 := Lib.hid (carry hb A0.out)
            replace A1 := Lib.hid (carry hb A1.out)
            replace A2 := Lib.hid (carry hb A2.out)
            replace AB := Lib.hid (bs AB.out hb)
            clear hb r0 f0 r1 f1 r2 f2
            obtain ⟨r0, f0⟩ := rowc A0.out
            obtain ⟨r1, f1⟩ := rowc A1.out
            obtain ⟨r2, f2⟩ := rowc A2.out
            go_wp2_with (fail)
            refine (N2.out _ AB.out).mono ?_
            rintro e w2 ⟨rfl, hb⟩
            replace A0 := Lib.hid (carry hb A0.out)
            replace A1 := Lib.hid (carry hb A1.out)
            replace A2 := Lib.hid (carry hb A2.out)
            replace AB := Lib.hid (bs AB.out hb)
            clear hb r0 f0 r1 f1 r2 f2
            obtain ⟨r0, f0⟩ := rowc A0.out
            obtain ⟨r1, f1⟩ := rowc A1.out
            obtain ⟨r2, f2⟩ := rowc A2.out
            go_wp2_with (fail)
            refine (AI.out _).mono ?_
            rintro e w3 ⟨rfl, hb⟩
            replace A0 := Lib.hid (carry hb A0.out)
            replace A1 := Lib.hid (carry hb A1.out)
            replace A2 := Lib.hid (carry hb A2.out)
            replace AB := Lib.hid (bs AB.out hb)
            clear hb r0 f0 r1 f1 r2 f2
            obtain ⟨r0, f0⟩ := rowc A0.out
            obtain ⟨r1, f1⟩ := rowc A1.out
            obtain ⟨r2, f2⟩ := rowc A2.out
            go_wp2_with (fail)
            generalize hwF : (((((w3.setCell ⟨w.heap.size + 1 + 1, 0, none⟩ (.int .i64 0)).setCell ⟨w.heap.size + 1 + 1, 1, none⟩ (.int .i64 0)).setCell ⟨w.heap.size + 1 + 1, 2, none⟩ (.string ⟨#[]⟩)).setCell ⟨w.heap.size + 1 + 1, 3, none⟩ (.int .i64 0)).setCell ⟨w.heap.size + 1 + 1, 4, none⟩ (.slice none 0 0)) = wF
            obtain ⟨rF, oF, bF⟩ := fill5 A2.out hwF
            refine bodyPost_ret (v := .tuple #[vV 0 0 ⟨#[]⟩ 0 none 0 0, .int .i64 q]) ?_ rfl ?_
            · simp [results, Tryz.results13, go_sem, rF]
            · exact ⟨rfl, bF _ _ (by omega) AB.out⟩
    · clear HU2 h6 h9 h10 h15
      cases ok with
      | false =>
        have N1 := Lib.hid N1.out
        simp only [Bool.false_eq_true, if_false] at N1
        have eq := HDF.out
        simp only [Bool.false_eq_true, if_false] at eq
        unfold nulF at eq
        obtain ⟨⟨rfl, rfl, rfl⟩, rfl⟩ : ((0 : Int) = dk ∧ (0 : Int) = dn ∧ (⟨#[]⟩ : ByteArray) = dz) ∧ (2 : Int) = dc := by simpa using eq
        clear eq HDF
        cases ok'
        all_goals
          simp only [Bool.false_eq_true, if_false, if_true] at N2
          obtain ⟨a0, a1, a2, az, ab⟩ := al3 w #[.int .i64 k, .int .i64 n, .string s, .int .i64 x, .slice A L c] #[.int .i64 k', .int .i64 n', .string s', .int .i64 x', .slice A' L' c'] #[.int .i64 0, .int .i64 0, .string ⟨#[]⟩, .int .i64 0, .slice none 0 0] IV IV IV
          obtain ⟨W0, HW0⟩ : ∃ W, Hid (W = ((w.alloc (.cells #[.int .i64 k, .int .i64 n, .string s, .int .i64 x, .slice A L c] IV)).alloc (.cells #[.int .i64 k', .int .i64 n', .string s', .int .i64 x', .slice A' L' c'] IV)).alloc (.cells #[.int .i64 0, .int .i64 0, .string ⟨#[]⟩, .int .i64 0, .slice none 0 0] IV)) := ⟨_, Lib.hid rfl⟩
          rw [← HW0.out] at a0 a1 a2 az ab
          have A0 := Lib.hid a0
          have A1 := Lib.hid a1
          have A2 := Lib.hid a2
          have AB := Lib.hid ab
          obtain ⟨r0, f0⟩ := rowc a0
          obtain ⟨r1, f1⟩ := rowc a1
          obtain ⟨r2, f2⟩ := rowc a2
          clear a0 a1 a2 az ab
          show Calls _ _ _ _ (GivesQ w (.tuple #[vV 0 0 ⟨#[]⟩ 0 none 0 0, .int .i64 2]))
          go_enter Tryz.func13, Tryz.ntmps13
          go_wp2_with (fail)
          rw [← HW0.out]
          refine (IR.out _).mono ?_
          rintro e w9 ⟨rfl, rfl⟩
          go_wp2_with (fail)
          refine (N1.out _ AB.out).mono ?_
          rintro e w1 ⟨rfl, hb⟩
          replace A0 := Lib.hid (carry hb A0.out)
          replace A1 := Lib.hid (carry hb A1.out)
          replace A2 := Lib.hid (carry hb A2.out)
          replace AB := Lib.hid (bs AB.out hb)
          clear hb r0 f0 r1 f1 r2 f2
          obtain ⟨r0, f0⟩ := rowc A0.out
          obtain ⟨r1, f1⟩ := rowc A1.out
          obtain ⟨r2, f2⟩ := rowc A2.out
          go_wp2_with (fail)
          refine (N2.out _ AB.out).mono ?_
          rintro e w2 ⟨rfl, hb⟩
          replace A0 := Lib.hid (carry hb A0.out)
          replace A1 := Lib.hid (carry hb A1.out)
          replace A2 := Lib.hid (carry hb A2.out)
          replace AB := Lib.hid (bs AB.out hb)
          clear hb r0 f0 r1 f1 r2 f2
          obtain ⟨r0, f0⟩ := rowc A0.out
          obtain ⟨r1, f1⟩ := rowc A1.out
          obtain ⟨r2, f2⟩ := rowc A2.out
          go_wp2_with (fail)
          generalize hwF : (((((w2.setCell ⟨w.heap.size + 1 + 1, 0, none⟩ (.int .i64 0)).setCell ⟨w.heap.size + 1 + 1, 1, none⟩ (.int .i64 0)).setCell ⟨w.heap.size + 1 + 1, 2, none⟩ (.string ⟨#[]⟩)).setCell ⟨w.heap.size + 1 + 1, 3, none⟩ (.int .i64 0)).setCell ⟨w.heap.size + 1 + 1, 4, none⟩ (.slice none 0 0)) = wF
          obtain ⟨rF, oF, bF⟩ := fill5 A2.out hwF
          refine bodyPost_ret (v := .tuple #[vV 0 0 ⟨#[]⟩ 0 none 0 0, .int .i64 2]) ?_ rfl ?_
          · simp [results, Tryz.results13, go_sem, rF]
          · exact ⟨rfl, bF _ _ (by omega) AB.out⟩
      | true =>
        simp only [if_true] at N1
        cases ok' with
        | false =>
          simp only [Bool.false_eq_true, if_false] at N2
          have eq := HDF.out
          simp only [Bool.false_eq_true, if_false, if_true] at eq
          unfold nulF at eq
          obtain ⟨⟨rfl, rfl, rfl⟩, rfl⟩ : ((0 : Int) = dk ∧ (0 : Int) = dn ∧ (⟨#[]⟩ : ByteArray) = dz) ∧ (2 : Int) = dc := by simpa using eq
          clear eq HDF
          obtain ⟨a0, a1, a2, az, ab⟩ := al3 w #[.int .i64 k, .int .i64 n, .string s, .int .i64 x, .slice A L c] #[.int .i64 k', .int .i64 n', .string s', .int .i64 x', .slice A' L' c'] #[.int .i64 0, .int .i64 0, .string ⟨#[]⟩, .int .i64 0, .slice none 0 0] IV IV IV
          obtain ⟨W0, HW0⟩ : ∃ W, Hid (W = ((w.alloc (.cells #[.int .i64 k, .int .i64 n, .string s, .int .i64 x, .slice A L c] IV)).alloc (.cells #[.int .i64 k', .int .i64 n', .string s', .int .i64 x', .slice A' L' c'] IV)).alloc (.cells #[.int .i64 0, .int .i64 0, .string ⟨#[]⟩, .int .i64 0, .slice none 0 0] IV)) := ⟨_, Lib.hid rfl⟩
          rw [← HW0.out] at a0 a1 a2 az ab
          have A0 := Lib.hid a0
          have A1 := Lib.hid a1
          have A2 := Lib.hid a2
          have AB := Lib.hid ab
          obtain ⟨r0, f0⟩ := rowc a0
          obtain ⟨r1, f1⟩ := rowc a1
          obtain ⟨r2, f2⟩ := rowc a2
          clear a0 a1 a2 az ab
          show Calls _ _ _ _ (GivesQ w (.tuple #[vV 0 0 ⟨#[]⟩ 0 none 0 0, .int .i64 2]))
          go_enter Tryz.func13, Tryz.ntmps13
          go_wp2_with (fail)
          rw [← HW0.out]
          refine (IR.out _).mono ?_
          rintro e w9 ⟨rfl, rfl⟩
          go_wp2_with (fail)
          refine (N1.out _ AB.out).mono ?_
          rintro e w1 ⟨rfl, hb⟩
          replace A0 := Lib.hid (carry hb A0.out)
          replace A1 := Lib.hid (carry hb A1.out)
          replace A2 := Lib.hid (carry hb A2.out)
          replace AB := Lib.hid (bs AB.out hb)
          clear hb r0 f0 r1 f1 r2 f2
          obtain ⟨r0, f0⟩ := rowc A0.out
          obtain ⟨r1, f1⟩ := rowc A1.out
          obtain ⟨r2, f2⟩ := rowc A2.out
          go_wp2_with (fail)
          refine (N2.out _ AB.out).mono ?_
          rintro e w2 ⟨rfl, hb⟩
          replace A0 := Lib.hid (carry hb A0.out)
          replace A1 := Lib.hid (carry hb A1.out)
          replace A2 := Lib.hid (carry hb A2.out)
          replace AB := Lib.hid (bs AB.out hb)
          clear hb r0 f0 r1 f1 r2 f2
          obtain ⟨r0, f0⟩ := rowc A0.out
          obtain ⟨r1, f1⟩ := rowc A1.out
          obtain ⟨r2, f2⟩ := rowc A2.out
          go_wp2_with (fail)
          generalize hwF : (((((w2.setCell ⟨w.heap.size + 1 + 1, 0, none⟩ (.int .i64 0)).setCell ⟨w.heap.size + 1 + 1, 1, none⟩ (.int .i64 0)).setCell ⟨w.heap.size + 1 + 1, 2, none⟩ (.string ⟨#[]⟩)).setCell ⟨w.heap.size + 1 + 1, 3, none⟩ (.int .i64 0)).setCell ⟨w.heap.size + 1 + 1, 4, none⟩ (.slice none 0 0)) = wF
          obtain ⟨rF, oF, bF⟩ := fill5 A2.out hwF
          refine bodyPost_ret (v := .tuple #[vV 0 0 ⟨#[]⟩ 0 none 0 0, .int .i64 2]) ?_ rfl ?_
          · simp [results, Tryz.results13, go_sem, rF]
          · exact ⟨rfl, bF _ _ (by omega) AB.out⟩
        | true =>
          simp only [if_true] at N2
          have eq := HDF.out
          simp only [if_true] at eq
          unfold finF inF nulF at eq
          simp only at eq
          by_cases hq : q = 0
          · subst hq
            rw [if_pos rfl] at eq
            obtain ⟨⟨rfl, rfl, rfl⟩, rfl⟩ : ((2 : Int) = dk ∧ p = dn ∧ (⟨#[]⟩ : ByteArray) = dz) ∧ (0 : Int) = dc := by simpa using eq
            clear eq HDF
            obtain ⟨a0, a1, a2, az, ab⟩ := al3 w #[.int .i64 k, .int .i64 n, .string s, .int .i64 x, .slice A L c] #[.int .i64 k', .int .i64 n', .string s', .int .i64 x', .slice A' L' c'] #[.int .i64 0, .int .i64 0, .string ⟨#[]⟩, .int .i64 0, .slice none 0 0] IV IV IV
            obtain ⟨W0, HW0⟩ : ∃ W, Hid (W = ((w.alloc (.cells #[.int .i64 k, .int .i64 n, .string s, .int .i64 x, .slice A L c] IV)).alloc (.cells #[.int .i64 k', .int .i64 n', .string s', .int .i64 x', .slice A' L' c'] IV)).alloc (.cells #[.int .i64 0, .int .i64 0, .string ⟨#[]⟩, .int .i64 0, .slice none 0 0] IV)) := ⟨_, Lib.hid rfl⟩
            rw [← HW0.out] at a0 a1 a2 az ab
            have A0 := Lib.hid a0
            have A1 := Lib.hid a1
            have A2 := Lib.hid a2
            have AB := Lib.hid ab
            obtain ⟨r0, f0⟩ := rowc a0
            obtain ⟨r1, f1⟩ := rowc a1
            obtain ⟨r2, f2⟩ := rowc a2
            clear a0 a1 a2 az ab
            show Calls _ _ _ _ (GivesQ w (.tuple #[vV 2 p ⟨#[]⟩ 0 none 0 0, .int .i64 0]))
            go_enter Tryz.func13, Tryz.ntmps13
            go_wp2_with (fail)
            rw [← HW0.out]
            refine (IR.out _).mono ?_
            rintro e w9 ⟨rfl, rfl⟩
            go_wp2_with (fail)
            refine (N1.out _ AB.out).mono ?_
            rintro e w1 ⟨rfl, hb⟩
            replace A0 := Lib.hid (carry hb A0.out)
            replace A1 := Lib.hid (carry hb A1.out)
            replace A2 := Lib.hid (carry hb A2.out)
            replace AB := Lib.hid (bs AB.out hb)
            clear hb r0 f0 r1 f1 r2 f2
            obtain ⟨r0, f0⟩ := rowc A0.out
            obtain ⟨r1, f1⟩ := rowc A1.out
            obtain ⟨r2, f2⟩ := rowc A2.out
            go_wp2_with (fail)
            refine (N2.out _ AB.out).mono ?_
            rintro e w2 ⟨rfl, hb⟩
            replace A0 := Lib.hid (carry hb A0.out)
            replace A1 := Lib.hid (carry hb A1.out)
            replace A2 := Lib.hid (carry hb A2.out)
            replace AB := Lib.hid (bs AB.out hb)
            clear hb r0 f0 r1 f1 r2 f2
            obtain ⟨r0, f0⟩ := rowc A0.out
            obtain ⟨r1, f1⟩ := rowc A1.out
            obtain ⟨r2, f2⟩ := rowc A2.out
            go_wp2_with (fail)
            refine (AI.out _).mono ?_
            rintro e w3 ⟨rfl, hb⟩
            replace A0 := Lib.hid (carry hb A0.out)
            replace A1 := Lib.hid (carry hb A1.out)
            replace A2 := Lib.hid (carry hb A2.out)
            replace AB := Lib.hid (bs AB.out hb)
            clear hb r0 f0 r1 f1 r2 f2
            obtain ⟨r0, f0⟩ := rowc A0.out
            obtain ⟨r1, f1⟩ := rowc A1.out
            obtain ⟨r2, f2⟩ := rowc A2.out
            go_wp2_with (fail)
            refine (intValue_s p _).mono ?_
            rintro e w4 ⟨rfl, hb⟩
            replace A0 := Lib.hid (carry hb A0.out)
            replace A1 := Lib.hid (carry hb A1.out)
            replace A2 := Lib.hid (carry hb A2.out)
            replace AB := Lib.hid (bs AB.out hb)
            clear hb r0 f0 r1 f1 r2 f2
            obtain ⟨r0, f0⟩ := rowc A0.out
            obtain ⟨r1, f1⟩ := rowc A1.out
            obtain ⟨r2, f2⟩ := rowc A2.out
            go_wp2_with (fail)
            generalize hwF : (((((w4.setCell ⟨w.heap.size + 1 + 1, 0, none⟩ (.int .i64 2)).setCell ⟨w.heap.size + 1 + 1, 1, none⟩ (.int .i64 p)).setCell ⟨w.heap.size + 1 + 1, 2, none⟩ (.string ⟨#[]⟩)).setCell ⟨w.heap.size + 1 + 1, 3, none⟩ (.int .i64 0)).setCell ⟨w.heap.size + 1 + 1, 4, none⟩ (.slice none 0 0)) = wF
            obtain ⟨rF, oF, bF⟩ := fill5 A2.out hwF
            refine bodyPost_ret (v := .tuple #[vV 2 p ⟨#[]⟩ 0 none 0 0, .int .i64 0]) ?_ rfl ?_
            · simp [results, Tryz.results13, go_sem, rF]
            · exact ⟨rfl, bF _ _ (by omega) AB.out⟩
          · rw [if_neg hq] at eq
            obtain ⟨⟨rfl, rfl, rfl⟩, rfl⟩ : ((0 : Int) = dk ∧ (0 : Int) = dn ∧ (⟨#[]⟩ : ByteArray) = dz) ∧ q = dc := by simpa using eq
            clear eq HDF
            obtain ⟨a0, a1, a2, az, ab⟩ := al3 w #[.int .i64 k, .int .i64 n, .string s, .int .i64 x, .slice A L c] #[.int .i64 k', .int .i64 n', .string s', .int .i64 x', .slice A' L' c'] #[.int .i64 0, .int .i64 0, .string ⟨#[]⟩, .int .i64 0, .slice none 0 0] IV IV IV
            obtain ⟨W0, HW0⟩ : ∃ W, Hid (W = ((w.alloc (.cells #[.int .i64 k, .int .i64 n, .string s, .int .i64 x, .slice A L c] IV)).alloc (.cells #[.int .i64 k', .int .i64 n', .string s', .int .i64 x', .slice A' L' c'] IV)).alloc (.cells #[.int .i64 0, .int .i64 0, .string ⟨#[]⟩, .int .i64 0, .slice none 0 0] IV)) := ⟨_, Lib.hid rfl⟩
            rw [← HW0.out] at a0 a1 a2 az ab
            have A0 := Lib.hid a0
            have A1 := Lib.hid a1
            have A2 := Lib.hid a2
            have AB := Lib.hid ab
            obtain ⟨r0, f0⟩ := rowc a0
            obtain ⟨r1, f1⟩ := rowc a1
            obtain ⟨r2, f2⟩ := rowc a2
            clear a0 a1 a2 az ab
            show Calls _ _ _ _ (GivesQ w (.tuple #[vV 0 0 ⟨#[]⟩ 0 none 0 0, .int .i64 q]))
            go_enter Tryz.func13, Tryz.ntmps13
            go_wp2_with (fail)
            rw [← HW0.out]
            refine (IR.out _).mono ?_
            rintro e w9 ⟨rfl, rfl⟩
            go_wp2_with (fail)
            refine (N1.out _ AB.out).mono ?_
            rintro e w1 ⟨rfl, hb⟩
            replace A0 := Lib.hid (carry hb A0.out)
            replace A1 := Lib.hid (carry hb A1.out)
            replace A2 := Lib.hid (carry hb A2.out)
            replace AB := Lib.hid (bs AB.out hb)
            clear hb r0 f0 r1 f1 r2 f2
            obtain ⟨r0, f0⟩ := rowc A0.out
            obtain ⟨r1, f1⟩ := rowc A1.out
            obtain ⟨r2, f2⟩ := rowc A2.out
            go_wp2_with (fail)
            refine (N2.out _ AB.out).mono ?_
            rintro e w2 ⟨rfl, hb⟩
            replace A0 := Lib.hid (carry hb A0.out)
            replace A1 := Lib.hid (carry hb A1.out)
            replace A2 := Lib.hid (carry hb A2.out)
            replace AB := Lib.hid (bs AB.out hb)
            clear hb r0 f0 r1 f1 r2 f2
            obtain ⟨r0, f0⟩ := rowc A0.out
            obtain ⟨r1, f1⟩ := rowc A1.out
            obtain ⟨r2, f2⟩ := rowc A2.out
            go_wp2_with (fail)
            refine (AI.out _).mono ?_
            rintro e w3 ⟨rfl, hb⟩
            replace A0 := Lib.hid (carry hb A0.out)
            replace A1 := Lib.hid (carry hb A1.out)
            replace A2 := Lib.hid (carry hb A2.out)
            replace AB := Lib.hid (bs AB.out hb)
            clear hb r0 f0 r1 f1 r2 f2
            obtain ⟨r0, f0⟩ := rowc A0.out
            obtain ⟨r1, f1⟩ := rowc A1.out
            obtain ⟨r2, f2⟩ := rowc A2.out
            go_wp2_with (fail)
            generalize hwF : (((((w3.setCell ⟨w.heap.size + 1 + 1, 0, none⟩ (.int .i64 0)).setCell ⟨w.heap.size + 1 + 1, 1, none⟩ (.int .i64 0)).setCell ⟨w.heap.size + 1 + 1, 2, none⟩ (.string ⟨#[]⟩)).setCell ⟨w.heap.size + 1 + 1, 3, none⟩ (.int .i64 0)).setCell ⟨w.heap.size + 1 + 1, 4, none⟩ (.slice none 0 0)) = wF
            obtain ⟨rF, oF, bF⟩ := fill5 A2.out hwF
            refine bodyPost_ret (v := .tuple #[vV 0 0 ⟨#[]⟩ 0 none 0 0, .int .i64 q]) ?_ rfl ?_
            · simp [results, Tryz.results13, go_sem, rF]
            · exact ⟨rfl, bF _ _ (by omega) AB.out⟩
  · clear HU2
    cases ok with
    | false =>
      have N1 := Lib.hid N1.out
      simp only [Bool.false_eq_true, if_false] at N1
      have eq := HDF.out
      simp only [Bool.false_eq_true, if_false] at eq
      unfold nulF at eq
      obtain ⟨⟨rfl, rfl, rfl⟩, rfl⟩ : ((0 : Int) = dk ∧ (0 : Int) = dn ∧ (⟨#[]⟩ : ByteArray) = dz) ∧ (2 : Int) = dc := by simpa using eq
      clear eq HDF
      cases ok'
      all_goals
        simp only [Bool.false_eq_true, if_false, if_true] at N2
        obtain ⟨a0, a1, a2, az, ab⟩ := al3 w #[.int .i64 k, .int .i64 n, .string s, .int .i64 x, .slice A L c] #[.int .i64 k', .int .i64 n', .string s', .int .i64 x', .slice A' L' c'] #[.int .i64 0, .int .i64 0, .string ⟨#[]⟩, .int .i64 0, .slice none 0 0] IV IV IV
        obtain ⟨W0, HW0⟩ : ∃ W, Hid (W = ((w.alloc (.cells #[.int .i64 k, .int .i64 n, .string s, .int .i64 x, .slice A L c] IV)).alloc (.cells #[.int .i64 k', .int .i64 n', .string s', .int .i64 x', .slice A' L' c'] IV)).alloc (.cells #[.int .i64 0, .int .i64 0, .string ⟨#[]⟩, .int .i64 0, .slice none 0 0] IV)) := ⟨_, Lib.hid rfl⟩
        rw [← HW0.out] at a0 a1 a2 az ab
        have A0 := Lib.hid a0
        have A1 := Lib.hid a1
        have A2 := Lib.hid a2
        have AB := Lib.hid ab
        obtain ⟨r0, f0⟩ := rowc a0
        obtain ⟨r1, f1⟩ := rowc a1
        obtain ⟨r2, f2⟩ := rowc a2
        clear a0 a1 a2 az ab
        show Calls _ _ _ _ (GivesQ w (.tuple #[vV 0 0 ⟨#[]⟩ 0 none 0 0, .int .i64 2]))
        go_enter Tryz.func13, Tryz.ntmps13
        go_wp2_with (fail)
        rw [← HW0.out]
        refine (IR.out _).mono ?_
        rintro e w9 ⟨rfl, rfl⟩
        go_wp2_with (fail)
        refine (N1.out _ AB.out).mono ?_
        rintro e w1 ⟨rfl, hb⟩
        replace A0 := Lib.hid (carry hb A0.out)
        replace A1 := Lib.hid (carry hb A1.out)
        replace A2 := Lib.hid (carry hb A2.out)
        replace AB := Lib.hid (bs AB.out hb)
        clear hb r0 f0 r1 f1 r2 f2
        obtain ⟨r0, f0⟩ := rowc A0.out
        obtain ⟨r1, f1⟩ := rowc A1.out
        obtain ⟨r2, f2⟩ := rowc A2.out
        go_wp2_with (fail)
        refine (N2.out _ AB.out).mono ?_
        rintro e w2 ⟨rfl, hb⟩
        replace A0 := Lib.hid (carry hb A0.out)
        replace A1 := Lib.hid (carry hb A1.out)
        replace A2 := Lib.hid (carry hb A2.out)
        replace AB := Lib.hid (bs AB.out hb)
        clear hb r0 f0 r1 f1 r2 f2
        obtain ⟨r0, f0⟩ := rowc A0.out
        obtain ⟨r1, f1⟩ := rowc A1.out
        obtain ⟨r2, f2⟩ := rowc A2.out
        go_wp2_with (fail)
        generalize hwF : (((((w2.setCell ⟨w.heap.size + 1 + 1, 0, none⟩ (.int .i64 0)).setCell ⟨w.heap.size + 1 + 1, 1, none⟩ (.int .i64 0)).setCell ⟨w.heap.size + 1 + 1, 2, none⟩ (.string ⟨#[]⟩)).setCell ⟨w.heap.size + 1 + 1, 3, none⟩ (.int .i64 0)).setCell ⟨w.heap.size + 1 + 1, 4, none⟩ (.slice none 0 0)) = wF
        obtain ⟨rF, oF, bF⟩ := fill5 A2.out hwF
        refine bodyPost_ret (v := .tuple #[vV 0 0 ⟨#[]⟩ 0 none 0 0, .int .i64 2]) ?_ rfl ?_
        · simp [results, Tryz.results13, go_sem, rF]
        · exact ⟨rfl, bF _ _ (by omega) AB.out⟩
    | true =>
      simp only [if_true] at N1
      cases ok' with
      | false =>
        simp only [Bool.false_eq_true, if_false] at N2
        have eq := HDF.out
        simp only [Bool.false_eq_true, if_false, if_true] at eq
        unfold nulF at eq
        obtain ⟨⟨rfl, rfl, rfl⟩, rfl⟩ : ((0 : Int) = dk ∧ (0 : Int) = dn ∧ (⟨#[]⟩ : ByteArray) = dz) ∧ (2 : Int) = dc := by simpa using eq
        clear eq HDF
        obtain ⟨a0, a1, a2, az, ab⟩ := al3 w #[.int .i64 k, .int .i64 n, .string s, .int .i64 x, .slice A L c] #[.int .i64 k', .int .i64 n', .string s', .int .i64 x', .slice A' L' c'] #[.int .i64 0, .int .i64 0, .string ⟨#[]⟩, .int .i64 0, .slice none 0 0] IV IV IV
        obtain ⟨W0, HW0⟩ : ∃ W, Hid (W = ((w.alloc (.cells #[.int .i64 k, .int .i64 n, .string s, .int .i64 x, .slice A L c] IV)).alloc (.cells #[.int .i64 k', .int .i64 n', .string s', .int .i64 x', .slice A' L' c'] IV)).alloc (.cells #[.int .i64 0, .int .i64 0, .string ⟨#[]⟩, .int .i64 0, .slice none 0 0] IV)) := ⟨_, Lib.hid rfl⟩
        rw [← HW0.out] at a0 a1 a2 az ab
        have A0 := Lib.hid a0
        have A1 := Lib.hid a1
        have A2 := Lib.hid a2
        have AB := Lib.hid ab
        obtain ⟨r0, f0⟩ := rowc a0
        obtain ⟨r1, f1⟩ := rowc a1
        obtain ⟨r2, f2⟩ := rowc a2
        clear a0 a1 a2 az ab
        show Calls _ _ _ _ (GivesQ w (.tuple #[vV 0 0 ⟨#[]⟩ 0 none 0 0, .int .i64 2]))
        go_enter Tryz.func13, Tryz.ntmps13
        go_wp2_with (fail)
        rw [← HW0.out]
        refine (IR.out _).mono ?_
        rintro e w9 ⟨rfl, rfl⟩
        go_wp2_with (fail)
        refine (N1.out _ AB.out).mono ?_
        rintro e w1 ⟨rfl, hb⟩
        replace A0 := Lib.hid (carry hb A0.out)
        replace A1 := Lib.hid (carry hb A1.out)
        replace A2 := Lib.hid (carry hb A2.out)
        replace AB := Lib.hid (bs AB.out hb)
        clear hb r0 f0 r1 f1 r2 f2
        obtain ⟨r0, f0⟩ := rowc A0.out
        obtain ⟨r1, f1⟩ := rowc A1.out
        obtain ⟨r2, f2⟩ := rowc A2.out
        go_wp2_with (fail)
        refine (N2.out _ AB.out).mono ?_
        rintro e w2 ⟨rfl, hb⟩
        replace A0 := Lib.hid (carry hb A0.out)
        replace A1 := Lib.hid (carry hb A1.out)
        replace A2 := Lib.hid (carry hb A2.out)
        replace AB := Lib.hid (bs AB.out hb)
        clear hb r0 f0 r1 f1 r2 f2
        obtain ⟨r0, f0⟩ := rowc A0.out
        obtain ⟨r1, f1⟩ := rowc A1.out
        obtain ⟨r2, f2⟩ := rowc A2.out
        go_wp2_with (fail)
        generalize hwF : (((((w2.setCell ⟨w.heap.size + 1 + 1, 0, none⟩ (.int .i64 0)).setCell ⟨w.heap.size + 1 + 1, 1, none⟩ (.int .i64 0)).setCell ⟨w.heap.size + 1 + 1, 2, none⟩ (.string ⟨#[]⟩)).setCell ⟨w.heap.size + 1 + 1, 3, none⟩ (.int .i64 0)).setCell ⟨w.heap.size + 1 + 1, 4, none⟩ (.slice none 0 0)) = wF
        obtain ⟨rF, oF, bF⟩ := fill5 A2.out hwF
        refine bodyPost_ret (v := .tuple #[vV 0 0 ⟨#[]⟩ 0 none 0 0, .int .i64 2]) ?_ rfl ?_
        · simp [results, Tryz.results13, go_sem, rF]
        · exact ⟨rfl, bF _ _ (by omega) AB.out⟩
      | true =>
        simp only [if_true] at N2
        have eq := HDF.out
        simp only [if_true] at eq
        unfold finF inF nulF at eq
        simp only at eq
        by_cases hq : q = 0
        · subst hq
          rw [if_pos rfl] at eq
          obtain ⟨⟨rfl, rfl, rfl⟩, rfl⟩ : ((2 : Int) = dk ∧ p = dn ∧ (⟨#[]⟩ : ByteArray) = dz) ∧ (0 : Int) = dc := by simpa using eq
          clear eq HDF
          obtain ⟨a0, a1, a2, az, ab⟩ := al3 w #[.int .i64 k, .int .i64 n, .string s, .int .i64 x, .slice A L c] #[.int .i64 k', .int .i64 n', .string s', .int .i64 x', .slice A' L' c'] #[.int .i64 0, .int .i64 0, .string ⟨#[]⟩, .int .i64 0, .slice none 0 0] IV IV IV
          obtain ⟨W0, HW0⟩ : ∃ W, Hid (W = ((w.alloc (.cells #[.int .i64 k, .int .i64 n, .string s, .int .i64 x, .slice A L c] IV)).alloc (.cells #[.int .i64 k', .int .i64 n', .string s', .int .i64 x', .slice A' L' c'] IV)).alloc (.cells #[.int .i64 0, .int .i64 0, .string ⟨#[]⟩, .int .i64 0, .slice none 0 0] IV)) := ⟨_, Lib.hid rfl⟩
          rw [← HW0.out] at a0 a1 a2 az ab
          have A0 := Lib.hid a0
          have A1 := Lib.hid a1
          have A2 := Lib.hid a2
          have AB := Lib.hid ab
          obtain ⟨r0, f0⟩ := rowc a0
          obtain ⟨r1, f1⟩ := rowc a1
          obtain ⟨r2, f2⟩ := rowc a2
          clear a0 a1 a2 az ab
          show Calls _ _ _ _ (GivesQ w (.tuple #[vV 2 p ⟨#[]⟩ 0 none 0 0, .int .i64 0]))
          go_enter Tryz.func13, Tryz.ntmps13
          go_wp2_with (fail)
          rw [← HW0.out]
          refine (IR.out _).mono ?_
          rintro e w9 ⟨rfl, rfl⟩
          go_wp2_with (fail)
          refine (N1.out _ AB.out).mono ?_
          rintro e w1 ⟨rfl, hb⟩
          replace A0 := Lib.hid (carry hb A0.out)
          replace A1 := Lib.hid (carry hb A1.out)
          replace A2 := Lib.hid (carry hb A2.out)
          replace AB := Lib.hid (bs AB.out hb)
          clear hb r0 f0 r1 f1 r2 f2
          obtain ⟨r0, f0⟩ := rowc A0.out
          obtain ⟨r1, f1⟩ := rowc A1.out
          obtain ⟨r2, f2⟩ := rowc A2.out
          go_wp2_with (fail)
          refine (N2.out _ AB.out).mono ?_
          rintro e w2 ⟨rfl, hb⟩
          replace A0 := Lib.hid (carry hb A0.out)
          replace A1 := Lib.hid (carry hb A1.out)
          replace A2 := Lib.hid (carry hb A2.out)
          replace AB := Lib.hid (bs AB.out hb)
          clear hb r0 f0 r1 f1 r2 f2
          obtain ⟨r0, f0⟩ := rowc A0.out
          obtain ⟨r1, f1⟩ := rowc A1.out
          obtain ⟨r2, f2⟩ := rowc A2.out
          go_wp2_with (fail)
          refine (AI.out _).mono ?_
          rintro e w3 ⟨rfl, hb⟩
          replace A0 := Lib.hid (carry hb A0.out)
          replace A1 := Lib.hid (carry hb A1.out)
          replace A2 := Lib.hid (carry hb A2.out)
          replace AB := Lib.hid (bs AB.out hb)
          clear hb r0 f0 r1 f1 r2 f2
          obtain ⟨r0, f0⟩ := rowc A0.out
          obtain ⟨r1, f1⟩ := rowc A1.out
          obtain ⟨r2, f2⟩ := rowc A2.out
          go_wp2_with (fail)
          refine (intValue_s p _).mono ?_
          rintro e w4 ⟨rfl, hb⟩
          replace A0 := Lib.hid (carry hb A0.out)
          replace A1 := Lib.hid (carry hb A1.out)
          replace A2 := Lib.hid (carry hb A2.out)
          replace AB := Lib.hid (bs AB.out hb)
          clear hb r0 f0 r1 f1 r2 f2
          obtain ⟨r0, f0⟩ := rowc A0.out
          obtain ⟨r1, f1⟩ := rowc A1.out
          obtain ⟨r2, f2⟩ := rowc A2.out
          go_wp2_with (fail)
          generalize hwF : (((((w4.setCell ⟨w.heap.size + 1 + 1, 0, none⟩ (.int .i64 2)).setCell ⟨w.heap.size + 1 + 1, 1, none⟩ (.int .i64 p)).setCell ⟨w.heap.size + 1 + 1, 2, none⟩ (.string ⟨#[]⟩)).setCell ⟨w.heap.size + 1 + 1, 3, none⟩ (.int .i64 0)).setCell ⟨w.heap.size + 1 + 1, 4, none⟩ (.slice none 0 0)) = wF
          obtain ⟨rF, oF, bF⟩ := fill5 A2.out hwF
          refine bodyPost_ret (v := .tuple #[vV 2 p ⟨#[]⟩ 0 none 0 0, .int .i64 0]) ?_ rfl ?_
          · simp [results, Tryz.results13, go_sem, rF]
          · exact ⟨rfl, bF _ _ (by omega) AB.out⟩
        · rw [if_neg hq] at eq
          obtain ⟨⟨rfl, rfl, rfl⟩, rfl⟩ : ((0 : Int) = dk ∧ (0 : Int) = dn ∧ (⟨#[]⟩ : ByteArray) = dz) ∧ q = dc := by simpa using eq
          clear eq HDF
          obtain ⟨a0, a1, a2, az, ab⟩ := al3 w #[.int .i64 k, .int .i64 n, .string s, .int .i64 x, .slice A L c] #[.int .i64 k', .int .i64 n', .string s', .int .i64 x', .slice A' L' c'] #[.int .i64 0, .int .i64 0, .string ⟨#[]⟩, .int .i64 0, .slice none 0 0] IV IV IV
          obtain ⟨W0, HW0⟩ : ∃ W, Hid (W = ((w.alloc (.cells #[.int .i64 k, .int .i64 n, .string s, .int .i64 x, .slice A L c] IV)).alloc (.cells #[.int .i64 k', .int .i64 n', .string s', .int .i64 x', .slice A' L' c'] IV)).alloc (.cells #[.int .i64 0, .int .i64 0, .string ⟨#[]⟩, .int .i64 0, .slice none 0 0] IV)) := ⟨_, Lib.hid rfl⟩
          rw [← HW0.out] at a0 a1 a2 az ab
          have A0 := Lib.hid a0
          have A1 := Lib.hid a1
          have A2 := Lib.hid a2
          have AB := Lib.hid ab
          obtain ⟨r0, f0⟩ := rowc a0
          obtain ⟨r1, f1⟩ := rowc a1
          obtain ⟨r2, f2⟩ := rowc a2
          clear a0 a1 a2 az ab
          show Calls _ _ _ _ (GivesQ w (.tuple #[vV 0 0 ⟨#[]⟩ 0 none 0 0, .int .i64 q]))
          go_enter Tryz.func13, Tryz.ntmps13
          go_wp2_with (fail)
          rw [← HW0.out]
          refine (IR.out _).mono ?_
          rintro e w9 ⟨rfl, rfl⟩
          go_wp2_with (fail)
          refine (N1.out _ AB.out).mono ?_
          rintro e w1 ⟨rfl, hb⟩
          replace A0 := Lib.hid (carry hb A0.out)
          replace A1 := Lib.hid (carry hb A1.out)
          replace A2 := Lib.hid (carry hb A2.out)
          replace AB := Lib.hid (bs AB.out hb)
          clear hb r0 f0 r1 f1 r2 f2
          obtain ⟨r0, f0⟩ := rowc A0.out
          obtain ⟨r1, f1⟩ := rowc A1.out
          obtain ⟨r2, f2⟩ := rowc A2.out
          go_wp2_with (fail)
          refine (N2.out _ AB.out).mono ?_
          rintro e w2 ⟨rfl, hb⟩
          replace A0 := Lib.hid (carry hb A0.out)
          replace A1 := Lib.hid (carry hb A1.out)
          replace A2 := Lib.hid (carry hb A2.out)
          replace AB := Lib.hid (bs AB.out hb)
          clear hb r0 f0 r1 f1 r2 f2
          obtain ⟨r0, f0⟩ := rowc A0.out
          obtain ⟨r1, f1⟩ := rowc A1.out
          obtain ⟨r2, f2⟩ := rowc A2.out
          go_wp2_with (fail)
          refine (AI.out _).mono ?_
          rintro e w3 ⟨rfl, hb⟩
          replace A0 := Lib.hid (carry hb A0.out)
          replace A1 := Lib.hid (carry hb A1.out)
          replace A2 := Lib.hid (carry hb A2.out)
          replace AB := Lib.hid (bs AB.out hb)
          clear hb r0 f0 r1 f1 r2 f2
          obtain ⟨r0, f0⟩ := rowc A0.out
          obtain ⟨r1, f1⟩ := rowc A1.out
          obtain ⟨r2, f2⟩ := rowc A2.out
          go_wp2_with (fail)
          generalize hwF : (((((w3.setCell ⟨w.heap.size + 1 + 1, 0, none⟩ (.int .i64 0)).setCell ⟨w.heap.size + 1 + 1, 1, none⟩ (.int .i64 0)).setCell ⟨w.heap.size + 1 + 1, 2, none⟩ (.string ⟨#[]⟩)).setCell ⟨w.heap.size + 1 + 1, 3, none⟩ (.int .i64 0)).setCell ⟨w.heap.size + 1 + 1, 4, none⟩ (.slice none 0 0)) = wF
          obtain ⟨rF, oF, bF⟩ := fill5 A2.out hwF
          refine bodyPost_ret (v := .tuple #[vV 0 0 ⟨#[]⟩ 0 none 0 0, .int .i64 q]) ?_ rfl ?_
          · simp [results, Tryz.results13, go_sem, rF]
          · exact ⟨rfl, bF _ _ (by omega) AB.out⟩

end Go.Proofs.YteoilhbidnnneaaGreatDoor.tree

