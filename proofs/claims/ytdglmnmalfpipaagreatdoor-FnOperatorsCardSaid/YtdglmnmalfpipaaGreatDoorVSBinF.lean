/-
  What two texts and two numbers give: concat and arithValues of the project, l10Concat of the model.
  Conditions: the values hold at most 10^9 items and letters; the table of powers of ten and the project's errors hold what the program's text lays.
-/
import Derived.Test.YtdglmnmalfpipaaGreatDoorVB14
import Derived.Test.YtdglmnmalfpipaaGreatDoorVB7
namespace Go.Proofs.YtdglmnmalfpipaaGreatDoor.tree
open Go.ChangeShapes Go.WideShapes Go.ChangeAt Go.RowKit ers
set_option linter.unusedVariables false


set_option maxRecDepth 100000 in
set_option maxHeartbeats 4000000 in
theorem concat_i (t u : Tr) (v vu : Value) (w : World) (S S' : Nat → Prop) (h : TIn w S t v) (h' : TIn w S' u vu) (hT : tot t + tot u ≤ 1000000000) (a : Addr) (hE : fmt.Tab w) (hA : HasT w a) : Calls Tryz.prog 102 #[v, vu] w (GivesQ w (.tuple #[fV (conF t u).1, .int .i64 (conF t u).2])) := by
  have T1 := fun w' (hb : Below w.heap.size w w') => textOf t v w' S (h.below' hb) (by omega) a (hE.stays hb) (hA.stays hb)
  have T2 := fun w' (hb : Below w.heap.size w w') => textOf u vu w' S' (h'.below' hb) (by omega) a (hE.stays hb) (hA.stays hb)
  unfold toV at T1 T2
  unfold conF
  obtain ⟨k, n, s, x, ks, vs⟩ := t
  obtain ⟨k', n', s', x', ks', vs'⟩ := u
  obtain ⟨A, c, rfl, hk, -⟩ := h.out
  obtain ⟨A', c', rfl, hk', -⟩ := h'.out
  have hz := tt_size k n s x ks vs (by rw [tot_mk, tot_mk] at hT; omega) hk.2.1
  have hz' := tt_size k' n' s' x' ks' vs' (by rw [tot_mk, tot_mk] at hT; omega) hk'.2.1
  obtain ⟨⟨z, ok⟩, HZ⟩ : ∃ z, Hid (tt (.mk k n s x ks vs) = z) := ⟨_, Lib.hid rfl⟩
  obtain ⟨⟨z', ok'⟩, HZ'⟩ : ∃ z, Hid (tt (.mk k' n' s' x' ks' vs') = z) := ⟨_, Lib.hid rfl⟩
  rw [HZ.out] at T1 hz
  rw [HZ'.out] at T2 hz'
  rw [HZ.out, HZ'.out]
  obtain ⟨L, HL⟩ : ∃ L, Hid (vs.length = L) := ⟨_, Lib.hid rfl⟩
  obtain ⟨L', HL'⟩ : ∃ L, Hid (vs'.length = L) := ⟨_, Lib.hid rfl⟩
  rw [HL.out] at T1
  rw [HL'.out] at T2
  rw [HL.out, HL'.out]
  simp only at T1 T2 hz hz' ⊢
  have HT1 := Lib.hid T1
  have HT2 := Lib.hid T2
  have HNU := Lib.hid nullValue_i
  clear h h' hT T1 T2 hk hk' hE hA
  cases ok with
  | false =>
    have T1 : Hid (∀ w' (hb : Below w.heap.size w w'), Calls Tryz.prog 171 #[vV k n s x A L c] w' (GivesQ w' (.tuple #[.string z, .iface 270 (.pointer (some a))]))) := Lib.hid HT1.out
    unfold vV at T1
    clear HT1
    cases ok'
    · have T2 : Hid (∀ w' (hb : Below w.heap.size w w'), Calls Tryz.prog 171 #[vV k' n' s' x' A' L' c'] w' (GivesQ w' (.tuple #[.string z', .iface 270 (.pointer (some a))]))) := Lib.hid HT2.out
      unfold vV at T2
      clear HT2
      obtain ⟨a0, a1, a2, az, ab⟩ := al3 w #[.int .i64 k, .int .i64 n, .string s, .int .i64 x, .slice A L c] #[.int .i64 k', .int .i64 n', .string s', .int .i64 x', .slice A' L' c'] #[.int .i64 0, .int .i64 0, .string ⟨#[]⟩, .int .i64 0, .slice none 0 0] IV IV IV
      obtain ⟨W0, HW0⟩ : ∃ W, Hid (W = ((w.alloc (.cells #[.int .i64 k, .int .i64 n, .string s, .int .i64 x, .slice A L c] IV)).alloc (.cells #[.int .i64 k', .int .i64 n', .string s', .int .i64 x', .slice A' L' c'] IV)).alloc (.cells #[.int .i64 0, .int .i64 0, .string ⟨#[]⟩, .int .i64 0, .slice none 0 0] IV)) := ⟨_, Lib.hid rfl⟩
      rw [← HW0.out] at a0 a1 a2 az ab
      have A0 := Lib.hid a0
      have A1 := Lib.hid a1
      have A2 := Lib.hid a2
      have AB := Lib.hid ab
      obtain ⟨r0, f0⟩ := rowc a0
      obtain ⟨r1, f1⟩ := rowc a1
      obtain ⟨r2, f2⟩ := rowc a2
      clear a0 a1 a2 az ab
      show Calls _ _ _ _ (GivesQ w (.tuple #[vV 0 0 ⟨#[]⟩ 0 none 0 0, .int .i64 1]))
      go_enter Tryz.func102, Tryz.ntmps102
      go_wp2_with (fail)
      rw [← HW0.out]
      refine (T1.out _ AB.out).mono ?_
      rintro e w1 ⟨rfl, hb⟩
      replace A0 := Lib.hid (carry hb A0.out)
      replace A1 := Lib.hid (carry hb A1.out)
      replace A2 := Lib.hid (carry hb A2.out)
      replace AB := Lib.hid (bs AB.out hb)
      clear hb r0 f0 r1 f1 r2 f2
      obtain ⟨r0, f0⟩ := rowc A0.out
      obtain ⟨r1, f1⟩ := rowc A1.out
      obtain ⟨r2, f2⟩ := rowc A2.out
      go_wp2_with (fail)
      refine (T2.out _ AB.out).mono ?_
      rintro e w2 ⟨rfl, hb⟩
      replace A0 := Lib.hid (carry hb A0.out)
      replace A1 := Lib.hid (carry hb A1.out)
      replace A2 := Lib.hid (carry hb A2.out)
      replace AB := Lib.hid (bs AB.out hb)
      clear hb r0 f0 r1 f1 r2 f2
      obtain ⟨r0, f0⟩ := rowc A0.out
      obtain ⟨r1, f1⟩ := rowc A1.out
      obtain ⟨r2, f2⟩ := rowc A2.out
      go_wp2_with (fail)
      refine (HNU.out _).mono ?_
      rintro e w3 ⟨rfl, hb⟩
      replace A0 := Lib.hid (carry hb A0.out)
      replace A1 := Lib.hid (carry hb A1.out)
      replace A2 := Lib.hid (carry hb A2.out)
      replace AB := Lib.hid (bs AB.out hb)
      clear hb r0 f0 r1 f1 r2 f2
      obtain ⟨r0, f0⟩ := rowc A0.out
      obtain ⟨r1, f1⟩ := rowc A1.out
      obtain ⟨r2, f2⟩ := rowc A2.out
      go_wp2_with (fail)
      generalize hwF : (((((w3.setCell ⟨w.heap.size + 1 + 1, 0, none⟩ (.int .i64 0)).setCell ⟨w.heap.size + 1 + 1, 1, none⟩ (.int .i64 0)).setCell ⟨w.heap.size + 1 + 1, 2, none⟩ (.string ⟨#[]⟩)).setCell ⟨w.heap.size + 1 + 1, 3, none⟩ (.int .i64 0)).setCell ⟨w.heap.size + 1 + 1, 4, none⟩ (.slice none 0 0)) = wF
      obtain ⟨rF, oF, bF⟩ := fill5 A2.out hwF
      refine bodyPost_ret (v := .tuple #[vV 0 0 ⟨#[]⟩ 0 none 0 0, .int .i64 1]) ?_ rfl ?_
      · simp [results, Tryz.results102, go_sem, rF]
      · exact ⟨rfl, bF _ _ (by omega) AB.out⟩
    · have T2 : Hid (∀ w' (hb : Below w.heap.size w w'), Calls Tryz.prog 171 #[vV k' n' s' x' A' L' c'] w' (GivesQ w' (.tuple #[.string z', .nilIface]))) := Lib.hid HT2.out
      unfold vV at T2
      clear HT2
      obtain ⟨a0, a1, a2, az, ab⟩ := al3 w #[.int .i64 k, .int .i64 n, .string s, .int .i64 x, .slice A L c] #[.int .i64 k', .int .i64 n', .string s', .int .i64 x', .slice A' L' c'] #[.int .i64 0, .int .i64 0, .string ⟨#[]⟩, .int .i64 0, .slice none 0 0] IV IV IV
      obtain ⟨W0, HW0⟩ : ∃ W, Hid (W = ((w.alloc (.cells #[.int .i64 k, .int .i64 n, .string s, .int .i64 x, .slice A L c] IV)).alloc (.cells #[.int .i64 k', .int .i64 n', .string s', .int .i64 x', .slice A' L' c'] IV)).alloc (.cells #[.int .i64 0, .int .i64 0, .string ⟨#[]⟩, .int .i64 0, .slice none 0 0] IV)) := ⟨_, Lib.hid rfl⟩
      rw [← HW0.out] at a0 a1 a2 az ab
      have A0 := Lib.hid a0
      have A1 := Lib.hid a1
      have A2 := Lib.hid a2
      have AB := Lib.hid ab
      obtain ⟨r0, f0⟩ := rowc a0
      obtain ⟨r1, f1⟩ := rowc a1
      obtain ⟨r2, f2⟩ := rowc a2
      clear a0 a1 a2 az ab
      show Calls _ _ _ _ (GivesQ w (.tuple #[vV 0 0 ⟨#[]⟩ 0 none 0 0, .int .i64 1]))
      go_enter Tryz.func102, Tryz.ntmps102
      go_wp2_with (fail)
      rw [← HW0.out]
      refine (T1.out _ AB.out).mono ?_
      rintro e w1 ⟨rfl, hb⟩
      replace A0 := Lib.hid (carry hb A0.out)
      replace A1 := Lib.hid (carry hb A1.out)
      replace A2 := Lib.hid (carry hb A2.out)
      replace AB := Lib.hid (bs AB.out hb)
      clear hb r0 f0 r1 f1 r2 f2
      obtain ⟨r0, f0⟩ := rowc A0.out
      obtain ⟨r1, f1⟩ := rowc A1.out
      obtain ⟨r2, f2⟩ := rowc A2.out
      go_wp2_with (fail)
      refine (T2.out _ AB.out).mono ?_
      rintro e w2 ⟨rfl, hb⟩
      replace A0 := Lib.hid (carry hb A0.out)
      replace A1 := Lib.hid (carry hb A1.out)
      replace A2 := Lib.hid (carry hb A2.out)
      replace AB := Lib.hid (bs AB.out hb)
      clear hb r0 f0 r1 f1 r2 f2
      obtain ⟨r0, f0⟩ := rowc A0.out
      obtain ⟨r1, f1⟩ := rowc A1.out
      obtain ⟨r2, f2⟩ := rowc A2.out
      go_wp2_with (fail)
      refine (HNU.out _).mono ?_
      rintro e w3 ⟨rfl, hb⟩
      replace A0 := Lib.hid (carry hb A0.out)
      replace A1 := Lib.hid (carry hb A1.out)
      replace A2 := Lib.hid (carry hb A2.out)
      replace AB := Lib.hid (bs AB.out hb)
      clear hb r0 f0 r1 f1 r2 f2
      obtain ⟨r0, f0⟩ := rowc A0.out
      obtain ⟨r1, f1⟩ := rowc A1.out
      obtain ⟨r2, f2⟩ := rowc A2.out
      go_wp2_with (fail)
      generalize hwF : (((((w3.setCell ⟨w.heap.size + 1 + 1, 0, none⟩ (.int .i64 0)).setCell ⟨w.heap.size + 1 + 1, 1, none⟩ (.int .i64 0)).setCell ⟨w.heap.size + 1 + 1, 2, none⟩ (.string ⟨#[]⟩)).setCell ⟨w.heap.size + 1 + 1, 3, none⟩ (.int .i64 0)).setCell ⟨w.heap.size + 1 + 1, 4, none⟩ (.slice none 0 0)) = wF
      obtain ⟨rF, oF, bF⟩ := fill5 A2.out hwF
      refine bodyPost_ret (v := .tuple #[vV 0 0 ⟨#[]⟩ 0 none 0 0, .int .i64 1]) ?_ rfl ?_
      · simp [results, Tryz.results102, go_sem, rF]
      · exact ⟨rfl, bF _ _ (by omega) AB.out⟩
  | true =>
    have T1 : Hid (∀ w' (hb : Below w.heap.size w w'), Calls Tryz.prog 171 #[vV k n s x A L c] w' (GivesQ w' (.tuple #[.string z, .nilIface]))) := Lib.hid HT1.out
    unfold vV at T1
    clear HT1
    cases ok' with
    | false =>
      have T2 : Hid (∀ w' (hb : Below w.heap.size w w'), Calls Tryz.prog 171 #[vV k' n' s' x' A' L' c'] w' (GivesQ w' (.tuple #[.string z', .iface 270 (.pointer (some a))]))) := Lib.hid HT2.out
      unfold vV at T2
      clear HT2
      obtain ⟨a0, a1, a2, az, ab⟩ := al3 w #[.int .i64 k, .int .i64 n, .string s, .int .i64 x, .slice A L c] #[.int .i64 k', .int .i64 n', .string s', .int .i64 x', .slice A' L' c'] #[.int .i64 0, .int .i64 0, .string ⟨#[]⟩, .int .i64 0, .slice none 0 0] IV IV IV
      obtain ⟨W0, HW0⟩ : ∃ W, Hid (W = ((w.alloc (.cells #[.int .i64 k, .int .i64 n, .string s, .int .i64 x, .slice A L c] IV)).alloc (.cells #[.int .i64 k', .int .i64 n', .string s', .int .i64 x', .slice A' L' c'] IV)).alloc (.cells #[.int .i64 0, .int .i64 0, .string ⟨#[]⟩, .int .i64 0, .slice none 0 0] IV)) := ⟨_, Lib.hid rfl⟩
      rw [← HW0.out] at a0 a1 a2 az ab
      have A0 := Lib.hid a0
      have A1 := Lib.hid a1
      have A2 := Lib.hid a2
      have AB := Lib.hid ab
      obtain ⟨r0, f0⟩ := rowc a0
      obtain ⟨r1, f1⟩ := rowc a1
      obtain ⟨r2, f2⟩ := rowc a2
      clear a0 a1 a2 az ab
      show Calls _ _ _ _ (GivesQ w (.tuple #[vV 0 0 ⟨#[]⟩ 0 none 0 0, .int .i64 1]))
      go_enter Tryz.func102, Tryz.ntmps102
      go_wp2_with (fail)
      rw [← HW0.out]
      refine (T1.out _ AB.out).mono ?_
      rintro e w1 ⟨rfl, hb⟩
      replace A0 := Lib.hid (carry hb A0.out)
      replace A1 := Lib.hid (carry hb A1.out)
      replace A2 := Lib.hid (carry hb A2.out)
      replace AB := Lib.hid (bs AB.out hb)
      clear hb r0 f0 r1 f1 r2 f2
      obtain ⟨r0, f0⟩ := rowc A0.out
      obtain ⟨r1, f1⟩ := rowc A1.out
      obtain ⟨r2, f2⟩ := rowc A2.out
      go_wp2_with (fail)
      refine (T2.out _ AB.out).mono ?_
      rintro e w2 ⟨rfl, hb⟩
      replace A0 := Lib.hid (carry hb A0.out)
      replace A1 := Lib.hid (carry hb A1.out)
      replace A2 := Lib.hid (carry hb A2.out)
      replace AB := Lib.hid (bs AB.out hb)
      clear hb r0 f0 r1 f1 r2 f2
      obtain ⟨r0, f0⟩ := rowc A0.out
      obtain ⟨r1, f1⟩ := rowc A1.out
      obtain ⟨r2, f2⟩ := rowc A2.out
      go_wp2_with (fail)
      refine (HNU.out _).mono ?_
      rintro e w3 ⟨rfl, hb⟩
      replace A0 := Lib.hid (carry hb A0.out)
      replace A1 := Lib.hid (carry hb A1.out)
      replace A2 := Lib.hid (carry hb A2.out)
      replace AB := Lib.hid (bs AB.out hb)
      clear hb r0 f0 r1 f1 r2 f2
      obtain ⟨r0, f0⟩ := rowc A0.out
      obtain ⟨r1, f1⟩ := rowc A1.out
      obtain ⟨r2, f2⟩ := rowc A2.out
      go_wp2_with (fail)
      generalize hwF : (((((w3.setCell ⟨w.heap.size + 1 + 1, 0, none⟩ (.int .i64 0)).setCell ⟨w.heap.size + 1 + 1, 1, none⟩ (.int .i64 0)).setCell ⟨w.heap.size + 1 + 1, 2, none⟩ (.string ⟨#[]⟩)).setCell ⟨w.heap.size + 1 + 1, 3, none⟩ (.int .i64 0)).setCell ⟨w.heap.size + 1 + 1, 4, none⟩ (.slice none 0 0)) = wF
      obtain ⟨rF, oF, bF⟩ := fill5 A2.out hwF
      refine bodyPost_ret (v := .tuple #[vV 0 0 ⟨#[]⟩ 0 none 0 0, .int .i64 1]) ?_ rfl ?_
      · simp [results, Tryz.results102, go_sem, rF]
      · exact ⟨rfl, bF _ _ (by omega) AB.out⟩
    | true =>
      have T2 : Hid (∀ w' (hb : Below w.heap.size w w'), Calls Tryz.prog 171 #[vV k' n' s' x' A' L' c'] w' (GivesQ w' (.tuple #[.string z', .nilIface]))) := Lib.hid HT2.out
      unfold vV at T2
      clear HT2
      by_cases hle : z.size + z'.size ≤ 400
      · rw [if_pos hle]
        have HTV := Lib.hid (textValue_i (z ++ z') (by rw [ByteArray.size_append]; omega))
        obtain ⟨a0, a1, a2, az, ab⟩ := al3 w #[.int .i64 k, .int .i64 n, .string s, .int .i64 x, .slice A L c] #[.int .i64 k', .int .i64 n', .string s', .int .i64 x', .slice A' L' c'] #[.int .i64 0, .int .i64 0, .string ⟨#[]⟩, .int .i64 0, .slice none 0 0] IV IV IV
        obtain ⟨W0, HW0⟩ : ∃ W, Hid (W = ((w.alloc (.cells #[.int .i64 k, .int .i64 n, .string s, .int .i64 x, .slice A L c] IV)).alloc (.cells #[.int .i64 k', .int .i64 n', .string s', .int .i64 x', .slice A' L' c'] IV)).alloc (.cells #[.int .i64 0, .int .i64 0, .string ⟨#[]⟩, .int .i64 0, .slice none 0 0] IV)) := ⟨_, Lib.hid rfl⟩
        rw [← HW0.out] at a0 a1 a2 az ab
        have A0 := Lib.hid a0
        have A1 := Lib.hid a1
        have A2 := Lib.hid a2
        have AB := Lib.hid ab
        obtain ⟨r0, f0⟩ := rowc a0
        obtain ⟨r1, f1⟩ := rowc a1
        obtain ⟨r2, f2⟩ := rowc a2
        clear a0 a1 a2 az ab
        show Calls _ _ _ _ (GivesQ w (.tuple #[vV 3 0 (z ++ z') 0 none 0 0, .int .i64 0]))
        go_enter Tryz.func102, Tryz.ntmps102
        go_wp2_with (fail)
        rw [← HW0.out]
        refine (T1.out _ AB.out).mono ?_
        rintro e w1 ⟨rfl, hb⟩
        replace A0 := Lib.hid (carry hb A0.out)
        replace A1 := Lib.hid (carry hb A1.out)
        replace A2 := Lib.hid (carry hb A2.out)
        replace AB := Lib.hid (bs AB.out hb)
        clear hb r0 f0 r1 f1 r2 f2
        obtain ⟨r0, f0⟩ := rowc A0.out
        obtain ⟨r1, f1⟩ := rowc A1.out
        obtain ⟨r2, f2⟩ := rowc A2.out
        go_wp2_with (fail)
        refine (T2.out _ AB.out).mono ?_
        rintro e w2 ⟨rfl, hb⟩
        replace A0 := Lib.hid (carry hb A0.out)
        replace A1 := Lib.hid (carry hb A1.out)
        replace A2 := Lib.hid (carry hb A2.out)
        replace AB := Lib.hid (bs AB.out hb)
        clear hb r0 f0 r1 f1 r2 f2
        obtain ⟨r0, f0⟩ := rowc A0.out
        obtain ⟨r1, f1⟩ := rowc A1.out
        obtain ⟨r2, f2⟩ := rowc A2.out
        go_wp2_with (fail)
        refine (HTV.out _).mono ?_
        rintro e w3 ⟨rfl, hb⟩
        replace A0 := Lib.hid (carry hb A0.out)
        replace A1 := Lib.hid (carry hb A1.out)
        replace A2 := Lib.hid (carry hb A2.out)
        replace AB := Lib.hid (bs AB.out hb)
        clear hb r0 f0 r1 f1 r2 f2
        obtain ⟨r0, f0⟩ := rowc A0.out
        obtain ⟨r1, f1⟩ := rowc A1.out
        obtain ⟨r2, f2⟩ := rowc A2.out
        go_wp2_with (fail)
        generalize hwF : (((((w3.setCell ⟨w.heap.size + 1 + 1, 0, none⟩ (.int .i64 3)).setCell ⟨w.heap.size + 1 + 1, 1, none⟩ (.int .i64 0)).setCell ⟨w.heap.size + 1 + 1, 2, none⟩ (.string (z ++ z'))).setCell ⟨w.heap.size + 1 + 1, 3, none⟩ (.int .i64 0)).setCell ⟨w.heap.size + 1 + 1, 4, none⟩ (.slice none 0 0)) = wF
        obtain ⟨rF, oF, bF⟩ := fill5 A2.out hwF
        refine bodyPost_ret (v := .tuple #[vV 3 0 (z ++ z') 0 none 0 0, .int .i64 0]) ?_ rfl ?_
        · simp [results, Tryz.results102, go_sem, rF]
        · exact ⟨rfl, bF _ _ (by omega) AB.out⟩
      · rw [if_neg hle]
        obtain ⟨a0, a1, a2, az, ab⟩ := al3 w #[.int .i64 k, .int .i64 n, .string s, .int .i64 x, .slice A L c] #[.int .i64 k', .int .i64 n', .string s', .int .i64 x', .slice A' L' c'] #[.int .i64 0, .int .i64 0, .string ⟨#[]⟩, .int .i64 0, .slice none 0 0] IV IV IV
        obtain ⟨W0, HW0⟩ : ∃ W, Hid (W = ((w.alloc (.cells #[.int .i64 k, .int .i64 n, .string s, .int .i64 x, .slice A L c] IV)).alloc (.cells #[.int .i64 k', .int .i64 n', .string s', .int .i64 x', .slice A' L' c'] IV)).alloc (.cells #[.int .i64 0, .int .i64 0, .string ⟨#[]⟩, .int .i64 0, .slice none 0 0] IV)) := ⟨_, Lib.hid rfl⟩
        rw [← HW0.out] at a0 a1 a2 az ab
        have A0 := Lib.hid a0
        have A1 := Lib.hid a1
        have A2 := Lib.hid a2
        have AB := Lib.hid ab
        obtain ⟨r0, f0⟩ := rowc a0
        obtain ⟨r1, f1⟩ := rowc a1
        obtain ⟨r2, f2⟩ := rowc a2
        clear a0 a1 a2 az ab
        show Calls _ _ _ _ (GivesQ w (.tuple #[vV 0 0 ⟨#[]⟩ 0 none 0 0, .int .i64 9]))
        go_enter Tryz.func102, Tryz.ntmps102
        go_wp2_with (fail)
        rw [← HW0.out]
        refine (T1.out _ AB.out).mono ?_
        rintro e w1 ⟨rfl, hb⟩
        replace A0 := Lib.hid (carry hb A0.out)
        replace A1 := Lib.hid (carry hb A1.out)
        replace A2 := Lib.hid (carry hb A2.out)
        replace AB := Lib.hid (bs AB.out hb)
        clear hb r0 f0 r1 f1 r2 f2
        obtain ⟨r0, f0⟩ := rowc A0.out
        obtain ⟨r1, f1⟩ := rowc A1.out
        obtain ⟨r2, f2⟩ := rowc A2.out
        go_wp2_with (fail)
        refine (T2.out _ AB.out).mono ?_
        rintro e w2 ⟨rfl, hb⟩
        replace A0 := Lib.hid (carry hb A0.out)
        replace A1 := Lib.hid (carry hb A1.out)
        replace A2 := Lib.hid (carry hb A2.out)
        replace AB := Lib.hid (bs AB.out hb)
        clear hb r0 f0 r1 f1 r2 f2
        obtain ⟨r0, f0⟩ := rowc A0.out
        obtain ⟨r1, f1⟩ := rowc A1.out
        obtain ⟨r2, f2⟩ := rowc A2.out
        go_wp2_with (fail)
        refine (HNU.out _).mono ?_
        rintro e w3 ⟨rfl, hb⟩
        replace A0 := Lib.hid (carry hb A0.out)
        replace A1 := Lib.hid (carry hb A1.out)
        replace A2 := Lib.hid (carry hb A2.out)
        replace AB := Lib.hid (bs AB.out hb)
        clear hb r0 f0 r1 f1 r2 f2
        obtain ⟨r0, f0⟩ := rowc A0.out
        obtain ⟨r1, f1⟩ := rowc A1.out
        obtain ⟨r2, f2⟩ := rowc A2.out
        go_wp2_with (fail)
        generalize hwF : (((((w3.setCell ⟨w.heap.size + 1 + 1, 0, none⟩ (.int .i64 0)).setCell ⟨w.heap.size + 1 + 1, 1, none⟩ (.int .i64 0)).setCell ⟨w.heap.size + 1 + 1, 2, none⟩ (.string ⟨#[]⟩)).setCell ⟨w.heap.size + 1 + 1, 3, none⟩ (.int .i64 0)).setCell ⟨w.heap.size + 1 + 1, 4, none⟩ (.slice none 0 0)) = wF
        obtain ⟨rF, oF, bF⟩ := fill5 A2.out hwF
        refine bodyPost_ret (v := .tuple #[vV 0 0 ⟨#[]⟩ 0 none 0 0, .int .i64 9]) ?_ rfl ?_
        · simp [results, Tryz.results102, go_sem, rF]
        · exact ⟨rfl, bF _ _ (by omega) AB.out⟩

set_option maxRecDepth 100000 in
set_option maxHeartbeats 4000000 in
theorem arithValues_i (op : Int) (t u : Tr) (v vu : Value) (w : World) (S S' : Nat → Prop) (h : TIn w S t v) (h' : TIn w S' u vu) (hT : tot t + tot u ≤ 1000000000) (b : Addr) (hB : HasN w b) : Calls Tryz.prog 108 #[.int .i64 op, v, vu] w (GivesQ w (.tuple #[fV (ariF op t u).1, .int .i64 (ariF op t u).2])) := by
  have T1 := fun w' (hb : Below w.heap.size w w') => numberOf t v w' S (h.below' hb) (by omega) b (hB.stays hb)
  have T2 := fun w' (hb : Below w.heap.size w w') => numberOf u vu w' S' (h'.below' hb) (by omega) b (hB.stays hb)
  unfold noV at T1 T2
  unfold ariF
  obtain ⟨k, n, s, x, ks, vs⟩ := t
  obtain ⟨k', n', s', x', ks', vs'⟩ := u
  obtain ⟨A, c, rfl, hk, -⟩ := h.out
  obtain ⟨A', c', rfl, hk', -⟩ := h'.out
  obtain ⟨⟨z, ok⟩, HZ⟩ : ∃ z, Hid (nn (.mk k n s x ks vs) = z) := ⟨_, Lib.hid rfl⟩
  obtain ⟨⟨z', ok'⟩, HZ'⟩ : ∃ z, Hid (nn (.mk k' n' s' x' ks' vs') = z) := ⟨_, Lib.hid rfl⟩
  rw [HZ.out] at T1
  rw [HZ'.out] at T2
  rw [HZ.out, HZ'.out]
  obtain ⟨L, HL⟩ : ∃ L, Hid (vs.length = L) := ⟨_, Lib.hid rfl⟩
  obtain ⟨L', HL'⟩ : ∃ L, Hid (vs'.length = L) := ⟨_, Lib.hid rfl⟩
  rw [HL.out] at T1
  rw [HL'.out] at T2
  rw [HL.out, HL'.out]
  simp only at T1 T2 ⊢
  have HT1 := Lib.hid T1
  have HT2 := Lib.hid T2
  have HNU := Lib.hid nullValue_i
  have AI := Lib.hid (ari.arith_i op z z')
  clear h h' hT T1 T2 hk hk' hB
  cases ok with
  | false =>
    have T1 : Hid (∀ w' (hb : Below w.heap.size w w'), Calls Tryz.prog 175 #[vV k n s x A L c] w' (GivesQ w' (.tuple #[.int .i64 z, .iface 270 (.pointer (some b))]))) := Lib.hid HT1.out
    unfold vV at T1
    clear HT1
    cases ok'
    · have T2 : Hid (∀ w' (hb : Below w.heap.size w w'), Calls Tryz.prog 175 #[vV k' n' s' x' A' L' c'] w' (GivesQ w' (.tuple #[.int .i64 z', .iface 270 (.pointer (some b))]))) := Lib.hid HT2.out
      unfold vV at T2
      clear HT2
      obtain ⟨a0, a1, a2, az, ab⟩ := al3 w #[.int .i64 k, .int .i64 n, .string s, .int .i64 x, .slice A L c] #[.int .i64 k', .int .i64 n', .string s', .int .i64 x', .slice A' L' c'] #[.int .i64 0, .int .i64 0, .string ⟨#[]⟩, .int .i64 0, .slice none 0 0] IV IV IV
      obtain ⟨W0, HW0⟩ : ∃ W, Hid (W = ((w.alloc (.cells #[.int .i64 k, .int .i64 n, .string s, .int .i64 x, .slice A L c] IV)).alloc (.cells #[.int .i64 k', .int .i64 n', .string s', .int .i64 x', .slice A' L' c'] IV)).alloc (.cells #[.int .i64 0, .int .i64 0, .string ⟨#[]⟩, .int .i64 0, .slice none 0 0] IV)) := ⟨_, Lib.hid rfl⟩
      rw [← HW0.out] at a0 a1 a2 az ab
      have A0 := Lib.hid a0
      have A1 := Lib.hid a1
      have A2 := Lib.hid a2
      have AB := Lib.hid ab
      obtain ⟨r0, f0⟩ := rowc a0
      obtain ⟨r1, f1⟩ := rowc a1
      obtain ⟨r2, f2⟩ := rowc a2
      clear a0 a1 a2 az ab
      show Calls _ _ _ _ (GivesQ w (.tuple #[vV 0 0 ⟨#[]⟩ 0 none 0 0, .int .i64 2]))
      go_enter Tryz.func108, Tryz.ntmps108
      go_wp2_with (fail)
      rw [← HW0.out]
      refine (T1.out _ AB.out).mono ?_
      rintro e w1 ⟨rfl, hb⟩
      replace A0 := Lib.hid (carry hb A0.out)
      replace A1 := Lib.hid (carry hb A1.out)
      replace A2 := Lib.hid (carry hb A2.out)
      replace AB := Lib.hid (bs AB.out hb)
      clear hb r0 f0 r1 f1 r2 f2
      obtain ⟨r0, f0⟩ := rowc A0.out
      obtain ⟨r1, f1⟩ := rowc A1.out
      obtain ⟨r2, f2⟩ := rowc A2.out
      go_wp2_with (fail)
      refine (T2.out _ AB.out).mono ?_
      rintro e w2 ⟨rfl, hb⟩
      replace A0 := Lib.hid (carry hb A0.out)
      replace A1 := Lib.hid (carry hb A1.out)
      replace A2 := Lib.hid (carry hb A2.out)
      replace AB := Lib.hid (bs AB.out hb)
      clear hb r0 f0 r1 f1 r2 f2
      obtain ⟨r0, f0⟩ := rowc A0.out
      obtain ⟨r1, f1⟩ := rowc A1.out
      obtain ⟨r2, f2⟩ := rowc A2.out
      go_wp2_with (fail)
      refine (HNU.out _).mono ?_
      rintro e w3 ⟨rfl, hb⟩
      replace A0 := Lib.hid (carry hb A0.out)
      replace A1 := Lib.hid (carry hb A1.out)
      replace A2 := Lib.hid (carry hb A2.out)
      replace AB := Lib.hid (bs AB.out hb)
      clear hb r0 f0 r1 f1 r2 f2
      obtain ⟨r0, f0⟩ := rowc A0.out
      obtain ⟨r1, f1⟩ := rowc A1.out
      obtain ⟨r2, f2⟩ := rowc A2.out
      go_wp2_with (fail)
      generalize hwF : (((((w3.setCell ⟨w.heap.size + 1 + 1, 0, none⟩ (.int .i64 0)).setCell ⟨w.heap.size + 1 + 1, 1, none⟩ (.int .i64 0)).setCell ⟨w.heap.size + 1 + 1, 2, none⟩ (.string ⟨#[]⟩)).setCell ⟨w.heap.size + 1 + 1, 3, none⟩ (.int .i64 0)).setCell ⟨w.heap.size + 1 + 1, 4, none⟩ (.slice none 0 0)) = wF
      obtain ⟨rF, oF, bF⟩ := fill5 A2.out hwF
      refine bodyPost_ret (v := .tuple #[vV 0 0 ⟨#[]⟩ 0 none 0 0, .int .i64 2]) ?_ rfl ?_
      · simp [results, Tryz.results108, go_sem, rF]
      · exact ⟨rfl, bF _ _ (by omega) AB.out⟩
    · have T2 : Hid (∀ w' (hb : Below w.heap.size w w'), Calls Tryz.prog 175 #[vV k' n' s' x' A' L' c'] w' (GivesQ w' (.tuple #[.int .i64 z', .nilIface]))) := Lib.hid HT2.out
      unfold vV at T2
      clear HT2
      obtain ⟨a0, a1, a2, az, ab⟩ := al3 w #[.int .i64 k, .int .i64 n, .string s, .int .i64 x, .slice A L c] #[.int .i64 k', .int .i64 n', .string s', .int .i64 x', .slice A' L' c'] #[.int .i64 0, .int .i64 0, .string ⟨#[]⟩, .int .i64 0, .slice none 0 0] IV IV IV
      obtain ⟨W0, HW0⟩ : ∃ W, Hid (W = ((w.alloc (.cells #[.int .i64 k, .int .i64 n, .string s, .int .i64 x, .slice A L c] IV)).alloc (.cells #[.int .i64 k', .int .i64 n', .string s', .int .i64 x', .slice A' L' c'] IV)).alloc (.cells #[.int .i64 0, .int .i64 0, .string ⟨#[]⟩, .int .i64 0, .slice none 0 0] IV)) := ⟨_, Lib.hid rfl⟩
      rw [← HW0.out] at a0 a1 a2 az ab
      have A0 := Lib.hid a0
      have A1 := Lib.hid a1
      have A2 := Lib.hid a2
      have AB := Lib.hid ab
      obtain ⟨r0, f0⟩ := rowc a0
      obtain ⟨r1, f1⟩ := rowc a1
      obtain ⟨r2, f2⟩ := rowc a2
      clear a0 a1 a2 az ab
      show Calls _ _ _ _ (GivesQ w (.tuple #[vV 0 0 ⟨#[]⟩ 0 none 0 0, .int .i64 2]))
      go_enter Tryz.func108, Tryz.ntmps108
      go_wp2_with (fail)
      rw [← HW0.out]
      refine (T1.out _ AB.out).mono ?_
      rintro e w1 ⟨rfl, hb⟩
      replace A0 := Lib.hid (carry hb A0.out)
      replace A1 := Lib.hid (carry hb A1.out)
      replace A2 := Lib.hid (carry hb A2.out)
      replace AB := Lib.hid (bs AB.out hb)
      clear hb r0 f0 r1 f1 r2 f2
      obtain ⟨r0, f0⟩ := rowc A0.out
      obtain ⟨r1, f1⟩ := rowc A1.out
      obtain ⟨r2, f2⟩ := rowc A2.out
      go_wp2_with (fail)
      refine (T2.out _ AB.out).mono ?_
      rintro e w2 ⟨rfl, hb⟩
      replace A0 := Lib.hid (carry hb A0.out)
      replace A1 := Lib.hid (carry hb A1.out)
      replace A2 := Lib.hid (carry hb A2.out)
      replace AB := Lib.hid (bs AB.out hb)
      clear hb r0 f0 r1 f1 r2 f2
      obtain ⟨r0, f0⟩ := rowc A0.out
      obtain ⟨r1, f1⟩ := rowc A1.out
      obtain ⟨r2, f2⟩ := rowc A2.out
      go_wp2_with (fail)
      refine (HNU.out _).mono ?_
      rintro e w3 ⟨rfl, hb⟩
      replace A0 := Lib.hid (carry hb A0.out)
      replace A1 := Lib.hid (carry hb A1.out)
      replace A2 := Lib.hid (carry hb A2.out)
      replace AB := Lib.hid (bs AB.out hb)
      clear hb r0 f0 r1 f1 r2 f2
      obtain ⟨r0, f0⟩ := rowc A0.out
      obtain ⟨r1, f1⟩ := rowc A1.out
      obtain ⟨r2, f2⟩ := rowc A2.out
      go_wp2_with (fail)
      generalize hwF : (((((w3.setCell ⟨w.heap.size + 1 + 1, 0, none⟩ (.int .i64 0)).setCell ⟨w.heap.size + 1 + 1, 1, none⟩ (.int .i64 0)).setCell ⟨w.heap.size + 1 + 1, 2, none⟩ (.string ⟨#[]⟩)).setCell ⟨w.heap.size + 1 + 1, 3, none⟩ (.int .i64 0)).setCell ⟨w.heap.size + 1 + 1, 4, none⟩ (.slice none 0 0)) = wF
      obtain ⟨rF, oF, bF⟩ := fill5 A2.out hwF
      refine bodyPost_ret (v := .tuple #[vV 0 0 ⟨#[]⟩ 0 none 0 0, .int .i64 2]) ?_ rfl ?_
      · simp [results, Tryz.results108, go_sem, rF]
      · exact ⟨rfl, bF _ _ (by omega) AB.out⟩
  | true =>
    have T1 : Hid (∀ w' (hb : Below w.heap.size w w'), Calls Tryz.prog 175 #[vV k n s x A L c] w' (GivesQ w' (.tuple #[.int .i64 z, .nilIface]))) := Lib.hid HT1.out
    unfold vV at T1
    clear HT1
    cases ok' with
    | false =>
      have T2 : Hid (∀ w' (hb : Below w.heap.size w w'), Calls Tryz.prog 175 #[vV k' n' s' x' A' L' c'] w' (GivesQ w' (.tuple #[.int .i64 z', .iface 270 (.pointer (some b))]))) := Lib.hid HT2.out
      unfold vV at T2
      clear HT2
      obtain ⟨a0, a1, a2, az, ab⟩ := al3 w #[.int .i64 k, .int .i64 n, .string s, .int .i64 x, .slice A L c] #[.int .i64 k', .int .i64 n', .string s', .int .i64 x', .slice A' L' c'] #[.int .i64 0, .int .i64 0, .string ⟨#[]⟩, .int .i64 0, .slice none 0 0] IV IV IV
      obtain ⟨W0, HW0⟩ : ∃ W, Hid (W = ((w.alloc (.cells #[.int .i64 k, .int .i64 n, .string s, .int .i64 x, .slice A L c] IV)).alloc (.cells #[.int .i64 k', .int .i64 n', .string s', .int .i64 x', .slice A' L' c'] IV)).alloc (.cells #[.int .i64 0, .int .i64 0, .string ⟨#[]⟩, .int .i64 0, .slice none 0 0] IV)) := ⟨_, Lib.hid rfl⟩
      rw [← HW0.out] at a0 a1 a2 az ab
      have A0 := Lib.hid a0
      have A1 := Lib.hid a1
      have A2 := Lib.hid a2
      have AB := Lib.hid ab
      obtain ⟨r0, f0⟩ := rowc a0
      obtain ⟨r1, f1⟩ := rowc a1
      obtain ⟨r2, f2⟩ := rowc a2
      clear a0 a1 a2 az ab
      show Calls _ _ _ _ (GivesQ w (.tuple #[vV 0 0 ⟨#[]⟩ 0 none 0 0, .int .i64 2]))
      go_enter Tryz.func108, Tryz.ntmps108
      go_wp2_with (fail)
      rw [← HW0.out]
      refine (T1.out _ AB.out).mono ?_
      rintro e w1 ⟨rfl, hb⟩
      replace A0 := Lib.hid (carry hb A0.out)
      replace A1 := Lib.hid (carry hb A1.out)
      replace A2 := Lib.hid (carry hb A2.out)
      replace AB := Lib.hid (bs AB.out hb)
      clear hb r0 f0 r1 f1 r2 f2
      obtain ⟨r0, f0⟩ := rowc A0.out
      obtain ⟨r1, f1⟩ := rowc A1.out
      obtain ⟨r2, f2⟩ := rowc A2.out
      go_wp2_with (fail)
      refine (T2.out _ AB.out).mono ?_
      rintro e w2 ⟨rfl, hb⟩
      replace A0 := Lib.hid (carry hb A0.out)
      replace A1 := Lib.hid (carry hb A1.out)
      replace A2 := Lib.hid (carry hb A2.out)
      replace AB := Lib.hid (bs AB.out hb)
      clear hb r0 f0 r1 f1 r2 f2
      obtain ⟨r0, f0⟩ := rowc A0.out
      obtain ⟨r1, f1⟩ := rowc A1.out
      obtain ⟨r2, f2⟩ := rowc A2.out
      go_wp2_with (fail)
      refine (HNU.out _).mono ?_
      rintro e w3 ⟨rfl, hb⟩
      replace A0 := Lib.hid (carry hb A0.out)
      replace A1 := Lib.hid (carry hb A1.out)
      replace A2 := Lib.hid (carry hb A2.out)
      replace AB := Lib.hid (bs AB.out hb)
      clear hb r0 f0 r1 f1 r2 f2
      obtain ⟨r0, f0⟩ := rowc A0.out
      obtain ⟨r1, f1⟩ := rowc A1.out
      obtain ⟨r2, f2⟩ := rowc A2.out
      go_wp2_with (fail)
      generalize hwF : (((((w3.setCell ⟨w.heap.size + 1 + 1, 0, none⟩ (.int .i64 0)).setCell ⟨w.heap.size + 1 + 1, 1, none⟩ (.int .i64 0)).setCell ⟨w.heap.size + 1 + 1, 2, none⟩ (.string ⟨#[]⟩)).setCell ⟨w.heap.size + 1 + 1, 3, none⟩ (.int .i64 0)).setCell ⟨w.heap.size + 1 + 1, 4, none⟩ (.slice none 0 0)) = wF
      obtain ⟨rF, oF, bF⟩ := fill5 A2.out hwF
      refine bodyPost_ret (v := .tuple #[vV 0 0 ⟨#[]⟩ 0 none 0 0, .int .i64 2]) ?_ rfl ?_
      · simp [results, Tryz.results108, go_sem, rF]
      · exact ⟨rfl, bF _ _ (by omega) AB.out⟩
    | true =>
      have T2 : Hid (∀ w' (hb : Below w.heap.size w w'), Calls Tryz.prog 175 #[vV k' n' s' x' A' L' c'] w' (GivesQ w' (.tuple #[.int .i64 z', .nilIface]))) := Lib.hid HT2.out
      unfold vV at T2
      clear HT2
      obtain ⟨⟨p, q⟩, HP⟩ : ∃ p, Hid (ari.arT op z z' = p) := ⟨_, Lib.hid rfl⟩
      rw [HP.out] at AI
      unfold ari.ArQ at AI
      simp only at AI
      rw [if_pos rfl, if_pos rfl, HP.out]
      unfold finF inF
      simp only
      by_cases hq : q = 0
      · subst hq
        rw [if_pos rfl]
        obtain ⟨a0, a1, a2, az, ab⟩ := al3 w #[.int .i64 k, .int .i64 n, .string s, .int .i64 x, .slice A L c] #[.int .i64 k', .int .i64 n', .string s', .int .i64 x', .slice A' L' c'] #[.int .i64 0, .int .i64 0, .string ⟨#[]⟩, .int .i64 0, .slice none 0 0] IV IV IV
        obtain ⟨W0, HW0⟩ : ∃ W, Hid (W = ((w.alloc (.cells #[.int .i64 k, .int .i64 n, .string s, .int .i64 x, .slice A L c] IV)).alloc (.cells #[.int .i64 k', .int .i64 n', .string s', .int .i64 x', .slice A' L' c'] IV)).alloc (.cells #[.int .i64 0, .int .i64 0, .string ⟨#[]⟩, .int .i64 0, .slice none 0 0] IV)) := ⟨_, Lib.hid rfl⟩
        rw [← HW0.out] at a0 a1 a2 az ab
        have A0 := Lib.hid a0
        have A1 := Lib.hid a1
        have A2 := Lib.hid a2
        have AB := Lib.hid ab
        obtain ⟨r0, f0⟩ := rowc a0
        obtain ⟨r1, f1⟩ := rowc a1
        obtain ⟨r2, f2⟩ := rowc a2
        clear a0 a1 a2 az ab
        show Calls _ _ _ _ (GivesQ w (.tuple #[vV 2 p ⟨#[]⟩ 0 none 0 0, .int .i64 0]))
        go_enter Tryz.func108, Tryz.ntmps108
        go_wp2_with (fail)
        rw [← HW0.out]
        refine (T1.out _ AB.out).mono ?_
        rintro e w1 ⟨rfl, hb⟩
        replace A0 := Lib.hid (carry hb A0.out)
        replace A1 := Lib.hid (carry hb A1.out)
        replace A2 := Lib.hid (carry hb A2.out)
        replace AB := Lib.hid (bs AB.out hb)
        clear hb r0 f0 r1 f1 r2 f2
        obtain ⟨r0, f0⟩ := rowc A0.out
        obtain ⟨r1, f1⟩ := rowc A1.out
        obtain ⟨r2, f2⟩ := rowc A2.out
        go_wp2_with (fail)
        refine (T2.out _ AB.out).mono ?_
        rintro e w2 ⟨rfl, hb⟩
        replace A0 := Lib.hid (carry hb A0.out)
        replace A1 := Lib.hid (carry hb A1.out)
        replace A2 := Lib.hid (carry hb A2.out)
        replace AB := Lib.hid (bs AB.out hb)
        clear hb r0 f0 r1 f1 r2 f2
        obtain ⟨r0, f0⟩ := rowc A0.out
        obtain ⟨r1, f1⟩ := rowc A1.out
        obtain ⟨r2, f2⟩ := rowc A2.out
        go_wp2_with (fail)
        refine (AI.out _).mono ?_
        rintro e w3 ⟨rfl, hb⟩
        replace A0 := Lib.hid (carry hb A0.out)
        replace A1 := Lib.hid (carry hb A1.out)
        replace A2 := Lib.hid (carry hb A2.out)
        replace AB := Lib.hid (bs AB.out hb)
        clear hb r0 f0 r1 f1 r2 f2
        obtain ⟨r0, f0⟩ := rowc A0.out
        obtain ⟨r1, f1⟩ := rowc A1.out
        obtain ⟨r2, f2⟩ := rowc A2.out
        go_wp2_with (fail)
        refine (intValue_i p _).mono ?_
        rintro e w4 ⟨rfl, hb⟩
        replace A0 := Lib.hid (carry hb A0.out)
        replace A1 := Lib.hid (carry hb A1.out)
        replace A2 := Lib.hid (carry hb A2.out)
        replace AB := Lib.hid (bs AB.out hb)
        clear hb r0 f0 r1 f1 r2 f2
        obtain ⟨r0, f0⟩ := rowc A0.out
        obtain ⟨r1, f1⟩ := rowc A1.out
        obtain ⟨r2, f2⟩ := rowc A2.out
        go_wp2_with (fail)
        generalize hwF : (((((w4.setCell ⟨w.heap.size + 1 + 1, 0, none⟩ (.int .i64 2)).setCell ⟨w.heap.size + 1 + 1, 1, none⟩ (.int .i64 p)).setCell ⟨w.heap.size + 1 + 1, 2, none⟩ (.string ⟨#[]⟩)).setCell ⟨w.heap.size + 1 + 1, 3, none⟩ (.int .i64 0)).setCell ⟨w.heap.size + 1 + 1, 4, none⟩ (.slice none 0 0)) = wF
        obtain ⟨rF, oF, bF⟩ := fill5 A2.out hwF
        refine bodyPost_ret (v := .tuple #[vV 2 p ⟨#[]⟩ 0 none 0 0, .int .i64 0]) ?_ rfl ?_
        · simp [results, Tryz.results108, go_sem, rF]
        · exact ⟨rfl, bF _ _ (by omega) AB.out⟩
      · rw [if_neg hq]
        obtain ⟨a0, a1, a2, az, ab⟩ := al3 w #[.int .i64 k, .int .i64 n, .string s, .int .i64 x, .slice A L c] #[.int .i64 k', .int .i64 n', .string s', .int .i64 x', .slice A' L' c'] #[.int .i64 0, .int .i64 0, .string ⟨#[]⟩, .int .i64 0, .slice none 0 0] IV IV IV
        obtain ⟨W0, HW0⟩ : ∃ W, Hid (W = ((w.alloc (.cells #[.int .i64 k, .int .i64 n, .string s, .int .i64 x, .slice A L c] IV)).alloc (.cells #[.int .i64 k', .int .i64 n', .string s', .int .i64 x', .slice A' L' c'] IV)).alloc (.cells #[.int .i64 0, .int .i64 0, .string ⟨#[]⟩, .int .i64 0, .slice none 0 0] IV)) := ⟨_, Lib.hid rfl⟩
        rw [← HW0.out] at a0 a1 a2 az ab
        have A0 := Lib.hid a0
        have A1 := Lib.hid a1
        have A2 := Lib.hid a2
        have AB := Lib.hid ab
        obtain ⟨r0, f0⟩ := rowc a0
        obtain ⟨r1, f1⟩ := rowc a1
        obtain ⟨r2, f2⟩ := rowc a2
        clear a0 a1 a2 az ab
        show Calls _ _ _ _ (GivesQ w (.tuple #[vV 0 0 ⟨#[]⟩ 0 none 0 0, .int .i64 q]))
        go_enter Tryz.func108, Tryz.ntmps108
        go_wp2_with (fail)
        rw [← HW0.out]
        refine (T1.out _ AB.out).mono ?_
        rintro e w1 ⟨rfl, hb⟩
        replace A0 := Lib.hid (carry hb A0.out)
        replace A1 := Lib.hid (carry hb A1.out)
        replace A2 := Lib.hid (carry hb A2.out)
        replace AB := Lib.hid (bs AB.out hb)
        clear hb r0 f0 r1 f1 r2 f2
        obtain ⟨r0, f0⟩ := rowc A0.out
        obtain ⟨r1, f1⟩ := rowc A1.out
        obtain ⟨r2, f2⟩ := rowc A2.out
        go_wp2_with (fail)
        refine (T2.out _ AB.out).mono ?_
        rintro e w2 ⟨rfl, hb⟩
        replace A0 := Lib.hid (carry hb A0.out)
        replace A1 := Lib.hid (carry hb A1.out)
        replace A2 := Lib.hid (carry hb A2.out)
        replace AB := Lib.hid (bs AB.out hb)
        clear hb r0 f0 r1 f1 r2 f2
        obtain ⟨r0, f0⟩ := rowc A0.out
        obtain ⟨r1, f1⟩ := rowc A1.out
        obtain ⟨r2, f2⟩ := rowc A2.out
        go_wp2_with (fail)
        refine (AI.out _).mono ?_
        rintro e w3 ⟨rfl, hb⟩
        replace A0 := Lib.hid (carry hb A0.out)
        replace A1 := Lib.hid (carry hb A1.out)
        replace A2 := Lib.hid (carry hb A2.out)
        replace AB := Lib.hid (bs AB.out hb)
        clear hb r0 f0 r1 f1 r2 f2
        obtain ⟨r0, f0⟩ := rowc A0.out
        obtain ⟨r1, f1⟩ := rowc A1.out
        obtain ⟨r2, f2⟩ := rowc A2.out
        go_wp2_with (fail)
        refine (HNU.out _).mono ?_
        rintro e w4 ⟨rfl, hb⟩
        replace A0 := Lib.hid (carry hb A0.out)
        replace A1 := Lib.hid (carry hb A1.out)
        replace A2 := Lib.hid (carry hb A2.out)
        replace AB := Lib.hid (bs AB.out hb)
        clear hb r0 f0 r1 f1 r2 f2
        obtain ⟨r0, f0⟩ := rowc A0.out
        obtain ⟨r1, f1⟩ := rowc A1.out
        obtain ⟨r2, f2⟩ := rowc A2.out
        go_wp2_with (fail)
        generalize hwF : (((((w4.setCell ⟨w.heap.size + 1 + 1, 0, none⟩ (.int .i64 0)).setCell ⟨w.heap.size + 1 + 1, 1, none⟩ (.int .i64 0)).setCell ⟨w.heap.size + 1 + 1, 2, none⟩ (.string ⟨#[]⟩)).setCell ⟨w.heap.size + 1 + 1, 3, none⟩ (.int .i64 0)).setCell ⟨w.heap.size + 1 + 1, 4, none⟩ (.slice none 0 0)) = wF
        obtain ⟨rF, oF, bF⟩ := fill5 A2.out hwF
        refine bodyPost_ret (v := .tuple #[vV 0 0 ⟨#[]⟩ 0 none 0 0, .int .i64 q]) ?_ rfl ?_
        · simp [results, Tryz.results108, go_sem, rF]
        · exact ⟨rfl, bF _ _ (by omega) AB.out⟩

end Go.Proofs.YtdglmnmalfpipaaGreatDoor.tree

