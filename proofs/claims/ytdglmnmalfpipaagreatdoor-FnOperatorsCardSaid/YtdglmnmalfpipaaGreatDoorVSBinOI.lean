/-
  BinaryOp and UnaryOp of the project.
  Conditions: the values hold at most 2^20 and two values and 10^9 items and letters; the package variables hold what the program's text lays.
-/
import Derived.Test.YtdglmnmalfpipaaGreatDoorVSBinI
import Derived.Test.YtdglmnmalfpipaaGreatDoorVSUnionI
import Derived.Test.YtdglmnmalfpipaaGreatDoorVB14
namespace Go.Proofs.YtdglmnmalfpipaaGreatDoor.tree
open Go.ChangeShapes Go.WideShapes Go.ChangeAt Go.RowKit ers
set_option linter.unusedVariables false

set_option maxRecDepth 100000 in
set_option maxHeartbeats 4000000 in
theorem binary_i (op : Int) (t u : Tr) (v vu : Value) (w : World) (h : TIn w (Nw 0 w) t v) (h' : TIn w (Nw 0 w) u vu) (hN : cnt t + cnt u ≤ 1048578) (hT : tot t + tot u ≤ 1000000000) (hE : OpE w) : Calls Tryz.prog 37 #[.int .i64 op, v, vu] w (OutPC w (binT op t u) (binC op t u)) := by
  cases hU : isU op t u with
  | false =>
    unfold binT binC
    rw [hU, if_neg (by simp), if_neg (by simp)]
    refine (binFlat_i op t u v vu w h h' (by omega) hE hT hU).mono ?_
    rintro e w' ⟨rfl, hb⟩
    exact ⟨_, fun _ => (0, 0), w.heap.size, rfl, flat_par (fits_fl op t u) _ _ _, Nat.le_refl _, hb⟩
  | true =>
    unfold binT binC
    rw [hU, if_pos rfl, if_pos rfl]
    have UN : Hid (∀ w', Below w.heap.size w w' → Calls Tryz.prog 101 #[v, vu] w' (OutPC w' (uniR t u) (uniC t u))) := Lib.hid (fun w' hb => union_i t u v vu w' (h.nwb hb) (h'.nwb hb) hN hT (hE.1.stays hb))
    obtain ⟨k, n, s, x, ks, vs⟩ := t
    obtain ⟨k', n', s', x', ks', vs'⟩ := u
    obtain ⟨A, c, rfl, -, -⟩ := h.out
    obtain ⟨A', c', rfl, -, -⟩ := h'.out
    unfold isU isA at hU
    obtain ⟨rfl, rfl, rfl⟩ : op = 1 ∧ k = 4 ∧ k' = 4 := by simpa using hU
    have AR := Lib.hid (areArrays 4 n s x A vs.length c 4 n' s' x' A' vs'.length c')
    simp only [decide_true, Bool.and_true] at AR
    obtain ⟨L, HL⟩ : ∃ L, Hid (vs.length = L) := ⟨_, Lib.hid rfl⟩
    obtain ⟨L', HL'⟩ : ∃ L, Hid (vs'.length = L) := ⟨_, Lib.hid rfl⟩
    rw [HL.out, HL'.out] at UN AR ⊢
    obtain ⟨RR, HRR⟩ : ∃ q, Hid (uniR (.mk 4 n s x ks vs) (.mk 4 n' s' x' ks' vs') = q) := ⟨_, Lib.hid rfl⟩
    obtain ⟨cd, HCD⟩ : ∃ q, Hid (uniC (.mk 4 n s x ks vs) (.mk 4 n' s' x' ks' vs') = q) := ⟨_, Lib.hid rfl⟩
    rw [HRR.out, HCD.out] at UN ⊢
    obtain ⟨K, N, Z, X, RK, RV⟩ := RR
    obtain ⟨RL, HRL⟩ : ∃ q, Hid (RV.length = q) := ⟨_, Lib.hid rfl⟩
    clear h h' hN hT hE hU
    obtain ⟨a0, a1, a2, az, ab⟩ := al3 w #[.int .i64 4, .int .i64 n, .string s, .int .i64 x, .slice A L c] #[.int .i64 4, .int .i64 n', .string s', .int .i64 x', .slice A' L' c'] #[.int .i64 0, .int .i64 0, .string ⟨#[]⟩, .int .i64 0, .slice none 0 0] IV IV IV
    obtain ⟨W0, HW0⟩ : ∃ W, Hid (W = ((w.alloc (.cells #[.int .i64 4, .int .i64 n, .string s, .int .i64 x, .slice A L c] IV)).alloc (.cells #[.int .i64 4, .int .i64 n', .string s', .int .i64 x', .slice A' L' c'] IV)).alloc (.cells #[.int .i64 0, .int .i64 0, .string ⟨#[]⟩, .int .i64 0, .slice none 0 0] IV)) := ⟨_, Lib.hid rfl⟩
    rw [← HW0.out] at a0 a1 a2 az ab
    have A0 := Lib.hid a0
    have A1 := Lib.hid a1
    have A2 := Lib.hid a2
    have AB := Lib.hid ab
    obtain ⟨r0, f0⟩ := rowc a0
    obtain ⟨r1, f1⟩ := rowc a1
    obtain ⟨r2, f2⟩ := rowc a2
    clear a0 a1 a2 az ab
    go_enter Tryz.func37, Tryz.ntmps37
    go_wp2_with (fail)
    rw [← HW0.out]
    refine (AR.out _).mono ?_
    rintro e w1 ⟨rfl, hb⟩
    replace A0 := Lib.hid (carry hb A0.out)
    replace A1 := Lib.hid (carry hb A1.out)
    replace A2 := Lib.hid (carry hb A2.out)
    replace AB := Lib.hid (bs AB.out hb)
    clear hb r0 f0 r1 f1 r2 f2
    obtain ⟨r0, f0⟩ := rowc A0.out
    obtain ⟨r1, f1⟩ := rowc A1.out
    obtain ⟨r2, f2⟩ := rowc A2.out
    go_wp2_with (fail)
    refine (UN.out _ AB.out).mono ?_
    rintro e w2 ⟨uu, par, R, rfl, hu, hR, hb⟩
    have hz2 := (Array.getElem?_eq_some_iff.1 A2.out).1
    have hzB := AB.out.size
    replace A2 := Lib.hid (carry hb A2.out)
    replace AB := Lib.hid (bs AB.out hb)
    have HU2 := Lib.hid hu
    obtain ⟨Az, cz, rfl, -⟩ := hu.out
    have HQ := Lib.hid (show w.heap.size ≤ R ∧ w.heap.size + 1 + 1 < R + 1 from ⟨by omega, by omega⟩)
    rw [HRL.out] at HU2 ⊢
    clear hb hu hz2 hzB r0 f0 r1 f1 r2 f2 hR
    obtain ⟨r2, f2⟩ := rowc A2.out
    go_wp2_with (fail)
    generalize hwF : (((((w2.setCell ⟨w.heap.size + 1 + 1, 0, none⟩ (.int .i64 K)).setCell ⟨w.heap.size + 1 + 1, 1, none⟩ (.int .i64 N)).setCell ⟨w.heap.size + 1 + 1, 2, none⟩ (.string Z)).setCell ⟨w.heap.size + 1 + 1, 3, none⟩ (.int .i64 X)).setCell ⟨w.heap.size + 1 + 1, 4, none⟩ (.slice Az RL cz)) = wF
    obtain ⟨rF, oF, bF⟩ := fill5 A2.out hwF
    refine bodyPost_ret (v := .tuple #[vV K N Z X Az RL cz, .int .i64 cd]) ?_ rfl ?_
    · simp [results, Tryz.results37, go_sem, rF]
    · have hq := HQ.out
      exact ⟨_, par, R, rfl, HU2.out.above fun b hb _ => oF b (by simp at hb; omega), hq.1, bF _ _ (by omega) AB.out⟩


end Go.Proofs.YtdglmnmalfpipaaGreatDoor.tree

