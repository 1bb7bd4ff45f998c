/-
  GetKey of the model.
  Conditions: the value holds at most 10^9 values.
-/
import Derived.Test.YteoilhbidnnneaaDoorUSGetK
import Derived.Test.YteoilhbidnnneaaDoorVB1
namespace Go.Proofs.YteoilhbidnnneaaDoor.tree
open Go.ChangeShapes Go.WideShapes Go.ChangeAt Go.RowKit
set_option linter.unusedVariables false

theorem getR_cnt (t : Tr) (y : Ky) : cnt (getR t y) ≤ cnt t := by
  obtain ⟨k, n, s, x, ks, vs⟩ := t
  rcases posV_cases k n s x ks vs y with hp | ⟨i, hp, hi, rfl⟩
  · have e1 : getR (.mk k n s x ks vs) y = nullT := by unfold getR; rw [getT_none hp]; rfl
    rw [e1, nullT, cnt_mk', cnt_mk', cnts_nil]
    omega
  · cases ht : vs[i]? with
    | none =>
      have e1 : getR (.mk 4 n s x ks vs) y = nullT := by unfold getR; rw [getT_some hp, ht]; rfl
      rw [e1, nullT, cnt_mk', cnt_mk', cnts_nil]
      omega
    | some t =>
      have e1 : getR (.mk 4 n s x ks vs) y = t := by unfold getR; rw [getT_some hp, ht]; rfl
      have := cnts_lt ht
      rw [e1, cnt_mk']
      omega

set_option maxHeartbeats 800000 in
theorem getKey_s (t : Tr) (v : Value) (y : Ky) (w : World) (S : Nat → Prop) (h : TIn w S t v) (hN : cnt t ≤ 1000000000) : Calls Tryd.prog 12 #[v, kyV y] w (OutS w (getR t y) (getB t y)) := by
  have hc := getR_cnt t y
  have FI := fun w h => l6Get_s t v y w S h
  obtain ⟨T, HTE⟩ : ∃ T, Hid (getR t y = T) := ⟨_, Lib.hid rfl⟩
  obtain ⟨b, HBE⟩ : ∃ b, Hid (getB t y = b) := ⟨_, Lib.hid rfl⟩
  rw [HTE.out] at hc FI ⊢
  rw [HBE.out] at FI ⊢
  have hCT : cnt T ≤ 1000000000 := by omega
  obtain ⟨A, L, c, k, n, s, x, rfl⟩ : ∃ A L c k n s x, v = vV k n s x A L c := by
    cases h with
    | mk k n s x ks vs A cap C => exact ⟨A, _, cap, k, n, s, x, rfl⟩
  have HT := Lib.hid h
  have HF := Lib.hid FI
  have HCT := Lib.hid hCT
  clear h FI hc hN hCT
  obtain ⟨yb, yn, ys⟩ := y
  unfold kyV at HF ⊢
  go_enter Tryd.func12, Tryd.ntmps12
  go_wp2_with (fail)
  obtain ⟨a0, a1, a2, az, ab⟩ := al3 w #[.int .i64 k, .int .i64 n, .string s, .int .i64 x, .slice A L c] #[.bool yb, .int .i64 yn, .string ys] #[.int .i64 0, .int .i64 0, .string ⟨#[]⟩, .int .i64 0, .slice none 0 0] IV IK IV
  refine (HF.out _ (HT.out.below' ab)).mono ?_
  rintro e w1 ⟨u, rfl, hu, hb1⟩
  obtain ⟨k1, n1, s1, x1, ks1, vs1⟩ := T
  obtain ⟨A1, c1, rfl, hk1, hi1⟩ := hu.out
  obtain ⟨L1, HL1⟩ : ∃ L1, Hid (L1 = vs1.length) := ⟨_, Lib.hid rfl⟩
  have A2 := Lib.hid (carry hb1 a2)
  have HB1 := Lib.hid (bs ab hb1)
  have HU := Lib.hid hu
  rw [← HL1.out]
  clear a0 a1 a2 az ab hb1 hu hk1 hi1
  go_wp2_with (fail)
  have CP := l5Copy (.mk k1 n1 s1 x1 ks1 vs1) HCT.out _ S _ (HU.out.below' (b1 w1 (.cells #[.int .i64 k1, .int .i64 n1, .string s1, .int .i64 x1, .slice A1 vs1.length c1] IV)))
  rw [← HL1.out] at CP
  refine CP.mono ?_
  rintro e w2 ⟨u, rfl, hu2, hb2⟩
  obtain ⟨A3, c3, rfl, hk3, hi3⟩ := hu2.out
  have HU2 := Lib.hid hu2
  have HB2 := Lib.hid (bs (bs HB1.out (b1 w1 _)) hb2)
  have A3' := Lib.hid (carry hb2 (keepAlloc A2.out))
  have HZ := Lib.hid (bs (b1 w1 _) hb2).size
  rw [← HL1.out]
  obtain ⟨r, f⟩ := rowc A3'.out
  clear hb2 hu2 hk3 hi3 CP
  go_wp2_with (fail)
  generalize hwF : (((((w2.setCell ⟨w.heap.size + 1 + 1, 0, none⟩ (.int .i64 k1)).setCell ⟨w.heap.size + 1 + 1, 1, none⟩ (.int .i64 n1)).setCell ⟨w.heap.size + 1 + 1, 2, none⟩ (.string s1)).setCell ⟨w.heap.size + 1 + 1, 3, none⟩ (.int .i64 x1)).setCell ⟨w.heap.size + 1 + 1, 4, none⟩ (.slice A3 L1 c3)) = wF
  obtain ⟨rF, oF, bF⟩ := fill5 A3'.out hwF
  refine bodyPost_ret (v := .tuple #[vV k1 n1 s1 x1 A3 L1 c3, .bool b]) ?_ rfl ?_
  · simp [results, Tryd.results12, go_sem, rF]
  · have hz : w.heap.size + 1 + 1 < w1.heap.size := (Array.getElem?_eq_some_iff.1 A2.out).1
    refine ⟨_, by rw [HL1.out], HU2.out.stays (fun q hq => ?_) (fun q hq _ => oF q ?_), bF _ _ (by omega) HB2.out⟩
    · have h1 : (w1.alloc _).heap.size ≤ q := hq
      simp at h1
      omega
    · have h1 : (w1.alloc _).heap.size ≤ q := hq
      simp at h1
      omega

end Go.Proofs.YteoilhbidnnneaaDoor.tree

