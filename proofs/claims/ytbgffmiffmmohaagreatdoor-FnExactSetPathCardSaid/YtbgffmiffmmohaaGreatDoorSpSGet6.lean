/-
  The model's look at a key.
  Conditions: none.
-/
import Derived.Test.YtbgffmiffmmohaaGreatDoorSpB3
import Derived.Test.YtbgffmiffmmohaaGreatDoorSpSHeld
namespace Go.Proofs.YtbgffmiffmmohaaGreatDoor.tree
open Go.ChangeShapes Go.WideShapes Go.ChangeAt Go.RowKit
set_option linter.unusedVariables false

set_option maxHeartbeats 800000 in
theorem l6Get_s (t : Tr) (v : Value) (y : Ky) (w : World) (S : Nat → Prop) (h : TIn w S t v) : Calls Tryz.prog 82 #[v, kyV y] w (OutT w (getR t y) (getB t y) S) := by
  obtain ⟨k, n, s, x, ks, vs⟩ := t
  obtain ⟨A, c, rfl, -, hin⟩ := h.out
  have FI := fun w h => findV_s (.mk k n s x ks vs) (vV k n s x A vs.length c) y w S h
  obtain ⟨L, HL⟩ : ∃ L, Hid (L = vs.length) := ⟨_, Lib.hid rfl⟩
  have hm : L ≤ maxLen := by rw [HL.out]; exact hin.2.1
  unfold maxLen at hm
  have hkl : Hid (ks.length = L) := Lib.hid (by rw [HL.out]; exact hin.1)
  rw [← HL.out] at h FI ⊢
  have HT := Lib.hid h
  have HI := Lib.hid hin
  clear h hin
  rcases posV_cases k n s x ks vs y with hp | ⟨i, hp, hi, rfl⟩
  · have e1 : getR (.mk k n s x ks vs) y = nullT := by unfold getR; rw [getT_none hp]; rfl
    have e2 : getB (.mk k n s x ks vs) y = false := by unfold getB; rw [getT_none hp]; rfl
    rw [e1, e2]
    rw [hp] at FI
    have HF := Lib.hid FI
    clear FI hp e1 e2
    obtain ⟨yb, yn, ys⟩ := y
    unfold kyV at HF ⊢
    go_enter Tryz.func82, Tryz.ntmps82
    go_wp2_with (fail)
    obtain ⟨a0, a1, a2, az, ab⟩ := al3 w #[.int .i64 k, .int .i64 n, .string s, .int .i64 x, .slice A L c] #[.bool yb, .int .i64 yn, .string ys] #[.int .i64 0, .int .i64 0, .string ⟨#[]⟩, .int .i64 0, .slice none 0 0] IV IK IV
    refine (HF.out _ (HT.out.below' ab)).mono ?_
    rintro e w1 ⟨rfl, hb1⟩
    have A2 := Lib.hid (carry hb1 a2)
    have HB1 := Lib.hid (bs ab hb1)
    obtain ⟨r, f⟩ := rowc A2.out
    clear a0 a1 a2 az ab hb1
    go_wp2_with (fail)
    generalize hwF : (((((w1.setCell ⟨w.heap.size + 1 + 1, 0, none⟩ (.int .i64 0)).setCell ⟨w.heap.size + 1 + 1, 1, none⟩ (.int .i64 0)).setCell ⟨w.heap.size + 1 + 1, 2, none⟩ (.string ⟨#[]⟩)).setCell ⟨w.heap.size + 1 + 1, 3, none⟩ (.int .i64 0)).setCell ⟨w.heap.size + 1 + 1, 4, none⟩ (.slice none 0 0)) = wF
    obtain ⟨rF, -, bF⟩ := fill5 A2.out hwF
    refine bodyPost_ret (v := .tuple #[vV 0 0 ⟨#[]⟩ 0 none 0 0, .bool false]) ?_ rfl ?_
    · simp [results, Tryz.results82, go_sem, rF]
    · exact ⟨_, rfl, flat ⟨by unfold I64; omega, by unfold I64; omega, by unfold I64; omega, Nat.zero_le _⟩ _ _ none 0 (Nat.zero_le _), bF _ _ (by omega) HB1.out⟩
  · obtain ⟨t', ht'⟩ : ∃ t', vs[i]? = some t' := ⟨_, List.getElem?_eq_getElem (by rw [← HL.out, ← hkl.out]; exact hi)⟩
    have e1 : getR (.mk 4 n s x ks vs) y = t' := by unfold getR; rw [getT_some hp, ht']; rfl
    have e2 : getB (.mk 4 n s x ks vs) y = true := by unfold getB; rw [getT_some hp, ht']; rfl
    rw [e1, e2]
    rw [hp] at FI
    have hiL : i < L := by rw [← hkl.out]; exact hi
    obtain ⟨a, y1, k1, n1, s1, x1, ks1, vs1, A1, c1, rfl, hS, hky, hvs, htin, hyb, hkb, hin1, hcell⟩ := HI.out.item (i := i) (by rw [← HL.out]; exact hiL)
    rw [ht'] at hvs
    obtain rfl := Option.some.inj hvs
    obtain ⟨L1, HL1⟩ : ∃ L1, Hid (L1 = vs1.length) := ⟨_, Lib.hid rfl⟩
    rw [← HL1.out] at hcell
    have HF := Lib.hid FI
    have HC := Lib.hid hcell
    have HV := Lib.hid htin
    clear FI hp e1 e2 hcell htin hky hyb hkb hin1 hS ht'
    obtain ⟨yb, yn, ys⟩ := y
    unfold kyV at HF ⊢
    go_enter Tryz.func82, Tryz.ntmps82
    go_wp2_with (fail)
    obtain ⟨a0, a1, a2, az, ab⟩ := al3 w #[.int .i64 4, .int .i64 n, .string s, .int .i64 x, .slice (some a) L c] #[.bool yb, .int .i64 yn, .string ys] #[.int .i64 0, .int .i64 0, .string ⟨#[]⟩, .int .i64 0, .slice none 0 0] IV IK IV
    refine (HF.out _ (HT.out.below' ab)).mono ?_
    rintro e w1 ⟨rfl, hb1⟩
    have A0 := Lib.hid (carry hb1 a0)
    have A2 := Lib.hid (carry hb1 a2)
    have HB1 := Lib.hid (bs ab hb1)
    obtain ⟨p0, p1, p2, p3, p4, p5, p6, p7⟩ := HC.out.below HB1.out
    have q4 := (rowc A0.out).1 4
    obtain ⟨r, f⟩ := rowc A2.out
    clear a0 a1 a2 az ab hb1
    go_wp2_with (fail)
    generalize hwF : (((((w1.setCell ⟨w.heap.size + 1 + 1, 0, none⟩ (.int .i64 k1)).setCell ⟨w.heap.size + 1 + 1, 1, none⟩ (.int .i64 n1)).setCell ⟨w.heap.size + 1 + 1, 2, none⟩ (.string s1)).setCell ⟨w.heap.size + 1 + 1, 3, none⟩ (.int .i64 x1)).setCell ⟨w.heap.size + 1 + 1, 4, none⟩ (.slice A1 L1 c1)) = wF
    obtain ⟨rF, oF, bF⟩ := fill5 A2.out hwF
    refine bodyPost_ret (v := .tuple #[vV k1 n1 s1 x1 A1 L1 c1, .bool true]) ?_ rfl ?_
    · simp [results, Tryz.results82, go_sem, rF]
    · have hb := bF w.heap.size w (by omega) HB1.out
      exact ⟨_, by rw [HL1.out], HV.out.below' hb, hb⟩

end Go.Proofs.YtbgffmiffmmohaaGreatDoor.tree

