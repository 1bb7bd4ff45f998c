/-
  GetKey of the project and of the model.
  Conditions: the value holds at most 2^20 and one items and 10^9 letters.
-/
import Derived.Test.YteoilhbidnnneaaDoorUB1
import Derived.Test.YteoilhbidnnneaaDoorUSCopyV
namespace Go.Proofs.YteoilhbidnnneaaDoor.tree
open Go.ChangeShapes Go.WideShapes Go.ChangeAt Go.RowKit
set_option linter.unusedVariables false

def OutI (w : World) (t : Tr) (b : Bool) (e : Ending) (w' : World) : Prop := ∃ u par R, e = .returned (.tuple #[u, .bool b]) ∧ TPar w' par (R, 0) t u ∧ w.heap.size ≤ R ∧ Below w.heap.size w w'
def OutS (w : World) (t : Tr) (b : Bool) (e : Ending) (w' : World) : Prop := ∃ u, e = .returned (.tuple #[u, .bool b]) ∧ TIn w' (fun q => w.heap.size ≤ q) t u ∧ Below w.heap.size w w'
theorem null_par (w : World) (par : Nat → Nat × Nat) (here : Nat × Nat) : TPar w par here nullT (vV 0 0 ⟨#[]⟩ 0 none 0 0) := TPar.of ⟨by unfold I64; omega, by unfold I64; omega, by unfold I64; omega, Nat.zero_le _⟩ rfl ⟨Nat.le_refl _, by unfold maxLen; simp⟩ (fun h => absurd h (by simp))

set_option maxHeartbeats 800000 in
theorem getKey_i (t : Tr) (v : Value) (y : Ky) (w : World) (lo : Nat) (h : TIn w (Nw lo w) t v) (hN : cnt t ≤ 1048578) (hT : tot t ≤ 1000000000) : Calls Tryd.prog 11 #[v, kyV y] w (OutI w (getR t y) (getB t y)) := by
  obtain ⟨k, n, s, x, ks, vs⟩ := t
  obtain ⟨A, c, rfl, -, hin⟩ := h.out
  have FI := fun w h => findKey_i (.mk k n s x ks vs) (vV k n s x A vs.length c) y w (Nw lo w) h
  obtain ⟨L, HL⟩ : ∃ L, Hid (L = vs.length) := ⟨_, Lib.hid rfl⟩
  have hm : L ≤ maxLen := by rw [HL.out]; exact hin.2.1
  unfold maxLen at hm
  have hkl : Hid (ks.length = L) := Lib.hid (by rw [HL.out]; exact hin.1)
  rw [← HL.out] at h FI ⊢
  have HT := Lib.hid h
  have HI := Lib.hid hin
  have HN := Lib.hid hN
  have HTT := Lib.hid hT
  clear h hin hN hT
  rcases posV_cases k n s x ks vs y with hp | ⟨i, hp, hi, rfl⟩
  · have e1 : getR (.mk k n s x ks vs) y = nullT := by unfold getR; rw [getT_none hp]; rfl
    have e2 : getB (.mk k n s x ks vs) y = false := by unfold getB; rw [getT_none hp]; rfl
    rw [e1, e2]
    rw [hp] at FI
    have HF := Lib.hid FI
    clear FI hp e1 e2
    obtain ⟨yb, yn, ys⟩ := y
    unfold kyV at HF ⊢
    go_enter Tryd.func11, Tryd.ntmps11
    go_wp2_with (fail)
    obtain ⟨a0, a1, a2, az, ab⟩ := al3 w #[.int .i64 k, .int .i64 n, .string s, .int .i64 x, .slice A L c] #[.bool yb, .int .i64 yn, .string ys] #[.int .i64 0, .int .i64 0, .string ⟨#[]⟩, .int .i64 0, .slice none 0 0] IV IK IV
    refine (HF.out _ (HT.out.nwb ab)).mono ?_
    rintro e w1 ⟨rfl, hb1⟩
    have A2 := Lib.hid (carry hb1 a2)
    have HB1 := Lib.hid (bs ab hb1)
    clear a0 a1 a2 az ab hb1
    go_wp2_with (fail)
    refine (nullValue_i _).mono ?_
    rintro e w2 ⟨rfl, hb2⟩
    have HB2w := Lib.hid hb2
    obtain ⟨r, f⟩ := rowc (carry hb2 A2.out)
    have HB2 := Lib.hid (bs HB1.out hb2)
    clear hb2
    go_wp2_with (fail)
    generalize hwF : (((((w2.setCell ⟨w.heap.size + 1 + 1, 0, none⟩ (.int .i64 0)).setCell ⟨w.heap.size + 1 + 1, 1, none⟩ (.int .i64 0)).setCell ⟨w.heap.size + 1 + 1, 2, none⟩ (.string ⟨#[]⟩)).setCell ⟨w.heap.size + 1 + 1, 3, none⟩ (.int .i64 0)).setCell ⟨w.heap.size + 1 + 1, 4, none⟩ (.slice none 0 0)) = wF
    obtain ⟨rF, -, bF⟩ := fill5 (carry HB2w.out A2.out) hwF
    refine bodyPost_ret (v := .tuple #[vV 0 0 ⟨#[]⟩ 0 none 0 0, .bool false]) ?_ rfl ?_
    · simp [results, Tryd.results11, go_sem, rF]
    · exact ⟨_, fun _ => (0, 0), w.heap.size, rfl, null_par _ _ _, Nat.le_refl _, bF _ _ (by omega) HB2.out⟩
  · obtain ⟨t', ht'⟩ : ∃ t', vs[i]? = some t' := ⟨_, List.getElem?_eq_getElem (by rw [← HL.out, ← hkl.out]; exact hi)⟩
    have e1 : getR (.mk 4 n s x ks vs) y = t' := by unfold getR; rw [getT_some hp, ht']; rfl
    have e2 : getB (.mk 4 n s x ks vs) y = true := by unfold getB; rw [getT_some hp, ht']; rfl
    rw [e1, e2]
    rw [hp] at FI
    have hiL : i < L := by rw [← hkl.out]; exact hi
    obtain ⟨a, y1, k1, n1, s1, x1, ks1, vs1, A1, c1, rfl, hS, hky, hvs, htin, hyb, hkb, hin1, hcell⟩ := HI.out.item (i := i) (by rw [← HL.out]; exact hiL)
    rw [ht'] at hvs
    obtain rfl := Option.some.inj hvs
    have hcn := cnts_lt ht'
    have htt := tots_key hky ht'
    have h1 := HN.out
    have h2 := HTT.out
    rw [cnt_mk'] at h1
    rw [tot_mk] at h2
    have CV := fun w' (h : TIn w' (Nw lo w') _ (vV k1 n1 s1 x1 A1 vs1.length c1)) => copyValue (.mk k1 n1 s1 x1 ks1 vs1) (vV k1 n1 s1 x1 A1 vs1.length c1) w' lo h (by omega) (by omega)
    obtain ⟨L1, HL1⟩ : ∃ L1, Hid (L1 = vs1.length) := ⟨_, Lib.hid rfl⟩
    rw [← HL1.out] at CV hcell htin
    have HF := Lib.hid FI
    have HC := Lib.hid hcell
    have HV := Lib.hid htin
    have HCV := Lib.hid CV
    clear FI hp e1 e2 hcell htin CV hcn htt h1 h2 hky hyb hkb hin1 hS ht'
    obtain ⟨yb, yn, ys⟩ := y
    unfold kyV at HF ⊢
    go_enter Tryd.func11, Tryd.ntmps11
    go_wp2_with (fail)
    obtain ⟨a0, a1, a2, az, ab⟩ := al3 w #[.int .i64 4, .int .i64 n, .string s, .int .i64 x, .slice (some a) L c] #[.bool yb, .int .i64 yn, .string ys] #[.int .i64 0, .int .i64 0, .string ⟨#[]⟩, .int .i64 0, .slice none 0 0] IV IK IV
    refine (HF.out _ (HT.out.nwb ab)).mono ?_
    rintro e w1 ⟨rfl, hb1⟩
    have A0 := Lib.hid (carry hb1 a0)
    have A2 := Lib.hid (carry hb1 a2)
    have HB1 := Lib.hid (bs ab hb1)
    obtain ⟨p0, p1, p2, p3, p4, p5, p6, p7⟩ := HC.out.below HB1.out
    have q4 := (rowc A0.out).1 4
    clear a0 a1 a2 az ab hb1
    go_wp2_with (fail)
    refine (HCV.out _ (HV.out.nwb HB1.out)).mono ?_
    rintro e w2 ⟨u, par, R, rfl, hu, hR, hb2⟩
    obtain ⟨A3, c3, rfl, -⟩ := hu.out
    have HU := Lib.hid hu
    have HR := Lib.hid hR
    have HB2w := Lib.hid hb2
    obtain ⟨r, f⟩ := rowc (carry hb2 A2.out)
    have HB2 := Lib.hid (bs HB1.out hb2)
    clear hb2 hu hR p0 p1 p2 p3 p4 p5 p6 p7 q4
    rw [← HL1.out]
    go_wp2_with (fail)
    generalize hwF : (((((w2.setCell ⟨w.heap.size + 1 + 1, 0, none⟩ (.int .i64 k1)).setCell ⟨w.heap.size + 1 + 1, 1, none⟩ (.int .i64 n1)).setCell ⟨w.heap.size + 1 + 1, 2, none⟩ (.string s1)).setCell ⟨w.heap.size + 1 + 1, 3, none⟩ (.int .i64 x1)).setCell ⟨w.heap.size + 1 + 1, 4, none⟩ (.slice A3 L1 c3)) = wF
    obtain ⟨rF, oF, bF⟩ := fill5 (carry HB2w.out A2.out) hwF
    refine bodyPost_ret (v := .tuple #[vV k1 n1 s1 x1 A3 L1 c3, .bool true]) ?_ rfl ?_
    · simp [results, Tryd.results11, go_sem, rF]
    · have hz : w.heap.size + 1 + 1 < w1.heap.size := (Array.getElem?_eq_some_iff.1 A2.out).1
      refine ⟨_, par, R, by rw [HL1.out], ?_, Nat.le_trans HB1.out.size HR.out, bF _ _ (by omega) HB2.out⟩
      exact HU.out.above fun b hb _ => oF b (by have := HR.out; simp at hb; omega)


end Go.Proofs.YteoilhbidnnneaaDoor.tree

