/-
  DeletePath answers as its model at every value and path; it leaves its arguments unmodified, and its answer owns its memory.
  Conditions: none.
-/
import Derived.Test.YtdgfpfkhcojgaaaRows
import Derived.Deep.RegionHeld3
import Derived.WalkKit
import Derived.ProofKit
import Derived.OpenShut
import Derived.Test.YtdgfpfkhcojgaaaPBB5
import Derived.Test.YtdgfpfkhcojgaaaPBB6
import Derived.Test.YtdgfpfkhcojgaaaPBB4
import Derived.Test.YtdgfpfkhcojgaaaPBSLawBox
namespace Go.Proofs.Ytdgfpfkhcojgaaa.fnExactDeletePath
open Go.ChangeShapes Go.WideShapes Go.ChangeAt Go.RowKit tree
open Go.ChangeMaps (open_string)
set_option linter.unusedVariables false

theorem own : ownKnob Try.prog.godebug = none := by kernel_rfl

set_option maxHeartbeats 8000000 in
set_option maxRecDepth 100000 in
theorem walk0 (t0 : Tr) (v0 : Value) (ys1 : List Ky) (A1 : Option Addr) (c1 : Nat) (w : World) (hr0 : TIn w (fun _ => True) t0 v0) (hk1 : KIn w ys1 A1) (hc1 : ys1.length ≤ c1 ∧ c1 ≤ maxLen) (R : Tr) 
    (HC : tot t0 + (ys1.length + kst ys1) ≤ 1048576 → itm R ≤ 1048577 ∧ (∀ (w : World) (S : Nat → Prop) (u0 : Value) (A : Option Addr) (c : Nat), TIn w S t0 u0 → KIn w ys1 A → (ys1.length ≤ c ∧ c ≤ maxLen) → Calls Try.prog 16 #[u0, .slice A ys1.length c] w (fun e w' => ∃ u, e = .returned (u) ∧ TIn w' (fun q => w.heap.size ≤ q) R u ∧ Below w.heap.size w w')) ∧ (∀ (w : World) (u0 : Value) (A : Option Addr) (c : Nat), TIn w (Nw 0 w) t0 u0 → KIn w ys1 A → (ys1.length ≤ c ∧ c ≤ maxLen) → Calls Try.prog 17 #[u0, .slice A ys1.length c] w (fun e w' => ∃ u par r, e = .returned (u) ∧ TPar w' par (r, 0) R u ∧ w.heap.size ≤ r ∧ Below w.heap.size w w'))) :
    Calls Try.prog 4 #[v0, .slice A1 (List.length ys1) c1] w (TrueQ w) := by
  obtain ⟨K, N, Z, X, RK, RV⟩ := R
  obtain ⟨RL, HRL⟩ : ∃ L, Hid (L = RV.length) := ⟨_, Lib.hid rfl⟩
  obtain ⟨RT, HRT⟩ : ∃ T, Hid (T = Tr.mk K N Z X RK RV) := ⟨_, Lib.hid rfl⟩
  rw [← HRT.out] at HC
  obtain ⟨k0, n0, s0, x0, ks0, vs0⟩ := t0
  obtain ⟨A0, c0, rfl, -, -⟩ := hr0.out
  obtain ⟨L0, HL0⟩ : ∃ L, Hid (L = vs0.length) := ⟨_, Lib.hid rfl⟩
  obtain ⟨T0, HT0⟩ : ∃ T, Hid (T = Tr.mk k0 n0 s0 x0 ks0 vs0) := ⟨_, Lib.hid rfl⟩
  rw [← HT0.out] at hr0 HC
  rw [← HL0.out] at hr0 ⊢
  have HOK := Lib.hid hk1.ok
  have HSK := Lib.hid (fun w' (h : KIn w' ys1 A1) l h0 h1 => szKeyS ys1 (Nat.le_trans hc1.1 hc1.2) A1 c1 w' h l h0 h1)
  have HTK : Hid (ys1.length ≤ 1048576 → ∀ w', KIn w' ys1 A1 → Calls Try.prog 9 #[.slice A1 ys1.length c1] w' (KsR w' ys1)) := Lib.hid (fun hm w' h => toKeyS ys1 hm A1 c1 w' h)
  have HEK := Lib.hid (fun (hm : ys1.length ≤ 1000000000) => eqKeyS ys1 hm)
  have HMK := Lib.hid (fun m (h0 : 1 ≤ m) h1 => markKeyS ys1 m h0 h1)
  obtain ⟨LY, HLY⟩ : ∃ L, Hid (ys1.length = L) := ⟨_, Lib.hid rfl⟩
  obtain ⟨KY, HKY⟩ : ∃ L, Hid (kst ys1 = L) := ⟨_, Lib.hid rfl⟩
  unfold KsR at HTK
  rw [HLY.out] at HC HSK HTK HEK HMK ⊢
  rw [HKY.out] at HC HSK
  have hLY : LY ≤ 9223372036854775807 := by have := Nat.le_trans hc1.1 hc1.2; unfold maxLen at this; rw [HLY.out] at this; omega
  have HR0 := Lib.hid hr0
  have HK1 := Lib.hid hk1
  have SZ0 := fun w h => szV T0 w (fun _ => True) (vV k0 n0 s0 x0 A0 L0 c0) h
  have HCC := Lib.hid HC
  clear hr0 hk1 HC hc1
  go_enter Try.func4, Try.ntmps4
  go_wp2_with (fail)
  refine (SZ0 _ (HR0.out.below' (b1 _ _)) 1048576 (by omega) (by omega)).mono ?_
  rintro e w0 ⟨r0, rfl, ⟨ha0, hb0, hc0⟩, hw0⟩
  have Ea0 := Lib.hid (carry hw0 (heap_alloc_new w _))
  have HB := Lib.hid (bs (b1 w _) hw0)
  have HQ0 := Lib.hid hc0
  clear hw0 hc0
  by_cases hlt0 : r0 < 0
  · go_wp2_with (fail)
    go_ret
    exact ⟨rfl, HB.out⟩
  go_wp2_with (fail)
  refine (HSK.out _ (HK1.out.below HB.out) r0 (by omega) (by omega)).mono ?_
  rintro e w1 ⟨r1, rfl, ⟨ha1, hb1, hc1⟩, hw1⟩
  replace Ea0 := Lib.hid (carry hw1 Ea0.out)
  replace HB := Lib.hid (bs HB.out hw1)
  have HQ1 := Lib.hid hc1
  clear hw1 hc1 HSK SZ0
  by_cases hlt1 : r1 < 0
  · go_wp2_with (fail)
    go_ret
    exact ⟨rfl, HB.out⟩
  have HSUM : Hid (tot T0 + (LY + KY) ≤ 1048576) := Lib.hid (by have q0 := HQ0.out (by omega); have q1 := HQ1.out (by omega); omega)
  obtain ⟨hit, hcs, hci⟩ := HCC.out HSUM.out
  have HIT := Lib.hid hit
  have HCS := Lib.hid hcs
  have HCI := Lib.hid hci
  have HTK := Lib.hid (HTK.out (by have := HSUM.out; omega))
  have HEK := Lib.hid (HEK.out (by have := HSUM.out; omega))
  obtain ⟨Q, HQ⟩ : ∃ Q : Int, Hid (1 + 7 * (itm RT : Int) = Q) := ⟨_, Lib.hid rfl⟩
  have hQ0 : 1 ≤ Q := by rw [← HQ.out]; omega
  have hQ1 : Hid (1 + 7 * (itm RT : Int) ≤ 100000000000) := Lib.hid (by omega)
  have hT0 : Hid (tot T0 ≤ 1048576) := Lib.hid (by have := HSUM.out; omega)
  have hF0 : Hid (cnt T0 ≤ 1048577) := Lib.hid (by have := cnt_tot T0 HR0.out.fits; have := HSUM.out; omega)
  have hLY2 : LY ≤ 1048576 := by have := HSUM.out; omega
  clear hit hcs hci HCC HQ0 HQ1
  have za00 : w1.cell? ⟨w.heap.size, 0, none⟩ = some (.int .i64 k0) := (rowc Ea0.out).1 0
  have za01 : w1.cell? ⟨w.heap.size, 1, none⟩ = some (.int .i64 n0) := (rowc Ea0.out).1 1
  have za02 : w1.cell? ⟨w.heap.size, 2, none⟩ = some (.string s0) := (rowc Ea0.out).1 2
  have za03 : w1.cell? ⟨w.heap.size, 3, none⟩ = some (.int .i64 x0) := (rowc Ea0.out).1 3
  have za04 : w1.cell? ⟨w.heap.size, 4, none⟩ = some (.slice A0 L0 c0) := (rowc Ea0.out).1 4
  go_wp2_with (fail)
  refine (cps T0 hT0.out _ _ _ (HR0.out.below' HB.out)).mono ?_
  rintro e w2 ⟨v, rfl, hv, hb⟩
  obtain ⟨A2, c2, rfl, -, -⟩ := TIn.out (HT0.out ▸ hv)
  have hx := (show TIn w2 (Nw w1.heap.size w2) T0 (vV k0 n0 s0 x0 A2 L0 c2) by rw [HL0.out, HT0.out]; exact (HT0.out ▸ hv))
  rw [← HL0.out]
  replace Ea0 := Lib.hid (carry hb Ea0.out)
  replace HB := Lib.hid (bs HB.out hb)
  have hsz := hb.size
  clear hv hb
  clear za00 za01 za02 za03 za04
  have HV := Lib.hid hx
  clear hx hsz
  go_wp2_with (fail)
  refine (HTK.out _ (HK1.out.below HB.out)).mono ?_
  rintro e w3 ⟨g3, rfl, hkr, hg3, hb⟩
  replace Ea0 := Lib.hid (carry hb Ea0.out)
  replace HV := Lib.hid (HV.out.below' hb)
  replace HB := Lib.hid (bs HB.out hb)
  clear hb
  obtain ⟨Ak, ck, ek, -, hki⟩ := KRow.kin hkr HOK.out
  obtain ⟨rfl, -⟩ : some ⟨g3, 0, none⟩ = Ak ∧ LY = ck := by rw [HLY.out] at ek; simpa using ek
  clear ek
  go_wp2_with (fail)
  refine (HCS.out _ _ _ _ _ HV.out hki ⟨Nat.le_refl _, by unfold maxLen; omega⟩).mono ?_
  rintro e w4 ⟨u, rfl, hv, hb⟩
  obtain ⟨Am, cm, rfl, -, -⟩ := TIn.out (HRT.out ▸ hv)
  have HMM := Lib.hid (show TIn w4 _ RT (vV K N Z X Am RL cm) by rw [HRL.out, HRT.out]; exact (HRT.out ▸ hv))
  rw [← HRL.out]
  replace Ea0 := Lib.hid (carry hb Ea0.out)
  replace HB := Lib.hid (bs HB.out hb)
  clear hb hv hki hkr hg3 HV
  have hsa : w.heap.size < w4.heap.size := (Array.getElem?_eq_some_iff.1 Ea0.out).1
  go_upto_region 9 with fail
  obtain ⟨Nm, HNm⟩ : ∃ N, Hid (w4.heap.size = N) := ⟨_, Lib.hid rfl⟩
  generalize hwn : w4.alloc (.cells #[.int .i64 K, .int .i64 N, .string Z, .int .i64 X, .slice Am RL cm] IV) = w5
  have hbx : Below w4.heap.size w4 w5 := hwn ▸ b1 _ _
  have Em : Hid (w5.heap[Nm]? = some (.cells #[.int .i64 K, .int .i64 N, .string Z, .int .i64 X, .slice Am RL cm] IV (0, 0))) := Lib.hid (by rw [← hwn, ← HNm.out]; exact heap_alloc_new _ _)
  rw [HNm.out]
  replace Ea0 := Lib.hid (carry hbx Ea0.out)
  replace HB := Lib.hid (bs HB.out hbx)
  have HM := Lib.hid (HMM.out.lt'.below' hbx)
  obtain ⟨lo, HLO⟩ : ∃ q, Hid (w5.heap.size = q) := ⟨_, Lib.hid rfl⟩
  replace HM : Hid (TIn w5 (fun b => b < Nm) RT (vV K N Z X Am RL cm)) := Lib.hid (by rw [← HNm.out]; exact HM.out)
  have HPa : Hid (w.heap.size < Nm) := Lib.hid (by rw [← HNm.out]; exact hsa)
  have HPm : Hid (Nm < lo) := Lib.hid (by rw [← HLO.out]; exact (Array.getElem?_eq_some_iff.1 Em.out).1)
  clear hwn hbx HMM hsa
  have za00 : w5.cell? ⟨w.heap.size, 0, none⟩ = some (.int .i64 k0) := (rowc Ea0.out).1 0
  have za01 : w5.cell? ⟨w.heap.size, 1, none⟩ = some (.int .i64 n0) := (rowc Ea0.out).1 1
  have za02 : w5.cell? ⟨w.heap.size, 2, none⟩ = some (.string s0) := (rowc Ea0.out).1 2
  have za03 : w5.cell? ⟨w.heap.size, 3, none⟩ = some (.int .i64 x0) := (rowc Ea0.out).1 3
  have za04 : w5.cell? ⟨w.heap.size, 4, none⟩ = some (.slice A0 L0 c0) := (rowc Ea0.out).1 4
  go_wp2_with (fail)
  refine (cps T0 hT0.out _ _ _ (HR0.out.below' HB.out)).mono ?_
  rintro e w6 ⟨v, rfl, hv, hb⟩
  obtain ⟨Ax, cx, rfl, -, -⟩ := TIn.out (HT0.out ▸ hv)
  have hx := (show TIn w6 (Nw w5.heap.size w6) T0 (vV k0 n0 s0 x0 Ax L0 cx) by rw [HL0.out, HT0.out]; exact (HT0.out ▸ hv))
  rw [← HL0.out]
  replace Ea0 := Lib.hid (carry hb Ea0.out)
  replace Em := Lib.hid (carry hb Em.out)
  replace HM := Lib.hid (HM.out.below' hb)
  replace HB := Lib.hid (bs HB.out hb)
  have hsz := hb.size
  clear hv hb
  clear za00 za01 za02 za03 za04
  have HX := Lib.hid hx.rgp
  rw [HLO.out] at HX hsz
  clear hx
  go_upto_region 10 with fail
  obtain ⟨Nb, HNb⟩ : ∃ N, Hid (w6.heap.size = N) := ⟨_, Lib.hid rfl⟩
  generalize hwn : w6.alloc (.cells #[.int .i64 k0, .int .i64 n0, .string s0, .int .i64 x0, .slice Ax L0 cx] IV) = w7
  have hbx : Below w6.heap.size w6 w7 := hwn ▸ b1 _ _
  have Eb : Hid (w7.heap[Nb]? = some (.cells #[.int .i64 k0, .int .i64 n0, .string s0, .int .i64 x0, .slice Ax L0 cx] IV (0, 0))) := Lib.hid (by rw [← hwn, ← HNb.out]; exact heap_alloc_new _ _)
  rw [HNb.out]
  replace Ea0 := Lib.hid (carry hbx Ea0.out)
  replace Em := Lib.hid (carry hbx Em.out)
  replace HM := Lib.hid (HM.out.below' hbx)
  replace HX := Lib.hid (HX.out.rgb hbx)
  replace HB := Lib.hid (bs HB.out hbx)
  rw [HNb.out] at HX hsz
  have HPx : Hid (lo ≤ Nb) := Lib.hid hsz
  have HPb : Hid (Nb < w7.heap.size) := Lib.hid (Array.getElem?_eq_some_iff.1 Eb.out).1
  clear hwn hbx hsz
  go_wp2_with (fail)
  refine (HTK.out _ (HK1.out.below HB.out)).mono ?_
  rintro e w8 ⟨gy, rfl, hkr, hgy, hb⟩
  replace Ea0 := Lib.hid (carry hb Ea0.out)
  replace Em := Lib.hid (carry hb Em.out)
  replace Eb := Lib.hid (carry hb Eb.out)
  replace HM := Lib.hid (HM.out.below' hb)
  replace HX := Lib.hid (HX.out.rgb hb)
  replace HB := Lib.hid (bs HB.out hb)
  clear hb
  have HKR := Lib.hid hkr
  have HPy : Hid (Nb < gy) := Lib.hid (Nat.lt_of_lt_of_le HPb.out hgy)
  clear hkr hgy HPb
  obtain ⟨Ak, ck, ek, -, hki⟩ := KRow.kin HKR.out HOK.out
  obtain ⟨rfl, -⟩ : some ⟨gy, 0, none⟩ = Ak ∧ LY = ck := by rw [HLY.out] at ek; simpa using ek
  clear ek
  have zb0 : w8.cell? ⟨Nb, 0, none⟩ = some (.int .i64 k0) := (rowc Eb.out).1 0
  have zb1 : w8.cell? ⟨Nb, 1, none⟩ = some (.int .i64 n0) := (rowc Eb.out).1 1
  have zb2 : w8.cell? ⟨Nb, 2, none⟩ = some (.string s0) := (rowc Eb.out).1 2
  have zb3 : w8.cell? ⟨Nb, 3, none⟩ = some (.int .i64 x0) := (rowc Eb.out).1 3
  have zb4 : w8.cell? ⟨Nb, 4, none⟩ = some (.slice Ax L0 cx) := (rowc Eb.out).1 4
  go_wp2_with (fail)
  obtain ⟨W1, HW1⟩ : ∃ q, Hid (w8.heap.size = q) := ⟨_, Lib.hid rfl⟩
  have HPk : Hid (gy < W1) := Lib.hid (by rw [← HW1.out]; exact (HKR.out.own gy rfl).2)
  refine (HCI.out _ _ _ _ HX.out.rgn hki ⟨Nat.le_refl _, by unfold maxLen; omega⟩).mono ?_
  rintro e w9 ⟨u, par, r, rfl, hv, hr, hb⟩
  obtain ⟨Ag, cg, rfl, -⟩ := TPar.out (HRT.out ▸ hv)
  have HGG := Lib.hid (show TPar w9 par (r, 0) RT (vV K N Z X Ag RL cg) by rw [HRL.out, HRT.out]; exact (HRT.out ▸ hv))
  rw [← HRL.out]
  replace Ea0 := Lib.hid (carry hb Ea0.out)
  replace Em := Lib.hid (carry hb Em.out)
  replace Eb := Lib.hid (carry hb Eb.out)
  replace HM := Lib.hid (HM.out.below' hb)
  replace HX := Lib.hid (HX.out.rgb hb)
  replace HKR := Lib.hid (HKR.out.below hb)
  replace HB := Lib.hid (bs HB.out hb)
  rw [HW1.out] at hr
  have HRQ := Lib.hid hr
  have hsz := hb.size
  rw [HW1.out] at hsz
  clear hb hv hr hki
  clear zb0 zb1 zb2 zb3 zb4
  obtain ⟨pg, hp2, htg⟩ := HGG.out.tight
  go_upto_region 12 with fail
  obtain ⟨Ng, HNg⟩ : ∃ N, Hid (w9.heap.size = N) := ⟨_, Lib.hid rfl⟩
  generalize hwn : w9.alloc (.cells #[.int .i64 K, .int .i64 N, .string Z, .int .i64 X, .slice Ag RL cg] IV) = w10
  have hbx : Below w9.heap.size w9 w10 := hwn ▸ b1 _ _
  have Eg : Hid (w10.heap[Ng]? = some (.cells #[.int .i64 K, .int .i64 N, .string Z, .int .i64 X, .slice Ag RL cg] IV (0, 0))) := Lib.hid (by rw [← hwn, ← HNg.out]; exact heap_alloc_new _ _)
  rw [HNg.out]
  replace Ea0 := Lib.hid (carry hbx Ea0.out)
  replace Em := Lib.hid (carry hbx Em.out)
  replace Eb := Lib.hid (carry hbx Eb.out)
  replace HM := Lib.hid (HM.out.below' hbx)
  replace HX := Lib.hid (HX.out.rgb hbx)
  replace HKR := Lib.hid (HKR.out.below hbx)
  replace HB := Lib.hid (bs HB.out hbx)
  rw [HNg.out] at htg hsz
  have HG := Lib.hid (hp2.above fun b _ hl => hbx.block b hl)
  have HTG := Lib.hid htg
  have HSZ := Lib.hid hsz
  clear hwn hbx hp2 htg hsz HGG
  have zg0 : w10.cell? ⟨Ng, 0, none⟩ = some (.int .i64 K) := (rowc Eg.out).1 0
  have zg1 : w10.cell? ⟨Ng, 1, none⟩ = some (.int .i64 N) := (rowc Eg.out).1 1
  have zg2 : w10.cell? ⟨Ng, 2, none⟩ = some (.string Z) := (rowc Eg.out).1 2
  have zg3 : w10.cell? ⟨Ng, 3, none⟩ = some (.int .i64 X) := (rowc Eg.out).1 3
  have zg4 : w10.cell? ⟨Ng, 4, none⟩ = some (.slice Ag RL cg) := (rowc Eg.out).1 4
  have zm0 : w10.cell? ⟨Nm, 0, none⟩ = some (.int .i64 K) := (rowc Em.out).1 0
  have zm1 : w10.cell? ⟨Nm, 1, none⟩ = some (.int .i64 N) := (rowc Em.out).1 1
  have zm2 : w10.cell? ⟨Nm, 2, none⟩ = some (.string Z) := (rowc Em.out).1 2
  have zm3 : w10.cell? ⟨Nm, 3, none⟩ = some (.int .i64 X) := (rowc Em.out).1 3
  have zm4 : w10.cell? ⟨Nm, 4, none⟩ = some (.slice Am RL cm) := (rowc Em.out).1 4
  go_wp2_with (fail)
  refine (eqV RT _ _ _ _ _ HG.out.tin HM.out).mono ?_
  rintro e w11 ⟨rfl, hb⟩
  replace Ea0 := Lib.hid (carry hb Ea0.out)
  replace Em := Lib.hid (carry hb Em.out)
  replace Eb := Lib.hid (carry hb Eb.out)
  replace Eg := Lib.hid (carry hb Eg.out)
  replace HM := Lib.hid (HM.out.below' hb)
  replace HX := Lib.hid (HX.out.rgb hb)
  replace HKR := Lib.hid (HKR.out.below hb)
  replace HG := Lib.hid (HG.out.above fun q _ hl => Below.block hb q hl)
  replace HB := Lib.hid (bs HB.out hb)
  clear hb
  clear zg0 zg1 zg2 zg3 zg4 zm0 zm1 zm2 zm3 zm4
  have zb0 : w11.cell? ⟨Nb, 0, none⟩ = some (.int .i64 k0) := (rowc Eb.out).1 0
  have zb1 : w11.cell? ⟨Nb, 1, none⟩ = some (.int .i64 n0) := (rowc Eb.out).1 1
  have zb2 : w11.cell? ⟨Nb, 2, none⟩ = some (.string s0) := (rowc Eb.out).1 2
  have zb3 : w11.cell? ⟨Nb, 3, none⟩ = some (.int .i64 x0) := (rowc Eb.out).1 3
  have zb4 : w11.cell? ⟨Nb, 4, none⟩ = some (.slice Ax L0 cx) := (rowc Eb.out).1 4
  have za00 : w11.cell? ⟨w.heap.size, 0, none⟩ = some (.int .i64 k0) := (rowc Ea0.out).1 0
  have za01 : w11.cell? ⟨w.heap.size, 1, none⟩ = some (.int .i64 n0) := (rowc Ea0.out).1 1
  have za02 : w11.cell? ⟨w.heap.size, 2, none⟩ = some (.string s0) := (rowc Ea0.out).1 2
  have za03 : w11.cell? ⟨w.heap.size, 3, none⟩ = some (.int .i64 x0) := (rowc Ea0.out).1 3
  have za04 : w11.cell? ⟨w.heap.size, 4, none⟩ = some (.slice A0 L0 c0) := (rowc Ea0.out).1 4
  go_wp2_with (fail)
  go_region_held3 (fun w' => w'.cell? ⟨Nb, 0, none⟩ = some (.int .i64 k0) ∧ w'.cell? ⟨Nb, 1, none⟩ = some (.int .i64 n0) ∧ w'.cell? ⟨Nb, 2, none⟩ = some (.string s0) ∧ w'.cell? ⟨Nb, 3, none⟩ = some (.int .i64 x0) ∧ w'.cell? ⟨Nb, 4, none⟩ = some (.slice Ax L0 cx) ∧ w'.cell? ⟨w.heap.size, 0, none⟩ = some (.int .i64 k0) ∧ w'.cell? ⟨w.heap.size, 1, none⟩ = some (.int .i64 n0) ∧ w'.cell? ⟨w.heap.size, 2, none⟩ = some (.string s0) ∧ w'.cell? ⟨w.heap.size, 3, none⟩ = some (.int .i64 x0) ∧ w'.cell? ⟨w.heap.size, 4, none⟩ = some (.slice A0 L0 c0)) (go_keep) (first
    | (go_at_call 8; refine (cps T0 hT0.out _ _ _ (HR0.out.below' (by first | exact HB.out | exact HB.out.trans ((Below.refl _ _).drew)))).mono ?_
       rintro e w12 ⟨v, rfl, hv, hb⟩
       have hbx : Below w11.heap.size w11 w12 := by first | exact hb | exact bs ((Below.refl _ _).drew) hb
       obtain ⟨Aq, cq, rfl, -, -⟩ := TIn.out (HT0.out ▸ hv)
       have HV := Lib.hid (show TIn w12 _ T0 (vV k0 n0 s0 x0 Aq L0 cq) by rw [HL0.out, HT0.out]; exact (HT0.out ▸ hv))
       rw [← HL0.out]
       clear hv
       replace Ea0 := Lib.hid (carry hbx Ea0.out)
       replace Em := Lib.hid (carry hbx Em.out)
       replace Eb := Lib.hid (carry hbx Eb.out)
       replace Eg := Lib.hid (carry hbx Eg.out)
       replace HM := Lib.hid (HM.out.below' hbx)
       replace HX := Lib.hid (HX.out.rgb hbx)
       replace HKR := Lib.hid (HKR.out.below hbx)
       replace HG := Lib.hid (HG.out.above fun q _ hl => Below.block hbx q hl)
       replace HB := Lib.hid (bs HB.out hbx)
       have zb0 : w12.cell? ⟨Nb, 0, none⟩ = some (.int .i64 k0) := (rowc Eb.out).1 0
       have zb1 : w12.cell? ⟨Nb, 1, none⟩ = some (.int .i64 n0) := (rowc Eb.out).1 1
       have zb2 : w12.cell? ⟨Nb, 2, none⟩ = some (.string s0) := (rowc Eb.out).1 2
       have zb3 : w12.cell? ⟨Nb, 3, none⟩ = some (.int .i64 x0) := (rowc Eb.out).1 3
       have zb4 : w12.cell? ⟨Nb, 4, none⟩ = some (.slice Ax L0 cx) := (rowc Eb.out).1 4
       have za00 : w12.cell? ⟨w.heap.size, 0, none⟩ = some (.int .i64 k0) := (rowc Ea0.out).1 0
       have za01 : w12.cell? ⟨w.heap.size, 1, none⟩ = some (.int .i64 n0) := (rowc Ea0.out).1 1
       have za02 : w12.cell? ⟨w.heap.size, 2, none⟩ = some (.string s0) := (rowc Ea0.out).1 2
       have za03 : w12.cell? ⟨w.heap.size, 3, none⟩ = some (.int .i64 x0) := (rowc Ea0.out).1 3
       have za04 : w12.cell? ⟨w.heap.size, 4, none⟩ = some (.slice A0 L0 c0) := (rowc Ea0.out).1 4
       clear hb hbx)
    | (go_at_call 11; refine (eqV T0 _ _ _ _ _ (by first | with_reducible exact HX.out | exact HX.out.below' ((Below.refl _ _).drew)) (by first | with_reducible exact HV.out | exact HV.out.below' ((Below.refl _ _).drew))).mono ?_
       rintro e w13 ⟨rfl, hb⟩
       have hbx : Below w12.heap.size w12 w13 := by first | exact hb | exact bs ((Below.refl _ _).drew) hb
       skip
       replace Ea0 := Lib.hid (carry hbx Ea0.out)
       replace Em := Lib.hid (carry hbx Em.out)
       replace Eb := Lib.hid (carry hbx Eb.out)
       replace Eg := Lib.hid (carry hbx Eg.out)
       replace HM := Lib.hid (HM.out.below' hbx)
       replace HX := Lib.hid (HX.out.rgb hbx)
       replace HKR := Lib.hid (HKR.out.below hbx)
       replace HG := Lib.hid (HG.out.above fun q _ hl => Below.block hbx q hl)
       replace HV := Lib.hid (HV.out.below' hbx)
       replace HB := Lib.hid (bs HB.out hbx)
       have zb0 : w13.cell? ⟨Nb, 0, none⟩ = some (.int .i64 k0) := (rowc Eb.out).1 0
       have zb1 : w13.cell? ⟨Nb, 1, none⟩ = some (.int .i64 n0) := (rowc Eb.out).1 1
       have zb2 : w13.cell? ⟨Nb, 2, none⟩ = some (.string s0) := (rowc Eb.out).1 2
       have zb3 : w13.cell? ⟨Nb, 3, none⟩ = some (.int .i64 x0) := (rowc Eb.out).1 3
       have zb4 : w13.cell? ⟨Nb, 4, none⟩ = some (.slice Ax L0 cx) := (rowc Eb.out).1 4
       have za00 : w13.cell? ⟨w.heap.size, 0, none⟩ = some (.int .i64 k0) := (rowc Ea0.out).1 0
       have za01 : w13.cell? ⟨w.heap.size, 1, none⟩ = some (.int .i64 n0) := (rowc Ea0.out).1 1
       have za02 : w13.cell? ⟨w.heap.size, 2, none⟩ = some (.string s0) := (rowc Ea0.out).1 2
       have za03 : w13.cell? ⟨w.heap.size, 3, none⟩ = some (.int .i64 x0) := (rowc Ea0.out).1 3
       have za04 : w13.cell? ⟨w.heap.size, 4, none⟩ = some (.slice A0 L0 c0) := (rowc Ea0.out).1 4
       clear hb hbx))
  clear HV
  clear zb0 zb1 zb2 zb3 zb4 za00 za01 za02 za03 za04
  go_wp2_with (fail)
  refine (HTK.out _ (HK1.out.below HB.out)).mono ?_
  rintro e w14 ⟨gq, rfl, hkr, hgq, hb⟩
  replace Ea0 := Lib.hid (carry hb Ea0.out)
  replace Em := Lib.hid (carry hb Em.out)
  replace Eb := Lib.hid (carry hb Eb.out)
  replace Eg := Lib.hid (carry hb Eg.out)
  replace HM := Lib.hid (HM.out.below' hb)
  replace HX := Lib.hid (HX.out.rgb hb)
  replace HKR := Lib.hid (HKR.out.below hb)
  replace HG := Lib.hid (HG.out.above fun q _ hl => Below.block hb q hl)
  replace HB := Lib.hid (bs HB.out hb)
  clear hb
  have HK2 := Lib.hid hkr
  clear hkr hgq
  go_wp2_with (fail)
  refine (HEK.out _ _ _ _ _ HKR.out HK2.out).mono ?_
  rintro e w15 ⟨rfl, hb⟩
  replace Ea0 := Lib.hid (carry hb Ea0.out)
  replace Em := Lib.hid (carry hb Em.out)
  replace Eb := Lib.hid (carry hb Eb.out)
  replace Eg := Lib.hid (carry hb Eg.out)
  replace HM := Lib.hid (HM.out.below' hb)
  replace HX := Lib.hid (HX.out.rgb hb)
  replace HKR := Lib.hid (HKR.out.below hb)
  replace HG := Lib.hid (HG.out.above fun q _ hl => Below.block hb q hl)
  replace HK2 := Lib.hid (HK2.out.below hb)
  replace HB := Lib.hid (bs HB.out hb)
  clear hb HK2
  have zb0 : w15.cell? ⟨Nb, 0, none⟩ = some (.int .i64 k0) := (rowc Eb.out).1 0
  have zb1 : w15.cell? ⟨Nb, 1, none⟩ = some (.int .i64 n0) := (rowc Eb.out).1 1
  have zb2 : w15.cell? ⟨Nb, 2, none⟩ = some (.string s0) := (rowc Eb.out).1 2
  have zb3 : w15.cell? ⟨Nb, 3, none⟩ = some (.int .i64 x0) := (rowc Eb.out).1 3
  have zb4 : w15.cell? ⟨Nb, 4, none⟩ = some (.slice Ax L0 cx) := (rowc Eb.out).1 4
  go_wp2_with (fail)
  refine (markArg2 T0 _ _ (by omega) (by have := hF0.out; omega) _ lo Nb HX.out).mono ?_
  rintro e w16 ⟨p0, rfl, hp0, hq0, hf⟩
  replace hq0 : p0 ≤ 8000000 := by have := hF0.out; omega
  clear zb0 zb1 zb2 zb3 zb4
  replace Ea0 := Lib.hid ((hf.block _ (Array.getElem?_eq_some_iff.1 Ea0.out).1 (by unfold Rg; have o0 := HPa.out; have o1 := HPm.out; have o2 := HPx.out; have o3 := HPy.out; have o4 := HPk.out; have o5 := HRQ.out; have o6 := HSZ.out; omega)).trans Ea0.out)
  replace Em := Lib.hid ((hf.block _ (Array.getElem?_eq_some_iff.1 Em.out).1 (by unfold Rg; have o0 := HPa.out; have o1 := HPm.out; have o2 := HPx.out; have o3 := HPy.out; have o4 := HPk.out; have o5 := HRQ.out; have o6 := HSZ.out; omega)).trans Em.out)
  replace Eb := Lib.hid ((hf.block _ (Array.getElem?_eq_some_iff.1 Eb.out).1 (by unfold Rg; have o0 := HPa.out; have o1 := HPm.out; have o2 := HPx.out; have o3 := HPy.out; have o4 := HPk.out; have o5 := HRQ.out; have o6 := HSZ.out; omega)).trans Eb.out)
  replace Eg := Lib.hid ((hf.block _ (Array.getElem?_eq_some_iff.1 Eg.out).1 (by unfold Rg; have o0 := HPa.out; have o1 := HPm.out; have o2 := HPx.out; have o3 := HPy.out; have o4 := HPk.out; have o5 := HRQ.out; have o6 := HSZ.out; omega)).trans Eg.out)
  replace HM := Lib.hid (HM.out.stays (fun _ h => h) (fun b hb hl => hf.block b hl (by unfold Rg; have hb' : b < Nm := hb; have o0 := HPa.out; have o1 := HPm.out; have o2 := HPx.out; have o3 := HPy.out; have o4 := HPk.out; have o5 := HRQ.out; have o6 := HSZ.out; omega)))
  replace HB := Lib.hid (Below.fr HB.out (Nat.le_refl _) hf (fun b hb => by unfold Rg at hb; have o0 := HPa.out; have o1 := HPm.out; have o2 := HPx.out; have o3 := HPy.out; have o4 := HPk.out; have o5 := HRQ.out; have o6 := HSZ.out; omega))
  replace HKR := Lib.hid (HKR.out.blk (fun b e _ hl => hf.block b hl (by have e2 : gy = b := (by simpa [Value.ownBlock] using e); subst e2; unfold Rg; have o0 := HPa.out; have o1 := HPm.out; have o2 := HPx.out; have o3 := HPy.out; have o4 := HPk.out; have o5 := HRQ.out; have o6 := HSZ.out; omega)))
  replace HG := Lib.hid (HG.out.above fun b hb hl => hf.block b hl (by unfold Rg; simp at hb; have o0 := HPa.out; have o1 := HPm.out; have o2 := HPx.out; have o3 := HPy.out; have o4 := HPk.out; have o5 := HRQ.out; have o6 := HSZ.out; omega))
  clear hf HX
  go_wp2_with (fail)
  refine (HMK.out p0 (by omega) (by omega) _ _ _ HKR.out).mono ?_
  rintro e w17 ⟨rfl, -, hf⟩
  replace Ea0 := Lib.hid ((hf.block _ (Array.getElem?_eq_some_iff.1 Ea0.out).1 (fun e => absurd (show gy = w.heap.size by simpa [Value.ownBlock] using e) (by have o0 := HPa.out; have o1 := HPm.out; have o2 := HPx.out; have o3 := HPy.out; have o4 := HPk.out; have o5 := HRQ.out; have o6 := HSZ.out; omega))).trans Ea0.out)
  replace Em := Lib.hid ((hf.block _ (Array.getElem?_eq_some_iff.1 Em.out).1 (fun e => absurd (show gy = Nm by simpa [Value.ownBlock] using e) (by have o0 := HPa.out; have o1 := HPm.out; have o2 := HPx.out; have o3 := HPy.out; have o4 := HPk.out; have o5 := HRQ.out; have o6 := HSZ.out; omega))).trans Em.out)
  replace Eb := Lib.hid ((hf.block _ (Array.getElem?_eq_some_iff.1 Eb.out).1 (fun e => absurd (show gy = Nb by simpa [Value.ownBlock] using e) (by have o0 := HPa.out; have o1 := HPm.out; have o2 := HPx.out; have o3 := HPy.out; have o4 := HPk.out; have o5 := HRQ.out; have o6 := HSZ.out; omega))).trans Eb.out)
  replace Eg := Lib.hid ((hf.block _ (Array.getElem?_eq_some_iff.1 Eg.out).1 (fun e => absurd (show gy = Ng by simpa [Value.ownBlock] using e) (by have o0 := HPa.out; have o1 := HPm.out; have o2 := HPx.out; have o3 := HPy.out; have o4 := HPk.out; have o5 := HRQ.out; have o6 := HSZ.out; omega))).trans Eg.out)
  replace HM := Lib.hid (HM.out.stays (fun _ h => h) (fun b hb hl => hf.block b hl (fun e => absurd (show gy = b by simpa [Value.ownBlock] using e) (by have hb' : b < Nm := hb; have o0 := HPa.out; have o1 := HPm.out; have o2 := HPx.out; have o3 := HPy.out; have o4 := HPk.out; have o5 := HRQ.out; have o6 := HSZ.out; omega))))
  replace HB := Lib.hid (Below.fr HB.out (Nat.le_refl _) hf (fun b e => by have e2 : gy = b := (by simpa [Value.ownBlock] using e); have o0 := HPa.out; have o1 := HPm.out; have o2 := HPx.out; have o3 := HPy.out; have o4 := HPk.out; have o5 := HRQ.out; have o6 := HSZ.out; omega))
  replace HG := Lib.hid (HG.out.above fun b hb hl => hf.block b hl (fun e => absurd (show gy = b by simpa [Value.ownBlock] using e) (by simp at hb; have o0 := HPa.out; have o1 := HPm.out; have o2 := HPx.out; have o3 := HPy.out; have o4 := HPk.out; have o5 := HRQ.out; have o6 := HSZ.out; omega)))
  have hpq : ¬ (p0 + 3 * (LY : Int) < 0) := by omega
  obtain ⟨p1, HP1⟩ : ∃ q : Int, Hid (p0 + 3 * (LY : Int) = q) := ⟨_, Lib.hid rfl⟩
  rw [HP1.out] at hpq ⊢
  clear hf HKR
  have zg0 : w17.cell? ⟨Ng, 0, none⟩ = some (.int .i64 K) := (rowc Eg.out).1 0
  have zg1 : w17.cell? ⟨Ng, 1, none⟩ = some (.int .i64 N) := (rowc Eg.out).1 1
  have zg2 : w17.cell? ⟨Ng, 2, none⟩ = some (.string Z) := (rowc Eg.out).1 2
  have zg3 : w17.cell? ⟨Ng, 3, none⟩ = some (.int .i64 X) := (rowc Eg.out).1 3
  have zg4 : w17.cell? ⟨Ng, 4, none⟩ = some (.slice Ag RL cg) := (rowc Eg.out).1 4
  have zm0 : w17.cell? ⟨Nm, 0, none⟩ = some (.int .i64 K) := (rowc Em.out).1 0
  have zm1 : w17.cell? ⟨Nm, 1, none⟩ = some (.int .i64 N) := (rowc Em.out).1 1
  have zm2 : w17.cell? ⟨Nm, 2, none⟩ = some (.string Z) := (rowc Em.out).1 2
  have zm3 : w17.cell? ⟨Nm, 3, none⟩ = some (.int .i64 X) := (rowc Em.out).1 3
  have zm4 : w17.cell? ⟨Nm, 4, none⟩ = some (.slice Am RL cm) := (rowc Em.out).1 4
  go_wp2_with (fail)
  refine (eqV RT _ _ _ _ _ HG.out.tin HM.out).mono ?_
  rintro e w18 ⟨rfl, hb⟩
  replace Ea0 := Lib.hid (carry hb Ea0.out)
  replace Em := Lib.hid (carry hb Em.out)
  replace Eb := Lib.hid (carry hb Eb.out)
  replace Eg := Lib.hid (carry hb Eg.out)
  replace HM := Lib.hid (HM.out.below' hb)
  replace HG := Lib.hid (HG.out.above fun q _ hl => Below.block hb q hl)
  replace HB := Lib.hid (bs HB.out hb)
  clear hb
  clear zg0 zg1 zg2 zg3 zg4 zm0 zm1 zm2 zm3 zm4
  have zg0 : w18.cell? ⟨Ng, 0, none⟩ = some (.int .i64 K) := (rowc Eg.out).1 0
  have zg1 : w18.cell? ⟨Ng, 1, none⟩ = some (.int .i64 N) := (rowc Eg.out).1 1
  have zg2 : w18.cell? ⟨Ng, 2, none⟩ = some (.string Z) := (rowc Eg.out).1 2
  have zg3 : w18.cell? ⟨Ng, 3, none⟩ = some (.int .i64 X) := (rowc Eg.out).1 3
  have zg4 : w18.cell? ⟨Ng, 4, none⟩ = some (.slice Ag RL cg) := (rowc Eg.out).1 4
  go_wp2_with (fail)
  refine (markSep RT _ 1 (by omega) hQ1.out _ pg r 0 (r + 1) Ng HG.out HTG.out).mono ?_
  rintro e w19 ⟨rfl, ht, hf⟩
  rw [HQ.out]
  clear zg0 zg1 zg2 zg3 zg4
  replace Ea0 := Lib.hid ((hf.block _ (Array.getElem?_eq_some_iff.1 Ea0.out).1 (by unfold Rg; have o0 := HPa.out; have o1 := HPm.out; have o2 := HPx.out; have o3 := HPy.out; have o4 := HPk.out; have o5 := HRQ.out; have o6 := HSZ.out; omega)).trans Ea0.out)
  replace Em := Lib.hid ((hf.block _ (Array.getElem?_eq_some_iff.1 Em.out).1 (by unfold Rg; have o0 := HPa.out; have o1 := HPm.out; have o2 := HPx.out; have o3 := HPy.out; have o4 := HPk.out; have o5 := HRQ.out; have o6 := HSZ.out; omega)).trans Em.out)
  replace Eb := Lib.hid ((hf.block _ (Array.getElem?_eq_some_iff.1 Eb.out).1 (by unfold Rg; have o0 := HPa.out; have o1 := HPm.out; have o2 := HPx.out; have o3 := HPy.out; have o4 := HPk.out; have o5 := HRQ.out; have o6 := HSZ.out; omega)).trans Eb.out)
  replace Eg := Lib.hid ((hf.block _ (Array.getElem?_eq_some_iff.1 Eg.out).1 (by unfold Rg; have o0 := HPa.out; have o1 := HPm.out; have o2 := HPx.out; have o3 := HPy.out; have o4 := HPk.out; have o5 := HRQ.out; have o6 := HSZ.out; omega)).trans Eg.out)
  replace HM := Lib.hid (HM.out.stays (fun _ h => h) (fun b hb hl => hf.block b hl (by unfold Rg; have hb' : b < Nm := hb; have o0 := HPa.out; have o1 := HPm.out; have o2 := HPx.out; have o3 := HPy.out; have o4 := HPk.out; have o5 := HRQ.out; have o6 := HSZ.out; omega)))
  replace HB := Lib.hid (Below.fr HB.out (Nat.le_refl _) hf (fun b hb => by unfold Rg at hb; have o0 := HPa.out; have o1 := HPm.out; have o2 := HPx.out; have o3 := HPy.out; have o4 := HPk.out; have o5 := HRQ.out; have o6 := HSZ.out; omega))
  replace HG := Lib.hid ht
  clear ht hf
  have zg0 : w19.cell? ⟨Ng, 0, none⟩ = some (.int .i64 K) := (rowc Eg.out).1 0
  have zg1 : w19.cell? ⟨Ng, 1, none⟩ = some (.int .i64 N) := (rowc Eg.out).1 1
  have zg2 : w19.cell? ⟨Ng, 2, none⟩ = some (.string Z) := (rowc Eg.out).1 2
  have zg3 : w19.cell? ⟨Ng, 3, none⟩ = some (.int .i64 X) := (rowc Eg.out).1 3
  have zg4 : w19.cell? ⟨Ng, 4, none⟩ = some (.slice Ag RL cg) := (rowc Eg.out).1 4
  go_wp2_with (fail)
  refine (heldSep RT _ 1 (by omega) hQ1.out _ _ HG.out.tin).mono ?_
  rintro e w20 ⟨rfl, hb⟩
  rw [HQ.out]
  replace Ea0 := Lib.hid (carry hb Ea0.out)
  replace Em := Lib.hid (carry hb Em.out)
  replace Eb := Lib.hid (carry hb Eb.out)
  replace Eg := Lib.hid (carry hb Eg.out)
  replace HM := Lib.hid (HM.out.below' hb)
  replace HG := Lib.hid (HG.out.above fun q _ hl => Below.block hb q hl)
  replace HB := Lib.hid (bs HB.out hb)
  clear hb
  clear zg0 zg1 zg2 zg3 zg4
  have za00 : w20.cell? ⟨w.heap.size, 0, none⟩ = some (.int .i64 k0) := (rowc Ea0.out).1 0
  have za01 : w20.cell? ⟨w.heap.size, 1, none⟩ = some (.int .i64 n0) := (rowc Ea0.out).1 1
  have za02 : w20.cell? ⟨w.heap.size, 2, none⟩ = some (.string s0) := (rowc Ea0.out).1 2
  have za03 : w20.cell? ⟨w.heap.size, 3, none⟩ = some (.int .i64 x0) := (rowc Ea0.out).1 3
  have za04 : w20.cell? ⟨w.heap.size, 4, none⟩ = some (.slice A0 L0 c0) := (rowc Ea0.out).1 4
  go_wp2_with (fail)
  refine (cps T0 hT0.out _ _ _ (HR0.out.below' HB.out)).mono ?_
  rintro e w21 ⟨v, rfl, hv, hb⟩
  obtain ⟨A7, c7, rfl, -, -⟩ := TIn.out (HT0.out ▸ hv)
  have hx := (show TIn w21 (Nw w20.heap.size w21) T0 (vV k0 n0 s0 x0 A7 L0 c7) by rw [HL0.out, HT0.out]; exact (HT0.out ▸ hv))
  rw [← HL0.out]
  replace Ea0 := Lib.hid (carry hb Ea0.out)
  replace Em := Lib.hid (carry hb Em.out)
  replace Eb := Lib.hid (carry hb Eb.out)
  replace Eg := Lib.hid (carry hb Eg.out)
  replace HM := Lib.hid (HM.out.below' hb)
  replace HG := Lib.hid (HG.out.above fun q _ hl => Below.block hb q hl)
  replace HB := Lib.hid (bs HB.out hb)
  have hsz := hb.size
  clear hv hb
  clear za00 za01 za02 za03 za04
  have HV := Lib.hid hx.rgp
  clear hx hsz
  go_wp2_with (fail)
  refine (HTK.out _ (HK1.out.below HB.out)).mono ?_
  rintro e w22 ⟨g8, rfl, hkr, hg8, hb⟩
  replace Ea0 := Lib.hid (carry hb Ea0.out)
  replace Em := Lib.hid (carry hb Em.out)
  replace Eb := Lib.hid (carry hb Eb.out)
  replace Eg := Lib.hid (carry hb Eg.out)
  replace HM := Lib.hid (HM.out.below' hb)
  replace HG := Lib.hid (HG.out.above fun q _ hl => Below.block hb q hl)
  replace HV := Lib.hid (HV.out.rgb hb)
  replace HB := Lib.hid (bs HB.out hb)
  clear hb
  obtain ⟨Ak, ck, ek, -, hki⟩ := KRow.kin hkr HOK.out
  obtain ⟨rfl, -⟩ : some ⟨g8, 0, none⟩ = Ak ∧ LY = ck := by rw [HLY.out] at ek; simpa using ek
  clear ek
  go_wp2_with (fail)
  refine (HCI.out _ _ _ _ HV.out.rgn hki ⟨Nat.le_refl _, by unfold maxLen; omega⟩).mono ?_
  rintro e w23 ⟨u, par2, r2, rfl, hv, hr, hb⟩
  obtain ⟨Ah, ch, rfl, -⟩ := TPar.out (HRT.out ▸ hv)
  have HH := Lib.hid (show TPar w23 par2 (r2, 0) RT (vV K N Z X Ah RL ch) by rw [HRL.out, HRT.out]; exact (HRT.out ▸ hv)).tin
  rw [← HRL.out]
  replace Ea0 := Lib.hid (carry hb Ea0.out)
  replace Em := Lib.hid (carry hb Em.out)
  replace Eb := Lib.hid (carry hb Eb.out)
  replace Eg := Lib.hid (carry hb Eg.out)
  replace HM := Lib.hid (HM.out.below' hb)
  replace HG := Lib.hid (HG.out.above fun q _ hl => Below.block hb q hl)
  replace HB := Lib.hid (bs HB.out hb)
  clear hb hv hki hkr hg8 HV hr
  go_upto_region 32 with fail
  obtain ⟨Nh, HNh⟩ : ∃ N, Hid (w23.heap.size = N) := ⟨_, Lib.hid rfl⟩
  generalize hwn : w23.alloc (.cells #[.int .i64 K, .int .i64 N, .string Z, .int .i64 X, .slice Ah RL ch] IV) = w24
  have hbx : Below w23.heap.size w23 w24 := hwn ▸ b1 _ _
  have Eh : Hid (w24.heap[Nh]? = some (.cells #[.int .i64 K, .int .i64 N, .string Z, .int .i64 X, .slice Ah RL ch] IV (0, 0))) := Lib.hid (by rw [← hwn, ← HNh.out]; exact heap_alloc_new _ _)
  rw [HNh.out]
  replace Ea0 := Lib.hid (carry hbx Ea0.out)
  replace Em := Lib.hid (carry hbx Em.out)
  replace Eb := Lib.hid (carry hbx Eb.out)
  replace Eg := Lib.hid (carry hbx Eg.out)
  replace HM := Lib.hid (HM.out.below' hbx)
  replace HG := Lib.hid (HG.out.above fun q _ hl => Below.block hbx q hl)
  replace HH := Lib.hid (HH.out.below' hbx)
  replace HB := Lib.hid (bs HB.out hbx)
  clear hwn hbx
  have zh0 : w24.cell? ⟨Nh, 0, none⟩ = some (.int .i64 K) := (rowc Eh.out).1 0
  have zh1 : w24.cell? ⟨Nh, 1, none⟩ = some (.int .i64 N) := (rowc Eh.out).1 1
  have zh2 : w24.cell? ⟨Nh, 2, none⟩ = some (.string Z) := (rowc Eh.out).1 2
  have zh3 : w24.cell? ⟨Nh, 3, none⟩ = some (.int .i64 X) := (rowc Eh.out).1 3
  have zh4 : w24.cell? ⟨Nh, 4, none⟩ = some (.slice Ah RL ch) := (rowc Eh.out).1 4
  have zm0 : w24.cell? ⟨Nm, 0, none⟩ = some (.int .i64 K) := (rowc Em.out).1 0
  have zm1 : w24.cell? ⟨Nm, 1, none⟩ = some (.int .i64 N) := (rowc Em.out).1 1
  have zm2 : w24.cell? ⟨Nm, 2, none⟩ = some (.string Z) := (rowc Em.out).1 2
  have zm3 : w24.cell? ⟨Nm, 3, none⟩ = some (.int .i64 X) := (rowc Em.out).1 3
  have zm4 : w24.cell? ⟨Nm, 4, none⟩ = some (.slice Am RL cm) := (rowc Em.out).1 4
  go_wp2_with (fail)
  refine (eqV RT _ _ _ _ _ HH.out HM.out).mono ?_
  rintro e w25 ⟨rfl, hb⟩
  replace Ea0 := Lib.hid (carry hb Ea0.out)
  replace Em := Lib.hid (carry hb Em.out)
  replace Eb := Lib.hid (carry hb Eb.out)
  replace Eg := Lib.hid (carry hb Eg.out)
  replace Eh := Lib.hid (carry hb Eh.out)
  replace HM := Lib.hid (HM.out.below' hb)
  replace HG := Lib.hid (HG.out.above fun q _ hl => Below.block hb q hl)
  replace HH := Lib.hid (HH.out.below' hb)
  replace HB := Lib.hid (bs HB.out hb)
  clear hb
  clear zh0 zh1 zh2 zh3 zh4 zm0 zm1 zm2 zm3 zm4
  have zg0 : w25.cell? ⟨Ng, 0, none⟩ = some (.int .i64 K) := (rowc Eg.out).1 0
  have zg1 : w25.cell? ⟨Ng, 1, none⟩ = some (.int .i64 N) := (rowc Eg.out).1 1
  have zg2 : w25.cell? ⟨Ng, 2, none⟩ = some (.string Z) := (rowc Eg.out).1 2
  have zg3 : w25.cell? ⟨Ng, 3, none⟩ = some (.int .i64 X) := (rowc Eg.out).1 3
  have zg4 : w25.cell? ⟨Ng, 4, none⟩ = some (.slice Ag RL cg) := (rowc Eg.out).1 4
  go_wp2_with (fail)
  refine (heldSep RT _ 1 (by omega) hQ1.out _ _ HG.out.tin).mono ?_
  rintro e w26 ⟨rfl, hb⟩
  rw [HQ.out]
  replace Ea0 := Lib.hid (carry hb Ea0.out)
  replace Em := Lib.hid (carry hb Em.out)
  replace Eb := Lib.hid (carry hb Eb.out)
  replace Eg := Lib.hid (carry hb Eg.out)
  replace Eh := Lib.hid (carry hb Eh.out)
  replace HM := Lib.hid (HM.out.below' hb)
  replace HG := Lib.hid (HG.out.above fun q _ hl => Below.block hb q hl)
  replace HH := Lib.hid (HH.out.below' hb)
  replace HB := Lib.hid (bs HB.out hb)
  clear hb
  clear zg0 zg1 zg2 zg3 zg4
  go_wp2_with (fail)
  go_ret
  exact ⟨rfl, HB.out⟩

theorem itm_cnt (t : Tr) : itm t ≤ cnt t := by
  obtain ⟨k, n, s, x, ks, vs⟩ := t
  rw [itm, cnt_mk']
  omega
theorem walk (t0 : Tr) (v0 : Value) (ys1 : List Ky) (A1 : Option Addr) (c1 : Nat) (w : World) (hr0 : TIn w (fun _ => True) t0 v0) (hk1 : KIn w ys1 A1) (hc1 : ys1.length ≤ c1 ∧ c1 ≤ maxLen) : Calls Try.prog 4 #[v0, .slice A1 (List.length ys1) c1] w (TrueQ w) :=
  walk0 t0 v0 ys1 A1 c1 w hr0 hk1 hc1 (delP t0 ys1) (fun hT => by
    have hs := delP_size ys1 t0 hr0.fits
    have hc := cnt_tot t0 hr0.fits
    have hi := itm_cnt (delP t0 ys1)
    exact ⟨by omega, fun w S u0 A c h hk hcc => deletePath_s t0 ys1 u0 A c w S h hk hcc (by omega), fun w u0 A c h hk hcc => deletePath_i t0 ys1 u0 A c w h hk hcc (by omega) (by omega) (by omega)⟩)

set_option maxRecDepth 100000 in
theorem lifted (os : Os) (started : os.Started) (H : Type) (enc : TypeId × Value → H) :
    ReturnsInHanded {} Try.checked os 4 .any (Rows.fnExactDeletePathSpec.pre6 enc Try.prog Try.f4 Rows.fnExactDeletePathRow.domain false) (Rows.fnExactDeletePathSpec.post enc Try.prog Try.f4 false true false false) := by
  refine returnsInHanded_of_change (C := Try.checked) own started (by kernel_rfl) Try.func4
    (ChangeSpec.witness6 (enc := enc) (C := Try.checked) false ⟨#[], #[.agg #[.int .i64 0, .int .i64 0, .string ⟨#[]⟩, .int .i64 0, .slice none 0 0], .slice none 0 0], []⟩ 8 (by kernel_rfl) (by kernel_rfl) (by kernel_rfl) (by kernel_rfl)) ?_
  intro W base args ds gs before hval0 hW hcnd _
  have hval : ∀ (j : Nat) t v, Try.f4.params[j]? = some t → args[j]? = some v → Value.okWide Try.prog W .any base t v := hval0
  have hW' := hW
  obtain ⟨p, q, hA0, hV, rfl, hfz, hnd⟩ := hW
  have hA : DataW.TrodAll enc Try.prog W 0 (fun _ => true) true Try.f4.params.toList args.toList ds p := hA0
  have hA2 := hA
  rw [Try.params4] at hA hval
  obtain ⟨v0, vs0, d0, ds0, p0, q0, hargs, rfl, rfl, h0, r0⟩ := trodAll_cons hA
  obtain ⟨v1, vs1, d1, ds1, p1, q1, rfl, rfl, rfl, h1, r1⟩ := trodAll_cons r0
  obtain ⟨rfl, rfl, rfl⟩ := trodAll_nil r1
  obtain rfl : args = #[v0, v1] := by cases args; simp_all
  obtain ⟨rfl, rfl⟩ := trodVars_none hV
  obtain ⟨t0, hr0⟩ := opt.open_value (hval 0 24 v0 rfl rfl) h0
  obtain ⟨A1, c1, ys1, rfl, hc1, hk1⟩ := open_keys (hval 1 25 v1 rfl rfl) h1
  clear hA0 hval0
  simp only [List.append_nil] at hW' hA2
  refine (walk t0 v0 ys1 A1 c1 W hr0 hk1 hc1).mono fun e W' ⟨he, hb⟩ => ?_
  subst he
  exact ⟨_, rfl, opn.post_true hW' rfl hA2 rfl rfl Try.underlying4 (by kernel_rfl) (by kernel_rfl) hb⟩

theorem over : Rows.fnExactDeletePathRow.holds Try.pinned (OpenSpec.ofChange Rows.fnExactDeletePathSpec) :=
  OpenClaim.holds_of_wide 4 Try.f4 rfl rfl rfl rfl rfl rfl rfl ⟨rfl, rfl, rfl, rfl, rfl⟩ rfl rfl rfl rfl rfl (by kernel_rfl) Try.func4 (by kernel_rfl)
    (of_decide_eq_true (by kernel_rfl)) (by unfold Func.isWrapper; first | (rw [if_pos (by decide +kernel)]; kernel_rfl) | (rw [if_neg (by decide +kernel)]; exact ⟨rfl, rfl⟩))
    (fun os started H enc _ => lifted os started H enc)

/-- The statement. -/
theorem proved : Rows.FnExactDeletePathSaid :=
  over
#print axioms proved
end Go.Proofs.Ytdgfpfkhcojgaaa.fnExactDeletePath

