/-
  UnaryOp answers as its model at every operator and every value, every field; it leaves its arguments unmodified, and its answer owns its memory.
  Conditions: the package variables that the row lists hold what the program's text lays, and the card ties that to the text.
-/
import Derived.Test.YteoilhbidnnneaaGreatDoorRows
import Derived.Test.YteoilhbidnnneaaGreatDoorCards
import Derived.Test.YteoilhbidnnneaaGreatDoorTie
import Derived.LaidMore
import Derived.LaidHandle
import Derived.Stop.Joined
import Derived.SevenTiedAt
import Derived.Stop.LaidErr
import Derived.SizedLaws
import Derived.Deep.RegionHeld3
import Derived.Deep.RegionWith
import Derived.WalkKit
import Derived.ProofKit
import Derived.OpenShut
import Derived.Test.YteoilhbidnnneaaGreatDoorBSBinOS
import Derived.Test.YteoilhbidnnneaaGreatDoorBSBinOI
import Derived.Test.YteoilhbidnnneaaGreatDoorBB7
import Derived.Test.YteoilhbidnnneaaGreatDoorBB3
import Derived.Test.YteoilhbidnnneaaGreatDoorBB5
namespace Go.Proofs.YteoilhbidnnneaaGreatDoor.fnExactUnaryOp
open Go.ChangeShapes Go.WideShapes Go.ChangeAt Go.RowKit tree ers
open Go.ChangeMaps (open_string)
set_option linter.unusedVariables false

theorem own : ownKnob Tryz.prog.godebug = none := by kernel_rfl

set_option maxHeartbeats 8000000 in
set_option maxRecDepth 100000 in
theorem walk0 (op : Int) (t0 : Tr) (v0 : Value) (w : World) (hr0 : TIn w (fun _ => True) t0 v0) (R : Tr) (bb : Int) (hE : OpE w)
    (HC : tot t0 ≤ 1048576 → itm R ≤ 1048577 ∧ (∀ (w : World) (S0 : Nat → Prop) (u0 : Value), TIn w S0 t0 u0 → OpE w → Calls Tryz.prog 18 #[.int .i64 op, u0] w (fun e w' => ∃ u, e = .returned (.tuple #[u, .int .i64 bb]) ∧ TIn w' (fun q => w.heap.size ≤ q) R u ∧ Below w.heap.size w w')) ∧ (∀ (w : World) (u0 : Value), TIn w (Nw 0 w) t0 u0 → OpE w → Calls Tryz.prog 19 #[.int .i64 op, u0] w (fun e w' => ∃ u par r, e = .returned (.tuple #[u, .int .i64 bb]) ∧ TPar w' par (r, 0) R u ∧ w.heap.size ≤ r ∧ Below w.heap.size w w'))) :
    Calls Tryz.prog 5 #[.int .i64 op, v0] w (TrueQ w) := by
  have HE := Lib.hid hE
  clear hE
  obtain ⟨K, N, Z, X, RK, RV⟩ := R
  obtain ⟨RL, HRL⟩ : ∃ L, Hid (L = RV.length) := ⟨_, Lib.hid rfl⟩
  obtain ⟨RT, HRT⟩ : ∃ T, Hid (T = Tr.mk K N Z X RK RV) := ⟨_, Lib.hid rfl⟩
  rw [← HRT.out] at HC
  obtain ⟨k0, n0, s0, x0, ks0, vs0⟩ := t0
  obtain ⟨A0, c0, rfl, -, -⟩ := hr0.out
  obtain ⟨L0, HL0⟩ : ∃ L, Hid (L = vs0.length) := ⟨_, Lib.hid rfl⟩
  obtain ⟨T0, HT0⟩ : ∃ T, Hid (T = Tr.mk k0 n0 s0 x0 ks0 vs0) := ⟨_, Lib.hid rfl⟩
  rw [← HT0.out] at hr0 HC
  rw [← HL0.out] at hr0 ⊢
  have HR0 := Lib.hid hr0
  have SZ0 := fun w h => szV T0 w (fun _ => True) (vV k0 n0 s0 x0 A0 L0 c0) h
  have HCC := Lib.hid HC
  clear hr0 HC
  go_enter Tryz.func5, Tryz.ntmps5
  go_wp2_with (fail)
  refine (SZ0 _ (HR0.out.below' (b1 _ _)) 1048576 (by omega) (by omega)).mono ?_
  rintro e w0 ⟨r0, rfl, ⟨ha0, hb0, hc0⟩, hw0⟩
  have Ea0 := Lib.hid (carry hw0 (heap_alloc_new w _))
  have HB := Lib.hid (bs (b1 w _) hw0)
  have HQ0 := Lib.hid hc0
  clear hw0 hc0
  by_cases hlt0 : r0 < 0
  · go_wp2_with (fail)
    go_ret
    exact ⟨rfl, HB.out⟩
  have HSUM : Hid (tot T0 ≤ 1048576) := Lib.hid (by have q0 := HQ0.out (by omega); omega)
  obtain HCON := HCC.out HSUM.out
  obtain ⟨hit, hcs, hci⟩ := HCON
  have HIT := Lib.hid hit
  have HCS := Lib.hid hcs
  have HCI := Lib.hid hci
  obtain ⟨Q, HQ⟩ : ∃ Q : Int, Hid (1 + 7 * (itm RT : Int) = Q) := ⟨_, Lib.hid rfl⟩
  have hQ0 : 1 ≤ Q := by rw [← HQ.out]; omega
  have hQ1 : Hid (1 + 7 * (itm RT : Int) ≤ 100000000000) := Lib.hid (by omega)
  have hT0 : Hid (tot T0 ≤ 1048576) := Lib.hid (by have := HSUM.out; omega)
  have hF0 : Hid (cnt T0 ≤ 1048577) := Lib.hid (by have := cnt_tot T0 HR0.out.fits; have := HSUM.out; omega)
  clear hit hcs hci
  have za00 : w0.cell? ⟨w.heap.size, 0, none⟩ = some (.int .i64 k0) := (rowc Ea0.out).1 0
  have za01 : w0.cell? ⟨w.heap.size, 1, none⟩ = some (.int .i64 n0) := (rowc Ea0.out).1 1
  have za02 : w0.cell? ⟨w.heap.size, 2, none⟩ = some (.string s0) := (rowc Ea0.out).1 2
  have za03 : w0.cell? ⟨w.heap.size, 3, none⟩ = some (.int .i64 x0) := (rowc Ea0.out).1 3
  have za04 : w0.cell? ⟨w.heap.size, 4, none⟩ = some (.slice A0 L0 c0) := (rowc Ea0.out).1 4
  go_wp2_with (fail)
  refine (cps T0 hT0.out _ _ _ (HR0.out.below' HB.out)).mono ?_
  rintro e w1 ⟨v, rfl, hv, hb⟩
  have hbx := hb
  obtain ⟨Am0, cm0, rfl, -, -⟩ := TIn.out (HT0.out ▸ hv)
  have HVm0 := Lib.hid (show TIn w1 _ T0 (vV k0 n0 s0 x0 Am0 L0 cm0) by rw [HL0.out, HT0.out]; exact (HT0.out ▸ hv))
  rw [← HL0.out]
  clear hv
  replace Ea0 := Lib.hid (carry hbx Ea0.out)
  replace HB := Lib.hid (bs HB.out hbx)
  clear hb hbx
  try clear za00 za01 za02 za03 za04
  go_wp2_with (fail)
  refine (HCS.out _ _ _ HVm0.out (HE.out.stays HB.out)).mono ?_
  rintro e w2 ⟨u, rfl, hv, hb⟩
  have hbx := hb
  obtain ⟨Am, cm, rfl, -, -⟩ := TIn.out (HRT.out ▸ hv)
  have HMM := Lib.hid (show TIn w2 _ RT (vV K N Z X Am RL cm) by rw [HRL.out, HRT.out]; exact (HRT.out ▸ hv))
  rw [← HRL.out]
  clear hv
  clear HVm0
  replace Ea0 := Lib.hid (carry hbx Ea0.out)
  replace HB := Lib.hid (bs HB.out hbx)
  clear hb hbx
  have zna0 : ∀ o j, (w2.alloc o).cell? ⟨w.heap.size, j, none⟩ = _ := fun o j => (rowc (keepAlloc Ea0.out)).1 j
  go_wp2_with (fail)
  clear zna0
  obtain ⟨Nm, hNm⟩ : ∃ N, N = w2.heap.size := ⟨_, rfl⟩
  generalize hwn : w2.alloc (.cells #[.int .i64 K, .int .i64 N, .string Z, .int .i64 X, .slice Am RL cm] IV) = w3
  have en : w3.heap[Nm]? = some (.cells #[.int .i64 K, .int .i64 N, .string Z, .int .i64 X, .slice Am RL cm] IV (0, 0)) := by rw [← hwn, hNm]; exact heap_alloc_new _ _
  have hbx : Below w2.heap.size w2 w3 := hwn ▸ b1 _ _
  try rw [← hNm]
  have hv : TIn w3 (fun b => b ≠ Nm) RT (vV K N Z X Am RL cm) := (HMM.out.lt'.below' hbx).stays (fun b hb e => by have hb' : b < w2.heap.size := hb; omega) (fun _ _ _ => rfl)
  replace Ea0 := Lib.hid (carry hbx Ea0.out)
  replace HB := Lib.hid (bs HB.out hbx)
  clear HMM hwn
  have Em := Lib.hid en
  clear en
  have HM := Lib.hid hv.lt'
  clear hv hbx hNm
  have za00 : w3.cell? ⟨w.heap.size, 0, none⟩ = some (.int .i64 k0) := (rowc Ea0.out).1 0
  have za01 : w3.cell? ⟨w.heap.size, 1, none⟩ = some (.int .i64 n0) := (rowc Ea0.out).1 1
  have za02 : w3.cell? ⟨w.heap.size, 2, none⟩ = some (.string s0) := (rowc Ea0.out).1 2
  have za03 : w3.cell? ⟨w.heap.size, 3, none⟩ = some (.int .i64 x0) := (rowc Ea0.out).1 3
  have za04 : w3.cell? ⟨w.heap.size, 4, none⟩ = some (.slice A0 L0 c0) := (rowc Ea0.out).1 4
  go_wp2_with (fail)
  obtain ⟨lo0, hlo0⟩ : ∃ N, N = w3.heap.size := ⟨_, rfl⟩
  rw [← hlo0] at HM
  have HPa : Hid (w.heap.size < lo0) := Lib.hid (by rw [hlo0]; exact (Array.getElem?_eq_some_iff.1 Ea0.out).1)
  have HP0 : Hid (Nm < lo0) := Lib.hid (by rw [hlo0]; exact (Array.getElem?_eq_some_iff.1 Em.out).1)
  refine (cps T0 hT0.out _ _ _ (HR0.out.below' HB.out)).mono ?_
  rintro e w4 ⟨v, rfl, hv, hb⟩
  have hbx := hb
  obtain ⟨Ax0, cx0, rfl, -, -⟩ := TIn.out (HT0.out ▸ hv)
  have hx := (show TIn w4 (Nw lo0 w4) T0 (vV k0 n0 s0 x0 Ax0 L0 cx0) by rw [HL0.out, HT0.out, hlo0]; exact (HT0.out ▸ hv))
  rw [← HL0.out]
  clear hv
  replace Ea0 := Lib.hid (carry hbx Ea0.out)
  replace Em := Lib.hid (carry hbx Em.out)
  replace HM := Lib.hid (HM.out.below' hbx)
  replace HB := Lib.hid (bs HB.out hbx)
  have HX0 := Lib.hid hx.rgp
  have hsz := hb.size
  rw [← hlo0] at hsz
  clear hb hbx hx
  try clear za00 za01 za02 za03 za04
  go_wp2_with (fail)
  obtain ⟨Nb0, hNb0⟩ : ∃ N, N = w4.heap.size := ⟨_, rfl⟩
  generalize hwn : w4.alloc (.cells #[.int .i64 k0, .int .i64 n0, .string s0, .int .i64 x0, .slice Ax0 L0 cx0] IV) = w5
  have en : w5.heap[Nb0]? = some (.cells #[.int .i64 k0, .int .i64 n0, .string s0, .int .i64 x0, .slice Ax0 L0 cx0] IV (0, 0)) := by rw [← hwn, hNb0]; exact heap_alloc_new _ _
  have hbx : Below w4.heap.size w4 w5 := hwn ▸ b1 _ _
  rw [← hNb0]
  have HNb0 := Lib.hid hNb0
  replace Ea0 := Lib.hid (carry hbx Ea0.out)
  replace Em := Lib.hid (carry hbx Em.out)
  replace HM := Lib.hid (HM.out.below' hbx)
  replace HB := Lib.hid (bs HB.out hbx)
  replace HX0 := Lib.hid (HX0.out.rgb hbx)
  have Eb0 := Lib.hid en
  clear en hbx hwn hNb0
  rw [← HNb0.out] at HX0 hsz
  have HQ0' : Hid (lo0 ≤ Nb0) := Lib.hid hsz
  clear hsz hlo0
  have HPg : Hid (Nb0 < w5.heap.size) := Lib.hid (Array.getElem?_eq_some_iff.1 Eb0.out).1
  refine (HCI.out _ _ (by first | with_reducible exact HX0.out.rgn | with_reducible exact (HX0.out.rgb (b1 _ _)).rgn | with_reducible exact (HX0.out.rgb ((Below.refl _ _).drew)).rgn | with_reducible exact (HX0.out.rgb (bs ((Below.refl _ _).drew) (b1 _ _))).rgn | with_reducible exact (HX0.out.rgb (bs (b1 _ _) ((Below.refl _ _).drew))).rgn) (HE.out.stays (by first | with_reducible exact HB.out | with_reducible exact HB.out.trans ((Below.refl _ _).drew) | with_reducible exact HB.out.alloc HB.out.size _ | with_reducible exact (HB.out.trans ((Below.refl _ _).drew)).alloc HB.out.size _ | with_reducible exact (HB.out.alloc HB.out.size _).trans ((Below.refl _ _).drew)))).mono ?_
  rintro e w6 ⟨u, par, rg, rfl, hv, hrg, hb⟩
  have hbx := hb
  obtain ⟨Ag, cg, rfl, -⟩ := TPar.out (HRT.out ▸ hv)
  have HGG := Lib.hid (show TPar w6 par (rg, 0) RT (vV K N Z X Ag RL cg) by rw [HRL.out, HRT.out]; exact (HRT.out ▸ hv))
  rw [← HRL.out]
  clear hv
  replace Ea0 := Lib.hid (carry hbx Ea0.out)
  replace Em := Lib.hid (carry hbx Em.out)
  replace Eb0 := Lib.hid (carry hbx Eb0.out)
  replace HM := Lib.hid (HM.out.below' hbx)
  replace HB := Lib.hid (bs HB.out hbx)
  replace HX0 := Lib.hid (HX0.out.rgb hbx)
  have hsz := hb.size
  clear hb hbx
  have zm : ∀ o j, (w6.alloc o).cell? ⟨Nm, j, none⟩ = _ := fun o j => (rowc (keepAlloc Em.out)).1 j
  go_wp2_with (fail)
  clear zm
  obtain ⟨pg, hp2, htg⟩ := HGG.out.tight
  obtain ⟨Ng, hNg⟩ : ∃ N, N = w6.heap.size := ⟨_, rfl⟩
  obtain ⟨hig, hhi⟩ : ∃ N, N = Ng := ⟨_, rfl⟩
  generalize hwn : w6.alloc (.cells #[.int .i64 K, .int .i64 N, .string Z, .int .i64 X, .slice Ag RL cg] IV) = w7
  have en : w7.heap[Ng]? = some (.cells #[.int .i64 K, .int .i64 N, .string Z, .int .i64 X, .slice Ag RL cg] IV (0, 0)) := by rw [← hwn, hNg]; exact heap_alloc_new _ _
  have hbx : Below w6.heap.size w6 w7 := hwn ▸ b1 _ _
  try rw [← hNg]
  replace Ea0 := Lib.hid (carry hbx Ea0.out)
  replace Em := Lib.hid (carry hbx Em.out)
  replace Eb0 := Lib.hid (carry hbx Eb0.out)
  replace HM := Lib.hid (HM.out.below' hbx)
  replace HB := Lib.hid (bs HB.out hbx)
  replace HX0 := Lib.hid (HX0.out.rgb hbx)
  have hv := hp2.above fun b _ hl => hbx.block b hl
  have Eg := Lib.hid en
  rw [← hNg, ← hhi] at htg
  have hhg : hig ≤ w7.heap.size := by rw [hhi, hNg]; exact hbx.size
  have hdg : Ng ≤ rg ∨ hig ≤ Ng := .inr (by rw [hhi]; exact Nat.le_refl _)
  replace hNg : w5.heap.size ≤ Ng := by rw [hNg]; exact hsz
  clear en hwn hp2 HGG hsz hhi
  have HG := Lib.hid hv
  have HTG := Lib.hid htg
  have HHG := Lib.hid hdg
  have HRR : Hid (Nb0 < rg) := Lib.hid (Nat.lt_of_lt_of_le HPg.out hrg)
  have HNG : Hid (Nb0 < Ng) := Lib.hid (Nat.lt_of_lt_of_le HPg.out hNg)
  clear hv htg hhg hdg hrg hNg hbx HPg
  have zg0 : w7.cell? ⟨Ng, 0, none⟩ = some (.int .i64 K) := (rowc Eg.out).1 0
  have zg1 : w7.cell? ⟨Ng, 1, none⟩ = some (.int .i64 N) := (rowc Eg.out).1 1
  have zg2 : w7.cell? ⟨Ng, 2, none⟩ = some (.string Z) := (rowc Eg.out).1 2
  have zg3 : w7.cell? ⟨Ng, 3, none⟩ = some (.int .i64 X) := (rowc Eg.out).1 3
  have zg4 : w7.cell? ⟨Ng, 4, none⟩ = some (.slice Ag RL cg) := (rowc Eg.out).1 4
  have zm0 : w7.cell? ⟨Nm, 0, none⟩ = some (.int .i64 K) := (rowc Em.out).1 0
  have zm1 : w7.cell? ⟨Nm, 1, none⟩ = some (.int .i64 N) := (rowc Em.out).1 1
  have zm2 : w7.cell? ⟨Nm, 2, none⟩ = some (.string Z) := (rowc Em.out).1 2
  have zm3 : w7.cell? ⟨Nm, 3, none⟩ = some (.int .i64 X) := (rowc Em.out).1 3
  have zm4 : w7.cell? ⟨Nm, 4, none⟩ = some (.slice Am RL cm) := (rowc Em.out).1 4
  go_wp2_with (fail)
  refine (eqV RT _ _ _ _ _ HG.out.tin HM.out).mono ?_
  rintro e w8 ⟨rfl, hb⟩
  have hbx := hb
  replace Ea0 := Lib.hid (carry hbx Ea0.out)
  replace Em := Lib.hid (carry hbx Em.out)
  replace Eb0 := Lib.hid (carry hbx Eb0.out)
  replace Eg := Lib.hid (carry hbx Eg.out)
  replace HM := Lib.hid (HM.out.below' hbx)
  replace HG := Lib.hid (HG.out.above fun q _ hl => Below.block hbx q hl)
  replace HB := Lib.hid (bs HB.out hbx)
  replace HX0 := Lib.hid (HX0.out.rgb hbx)
  clear hb hbx
  try clear zg0 zg1 zg2 zg3 zg4
  try clear zm0 zm1 zm2 zm3 zm4
  have zb00 : w8.cell? ⟨Nb0, 0, none⟩ = some (.int .i64 k0) := (rowc Eb0.out).1 0
  have zb01 : w8.cell? ⟨Nb0, 1, none⟩ = some (.int .i64 n0) := (rowc Eb0.out).1 1
  have zb02 : w8.cell? ⟨Nb0, 2, none⟩ = some (.string s0) := (rowc Eb0.out).1 2
  have zb03 : w8.cell? ⟨Nb0, 3, none⟩ = some (.int .i64 x0) := (rowc Eb0.out).1 3
  have zb04 : w8.cell? ⟨Nb0, 4, none⟩ = some (.slice Ax0 L0 cx0) := (rowc Eb0.out).1 4
  have za00 : w8.cell? ⟨w.heap.size, 0, none⟩ = some (.int .i64 k0) := (rowc Ea0.out).1 0
  have za01 : w8.cell? ⟨w.heap.size, 1, none⟩ = some (.int .i64 n0) := (rowc Ea0.out).1 1
  have za02 : w8.cell? ⟨w.heap.size, 2, none⟩ = some (.string s0) := (rowc Ea0.out).1 2
  have za03 : w8.cell? ⟨w.heap.size, 3, none⟩ = some (.int .i64 x0) := (rowc Ea0.out).1 3
  have za04 : w8.cell? ⟨w.heap.size, 4, none⟩ = some (.slice A0 L0 c0) := (rowc Ea0.out).1 4
  go_wp2_with (fail)
  go_region_held3 (fun w' => w'.cell? ⟨Nb0, 0, none⟩ = some (.int .i64 k0) ∧ w'.cell? ⟨Nb0, 1, none⟩ = some (.int .i64 n0) ∧ w'.cell? ⟨Nb0, 2, none⟩ = some (.string s0) ∧ w'.cell? ⟨Nb0, 3, none⟩ = some (.int .i64 x0) ∧ w'.cell? ⟨Nb0, 4, none⟩ = some (.slice Ax0 L0 cx0) ∧ w'.cell? ⟨w.heap.size, 0, none⟩ = some (.int .i64 k0) ∧ w'.cell? ⟨w.heap.size, 1, none⟩ = some (.int .i64 n0) ∧ w'.cell? ⟨w.heap.size, 2, none⟩ = some (.string s0) ∧ w'.cell? ⟨w.heap.size, 3, none⟩ = some (.int .i64 x0) ∧ w'.cell? ⟨w.heap.size, 4, none⟩ = some (.slice A0 L0 c0)) (first | with_reducible exact ⟨zb00, zb01, zb02, zb03, zb04, za00, za01, za02, za03, za04⟩ | with_reducible exact ⟨drc (alc zb00), drc (alc zb01), drc (alc zb02), drc (alc zb03), drc (alc zb04), drc (alc za00), drc (alc za01), drc (alc za02), drc (alc za03), drc (alc za04)⟩ | with_reducible exact ⟨drc zb00, drc zb01, drc zb02, drc zb03, drc zb04, drc za00, drc za01, drc za02, drc za03, drc za04⟩ | with_reducible exact ⟨alc zb00, alc zb01, alc zb02, alc zb03, alc zb04, alc za00, alc za01, alc za02, alc za03, alc za04⟩ | with_reducible exact ⟨alc (drc zb00), alc (drc zb01), alc (drc zb02), alc (drc zb03), alc (drc zb04), alc (drc za00), alc (drc za01), alc (drc za02), alc (drc za03), alc (drc za04)⟩ | with_reducible exact ⟨st5 zb00 (by assumption), st5 zb01 (by assumption), st5 zb02 (by assumption), st5 zb03 (by assumption), st5 zb04 (by assumption), st5 za00 (by assumption), st5 za01 (by assumption), st5 za02 (by assumption), st5 za03 (by assumption), st5 za04 (by assumption)⟩ | with_reducible exact ⟨st5 (alc zb00) (by assumption), st5 (alc zb01) (by assumption), st5 (alc zb02) (by assumption), st5 (alc zb03) (by assumption), st5 (alc zb04) (by assumption), st5 (alc za00) (by assumption), st5 (alc za01) (by assumption), st5 (alc za02) (by assumption), st5 (alc za03) (by assumption), st5 (alc za04) (by assumption)⟩ | go_keep)
    (first
    | (go_at_call 14; refine (cps T0 hT0.out _ _ _ (HR0.out.below' (HB.out.trans ((Below.refl _ _).drew)))).mono ?_
       rintro e w9 ⟨v, rfl, hv, hb⟩
       have hbx := (bs ((Below.refl w8.heap.size w8).drew) hb)
       obtain ⟨Aq0, cq0, rfl, -, -⟩ := TIn.out (HT0.out ▸ hv)
       have HVq0 := Lib.hid (show TIn w9 _ T0 (vV k0 n0 s0 x0 Aq0 L0 cq0) by rw [HL0.out, HT0.out]; exact (HT0.out ▸ hv))
       rw [← HL0.out]
       clear hv
       replace Ea0 := Lib.hid (carry hbx Ea0.out)
       replace Em := Lib.hid (carry hbx Em.out)
       replace Eb0 := Lib.hid (carry hbx Eb0.out)
       replace Eg := Lib.hid (carry hbx Eg.out)
       replace HM := Lib.hid (HM.out.below' hbx)
       replace HG := Lib.hid (HG.out.above fun q _ hl => Below.block hbx q hl)
       replace HB := Lib.hid (bs HB.out hbx)
       replace HX0 := Lib.hid (HX0.out.rgb hbx)
       have zb00 : w9.cell? ⟨Nb0, 0, none⟩ = some (.int .i64 k0) := (rowc Eb0.out).1 0
       have zb01 : w9.cell? ⟨Nb0, 1, none⟩ = some (.int .i64 n0) := (rowc Eb0.out).1 1
       have zb02 : w9.cell? ⟨Nb0, 2, none⟩ = some (.string s0) := (rowc Eb0.out).1 2
       have zb03 : w9.cell? ⟨Nb0, 3, none⟩ = some (.int .i64 x0) := (rowc Eb0.out).1 3
       have zb04 : w9.cell? ⟨Nb0, 4, none⟩ = some (.slice Ax0 L0 cx0) := (rowc Eb0.out).1 4
       have za00 : w9.cell? ⟨w.heap.size, 0, none⟩ = some (.int .i64 k0) := (rowc Ea0.out).1 0
       have za01 : w9.cell? ⟨w.heap.size, 1, none⟩ = some (.int .i64 n0) := (rowc Ea0.out).1 1
       have za02 : w9.cell? ⟨w.heap.size, 2, none⟩ = some (.string s0) := (rowc Ea0.out).1 2
       have za03 : w9.cell? ⟨w.heap.size, 3, none⟩ = some (.int .i64 x0) := (rowc Ea0.out).1 3
       have za04 : w9.cell? ⟨w.heap.size, 4, none⟩ = some (.slice A0 L0 c0) := (rowc Ea0.out).1 4
       clear hb hbx)
    | (go_at_call 15; refine (eqV T0 _ _ _ _ _ HX0.out HVq0.out).mono ?_
       rintro e w10 ⟨rfl, hb⟩
       have hbx := hb
       
       replace Ea0 := Lib.hid (carry hbx Ea0.out)
       replace Em := Lib.hid (carry hbx Em.out)
       replace Eb0 := Lib.hid (carry hbx Eb0.out)
       replace Eg := Lib.hid (carry hbx Eg.out)
       replace HM := Lib.hid (HM.out.below' hbx)
       replace HG := Lib.hid (HG.out.above fun q _ hl => Below.block hbx q hl)
       replace HB := Lib.hid (bs HB.out hbx)
       replace HX0 := Lib.hid (HX0.out.rgb hbx)
       have zb00 : w10.cell? ⟨Nb0, 0, none⟩ = some (.int .i64 k0) := (rowc Eb0.out).1 0
       have zb01 : w10.cell? ⟨Nb0, 1, none⟩ = some (.int .i64 n0) := (rowc Eb0.out).1 1
       have zb02 : w10.cell? ⟨Nb0, 2, none⟩ = some (.string s0) := (rowc Eb0.out).1 2
       have zb03 : w10.cell? ⟨Nb0, 3, none⟩ = some (.int .i64 x0) := (rowc Eb0.out).1 3
       have zb04 : w10.cell? ⟨Nb0, 4, none⟩ = some (.slice Ax0 L0 cx0) := (rowc Eb0.out).1 4
       have za00 : w10.cell? ⟨w.heap.size, 0, none⟩ = some (.int .i64 k0) := (rowc Ea0.out).1 0
       have za01 : w10.cell? ⟨w.heap.size, 1, none⟩ = some (.int .i64 n0) := (rowc Ea0.out).1 1
       have za02 : w10.cell? ⟨w.heap.size, 2, none⟩ = some (.string s0) := (rowc Ea0.out).1 2
       have za03 : w10.cell? ⟨w.heap.size, 3, none⟩ = some (.int .i64 x0) := (rowc Ea0.out).1 3
       have za04 : w10.cell? ⟨w.heap.size, 4, none⟩ = some (.slice A0 L0 c0) := (rowc Ea0.out).1 4
       clear hb hbx))
  try clear zb00 zb01 zb02 zb03 zb04
  try clear za00 za01 za02 za03 za04
  clear HVq0
  have zb00 : w10.cell? ⟨Nb0, 0, none⟩ = some (.int .i64 k0) := (rowc Eb0.out).1 0
  have zb01 : w10.cell? ⟨Nb0, 1, none⟩ = some (.int .i64 n0) := (rowc Eb0.out).1 1
  have zb02 : w10.cell? ⟨Nb0, 2, none⟩ = some (.string s0) := (rowc Eb0.out).1 2
  have zb03 : w10.cell? ⟨Nb0, 3, none⟩ = some (.int .i64 x0) := (rowc Eb0.out).1 3
  have zb04 : w10.cell? ⟨Nb0, 4, none⟩ = some (.slice Ax0 L0 cx0) := (rowc Eb0.out).1 4
  go_wp2_with (fail)
  refine (markArg2 T0 _ _ (by omega) (by have := hF0.out; omega) _ lo0 Nb0 HX0.out).mono ?_
  rintro e w11 ⟨p0, rfl, hp0, hq0, hf⟩
  replace hq0 : p0 ≤ 8000000 := by have := hF0.out; omega
  try clear zb00 zb01 zb02 zb03 zb04
  clear HX0
  replace Ea0 := Lib.hid ((hf.block _ (Array.getElem?_eq_some_iff.1 Ea0.out).1 (by unfold Rg; have o0 := HPa.out; have o1 := HP0.out; have o2 := HQ0'.out; have o3 := HRR.out; have o4 := HNG.out; have o5 := HHG.out; omega)).trans Ea0.out)
  replace Em := Lib.hid ((hf.block _ (Array.getElem?_eq_some_iff.1 Em.out).1 (by unfold Rg; have o0 := HPa.out; have o1 := HP0.out; have o2 := HQ0'.out; have o3 := HRR.out; have o4 := HNG.out; have o5 := HHG.out; omega)).trans Em.out)
  replace Eb0 := Lib.hid ((hf.block _ (Array.getElem?_eq_some_iff.1 Eb0.out).1 (by unfold Rg; have o0 := HPa.out; have o1 := HP0.out; have o2 := HQ0'.out; have o3 := HRR.out; have o4 := HNG.out; have o5 := HHG.out; omega)).trans Eb0.out)
  replace Eg := Lib.hid ((hf.block _ (Array.getElem?_eq_some_iff.1 Eg.out).1 (by unfold Rg; have o0 := HPa.out; have o1 := HP0.out; have o2 := HQ0'.out; have o3 := HRR.out; have o4 := HNG.out; have o5 := HHG.out; omega)).trans Eg.out)
  replace HM := Lib.hid (HM.out.stays (fun _ h => h) (fun b hb hl => hf.block b hl (by unfold Rg; have hb' : b < lo0 := hb; have o0 := HPa.out; have o1 := HP0.out; have o2 := HQ0'.out; have o3 := HRR.out; have o4 := HNG.out; have o5 := HHG.out; omega)))
  replace HB := Lib.hid (Below.fr HB.out (Nat.le_refl _) hf (fun b hb => by unfold Rg at hb; have o0 := HPa.out; have o1 := HP0.out; have o2 := HQ0'.out; have o3 := HRR.out; have o4 := HNG.out; have o5 := HHG.out; omega))
  replace HG := Lib.hid (HG.out.above fun b hb hl => hf.block b hl (by unfold Rg; simp at hb; have o0 := HPa.out; have o1 := HP0.out; have o2 := HQ0'.out; have o3 := HRR.out; have o4 := HNG.out; have o5 := HHG.out; omega))
  clear hf
  have zg0 : w11.cell? ⟨Ng, 0, none⟩ = some (.int .i64 K) := (rowc Eg.out).1 0
  have zg1 : w11.cell? ⟨Ng, 1, none⟩ = some (.int .i64 N) := (rowc Eg.out).1 1
  have zg2 : w11.cell? ⟨Ng, 2, none⟩ = some (.string Z) := (rowc Eg.out).1 2
  have zg3 : w11.cell? ⟨Ng, 3, none⟩ = some (.int .i64 X) := (rowc Eg.out).1 3
  have zg4 : w11.cell? ⟨Ng, 4, none⟩ = some (.slice Ag RL cg) := (rowc Eg.out).1 4
  have zm0 : w11.cell? ⟨Nm, 0, none⟩ = some (.int .i64 K) := (rowc Em.out).1 0
  have zm1 : w11.cell? ⟨Nm, 1, none⟩ = some (.int .i64 N) := (rowc Em.out).1 1
  have zm2 : w11.cell? ⟨Nm, 2, none⟩ = some (.string Z) := (rowc Em.out).1 2
  have zm3 : w11.cell? ⟨Nm, 3, none⟩ = some (.int .i64 X) := (rowc Em.out).1 3
  have zm4 : w11.cell? ⟨Nm, 4, none⟩ = some (.slice Am RL cm) := (rowc Em.out).1 4
  go_wp2_with (fail)
  refine (eqV RT _ _ _ _ _ HG.out.tin HM.out).mono ?_
  rintro e w12 ⟨rfl, hb⟩
  have hbx := hb
  replace Ea0 := Lib.hid (carry hbx Ea0.out)
  replace Em := Lib.hid (carry hbx Em.out)
  replace Eb0 := Lib.hid (carry hbx Eb0.out)
  replace Eg := Lib.hid (carry hbx Eg.out)
  replace HM := Lib.hid (HM.out.below' hbx)
  replace HG := Lib.hid (HG.out.above fun q _ hl => Below.block hbx q hl)
  replace HB := Lib.hid (bs HB.out hbx)
  clear hb hbx
  try clear zg0 zg1 zg2 zg3 zg4
  try clear zm0 zm1 zm2 zm3 zm4
  have zg0 : w12.cell? ⟨Ng, 0, none⟩ = some (.int .i64 K) := (rowc Eg.out).1 0
  have zg1 : w12.cell? ⟨Ng, 1, none⟩ = some (.int .i64 N) := (rowc Eg.out).1 1
  have zg2 : w12.cell? ⟨Ng, 2, none⟩ = some (.string Z) := (rowc Eg.out).1 2
  have zg3 : w12.cell? ⟨Ng, 3, none⟩ = some (.int .i64 X) := (rowc Eg.out).1 3
  have zg4 : w12.cell? ⟨Ng, 4, none⟩ = some (.slice Ag RL cg) := (rowc Eg.out).1 4
  go_wp2_with (fail)
  refine (markSep RT _ 1 (by omega) hQ1.out _ pg rg 0 (rg + 1) hig HG.out HTG.out).mono ?_
  rintro e w13 ⟨rfl, ht, hf⟩
  rw [HQ.out]
  try clear zg0 zg1 zg2 zg3 zg4
  replace Ea0 := Lib.hid ((hf.block _ (Array.getElem?_eq_some_iff.1 Ea0.out).1 (by unfold Rg; have o0 := HPa.out; have o1 := HP0.out; have o2 := HQ0'.out; have o3 := HRR.out; have o4 := HNG.out; have o5 := HHG.out; omega)).trans Ea0.out)
  replace Em := Lib.hid ((hf.block _ (Array.getElem?_eq_some_iff.1 Em.out).1 (by unfold Rg; have o0 := HPa.out; have o1 := HP0.out; have o2 := HQ0'.out; have o3 := HRR.out; have o4 := HNG.out; have o5 := HHG.out; omega)).trans Em.out)
  replace Eb0 := Lib.hid ((hf.block _ (Array.getElem?_eq_some_iff.1 Eb0.out).1 (by unfold Rg; have o0 := HPa.out; have o1 := HP0.out; have o2 := HQ0'.out; have o3 := HRR.out; have o4 := HNG.out; have o5 := HHG.out; omega)).trans Eb0.out)
  replace Eg := Lib.hid ((hf.block _ (Array.getElem?_eq_some_iff.1 Eg.out).1 (by unfold Rg; have o0 := HPa.out; have o1 := HP0.out; have o2 := HQ0'.out; have o3 := HRR.out; have o4 := HNG.out; have o5 := HHG.out; omega)).trans Eg.out)
  replace HM := Lib.hid (HM.out.stays (fun _ h => h) (fun b hb hl => hf.block b hl (by unfold Rg; have hb' : b < lo0 := hb; have o0 := HPa.out; have o1 := HP0.out; have o2 := HQ0'.out; have o3 := HRR.out; have o4 := HNG.out; have o5 := HHG.out; omega)))
  replace HB := Lib.hid (Below.fr HB.out (Nat.le_refl _) hf (fun b hb => by unfold Rg at hb; have o0 := HPa.out; have o1 := HP0.out; have o2 := HQ0'.out; have o3 := HRR.out; have o4 := HNG.out; have o5 := HHG.out; omega))
  replace HG := Lib.hid ht
  clear ht hf
  have zg0 : w13.cell? ⟨Ng, 0, none⟩ = some (.int .i64 K) := (rowc Eg.out).1 0
  have zg1 : w13.cell? ⟨Ng, 1, none⟩ = some (.int .i64 N) := (rowc Eg.out).1 1
  have zg2 : w13.cell? ⟨Ng, 2, none⟩ = some (.string Z) := (rowc Eg.out).1 2
  have zg3 : w13.cell? ⟨Ng, 3, none⟩ = some (.int .i64 X) := (rowc Eg.out).1 3
  have zg4 : w13.cell? ⟨Ng, 4, none⟩ = some (.slice Ag RL cg) := (rowc Eg.out).1 4
  go_wp2_with (fail)
  refine (heldSep RT _ 1 (by omega) hQ1.out _ _ HG.out.tin).mono ?_
  rintro e w14 ⟨rfl, hb⟩
  rw [HQ.out]
  have hbx := hb
  replace Ea0 := Lib.hid (carry hbx Ea0.out)
  replace Em := Lib.hid (carry hbx Em.out)
  replace Eb0 := Lib.hid (carry hbx Eb0.out)
  replace Eg := Lib.hid (carry hbx Eg.out)
  replace HM := Lib.hid (HM.out.below' hbx)
  replace HG := Lib.hid (HG.out.above fun q _ hl => Below.block hbx q hl)
  replace HB := Lib.hid (bs HB.out hbx)
  clear hb hbx
  try clear zg0 zg1 zg2 zg3 zg4
  have za00 : w14.cell? ⟨w.heap.size, 0, none⟩ = some (.int .i64 k0) := (rowc Ea0.out).1 0
  have za01 : w14.cell? ⟨w.heap.size, 1, none⟩ = some (.int .i64 n0) := (rowc Ea0.out).1 1
  have za02 : w14.cell? ⟨w.heap.size, 2, none⟩ = some (.string s0) := (rowc Ea0.out).1 2
  have za03 : w14.cell? ⟨w.heap.size, 3, none⟩ = some (.int .i64 x0) := (rowc Ea0.out).1 3
  have za04 : w14.cell? ⟨w.heap.size, 4, none⟩ = some (.slice A0 L0 c0) := (rowc Ea0.out).1 4
  have zm0 : w14.cell? ⟨Nm, 0, none⟩ = some (.int .i64 K) := (rowc Em.out).1 0
  have zm1 : w14.cell? ⟨Nm, 1, none⟩ = some (.int .i64 N) := (rowc Em.out).1 1
  have zm2 : w14.cell? ⟨Nm, 2, none⟩ = some (.string Z) := (rowc Em.out).1 2
  have zm3 : w14.cell? ⟨Nm, 3, none⟩ = some (.int .i64 X) := (rowc Em.out).1 3
  have zm4 : w14.cell? ⟨Nm, 4, none⟩ = some (.slice Am RL cm) := (rowc Em.out).1 4
  go_wp2_with (fail)
  refine (cps T0 hT0.out _ _ _ (HR0.out.below' HB.out)).mono ?_
  rintro e w15 ⟨v, rfl, hv, hb⟩
  have hbx := hb
  obtain ⟨Ah0, ch0, rfl, -, -⟩ := TIn.out (HT0.out ▸ hv)
  have HVh0 := Lib.hid (show TIn w15 (Nw 0 w15) T0 (vV k0 n0 s0 x0 Ah0 L0 ch0) by rw [HL0.out, HT0.out]; exact (HT0.out ▸ hv).nw0)
  rw [← HL0.out]
  clear hv
  replace Ea0 := Lib.hid (carry hbx Ea0.out)
  replace Em := Lib.hid (carry hbx Em.out)
  replace Eb0 := Lib.hid (carry hbx Eb0.out)
  replace Eg := Lib.hid (carry hbx Eg.out)
  replace HM := Lib.hid (HM.out.below' hbx)
  replace HG := Lib.hid (HG.out.above fun q _ hl => Below.block hbx q hl)
  replace HB := Lib.hid (bs HB.out hbx)
  clear hb hbx
  try clear za00 za01 za02 za03 za04
  try clear zm0 zm1 zm2 zm3 zm4
  go_wp2_with (fail)
  refine (HCI.out _ _ HVh0.out (HE.out.stays HB.out)).mono ?_
  rintro e w16 ⟨u, par, r, rfl, hv, hr, hb⟩
  have hbx := hb
  obtain ⟨Ah, ch, rfl, -⟩ := TPar.out (HRT.out ▸ hv)
  have HMM := Lib.hid (show TPar w16 par (r, 0) RT (vV K N Z X Ah RL ch) by rw [HRL.out, HRT.out]; exact (HRT.out ▸ hv)).tin
  rw [← HRL.out]
  clear hv hr
  clear HVh0
  replace Ea0 := Lib.hid (carry hbx Ea0.out)
  replace Em := Lib.hid (carry hbx Em.out)
  replace Eb0 := Lib.hid (carry hbx Eb0.out)
  replace Eg := Lib.hid (carry hbx Eg.out)
  replace HM := Lib.hid (HM.out.below' hbx)
  replace HG := Lib.hid (HG.out.above fun q _ hl => Below.block hbx q hl)
  replace HB := Lib.hid (bs HB.out hbx)
  clear hb hbx
  have zna0 : ∀ o j, (w16.alloc o).cell? ⟨w.heap.size, j, none⟩ = _ := fun o j => (rowc (keepAlloc Ea0.out)).1 j
  have znm : ∀ o j, (w16.alloc o).cell? ⟨Nm, j, none⟩ = _ := fun o j => (rowc (keepAlloc Em.out)).1 j
  go_wp2_with (fail)
  clear zna0 znm
  obtain ⟨Nh, hNh⟩ : ∃ N, N = w16.heap.size := ⟨_, rfl⟩
  generalize hwn : w16.alloc (.cells #[.int .i64 K, .int .i64 N, .string Z, .int .i64 X, .slice Ah RL ch] IV) = w17
  have en : w17.heap[Nh]? = some (.cells #[.int .i64 K, .int .i64 N, .string Z, .int .i64 X, .slice Ah RL ch] IV (0, 0)) := by rw [← hwn, hNh]; exact heap_alloc_new _ _
  have hbx : Below w16.heap.size w16 w17 := hwn ▸ b1 _ _
  try rw [← hNh]
  have hv : TIn w17 (fun b => b ≠ Nh) RT (vV K N Z X Ah RL ch) := (HMM.out.lt'.below' hbx).stays (fun b hb e => by have hb' : b < w16.heap.size := hb; omega) (fun _ _ _ => rfl)
  replace Ea0 := Lib.hid (carry hbx Ea0.out)
  replace Em := Lib.hid (carry hbx Em.out)
  replace Eb0 := Lib.hid (carry hbx Eb0.out)
  replace Eg := Lib.hid (carry hbx Eg.out)
  replace HM := Lib.hid (HM.out.below' hbx)
  replace HG := Lib.hid (HG.out.above fun q _ hl => Below.block hbx q hl)
  replace HB := Lib.hid (bs HB.out hbx)
  clear HMM hwn
  have Eh := Lib.hid en
  clear en
  have HH := Lib.hid hv
  clear hv hNh hbx
  have zh0 : w17.cell? ⟨Nh, 0, none⟩ = some (.int .i64 K) := (rowc Eh.out).1 0
  have zh1 : w17.cell? ⟨Nh, 1, none⟩ = some (.int .i64 N) := (rowc Eh.out).1 1
  have zh2 : w17.cell? ⟨Nh, 2, none⟩ = some (.string Z) := (rowc Eh.out).1 2
  have zh3 : w17.cell? ⟨Nh, 3, none⟩ = some (.int .i64 X) := (rowc Eh.out).1 3
  have zh4 : w17.cell? ⟨Nh, 4, none⟩ = some (.slice Ah RL ch) := (rowc Eh.out).1 4
  have zm0 : w17.cell? ⟨Nm, 0, none⟩ = some (.int .i64 K) := (rowc Em.out).1 0
  have zm1 : w17.cell? ⟨Nm, 1, none⟩ = some (.int .i64 N) := (rowc Em.out).1 1
  have zm2 : w17.cell? ⟨Nm, 2, none⟩ = some (.string Z) := (rowc Em.out).1 2
  have zm3 : w17.cell? ⟨Nm, 3, none⟩ = some (.int .i64 X) := (rowc Em.out).1 3
  have zm4 : w17.cell? ⟨Nm, 4, none⟩ = some (.slice Am RL cm) := (rowc Em.out).1 4
  go_wp2_with (fail)
  refine (eqV RT _ _ _ _ _ HH.out HM.out).mono ?_
  rintro e w18 ⟨rfl, hb⟩
  have hbx := hb
  replace Ea0 := Lib.hid (carry hbx Ea0.out)
  replace Em := Lib.hid (carry hbx Em.out)
  replace Eb0 := Lib.hid (carry hbx Eb0.out)
  replace Eg := Lib.hid (carry hbx Eg.out)
  replace Eh := Lib.hid (carry hbx Eh.out)
  replace HM := Lib.hid (HM.out.below' hbx)
  replace HH := Lib.hid (HH.out.below' hbx)
  replace HG := Lib.hid (HG.out.above fun q _ hl => Below.block hbx q hl)
  replace HB := Lib.hid (bs HB.out hbx)
  clear hb hbx
  try clear zh0 zh1 zh2 zh3 zh4
  try clear zm0 zm1 zm2 zm3 zm4
  have zg0 : w18.cell? ⟨Ng, 0, none⟩ = some (.int .i64 K) := (rowc Eg.out).1 0
  have zg1 : w18.cell? ⟨Ng, 1, none⟩ = some (.int .i64 N) := (rowc Eg.out).1 1
  have zg2 : w18.cell? ⟨Ng, 2, none⟩ = some (.string Z) := (rowc Eg.out).1 2
  have zg3 : w18.cell? ⟨Ng, 3, none⟩ = some (.int .i64 X) := (rowc Eg.out).1 3
  have zg4 : w18.cell? ⟨Ng, 4, none⟩ = some (.slice Ag RL cg) := (rowc Eg.out).1 4
  go_wp2_with (fail)
  refine (heldSep RT _ 1 (by omega) hQ1.out _ _ HG.out.tin).mono ?_
  rintro e w19 ⟨rfl, hb⟩
  rw [HQ.out]
  have hbx := hb
  replace Ea0 := Lib.hid (carry hbx Ea0.out)
  replace Em := Lib.hid (carry hbx Em.out)
  replace Eb0 := Lib.hid (carry hbx Eb0.out)
  replace Eg := Lib.hid (carry hbx Eg.out)
  replace Eh := Lib.hid (carry hbx Eh.out)
  replace HM := Lib.hid (HM.out.below' hbx)
  replace HH := Lib.hid (HH.out.below' hbx)
  replace HG := Lib.hid (HG.out.above fun q _ hl => Below.block hbx q hl)
  replace HB := Lib.hid (bs HB.out hbx)
  clear hb hbx
  try clear zg0 zg1 zg2 zg3 zg4
  go_wp2_with (fail)
  go_ret
  exact ⟨rfl, HB.out⟩

theorem walk (k0 : Int) (t1 : Tr) (v1 : Value) (w : World) (hr1 : TIn w (fun _ => True) t1 v1) (hE : OpE w) : Calls Tryz.prog 5 #[.int .i64 k0, v1] w (TrueQ w) := by
  have hc1 := cnt_tot t1 hr1.fits
  refine walk0 k0 t1 v1 w hr1 (fT (unF k0 t1).1) (unF k0 t1).2 hE (fun hT => ⟨?_, fun w S0 u0 h0 hE => ?_, fun w u0 h0 hE => ?_⟩)
  · have h2 := itm_cnt (fT (unF k0 t1).1)
    rw [fT_cnt] at h2
    omega
  · refine (unary_s k0 t1 u0 w S0 h0 (by omega)).mono ?_
    rintro e w' ⟨rfl, hb⟩
    exact ⟨_, rfl, flat (fits_un k0 t1) _ _ none 0 (Nat.zero_le _), hb⟩
  · refine (unary_i k0 t1 u0 w h0 (by omega) hE (by omega)).mono ?_
    rintro e w' ⟨rfl, hb⟩
    exact ⟨_, fun _ => (0, 0), w.heap.size, rfl, flat_par (fits_un k0 t1) _ _ _, Nat.le_refl _, hb⟩

set_option maxRecDepth 100000 in
theorem lifted (os : Os) (started : os.Started) (H : Type) (enc : TypeId × Value → H) :
    ReturnsInHanded {} Tryz.checked os 5 .any (fun w args => (Rows.fnExactUnaryOpSpec.pre enc Tryz.prog Tryz.f5 [] false w args ∧ laidMetH Tryz.prog ers.bin.laidOf w) ∧ sizedMet enc Tryz.prog Tryz.f5 (OpenSpec.ofChange Rows.fnExactUnaryOpSpec) false w args)
      (Rows.fnExactUnaryOpSpec.post enc Tryz.prog Tryz.f5 false true false false) := by
  refine returnsInHanded_of_change_and (C := Tryz.checked) (X := fun w _ => laidMetH Tryz.prog ers.bin.laidOf w) (fun _ _ _ hh h => h.of_heap hh) own started (by kernel_rfl) Tryz.func5
    (ChangeSpec.witness_shaped (enc := enc) (C := Tryz.checked) (os := os) (X := fun w _ => laidMetH Tryz.prog ers.bin.laidOf w) false (World.doorLaid Tryz.prog 400 os) #[.int .i64 0, .agg #[.int .i64 0, .int .i64 0, .string ⟨#[]⟩, .int .i64 0, .slice none 0 0]] 8 rfl (World.shaped_of_RefB (by kernel_rfl) (by kernel_rfl)) (by kernel_rfl) (by kernel_rfl) (by kernel_rfl) (ers.bin.door_met os _)) ?_
  intro W base args ds gs before hval0 hW _ hsz0 hL _
  have hval : ∀ (j : Nat) t v, Tryz.f5.params[j]? = some t → args[j]? = some v → Value.okWide Tryz.prog W .any base t v := hval0
  have hW' := hW
  obtain ⟨p, q, hA0, hV, rfl, hfz, hnd⟩ := hW
  have hA : DataW.TrodAll enc Tryz.prog W 0 (fun _ => true) true Tryz.f5.params.toList args.toList ds p := hA0
  have hA2 := hA
  rw [Tryz.params5] at hA hval
  obtain ⟨v0, vs0, d0, ds0, p0, q0, hargs, rfl, rfl, h0, r0⟩ := trodAll_cons hA
  obtain ⟨v1, vs1, d1, ds1, p1, q1, rfl, rfl, rfl, h1, r1⟩ := trodAll_cons r0
  obtain ⟨rfl, rfl, rfl⟩ := trodAll_nil r1
  obtain rfl : args = #[v0, v1] := by cases args; simp_all
  have hE := ers.bin.env_of hL
  obtain ⟨-, -, ⟨a, hEa⟩, ⟨b, hEb⟩⟩ := id hE
  obtain ⟨rfl, rfl⟩ := hV.unique (readTN enc hEa hEb _)
  obtain ⟨k0, rfl, rfl, rfl, w0⟩ := open_int Tryz.underlying3 (hval 0 3 v0 rfl rfl) h0
  obtain ⟨t1, hr1⟩ := opt.open_value (hval 1 38 v1 rfl rfl) h1
  clear hA0 hval0
  refine (walk k0 t1 v1 W hr1 hE).mono fun e W' ⟨he, hb⟩ => ?_
  subst he
  exact ⟨_, rfl, opn.post_true_vars2 hW' hA2 rfl rfl Tryz.underlying4 (by kernel_rfl) (by kernel_rfl) hb (readTN enc (hEa.stays hb) (hEb.stays hb) _)⟩

theorem over : Rows.FnExactUnaryOpSaid :=
  OpenClaim.holds_of_wide 5 Tryz.f5 rfl rfl rfl rfl rfl rfl rfl ⟨rfl, rfl, rfl, rfl, rfl⟩ rfl rfl rfl rfl rfl (by kernel_rfl) Tryz.func5 (by kernel_rfl)
    (of_decide_eq_true (by kernel_rfl)) (by unfold Func.isWrapper; first | (rw [if_pos (by decide +kernel)]; kernel_rfl) | (rw [if_neg (by decide +kernel)]; exact ⟨rfl, rfl⟩))
    (fun os started H enc _ => lifted os started H enc)

/-- The statement. -/
theorem proved : Rows.FnExactUnaryOpCardSaid :=
  Claim7.holds_tied_plain_at .later [] Rows.fnExactUnaryOpCard.laidKinds true Rows.fnExactUnaryOpCard.stood.harness Rows.fnExactUnaryOpCard.stood.looks
    over (fun _ h => by cases h) (by kernel_rfl) (fun _ h => by cases h) fnExactUnaryOp_row_tie rfl ⟨rfl, rfl⟩ (by kernel_rfl) rfl
    (fun f fn hf hfn => by
      obtain rfl : f = 5 := Option.some.inj ((show Tryz.prog.funcNamed "loop.example/g03011/laws.FnExactUnaryOp" = some 5 by kernel_rfl).symm.trans hf) |>.symm
      obtain rfl : fn = Tryz.f5 := (Option.some.inj (Tryz.func5.symm.trans hfn)).symm
      exact ⟨by kernel_rfl, fun j t ht => by
        rw [Tryz.params5] at ht
        have hm : t ∈ [3, 38] := by simpa using Array.mem_of_getElem? ht
        have hall : ([3, 38].all fun u => !Tryz.prog.wantsStandIn u) = true := by kernel_rfl
        exact (show Tryz.prog.wantsStandIn t = false by simpa using List.all_eq_true.1 hall t hm)⟩)
    (by kernel_rfl)
#print axioms proved
end Go.Proofs.YteoilhbidnnneaaGreatDoor.fnExactUnaryOp

