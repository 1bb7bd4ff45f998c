/-
  ValuesOf answers as its model at every value; it leaves its argument unmodified, and its answer owns its memory.
  Conditions: none.
-/
import Derived.Test.YtlbkbcafkjgckaaRows
import Derived.Deep.RegionHeld3
import Derived.WalkKit
import Derived.ProofKit
import Derived.OpenShut
import Derived.Test.YtlbkbcafkjgckaaValuesOf
import Derived.Test.YtlbkbcafkjgckaaVMark
import Derived.Test.YtlbkbcafkjgckaaLawBox
import Derived.Test.YtlbkbcafkjgckaaOpenT
namespace Go.Proofs.Ytlbkbcafkjgckaa.fnExactValuesOf
open Go.ChangeShapes Go.WideShapes Go.ChangeAt Go.RowKit tree
open Go.ChangeMaps (open_string)
set_option linter.unusedVariables false

theorem own : ownKnob Try.prog.godebug = none := by kernel_rfl

set_option maxHeartbeats 4000000 in
set_option maxRecDepth 100000 in
theorem walk0 (t0 : Tr) (v0 : Value) (w : World) (hr0 : TIn w (fun _ => True) t0 v0) (vs : List Tr)
    (HC : tot t0 ≤ 1048576 → (vs.length ≤ 1048576 ∧ cnts vs ≤ 1048577) ∧ (∀ (w : World) (S : Nat → Prop) (u : Value), TIn w S t0 u → Calls Try.prog 6 #[u] w (VoS w vs)) ∧ (∀ (w : World) (u : Value), TIn w (Nw 0 w) t0 u → Calls Try.prog 8 #[u] w (VoQ w vs))) :
    Calls Try.prog 3 #[v0] w (TrueQ w) := by
  obtain ⟨k0, n0, s0, x0, ks0, vs0⟩ := t0
  obtain ⟨A0, c0, rfl, -, -⟩ := hr0.out
  obtain ⟨L0, HL0⟩ : ∃ L, Hid (L = vs0.length) := ⟨_, Lib.hid rfl⟩
  obtain ⟨T0, HT0⟩ : ∃ T, Hid (T = Tr.mk k0 n0 s0 x0 ks0 vs0) := ⟨_, Lib.hid rfl⟩
  rw [← HT0.out] at hr0 HC
  rw [← HL0.out] at hr0 ⊢
  have HR0 := Lib.hid hr0
  have SZ0 := fun w h => szV T0 w (fun _ => True) (vV k0 n0 s0 x0 A0 L0 c0) h
  have HCC := Lib.hid HC
  clear hr0 HC
  go_enter Try.func3, Try.ntmps3
  go_wp2_with (fail)
  refine (SZ0 _ (HR0.out.below' (b1 _ _)) 1048576 (by omega) (by omega)).mono ?_
  rintro e w0 ⟨r0, rfl, ⟨ha0, hb0, hc0⟩, hw0⟩
  have Ea0 := Lib.hid (carry hw0 (heap_alloc_new w _))
  have HB := Lib.hid (bs (b1 w _) hw0)
  have HQ0 := Lib.hid hc0
  clear hw0 hc0
  by_cases hlt0 : r0 < 0
  · go_wp2_with (fail)
    go_ret
    exact ⟨rfl, HB.out⟩
  have HSUM : Hid (tot T0 ≤ 1048576) := Lib.hid (by have q0 := HQ0.out (by omega); omega)
  obtain HCON := HCC.out HSUM.out
  obtain ⟨⟨hkn, hkc⟩, hcs, hci⟩ := HCON
  have HCS := Lib.hid hcs
  have HCI := Lib.hid hci
  have hT : Hid (tot T0 ≤ 1048576) := Lib.hid (by have := HSUM.out; omega)
  have hF : Hid (cnt T0 ≤ 1048577) := Lib.hid (by have := cnt_tot T0 HR0.out.fits; have := HSUM.out; omega)
  obtain ⟨n, HN⟩ : ∃ n, Hid (vs.length = n) := ⟨_, Lib.hid rfl⟩
  have hn : n ≤ 1048576 := by rw [← HN.out]; exact hkn
  have hcn : n ≤ cnts vs := by rw [← HN.out]; exact cnts_len vs
  obtain ⟨Q, HQ⟩ : ∃ Q : Int, Hid (1 + 7 * (cnts vs : Int) - 3 * (n : Int) = Q) := ⟨_, Lib.hid rfl⟩
  have hQ0 : 1 ≤ Q := by rw [← HQ.out]; omega
  have EQK : Hid (∀ w S S' A A' c c', VIn w S vs A → VIn w S' vs A' → Calls Try.prog 9 #[.slice A n c, .slice A' n c'] w (TrueQ w)) := Lib.hid (fun w S S' A A' c c' h h' => by
    have := eqValueS vs (by omega) w S S' A A' c c' h h'
    rw [HN.out] at this
    exact this)
  have MK : Hid (∀ w par h lo hi v, VRow w par h lo hi v vs → Calls Try.prog 12 #[v, .int .i64 1] w (fun e w' => e = .returned (.int .i64 Q) ∧ VRow w' par h lo hi v (mkW 1 vs) ∧ Fr (fun b => v.ownBlock = some b ∨ Rg lo hi b) w w')) := Lib.hid (fun w par h lo hi v hv => by
    have := markValueS vs 1 (by omega) (by omega) (by omega) w par h lo hi v hv
    unfold MvQ at this
    rw [HN.out, HQ.out] at this
    exact this)
  have HE : Hid (∀ w S A c, VIn w S (mkW 1 vs) A → Calls Try.prog 13 #[.slice A n c, .int .i64 1] w (GivesQ w (.int .i64 Q))) := Lib.hid (fun w S A c h => by
    have := heldValueS vs 1 (by omega) (by omega) (by omega) w S A c h
    rw [HN.out, HQ.out] at this
    exact this)
  clear hcs hci hkn hkc hn hcn
  have za00 : w0.cell? ⟨w.heap.size, 0, none⟩ = some (.int .i64 k0) := (rowc Ea0.out).1 0
  have za01 : w0.cell? ⟨w.heap.size, 1, none⟩ = some (.int .i64 n0) := (rowc Ea0.out).1 1
  have za02 : w0.cell? ⟨w.heap.size, 2, none⟩ = some (.string s0) := (rowc Ea0.out).1 2
  have za03 : w0.cell? ⟨w.heap.size, 3, none⟩ = some (.int .i64 x0) := (rowc Ea0.out).1 3
  have za04 : w0.cell? ⟨w.heap.size, 4, none⟩ = some (.slice A0 L0 c0) := (rowc Ea0.out).1 4
  go_wp2_with (fail)
  refine (cps T0 hT.out _ _ _ (HR0.out.below' HB.out)).mono ?_
  rintro e w1 ⟨v, rfl, hv, hb⟩
  have hbx := hb
  obtain ⟨A1, c1, rfl, -, -⟩ := TIn.out (HT0.out ▸ hv)
  have HV1 := Lib.hid (show TIn w1 _ T0 (vV k0 n0 s0 x0 A1 L0 c1) by rw [HL0.out, HT0.out]; exact (HT0.out ▸ hv))
  rw [← HL0.out]
  clear hv
  replace Ea0 := Lib.hid (carry hbx Ea0.out)
  replace HB := Lib.hid (bs HB.out hbx)
  clear hb hbx
  clear za00 za01 za02 za03 za04
  go_wp2_with (fail)
  refine (HCS.out _ _ _ HV1.out).mono ?_
  rintro e w2 ⟨Am, cm, rfl, hv, hb⟩
  have hbx := hb
  rw [HN.out]
  have HM := Lib.hid hv
  clear hv HV1
  replace Ea0 := Lib.hid (carry hbx Ea0.out)
  replace HB := Lib.hid (bs HB.out hbx)
  clear hb hbx
  have za00 : w2.cell? ⟨w.heap.size, 0, none⟩ = some (.int .i64 k0) := (rowc Ea0.out).1 0
  have za01 : w2.cell? ⟨w.heap.size, 1, none⟩ = some (.int .i64 n0) := (rowc Ea0.out).1 1
  have za02 : w2.cell? ⟨w.heap.size, 2, none⟩ = some (.string s0) := (rowc Ea0.out).1 2
  have za03 : w2.cell? ⟨w.heap.size, 3, none⟩ = some (.int .i64 x0) := (rowc Ea0.out).1 3
  have za04 : w2.cell? ⟨w.heap.size, 4, none⟩ = some (.slice A0 L0 c0) := (rowc Ea0.out).1 4
  go_wp2_with (fail)
  obtain ⟨lo0, hlo0⟩ : ∃ N, N = w2.heap.size := ⟨_, rfl⟩
  rw [← hlo0] at HM
  have HPa : Hid (w.heap.size < lo0) := Lib.hid (by rw [hlo0]; exact (Array.getElem?_eq_some_iff.1 Ea0.out).1)
  refine (cps T0 hT.out _ _ _ (HR0.out.below' HB.out)).mono ?_
  rintro e w3 ⟨v, rfl, hv, hb⟩
  have hbx := hb
  obtain ⟨Ax0, cx0, rfl, -, -⟩ := TIn.out (HT0.out ▸ hv)
  have hx := (show TIn w3 (Nw lo0 w3) T0 (vV k0 n0 s0 x0 Ax0 L0 cx0) by rw [HL0.out, HT0.out, hlo0]; exact (HT0.out ▸ hv))
  rw [← HL0.out]
  clear hv
  replace Ea0 := Lib.hid (carry hbx Ea0.out)
  replace HB := Lib.hid (bs HB.out hbx)
  replace HM := Lib.hid (HM.out.below hbx)
  have HX0 := Lib.hid hx.rgp
  have hsz := hb.size
  rw [← hlo0] at hsz
  clear hb hbx hx
  try clear za00 za01 za02 za03 za04
  go_wp2_with (fail)
  obtain ⟨Nb0, hNb0⟩ : ∃ N, N = w3.heap.size := ⟨_, rfl⟩
  generalize hwn : w3.alloc (.cells #[.int .i64 k0, .int .i64 n0, .string s0, .int .i64 x0, .slice Ax0 L0 cx0] IV) = w4
  have en : w4.heap[Nb0]? = some (.cells #[.int .i64 k0, .int .i64 n0, .string s0, .int .i64 x0, .slice Ax0 L0 cx0] IV (0, 0)) := by rw [← hwn, hNb0]; exact heap_alloc_new _ _
  have hbx : Below w3.heap.size w3 w4 := hwn ▸ b1 _ _
  try rw [← hNb0]
  replace Ea0 := Lib.hid (carry hbx Ea0.out)
  replace HB := Lib.hid (bs HB.out hbx)
  replace HM := Lib.hid (HM.out.below hbx)
  replace HX0 := Lib.hid (HX0.out.rgb hbx)
  have Eb0 := Lib.hid en
  have HPb : Hid (Nb0 < w4.heap.size) := Lib.hid (Array.getElem?_eq_some_iff.1 en).1
  rw [← hNb0] at HX0 hsz
  have HQ0b : Hid (lo0 ≤ Nb0) := Lib.hid hsz
  clear en hbx hwn hNb0 hsz hlo0
  replace Eb0 := Eb0
  have Eb := Eb0
  clear Eb0
  refine (HCI.out _ _ HX0.out.rgn).mono ?_
  rintro e w5 ⟨vg, par, hh, hi, rfl, hv, hhi, hb⟩
  have hbx := hb
  obtain ⟨Ag, cg, rfl, -⟩ := hv.out
  rw [HN.out] at hv ⊢
  obtain ⟨lo1, hlo1⟩ : ∃ N, Hid (N = w4.heap.size) := ⟨_, Lib.hid rfl⟩
  rw [← hlo1.out] at hv
  have HL1 : Hid (Nb0 < lo1) := Lib.hid (by rw [hlo1.out]; exact HPb.out)
  have HGO := Lib.hid (fun b h => (hv.own b h).1)
  have HG := Lib.hid hv
  clear hv hhi
  replace Ea0 := Lib.hid (carry hbx Ea0.out)
  replace Eb := Lib.hid (carry hbx Eb.out)
  replace HB := Lib.hid (bs HB.out hbx)
  replace HM := Lib.hid (HM.out.below hbx)
  replace HX0 := Lib.hid (HX0.out.rgb hbx)
  clear hb hbx
  go_wp2_with (fail)
  refine (EQK.out _ _ _ _ _ _ _ HG.out.vin HM.out).mono ?_
  rintro e w6 ⟨rfl, hb⟩
  have hbx := hb
  replace Ea0 := Lib.hid (carry hbx Ea0.out)
  replace Eb := Lib.hid (carry hbx Eb.out)
  replace HB := Lib.hid (bs HB.out hbx)
  replace HM := Lib.hid (HM.out.below hbx)
  replace HG := Lib.hid (HG.out.below hbx)
  replace HX0 := Lib.hid (HX0.out.rgb hbx)
  clear hb hbx
  have zb0 : w6.cell? ⟨Nb0, 0, none⟩ = some (.int .i64 k0) := (rowc Eb.out).1 0
  have zb1 : w6.cell? ⟨Nb0, 1, none⟩ = some (.int .i64 n0) := (rowc Eb.out).1 1
  have zb2 : w6.cell? ⟨Nb0, 2, none⟩ = some (.string s0) := (rowc Eb.out).1 2
  have zb3 : w6.cell? ⟨Nb0, 3, none⟩ = some (.int .i64 x0) := (rowc Eb.out).1 3
  have zb4 : w6.cell? ⟨Nb0, 4, none⟩ = some (.slice Ax0 L0 cx0) := (rowc Eb.out).1 4
  have za00 : w6.cell? ⟨w.heap.size, 0, none⟩ = some (.int .i64 k0) := (rowc Ea0.out).1 0
  have za01 : w6.cell? ⟨w.heap.size, 1, none⟩ = some (.int .i64 n0) := (rowc Ea0.out).1 1
  have za02 : w6.cell? ⟨w.heap.size, 2, none⟩ = some (.string s0) := (rowc Ea0.out).1 2
  have za03 : w6.cell? ⟨w.heap.size, 3, none⟩ = some (.int .i64 x0) := (rowc Ea0.out).1 3
  have za04 : w6.cell? ⟨w.heap.size, 4, none⟩ = some (.slice A0 L0 c0) := (rowc Ea0.out).1 4
  go_wp2_with (fail)
  go_region_held3 (fun w' => w'.cell? ⟨Nb0, 0, none⟩ = some (.int .i64 k0) ∧ w'.cell? ⟨Nb0, 1, none⟩ = some (.int .i64 n0) ∧ w'.cell? ⟨Nb0, 2, none⟩ = some (.string s0) ∧ w'.cell? ⟨Nb0, 3, none⟩ = some (.int .i64 x0) ∧ w'.cell? ⟨Nb0, 4, none⟩ = some (.slice Ax0 L0 cx0) ∧ w'.cell? ⟨w.heap.size, 0, none⟩ = some (.int .i64 k0) ∧ w'.cell? ⟨w.heap.size, 1, none⟩ = some (.int .i64 n0) ∧ w'.cell? ⟨w.heap.size, 2, none⟩ = some (.string s0) ∧ w'.cell? ⟨w.heap.size, 3, none⟩ = some (.int .i64 x0) ∧ w'.cell? ⟨w.heap.size, 4, none⟩ = some (.slice A0 L0 c0)) (go_keep)
    (first
    | (go_at_call 7; refine (cps T0 hT.out _ _ _ (HR0.out.below' (HB.out.trans ((Below.refl _ _).drew)))).mono ?_
       rintro e w7 ⟨v, rfl, hv, hb⟩
       have hbx := (bs ((Below.refl w6.heap.size w6).drew) hb)
       obtain ⟨A7, c7, rfl, -, -⟩ := TIn.out (HT0.out ▸ hv)
       have HV7 := Lib.hid (show TIn w7 _ T0 (vV k0 n0 s0 x0 A7 L0 c7) by rw [HL0.out, HT0.out]; exact (HT0.out ▸ hv))
       rw [← HL0.out]
       clear hv
       replace Ea0 := Lib.hid (carry hbx Ea0.out)
       replace Eb := Lib.hid (carry hbx Eb.out)
       replace HB := Lib.hid (bs HB.out hbx)
       replace HM := Lib.hid (HM.out.below hbx)
       replace HG := Lib.hid (HG.out.below hbx)
       replace HX0 := Lib.hid (HX0.out.rgb hbx)
       have zb0 : w7.cell? ⟨Nb0, 0, none⟩ = some (.int .i64 k0) := (rowc Eb.out).1 0
       have zb1 : w7.cell? ⟨Nb0, 1, none⟩ = some (.int .i64 n0) := (rowc Eb.out).1 1
       have zb2 : w7.cell? ⟨Nb0, 2, none⟩ = some (.string s0) := (rowc Eb.out).1 2
       have zb3 : w7.cell? ⟨Nb0, 3, none⟩ = some (.int .i64 x0) := (rowc Eb.out).1 3
       have zb4 : w7.cell? ⟨Nb0, 4, none⟩ = some (.slice Ax0 L0 cx0) := (rowc Eb.out).1 4
       have za00 : w7.cell? ⟨w.heap.size, 0, none⟩ = some (.int .i64 k0) := (rowc Ea0.out).1 0
       have za01 : w7.cell? ⟨w.heap.size, 1, none⟩ = some (.int .i64 n0) := (rowc Ea0.out).1 1
       have za02 : w7.cell? ⟨w.heap.size, 2, none⟩ = some (.string s0) := (rowc Ea0.out).1 2
       have za03 : w7.cell? ⟨w.heap.size, 3, none⟩ = some (.int .i64 x0) := (rowc Ea0.out).1 3
       have za04 : w7.cell? ⟨w.heap.size, 4, none⟩ = some (.slice A0 L0 c0) := (rowc Ea0.out).1 4
       clear hb hbx)
    | (go_at_call 10; refine (eqV T0 _ _ _ _ _ HX0.out HV7.out).mono ?_
       rintro e w8 ⟨rfl, hb⟩
       have hbx := hb
       
       replace Ea0 := Lib.hid (carry hbx Ea0.out)
       replace Eb := Lib.hid (carry hbx Eb.out)
       replace HB := Lib.hid (bs HB.out hbx)
       replace HM := Lib.hid (HM.out.below hbx)
       replace HG := Lib.hid (HG.out.below hbx)
       replace HX0 := Lib.hid (HX0.out.rgb hbx)
       have zb0 : w8.cell? ⟨Nb0, 0, none⟩ = some (.int .i64 k0) := (rowc Eb.out).1 0
       have zb1 : w8.cell? ⟨Nb0, 1, none⟩ = some (.int .i64 n0) := (rowc Eb.out).1 1
       have zb2 : w8.cell? ⟨Nb0, 2, none⟩ = some (.string s0) := (rowc Eb.out).1 2
       have zb3 : w8.cell? ⟨Nb0, 3, none⟩ = some (.int .i64 x0) := (rowc Eb.out).1 3
       have zb4 : w8.cell? ⟨Nb0, 4, none⟩ = some (.slice Ax0 L0 cx0) := (rowc Eb.out).1 4
       have za00 : w8.cell? ⟨w.heap.size, 0, none⟩ = some (.int .i64 k0) := (rowc Ea0.out).1 0
       have za01 : w8.cell? ⟨w.heap.size, 1, none⟩ = some (.int .i64 n0) := (rowc Ea0.out).1 1
       have za02 : w8.cell? ⟨w.heap.size, 2, none⟩ = some (.string s0) := (rowc Ea0.out).1 2
       have za03 : w8.cell? ⟨w.heap.size, 3, none⟩ = some (.int .i64 x0) := (rowc Ea0.out).1 3
       have za04 : w8.cell? ⟨w.heap.size, 4, none⟩ = some (.slice A0 L0 c0) := (rowc Ea0.out).1 4
       clear hb hbx))
  clear HV7
  try clear zb0 zb1 zb2 zb3 zb4 za00 za01 za02 za03 za04
  try clear zb0 zb1 zb2 zb3 zb4 za00 za01 za02 za03 za04
  have zb0 : w8.cell? ⟨Nb0, 0, none⟩ = some (.int .i64 k0) := (rowc Eb.out).1 0
  have zb1 : w8.cell? ⟨Nb0, 1, none⟩ = some (.int .i64 n0) := (rowc Eb.out).1 1
  have zb2 : w8.cell? ⟨Nb0, 2, none⟩ = some (.string s0) := (rowc Eb.out).1 2
  have zb3 : w8.cell? ⟨Nb0, 3, none⟩ = some (.int .i64 x0) := (rowc Eb.out).1 3
  have zb4 : w8.cell? ⟨Nb0, 4, none⟩ = some (.slice Ax0 L0 cx0) := (rowc Eb.out).1 4
  go_wp2_with (fail)
  refine (markArg2 T0 _ _ (by omega) (by have := hF.out; omega) _ lo0 Nb0 HX0.out).mono ?_
  rintro e w9 ⟨p0, rfl, hp0, hq0, hf⟩
  replace hq0 : p0 ≤ 8000000 := by have := hF.out; omega
  try clear zb0 zb1 zb2 zb3 zb4
  have o1 := HPa.out
  have o2 := HQ0b.out
  replace Ea0 := Lib.hid ((hf.block _ (Array.getElem?_eq_some_iff.1 Ea0.out).1 (by unfold Rg; omega)).trans Ea0.out)
  replace HM := Lib.hid (HM.out.stays (fun _ h => h) fun b hb hl => hf.block b hl (by have hb' : b < lo0 := hb; unfold Rg; omega))
  have o3 := HL1.out
  replace HG := Lib.hid (HG.out.keep hf.size fun b hb hl => hf.block b hl (by
    rcases hb with e | e
    · have := HGO.out b e; unfold Rg; omega
    · unfold Rg at e ⊢; omega))
  replace HB := Lib.hid (Below.fr HB.out (Nat.le_refl _) hf (fun b hb => by unfold Rg at hb; omega))
  clear hf Eb HX0
  go_wp2_with (fail)
  refine (EQK.out _ _ _ _ _ _ _ HG.out.vin HM.out).mono ?_
  rintro e w10 ⟨rfl, hb⟩
  have hbx := hb
  replace Ea0 := Lib.hid (carry hbx Ea0.out)
  replace HB := Lib.hid (bs HB.out hbx)
  replace HM := Lib.hid (HM.out.below hbx)
  replace HG := Lib.hid (HG.out.below hbx)
  clear hb hbx
  go_wp2_with (fail)
  refine (MK.out _ _ _ _ _ _ HG.out).mono ?_
  rintro e w11 ⟨rfl, hg, hf⟩
  have low : ∀ b, ((Value.slice Ag n cg).ownBlock = some b ∨ Rg lo1 hi b) → lo1 ≤ b := fun b hb => by
    rcases hb with e | e
    · exact HGO.out b e
    · exact e.1
  replace Ea0 := Lib.hid ((hf.block _ (Array.getElem?_eq_some_iff.1 Ea0.out).1 (fun e => by have := low _ e; omega)).trans Ea0.out)
  replace HM := Lib.hid (HM.out.stays (fun _ h => h) fun b hb hl => hf.block b hl (fun e => by have hb' : b < lo0 := hb; have := low _ e; omega))
  replace HB := Lib.hid (Below.fr HB.out (Nat.le_refl _) hf (fun b e => by have := low _ e; omega))
  clear low
  replace HG := Lib.hid hg
  clear hg hf
  go_wp2_with (fail)
  refine (HE.out _ _ _ _ HG.out.vin).mono ?_
  rintro e w12 ⟨rfl, hb⟩
  have hbx := hb
  replace Ea0 := Lib.hid (carry hbx Ea0.out)
  replace HB := Lib.hid (bs HB.out hbx)
  replace HM := Lib.hid (HM.out.below hbx)
  replace HG := Lib.hid (HG.out.below hbx)
  clear hb hbx
  have za00 : w12.cell? ⟨w.heap.size, 0, none⟩ = some (.int .i64 k0) := (rowc Ea0.out).1 0
  have za01 : w12.cell? ⟨w.heap.size, 1, none⟩ = some (.int .i64 n0) := (rowc Ea0.out).1 1
  have za02 : w12.cell? ⟨w.heap.size, 2, none⟩ = some (.string s0) := (rowc Ea0.out).1 2
  have za03 : w12.cell? ⟨w.heap.size, 3, none⟩ = some (.int .i64 x0) := (rowc Ea0.out).1 3
  have za04 : w12.cell? ⟨w.heap.size, 4, none⟩ = some (.slice A0 L0 c0) := (rowc Ea0.out).1 4
  go_wp2_with (fail)
  refine (cps T0 hT.out _ _ _ (HR0.out.below' HB.out)).mono ?_
  rintro e w13 ⟨v, rfl, hv, hb⟩
  have hbx := hb
  obtain ⟨A13, c13, rfl, -, -⟩ := TIn.out (HT0.out ▸ hv)
  have HV13 := Lib.hid (show TIn w13 (Nw 0 w13) T0 (vV k0 n0 s0 x0 A13 L0 c13) by rw [HL0.out, HT0.out]; exact (HT0.out ▸ hv).nw0)
  rw [← HL0.out]
  clear hv
  replace Ea0 := Lib.hid (carry hbx Ea0.out)
  replace HB := Lib.hid (bs HB.out hbx)
  replace HM := Lib.hid (HM.out.below hbx)
  replace HG := Lib.hid (HG.out.below hbx)
  clear hb hbx
  try clear za00 za01 za02 za03 za04
  go_wp2_with (fail)
  refine (HCI.out _ _ HV13.out).mono ?_
  rintro e w14 ⟨vh, par2, hh2, hi2, rfl, hv, hhi, hb⟩
  have hbx := hb
  obtain ⟨Ah, ch, rfl, -⟩ := hv.out
  rw [HN.out] at hv ⊢
  have HH := Lib.hid hv
  clear hv hhi HV13
  replace Ea0 := Lib.hid (carry hbx Ea0.out)
  replace HB := Lib.hid (bs HB.out hbx)
  replace HM := Lib.hid (HM.out.below hbx)
  replace HG := Lib.hid (HG.out.below hbx)
  clear hb hbx
  go_wp2_with (fail)
  refine (EQK.out _ _ _ _ _ _ _ HH.out.vin HM.out).mono ?_
  rintro e w15 ⟨rfl, hb⟩
  have hbx := hb
  replace Ea0 := Lib.hid (carry hbx Ea0.out)
  replace HB := Lib.hid (bs HB.out hbx)
  replace HM := Lib.hid (HM.out.below hbx)
  replace HG := Lib.hid (HG.out.below hbx)
  clear hb hbx
  go_wp2_with (fail)
  refine (HE.out _ _ _ _ HG.out.vin).mono ?_
  rintro e w16 ⟨rfl, hb⟩
  have hbx := hb
  replace Ea0 := Lib.hid (carry hbx Ea0.out)
  replace HB := Lib.hid (bs HB.out hbx)
  replace HM := Lib.hid (HM.out.below hbx)
  replace HG := Lib.hid (HG.out.below hbx)
  clear hb hbx
  go_wp2_with (fail)
  go_ret
  exact ⟨rfl, HB.out⟩

theorem walk (t0 : Tr) (v0 : Value) (w : World) (hr0 : TIn w (fun _ => True) t0 v0) : Calls Try.prog 3 #[v0] w (TrueQ w) := by
  have hf := hr0.fits
  have hc := cnt_tot t0 hf
  refine walk0 t0 v0 w hr0 (valuesT t0) (fun hT => ⟨?_, fun w S u h => valuesOf_s t0 u w S h (by omega), fun w u h => valuesOf_i t0 u w h (by omega) (by omega)⟩)
  obtain ⟨k, n, s, x, ks, vs⟩ := t0
  rw [tot_mk] at hT
  rw [cnt_mk', tot_mk] at hc
  show (if k = 4 then vs else []).length ≤ 1048576 ∧ cnts (if k = 4 then vs else []) ≤ 1048577
  split
  · exact ⟨by omega, by omega⟩
  · exact ⟨by simp, by rw [cnts_nil]; omega⟩

set_option maxRecDepth 100000 in
theorem lifted (os : Os) (started : os.Started) (H : Type) (enc : TypeId × Value → H) :
    ReturnsInHanded {} Try.checked os 3 .any (Rows.fnExactValuesOfSpec.pre6 enc Try.prog Try.f3 Rows.fnExactValuesOfRow.domain false) (Rows.fnExactValuesOfSpec.post enc Try.prog Try.f3 false true false false) := by
  refine returnsInHanded_of_change (C := Try.checked) own started (by kernel_rfl) Try.func3
    (ChangeSpec.witness6 (enc := enc) (C := Try.checked) false ⟨#[], #[.agg #[.int .i64 0, .int .i64 0, .string ⟨#[]⟩, .int .i64 0, .slice none 0 0]], []⟩ 8 (by kernel_rfl) (by kernel_rfl) (by kernel_rfl) (by kernel_rfl)) ?_
  intro W base args ds gs before hval0 hW hcnd _
  have hval : ∀ (j : Nat) t v, Try.f3.params[j]? = some t → args[j]? = some v → Value.okWide Try.prog W .any base t v := hval0
  have hW' := hW
  obtain ⟨p, q, hA0, hV, rfl, hfz, hnd⟩ := hW
  have hA : DataW.TrodAll enc Try.prog W 0 (fun _ => true) true Try.f3.params.toList args.toList ds p := hA0
  have hA2 := hA
  rw [Try.params3] at hA hval
  obtain ⟨v0, d0, rfl, rfl, h0⟩ := trodAll_one hA
  obtain ⟨rfl, rfl⟩ := trodVars_none hV
  obtain ⟨t0, hr0⟩ := opt.open_value (hval 0 24 v0 rfl rfl) h0
  clear hA0 hval0
  simp only [List.append_nil] at hW' hA2
  refine (walk t0 v0 W hr0).mono fun e W' ⟨he, hb⟩ => ?_
  subst he
  exact ⟨_, rfl, opn.post_true hW' rfl hA2 rfl rfl Try.underlying4 (by kernel_rfl) (by kernel_rfl) hb⟩

theorem over : Rows.fnExactValuesOfRow.holds Try.pinned (OpenSpec.ofChange Rows.fnExactValuesOfSpec) :=
  OpenClaim.holds_of_wide 3 Try.f3 rfl rfl rfl rfl rfl rfl rfl ⟨rfl, rfl, rfl, rfl, rfl⟩ rfl rfl rfl rfl rfl (by kernel_rfl) Try.func3 (by kernel_rfl)
    (of_decide_eq_true (by kernel_rfl)) (by unfold Func.isWrapper; first | (rw [if_pos (by decide +kernel)]; kernel_rfl) | (rw [if_neg (by decide +kernel)]; exact ⟨rfl, rfl⟩))
    (fun os started H enc _ => lifted os started H enc)

/-- The statement. -/
theorem proved : Rows.FnExactValuesOfSaid :=
  over
#print axioms proved
end Go.Proofs.Ytlbkbcafkjgckaa.fnExactValuesOf
