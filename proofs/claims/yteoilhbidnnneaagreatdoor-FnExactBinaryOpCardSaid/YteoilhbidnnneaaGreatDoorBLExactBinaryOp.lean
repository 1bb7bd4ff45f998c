/-
  BinaryOp answers as its model at every operator and every two values, every field; it leaves its arguments unmodified, and its answer owns its memory.
  Conditions: the package variables that the row lists hold what the program's text lays, and the card ties that to the text.
-/
import Derived.Test.YteoilhbidnnneaaGreatDoorRows
import Derived.Test.YteoilhbidnnneaaGreatDoorCards
import Derived.Test.YteoilhbidnnneaaGreatDoorTie
import Derived.LaidMore
import Derived.LaidHandle
import Derived.Stop.Joined
import Derived.SevenTiedAt
import Derived.Stop.LaidErr
import Derived.SizedLaws
import Derived.Deep.RegionHeld3
import Derived.Deep.RegionWith
import Derived.WalkKit
import Derived.ProofKit
import Derived.OpenShut
import Derived.Test.YteoilhbidnnneaaGreatDoorBSBinOS
import Derived.Test.YteoilhbidnnneaaGreatDoorBSBinOI
import Derived.Test.YteoilhbidnnneaaGreatDoorBB7
import Derived.Test.YteoilhbidnnneaaGreatDoorBB3
import Derived.Test.YteoilhbidnnneaaGreatDoorBB5
namespace Go.Proofs.YteoilhbidnnneaaGreatDoor.fnExactBinaryOp
open Go.ChangeShapes Go.WideShapes Go.ChangeAt Go.RowKit tree ers
open Go.ChangeMaps (open_string)
set_option linter.unusedVariables false

theorem own : ownKnob Tryz.prog.godebug = none := by kernel_rfl

set_option maxHeartbeats 8000000 in
set_option maxRecDepth 100000 in
theorem walk0 (op : Int) (t0 : Tr) (v0 : Value) (t1 : Tr) (v1 : Value) (w : World) (hr0 : TIn w (fun _ => True) t0 v0) (hr1 : TIn w (fun _ => True) t1 v1) (R : Tr) (bb : Int) (hE : OpE w)
    (HC : tot t0 + tot t1 ≤ 1048576 → itm R ≤ 1048577 ∧ (∀ (w : World) (S0 : Nat → Prop) (S1 : Nat → Prop) (u0 : Value) (u1 : Value), TIn w S0 t0 u0 → TIn w S1 t1 u1 → OpE w → Calls Tryz.prog 13 #[.int .i64 op, u0, u1] w (fun e w' => ∃ u, e = .returned (.tuple #[u, .int .i64 bb]) ∧ TIn w' (fun q => w.heap.size ≤ q) R u ∧ Below w.heap.size w w')) ∧ (∀ (w : World) (u0 : Value) (u1 : Value), TIn w (Nw 0 w) t0 u0 → TIn w (Nw 0 w) t1 u1 → OpE w → Calls Tryz.prog 10 #[.int .i64 op, u0, u1] w (fun e w' => ∃ u par r, e = .returned (.tuple #[u, .int .i64 bb]) ∧ TPar w' par (r, 0) R u ∧ w.heap.size ≤ r ∧ Below w.heap.size w w'))) :
    Calls Tryz.prog 4 #[.int .i64 op, v0, v1] w (TrueQ w) := by
  have HE := Lib.hid hE
  clear hE
  obtain ⟨K, N, Z, X, RK, RV⟩ := R
  obtain ⟨RL, HRL⟩ : ∃ L, Hid (L = RV.length) := ⟨_, Lib.hid rfl⟩
  obtain ⟨RT, HRT⟩ : ∃ T, Hid (T = Tr.mk K N Z X RK RV) := ⟨_, Lib.hid rfl⟩
  rw [← HRT.out] at HC
  obtain ⟨k0, n0, s0, x0, ks0, vs0⟩ := t0
  obtain ⟨A0, c0, rfl, -, -⟩ := hr0.out
  obtain ⟨L0, HL0⟩ : ∃ L, Hid (L = vs0.length) := ⟨_, Lib.hid rfl⟩
  obtain ⟨T0, HT0⟩ : ∃ T, Hid (T = Tr.mk k0 n0 s0 x0 ks0 vs0) := ⟨_, Lib.hid rfl⟩
  obtain ⟨k1, n1, s1, x1, ks1, vs1⟩ := t1
  obtain ⟨A1, c1, rfl, -, -⟩ := hr1.out
  obtain ⟨L1, HL1⟩ : ∃ L, Hid (L = vs1.length) := ⟨_, Lib.hid rfl⟩
  obtain ⟨T1, HT1⟩ : ∃ T, Hid (T = Tr.mk k1 n1 s1 x1 ks1 vs1) := ⟨_, Lib.hid rfl⟩
  rw [← HT0.out] at hr0 HC
  rw [← HL0.out] at hr0 ⊢
  have HR0 := Lib.hid hr0
  have SZ0 := fun w h => szV T0 w (fun _ => True) (vV k0 n0 s0 x0 A0 L0 c0) h
  rw [← HT1.out] at hr1 HC
  rw [← HL1.out] at hr1 ⊢
  have HR1 := Lib.hid hr1
  have SZ1 := fun w h => szV T1 w (fun _ => True) (vV k1 n1 s1 x1 A1 L1 c1) h
  have HCC := Lib.hid HC
  clear hr0 hr1 HC
  go_enter Tryz.func4, Tryz.ntmps4
  go_wp2_with (fail)
  refine (SZ0 _ (HR0.out.below' (b2 _ _ _)) 1048576 (by omega) (by omega)).mono ?_
  rintro e w0 ⟨r0, rfl, ⟨ha0, hb0, hc0⟩, hw0⟩
  have Ea0 := Lib.hid (carry hw0 (heap_alloc2_old w _ _))
  have Ea1 := Lib.hid (carry hw0 (heap_alloc2_new w _ _))
  have HB := Lib.hid (bs (b2 w _ _) hw0)
  have HQ0 := Lib.hid hc0
  clear hw0 hc0
  by_cases hlt0 : r0 < 0
  · go_wp2_with (fail)
    go_ret
    exact ⟨rfl, HB.out⟩
  have za10 : w0.cell? ⟨w.heap.size + 1, 0, none⟩ = some (.int .i64 k1) := (rowc Ea1.out).1 0
  have za11 : w0.cell? ⟨w.heap.size + 1, 1, none⟩ = some (.int .i64 n1) := (rowc Ea1.out).1 1
  have za12 : w0.cell? ⟨w.heap.size + 1, 2, none⟩ = some (.string s1) := (rowc Ea1.out).1 2
  have za13 : w0.cell? ⟨w.heap.size + 1, 3, none⟩ = some (.int .i64 x1) := (rowc Ea1.out).1 3
  have za14 : w0.cell? ⟨w.heap.size + 1, 4, none⟩ = some (.slice A1 L1 c1) := (rowc Ea1.out).1 4
  go_wp2_with (fail)
  refine (SZ1 _ (HR1.out.below' HB.out) r0 (by omega) (by omega)).mono ?_
  rintro e w1 ⟨r1, rfl, ⟨ha1, hb1, hc1⟩, hw1⟩
  replace Ea0 := Lib.hid (carry hw1 Ea0.out)
  replace Ea1 := Lib.hid (carry hw1 Ea1.out)
  replace HB := Lib.hid (bs HB.out hw1)
  have HQ1 := Lib.hid hc1
  clear hw1 hc1
  clear za10 za11 za12 za13 za14
  by_cases hlt1 : r1 < 0
  · go_wp2_with (fail)
    go_ret
    exact ⟨rfl, HB.out⟩
  have HSUM : Hid (tot T0 + tot T1 ≤ 1048576) := Lib.hid (by have q0 := HQ0.out (by omega); have q1 := HQ1.out (by omega); omega)
  obtain HCON := HCC.out HSUM.out
  obtain ⟨hit, hcs, hci⟩ := HCON
  have HIT := Lib.hid hit
  have HCS := Lib.hid hcs
  have HCI := Lib.hid hci
  obtain ⟨Q, HQ⟩ : ∃ Q : Int, Hid (1 + 7 * (itm RT : Int) = Q) := ⟨_, Lib.hid rfl⟩
  have hQ0 : 1 ≤ Q := by rw [← HQ.out]; omega
  have hQ1 : Hid (1 + 7 * (itm RT : Int) ≤ 100000000000) := Lib.hid (by omega)
  have hT0 : Hid (tot T0 ≤ 1048576) := Lib.hid (by have := HSUM.out; omega)
  have hF0 : Hid (cnt T0 ≤ 1048577) := Lib.hid (by have := cnt_tot T0 HR0.out.fits; have := HSUM.out; omega)
  have hT1 : Hid (tot T1 ≤ 1048576) := Lib.hid (by have := HSUM.out; omega)
  have hF1 : Hid (cnt T1 ≤ 1048577) := Lib.hid (by have := cnt_tot T1 HR1.out.fits; have := HSUM.out; omega)
  clear hit hcs hci
  have za00 : w1.cell? ⟨w.heap.size, 0, none⟩ = some (.int .i64 k0) := (rowc Ea0.out).1 0
  have za01 : w1.cell? ⟨w.heap.size, 1, none⟩ = some (.int .i64 n0) := (rowc Ea0.out).1 1
  have za02 : w1.cell? ⟨w.heap.size, 2, none⟩ = some (.string s0) := (rowc Ea0.out).1 2
  have za03 : w1.cell? ⟨w.heap.size, 3, none⟩ = some (.int .i64 x0) := (rowc Ea0.out).1 3
  have za04 : w1.cell? ⟨w.heap.size, 4, none⟩ = some (.slice A0 L0 c0) := (rowc Ea0.out).1 4
  have za10 : w1.cell? ⟨w.heap.size + 1, 0, none⟩ = some (.int .i64 k1) := (rowc Ea1.out).1 0
  have za11 : w1.cell? ⟨w.heap.size + 1, 1, none⟩ = some (.int .i64 n1) := (rowc Ea1.out).1 1
  have za12 : w1.cell? ⟨w.heap.size + 1, 2, none⟩ = some (.string s1) := (rowc Ea1.out).1 2
  have za13 : w1.cell? ⟨w.heap.size + 1, 3, none⟩ = some (.int .i64 x1) := (rowc Ea1.out).1 3
  have za14 : w1.cell? ⟨w.heap.size + 1, 4, none⟩ = some (.slice A1 L1 c1) := (rowc Ea1.out).1 4
  go_wp2_with (fail)
  go_cut [8, 9] (fun p f wx => CutMC w1 bb K N Z X RL RT p f wx)
  case first =>
    have HW : Hid (Below w1.heap.size w1 w1) := Lib.hid (Below.refl _ _)
    have hzw1 : w1.heap.size ≤ w1.heap.size := Nat.le_refl _
    have nza0w1 : w1.heap.size ≠ w.heap.size := by have := (Array.getElem?_eq_some_iff.1 Ea0.out).1; omega
    have nza1w1 : w1.heap.size ≠ w.heap.size + 1 := by have := (Array.getElem?_eq_some_iff.1 Ea1.out).1; omega
    go_region_held3 (fun w' => w'.cell? ⟨w.heap.size, 0, none⟩ = some (.int .i64 k0) ∧ w'.cell? ⟨w.heap.size, 1, none⟩ = some (.int .i64 n0) ∧ w'.cell? ⟨w.heap.size, 2, none⟩ = some (.string s0) ∧ w'.cell? ⟨w.heap.size, 3, none⟩ = some (.int .i64 x0) ∧ w'.cell? ⟨w.heap.size, 4, none⟩ = some (.slice A0 L0 c0) ∧ w'.cell? ⟨w.heap.size + 1, 0, none⟩ = some (.int .i64 k1) ∧ w'.cell? ⟨w.heap.size + 1, 1, none⟩ = some (.int .i64 n1) ∧ w'.cell? ⟨w.heap.size + 1, 2, none⟩ = some (.string s1) ∧ w'.cell? ⟨w.heap.size + 1, 3, none⟩ = some (.int .i64 x1) ∧ w'.cell? ⟨w.heap.size + 1, 4, none⟩ = some (.slice A1 L1 c1)) (first | with_reducible exact ⟨za00, za01, za02, za03, za04, za10, za11, za12, za13, za14⟩ | with_reducible exact ⟨drc (alc za00), drc (alc za01), drc (alc za02), drc (alc za03), drc (alc za04), drc (alc za10), drc (alc za11), drc (alc za12), drc (alc za13), drc (alc za14)⟩ | with_reducible exact ⟨drc za00, drc za01, drc za02, drc za03, drc za04, drc za10, drc za11, drc za12, drc za13, drc za14⟩ | with_reducible exact ⟨alc za00, alc za01, alc za02, alc za03, alc za04, alc za10, alc za11, alc za12, alc za13, alc za14⟩ | with_reducible exact ⟨alc (drc za00), alc (drc za01), alc (drc za02), alc (drc za03), alc (drc za04), alc (drc za10), alc (drc za11), alc (drc za12), alc (drc za13), alc (drc za14)⟩ | with_reducible exact ⟨st5 za00 (by assumption), st5 za01 (by assumption), st5 za02 (by assumption), st5 za03 (by assumption), st5 za04 (by assumption), st5 za10 (by assumption), st5 za11 (by assumption), st5 za12 (by assumption), st5 za13 (by assumption), st5 za14 (by assumption)⟩ | with_reducible exact ⟨st5 (alc za00) (by assumption), st5 (alc za01) (by assumption), st5 (alc za02) (by assumption), st5 (alc za03) (by assumption), st5 (alc za04) (by assumption), st5 (alc za10) (by assumption), st5 (alc za11) (by assumption), st5 (alc za12) (by assumption), st5 (alc za13) (by assumption), st5 (alc za14) (by assumption)⟩ | go_keep)
      (first
      | (fail_if_success (have tok := HVm0)
         go_at_call 14; refine (cps T0 hT0.out _ _ _ (HR0.out.below' (by first | with_reducible exact HB.out | with_reducible exact HB.out.trans ((Below.refl _ _).drew) | with_reducible exact HB.out.alloc HB.out.size _ | with_reducible exact (HB.out.trans ((Below.refl _ _).drew)).alloc HB.out.size _ | with_reducible exact (HB.out.alloc HB.out.size _).trans ((Below.refl _ _).drew)))).mono ?_
         rintro e w2 ⟨v, rfl, hv, hb⟩
         have hbx : Below w1.heap.size w1 w2 := by first | exact hb | exact bs ((Below.refl _ _).drew) hb | exact bs (b1 _ _) hb | exact bs (bs ((Below.refl _ _).drew) (b1 _ _)) hb | exact bs (bs (b1 _ _) ((Below.refl _ _).drew)) hb
         first | (have ez := Lib.hid (carry hb (heap_alloc_new w1 (.cells #[.int .i64 0, .int .i64 0, .string ⟨#[]⟩, .int .i64 0, .slice none 0 0] IV)))) | (have ez := Lib.hid (carry hb (heap_alloc_new w1.drew (.cells #[.int .i64 0, .int .i64 0, .string ⟨#[]⟩, .int .i64 0, .slice none 0 0] IV)))) | (replace ez := Lib.hid (carry hbx ez.out)) | skip
         obtain ⟨Am0, cm0, rfl, -, -⟩ := TIn.out (HT0.out ▸ hv)
         have HVm0 := Lib.hid (show TIn w2 _ T0 (vV k0 n0 s0 x0 Am0 L0 cm0) by rw [HL0.out, HT0.out]; exact (HT0.out ▸ hv))
         rw [← HL0.out]
         clear hv
         replace Ea0 := Lib.hid (carry hbx Ea0.out)
         replace Ea1 := Lib.hid (carry hbx Ea1.out)
         replace HB := Lib.hid (bs HB.out hbx)
         replace HW := Lib.hid (bs HW.out hbx)
         have hzw2 : w1.heap.size ≤ w2.heap.size := HW.out.size
         have za00 : w2.cell? ⟨w.heap.size, 0, none⟩ = some (.int .i64 k0) := (rowc Ea0.out).1 0
         have za01 : w2.cell? ⟨w.heap.size, 1, none⟩ = some (.int .i64 n0) := (rowc Ea0.out).1 1
         have za02 : w2.cell? ⟨w.heap.size, 2, none⟩ = some (.string s0) := (rowc Ea0.out).1 2
         have za03 : w2.cell? ⟨w.heap.size, 3, none⟩ = some (.int .i64 x0) := (rowc Ea0.out).1 3
         have za04 : w2.cell? ⟨w.heap.size, 4, none⟩ = some (.slice A0 L0 c0) := (rowc Ea0.out).1 4
         have za10 : w2.cell? ⟨w.heap.size + 1, 0, none⟩ = some (.int .i64 k1) := (rowc Ea1.out).1 0
         have za11 : w2.cell? ⟨w.heap.size + 1, 1, none⟩ = some (.int .i64 n1) := (rowc Ea1.out).1 1
         have za12 : w2.cell? ⟨w.heap.size + 1, 2, none⟩ = some (.string s1) := (rowc Ea1.out).1 2
         have za13 : w2.cell? ⟨w.heap.size + 1, 3, none⟩ = some (.int .i64 x1) := (rowc Ea1.out).1 3
         have za14 : w2.cell? ⟨w.heap.size + 1, 4, none⟩ = some (.slice A1 L1 c1) := (rowc Ea1.out).1 4
         have nza0w2 : w2.heap.size ≠ w.heap.size := by have := (Array.getElem?_eq_some_iff.1 Ea0.out).1; omega
         have nza1w2 : w2.heap.size ≠ w.heap.size + 1 := by have := (Array.getElem?_eq_some_iff.1 Ea1.out).1; omega
         clear hb hbx)
      | (fail_if_success (have tok := HVm1)
         have tok := HVm0
         clear tok
         go_at_call 14; refine (cps T1 hT1.out _ _ _ (HR1.out.below' (by first | with_reducible exact HB.out | with_reducible exact HB.out.trans ((Below.refl _ _).drew) | with_reducible exact HB.out.alloc HB.out.size _ | with_reducible exact (HB.out.trans ((Below.refl _ _).drew)).alloc HB.out.size _ | with_reducible exact (HB.out.alloc HB.out.size _).trans ((Below.refl _ _).drew)))).mono ?_
         rintro e w3 ⟨v, rfl, hv, hb⟩
         have hbx : Below w2.heap.size w2 w3 := by first | exact hb | exact bs ((Below.refl _ _).drew) hb | exact bs (b1 _ _) hb | exact bs (bs ((Below.refl _ _).drew) (b1 _ _)) hb | exact bs (bs (b1 _ _) ((Below.refl _ _).drew)) hb
         first | (have ez := Lib.hid (carry hb (heap_alloc_new w2 (.cells #[.int .i64 0, .int .i64 0, .string ⟨#[]⟩, .int .i64 0, .slice none 0 0] IV)))) | (have ez := Lib.hid (carry hb (heap_alloc_new w2.drew (.cells #[.int .i64 0, .int .i64 0, .string ⟨#[]⟩, .int .i64 0, .slice none 0 0] IV)))) | (replace ez := Lib.hid (carry hbx ez.out)) | skip
         obtain ⟨Am1, cm1, rfl, -, -⟩ := TIn.out (HT1.out ▸ hv)
         have HVm1 := Lib.hid (show TIn w3 _ T1 (vV k1 n1 s1 x1 Am1 L1 cm1) by rw [HL1.out, HT1.out]; exact (HT1.out ▸ hv))
         rw [← HL1.out]
         clear hv
         replace Ea0 := Lib.hid (carry hbx Ea0.out)
         replace Ea1 := Lib.hid (carry hbx Ea1.out)
         replace HVm0 := Lib.hid (HVm0.out.below' hbx)
         replace HB := Lib.hid (bs HB.out hbx)
         replace HW := Lib.hid (bs HW.out hbx)
         have hzw3 : w1.heap.size ≤ w3.heap.size := HW.out.size
         have za00 : w3.cell? ⟨w.heap.size, 0, none⟩ = some (.int .i64 k0) := (rowc Ea0.out).1 0
         have za01 : w3.cell? ⟨w.heap.size, 1, none⟩ = some (.int .i64 n0) := (rowc Ea0.out).1 1
         have za02 : w3.cell? ⟨w.heap.size, 2, none⟩ = some (.string s0) := (rowc Ea0.out).1 2
         have za03 : w3.cell? ⟨w.heap.size, 3, none⟩ = some (.int .i64 x0) := (rowc Ea0.out).1 3
         have za04 : w3.cell? ⟨w.heap.size, 4, none⟩ = some (.slice A0 L0 c0) := (rowc Ea0.out).1 4
         have za10 : w3.cell? ⟨w.heap.size + 1, 0, none⟩ = some (.int .i64 k1) := (rowc Ea1.out).1 0
         have za11 : w3.cell? ⟨w.heap.size + 1, 1, none⟩ = some (.int .i64 n1) := (rowc Ea1.out).1 1
         have za12 : w3.cell? ⟨w.heap.size + 1, 2, none⟩ = some (.string s1) := (rowc Ea1.out).1 2
         have za13 : w3.cell? ⟨w.heap.size + 1, 3, none⟩ = some (.int .i64 x1) := (rowc Ea1.out).1 3
         have za14 : w3.cell? ⟨w.heap.size + 1, 4, none⟩ = some (.slice A1 L1 c1) := (rowc Ea1.out).1 4
         have nza0w3 : w3.heap.size ≠ w.heap.size := by have := (Array.getElem?_eq_some_iff.1 Ea0.out).1; omega
         have nza1w3 : w3.heap.size ≠ w.heap.size + 1 := by have := (Array.getElem?_eq_some_iff.1 Ea1.out).1; omega
         clear hb hbx)
      | (go_at_call 13; refine (HCS.out _ _ _ _ _ (by first | with_reducible exact HVm0.out | with_reducible exact HVm0.out.below' (b1 _ _) | with_reducible exact HVm0.out.below' ((Below.refl _ _).drew) | with_reducible exact HVm0.out.below' (bs ((Below.refl _ _).drew) (b1 _ _)) | with_reducible exact HVm0.out.below' (bs (b1 _ _) ((Below.refl _ _).drew))) (by first | with_reducible exact HVm1.out | with_reducible exact HVm1.out.below' (b1 _ _) | with_reducible exact HVm1.out.below' ((Below.refl _ _).drew) | with_reducible exact HVm1.out.below' (bs ((Below.refl _ _).drew) (b1 _ _)) | with_reducible exact HVm1.out.below' (bs (b1 _ _) ((Below.refl _ _).drew))) (HE.out.stays (by first | with_reducible exact HB.out | with_reducible exact HB.out.trans ((Below.refl _ _).drew) | with_reducible exact HB.out.alloc HB.out.size _ | with_reducible exact (HB.out.trans ((Below.refl _ _).drew)).alloc HB.out.size _ | with_reducible exact (HB.out.alloc HB.out.size _).trans ((Below.refl _ _).drew)))).mono ?_
         rintro e w4 ⟨u, rfl, hv, hb⟩
         have hbx : Below w3.heap.size w3 w4 := by first | exact hb | exact bs ((Below.refl _ _).drew) hb | exact bs (b1 _ _) hb | exact bs (bs ((Below.refl _ _).drew) (b1 _ _)) hb | exact bs (bs (b1 _ _) ((Below.refl _ _).drew)) hb
         first | (have nzw := Lib.hid (Array.getElem?_eq_some_iff.1 ez.out).1; replace ez := Lib.hid (carry hbx ez.out)) | (have ez := Lib.hid (carry hb (heap_alloc_new w3 (.cells #[.int .i64 0, .int .i64 0, .string ⟨#[]⟩, .int .i64 0, .slice none 0 0] IV))); have nzw := Lib.hid (Array.getElem?_eq_some_iff.1 (heap_alloc_new w3 (.cells #[.int .i64 0, .int .i64 0, .string ⟨#[]⟩, .int .i64 0, .slice none 0 0] IV))).1) | (have ez := Lib.hid (carry hb (heap_alloc_new w3.drew (.cells #[.int .i64 0, .int .i64 0, .string ⟨#[]⟩, .int .i64 0, .slice none 0 0] IV)))) | skip
         obtain ⟨Am, cm, rfl, -, -⟩ := TIn.out (HRT.out ▸ hv)
         have HMM := Lib.hid (show TIn w4 _ RT (vV K N Z X Am RL cm) by rw [HRL.out, HRT.out]; exact (HRT.out ▸ hv))
         rw [← HRL.out]
         clear hv
         replace Ea0 := Lib.hid (carry hbx Ea0.out)
         replace Ea1 := Lib.hid (carry hbx Ea1.out)
         replace HVm0 := Lib.hid (HVm0.out.below' hbx)
         replace HVm1 := Lib.hid (HVm1.out.below' hbx)
         replace HB := Lib.hid (bs HB.out hbx)
         replace HW := Lib.hid (bs HW.out hbx)
         have hzw4 : w1.heap.size ≤ w4.heap.size := HW.out.size
         have za00 : w4.cell? ⟨w.heap.size, 0, none⟩ = some (.int .i64 k0) := (rowc Ea0.out).1 0
         have za01 : w4.cell? ⟨w.heap.size, 1, none⟩ = some (.int .i64 n0) := (rowc Ea0.out).1 1
         have za02 : w4.cell? ⟨w.heap.size, 2, none⟩ = some (.string s0) := (rowc Ea0.out).1 2
         have za03 : w4.cell? ⟨w.heap.size, 3, none⟩ = some (.int .i64 x0) := (rowc Ea0.out).1 3
         have za04 : w4.cell? ⟨w.heap.size, 4, none⟩ = some (.slice A0 L0 c0) := (rowc Ea0.out).1 4
         have za10 : w4.cell? ⟨w.heap.size + 1, 0, none⟩ = some (.int .i64 k1) := (rowc Ea1.out).1 0
         have za11 : w4.cell? ⟨w.heap.size + 1, 1, none⟩ = some (.int .i64 n1) := (rowc Ea1.out).1 1
         have za12 : w4.cell? ⟨w.heap.size + 1, 2, none⟩ = some (.string s1) := (rowc Ea1.out).1 2
         have za13 : w4.cell? ⟨w.heap.size + 1, 3, none⟩ = some (.int .i64 x1) := (rowc Ea1.out).1 3
         have za14 : w4.cell? ⟨w.heap.size + 1, 4, none⟩ = some (.slice A1 L1 c1) := (rowc Ea1.out).1 4
         have nza0w4 : w4.heap.size ≠ w.heap.size := by have := (Array.getElem?_eq_some_iff.1 Ea0.out).1; omega
         have nza1w4 : w4.heap.size ≠ w.heap.size + 1 := by have := (Array.getElem?_eq_some_iff.1 Ea1.out).1; omega
         clear hb hbx
         first | (have zr := (rowc ez.out).1; have zf := (rowc ez.out).2) | skip))
    all_goals
      go_wp2_with (fail)
      go_meet
      first
      | with_reducible exact cutMC_box HW.out HMM.out
      | exact cutMC_early HW.out (by first | exact Nat.le_refl _ | assumption) ez.out HMM.out (fun q hq e => by subst e; exact absurd nzw.out (Nat.not_lt.2 hq)) rfl
  obtain ⟨Nm, Am, cm, hp, hf, hbx, hNm, en, hv⟩ := hcut
  subst hp hf
  obtain ⟨w5, hwc⟩ : ∃ q, q = wc := ⟨wc, rfl⟩
  subst hwc
  try clear za00 za01 za02 za03 za04
  try clear za10 za11 za12 za13 za14
  replace Ea0 := Lib.hid (carry hbx Ea0.out)
  replace Ea1 := Lib.hid (carry hbx Ea1.out)
  replace HB := Lib.hid (bs HB.out hbx)
  have Em := Lib.hid en
  clear en
  have HM := Lib.hid hv.lt'
  clear hv hbx hNm
  have za00 : w5.cell? ⟨w.heap.size, 0, none⟩ = some (.int .i64 k0) := (rowc Ea0.out).1 0
  have za01 : w5.cell? ⟨w.heap.size, 1, none⟩ = some (.int .i64 n0) := (rowc Ea0.out).1 1
  have za02 : w5.cell? ⟨w.heap.size, 2, none⟩ = some (.string s0) := (rowc Ea0.out).1 2
  have za03 : w5.cell? ⟨w.heap.size, 3, none⟩ = some (.int .i64 x0) := (rowc Ea0.out).1 3
  have za04 : w5.cell? ⟨w.heap.size, 4, none⟩ = some (.slice A0 L0 c0) := (rowc Ea0.out).1 4
  go_wp2_with (fail)
  obtain ⟨lo0, hlo0⟩ : ∃ N, N = w5.heap.size := ⟨_, rfl⟩
  rw [← hlo0] at HM
  have HPa : Hid (w.heap.size + 1 < lo0) := Lib.hid (by rw [hlo0]; exact (Array.getElem?_eq_some_iff.1 Ea1.out).1)
  have HP0 : Hid (Nm < lo0) := Lib.hid (by rw [hlo0]; exact (Array.getElem?_eq_some_iff.1 Em.out).1)
  refine (cps T0 hT0.out _ _ _ (HR0.out.below' HB.out)).mono ?_
  rintro e w6 ⟨v, rfl, hv, hb⟩
  have hbx := hb
  obtain ⟨Ax0, cx0, rfl, -, -⟩ := TIn.out (HT0.out ▸ hv)
  have hx := (show TIn w6 (Nw lo0 w6) T0 (vV k0 n0 s0 x0 Ax0 L0 cx0) by rw [HL0.out, HT0.out, hlo0]; exact (HT0.out ▸ hv))
  rw [← HL0.out]
  clear hv
  replace Ea0 := Lib.hid (carry hbx Ea0.out)
  replace Ea1 := Lib.hid (carry hbx Ea1.out)
  replace Em := Lib.hid (carry hbx Em.out)
  replace HM := Lib.hid (HM.out.below' hbx)
  replace HB := Lib.hid (bs HB.out hbx)
  have HX0 := Lib.hid hx.rgp
  have hsz := hb.size
  rw [← hlo0] at hsz
  clear hb hbx hx
  try clear za00 za01 za02 za03 za04
  have zn : ∀ o j, (w6.alloc o).cell? ⟨w.heap.size + 1, j, none⟩ = _ := fun o j => (rowc (keepAlloc Ea1.out)).1 j
  go_wp2_with (fail)
  clear zn
  obtain ⟨Nb0, hNb0⟩ : ∃ N, N = w6.heap.size := ⟨_, rfl⟩
  generalize hwn : w6.alloc (.cells #[.int .i64 k0, .int .i64 n0, .string s0, .int .i64 x0, .slice Ax0 L0 cx0] IV) = w7
  have en : w7.heap[Nb0]? = some (.cells #[.int .i64 k0, .int .i64 n0, .string s0, .int .i64 x0, .slice Ax0 L0 cx0] IV (0, 0)) := by rw [← hwn, hNb0]; exact heap_alloc_new _ _
  have hbx : Below w6.heap.size w6 w7 := hwn ▸ b1 _ _
  rw [← hNb0]
  have HNb0 := Lib.hid hNb0
  replace Ea0 := Lib.hid (carry hbx Ea0.out)
  replace Ea1 := Lib.hid (carry hbx Ea1.out)
  replace Em := Lib.hid (carry hbx Em.out)
  replace HM := Lib.hid (HM.out.below' hbx)
  replace HB := Lib.hid (bs HB.out hbx)
  replace HX0 := Lib.hid (HX0.out.rgb hbx)
  have Eb0 := Lib.hid en
  clear en hbx hwn hNb0
  rw [← HNb0.out] at HX0 hsz
  have HQ0' : Hid (lo0 ≤ Nb0) := Lib.hid hsz
  clear hsz hlo0
  obtain ⟨lo1, hlo1⟩ : ∃ N, N = w7.heap.size := ⟨_, rfl⟩
  have HP1 : Hid (Nb0 < lo1) := Lib.hid (by rw [hlo1]; exact (Array.getElem?_eq_some_iff.1 Eb0.out).1)
  refine (cps T1 hT1.out _ _ _ (HR1.out.below' HB.out)).mono ?_
  rintro e w8 ⟨v, rfl, hv, hb⟩
  have hbx := hb
  obtain ⟨Ax1, cx1, rfl, -, -⟩ := TIn.out (HT1.out ▸ hv)
  have hx := (show TIn w8 (Nw lo1 w8) T1 (vV k1 n1 s1 x1 Ax1 L1 cx1) by rw [HL1.out, HT1.out, hlo1]; exact (HT1.out ▸ hv))
  rw [← HL1.out]
  clear hv
  replace Ea0 := Lib.hid (carry hbx Ea0.out)
  replace Ea1 := Lib.hid (carry hbx Ea1.out)
  replace Em := Lib.hid (carry hbx Em.out)
  replace Eb0 := Lib.hid (carry hbx Eb0.out)
  replace HM := Lib.hid (HM.out.below' hbx)
  replace HB := Lib.hid (bs HB.out hbx)
  replace HX0 := Lib.hid (HX0.out.rgb hbx)
  have HX1 := Lib.hid hx.rgp
  have hsz := hb.size
  rw [← hlo1] at hsz
  clear hb hbx hx
  try clear za10 za11 za12 za13 za14
  have zp0 : ∀ o j, (w8.alloc o).cell? ⟨Nb0, j, none⟩ = _ := fun o j => (rowc (keepAlloc Eb0.out)).1 j
  go_wp2_with (fail)
  clear zp0
  obtain ⟨Nb1, hNb1⟩ : ∃ N, N = w8.heap.size := ⟨_, rfl⟩
  generalize hwn : w8.alloc (.cells #[.int .i64 k1, .int .i64 n1, .string s1, .int .i64 x1, .slice Ax1 L1 cx1] IV) = w9
  have en : w9.heap[Nb1]? = some (.cells #[.int .i64 k1, .int .i64 n1, .string s1, .int .i64 x1, .slice Ax1 L1 cx1] IV (0, 0)) := by rw [← hwn, hNb1]; exact heap_alloc_new _ _
  have hbx : Below w8.heap.size w8 w9 := hwn ▸ b1 _ _
  rw [← hNb1]
  have HNb1 := Lib.hid hNb1
  replace Ea0 := Lib.hid (carry hbx Ea0.out)
  replace Ea1 := Lib.hid (carry hbx Ea1.out)
  replace Em := Lib.hid (carry hbx Em.out)
  replace Eb0 := Lib.hid (carry hbx Eb0.out)
  replace HM := Lib.hid (HM.out.below' hbx)
  replace HB := Lib.hid (bs HB.out hbx)
  replace HX0 := Lib.hid (HX0.out.rgb hbx)
  replace HX1 := Lib.hid (HX1.out.rgb hbx)
  have Eb1 := Lib.hid en
  clear en hbx hwn hNb1
  rw [← HNb1.out] at HX1 hsz
  have HQ1' : Hid (lo1 ≤ Nb1) := Lib.hid hsz
  clear hsz hlo1
  have HPg : Hid (Nb1 < w9.heap.size) := Lib.hid (Array.getElem?_eq_some_iff.1 Eb1.out).1
  refine (HCI.out _ _ _ (by first | with_reducible exact HX0.out.rgn | with_reducible exact (HX0.out.rgb (b1 _ _)).rgn | with_reducible exact (HX0.out.rgb ((Below.refl _ _).drew)).rgn | with_reducible exact (HX0.out.rgb (bs ((Below.refl _ _).drew) (b1 _ _))).rgn | with_reducible exact (HX0.out.rgb (bs (b1 _ _) ((Below.refl _ _).drew))).rgn) (by first | with_reducible exact HX1.out.rgn | with_reducible exact (HX1.out.rgb (b1 _ _)).rgn | with_reducible exact (HX1.out.rgb ((Below.refl _ _).drew)).rgn | with_reducible exact (HX1.out.rgb (bs ((Below.refl _ _).drew) (b1 _ _))).rgn | with_reducible exact (HX1.out.rgb (bs (b1 _ _) ((Below.refl _ _).drew))).rgn) (HE.out.stays (by first | with_reducible exact HB.out | with_reducible exact HB.out.trans ((Below.refl _ _).drew) | with_reducible exact HB.out.alloc HB.out.size _ | with_reducible exact (HB.out.trans ((Below.refl _ _).drew)).alloc HB.out.size _ | with_reducible exact (HB.out.alloc HB.out.size _).trans ((Below.refl _ _).drew)))).mono ?_
  rintro e w10 ⟨u, par, rg, rfl, hv, hrg, hb⟩
  have hbx := hb
  obtain ⟨Ag, cg, rfl, -⟩ := TPar.out (HRT.out ▸ hv)
  have HGG := Lib.hid (show TPar w10 par (rg, 0) RT (vV K N Z X Ag RL cg) by rw [HRL.out, HRT.out]; exact (HRT.out ▸ hv))
  rw [← HRL.out]
  clear hv
  replace Ea0 := Lib.hid (carry hbx Ea0.out)
  replace Ea1 := Lib.hid (carry hbx Ea1.out)
  replace Em := Lib.hid (carry hbx Em.out)
  replace Eb0 := Lib.hid (carry hbx Eb0.out)
  replace Eb1 := Lib.hid (carry hbx Eb1.out)
  replace HM := Lib.hid (HM.out.below' hbx)
  replace HB := Lib.hid (bs HB.out hbx)
  replace HX0 := Lib.hid (HX0.out.rgb hbx)
  replace HX1 := Lib.hid (HX1.out.rgb hbx)
  have hsz := hb.size
  clear hb hbx
  have zm : ∀ o j, (w10.alloc o).cell? ⟨Nm, j, none⟩ = _ := fun o j => (rowc (keepAlloc Em.out)).1 j
  go_wp2_with (fail)
  clear zm
  obtain ⟨pg, hp2, htg⟩ := HGG.out.tight
  obtain ⟨Ng, hNg⟩ : ∃ N, N = w10.heap.size := ⟨_, rfl⟩
  obtain ⟨hig, hhi⟩ : ∃ N, N = Ng := ⟨_, rfl⟩
  generalize hwn : w10.alloc (.cells #[.int .i64 K, .int .i64 N, .string Z, .int .i64 X, .slice Ag RL cg] IV) = w11
  have en : w11.heap[Ng]? = some (.cells #[.int .i64 K, .int .i64 N, .string Z, .int .i64 X, .slice Ag RL cg] IV (0, 0)) := by rw [← hwn, hNg]; exact heap_alloc_new _ _
  have hbx : Below w10.heap.size w10 w11 := hwn ▸ b1 _ _
  try rw [← hNg]
  replace Ea0 := Lib.hid (carry hbx Ea0.out)
  replace Ea1 := Lib.hid (carry hbx Ea1.out)
  replace Em := Lib.hid (carry hbx Em.out)
  replace Eb0 := Lib.hid (carry hbx Eb0.out)
  replace Eb1 := Lib.hid (carry hbx Eb1.out)
  replace HM := Lib.hid (HM.out.below' hbx)
  replace HB := Lib.hid (bs HB.out hbx)
  replace HX0 := Lib.hid (HX0.out.rgb hbx)
  replace HX1 := Lib.hid (HX1.out.rgb hbx)
  have hv := hp2.above fun b _ hl => hbx.block b hl
  have Eg := Lib.hid en
  rw [← hNg, ← hhi] at htg
  have hhg : hig ≤ w11.heap.size := by rw [hhi, hNg]; exact hbx.size
  have hdg : Ng ≤ rg ∨ hig ≤ Ng := .inr (by rw [hhi]; exact Nat.le_refl _)
  replace hNg : w9.heap.size ≤ Ng := by rw [hNg]; exact hsz
  clear en hwn hp2 HGG hsz hhi
  have HG := Lib.hid hv
  have HTG := Lib.hid htg
  have HHG := Lib.hid hdg
  have HRR : Hid (Nb1 < rg) := Lib.hid (Nat.lt_of_lt_of_le HPg.out hrg)
  have HNG : Hid (Nb1 < Ng) := Lib.hid (Nat.lt_of_lt_of_le HPg.out hNg)
  clear hv htg hhg hdg hrg hNg hbx HPg
  have zg0 : w11.cell? ⟨Ng, 0, none⟩ = some (.int .i64 K) := (rowc Eg.out).1 0
  have zg1 : w11.cell? ⟨Ng, 1, none⟩ = some (.int .i64 N) := (rowc Eg.out).1 1
  have zg2 : w11.cell? ⟨Ng, 2, none⟩ = some (.string Z) := (rowc Eg.out).1 2
  have zg3 : w11.cell? ⟨Ng, 3, none⟩ = some (.int .i64 X) := (rowc Eg.out).1 3
  have zg4 : w11.cell? ⟨Ng, 4, none⟩ = some (.slice Ag RL cg) := (rowc Eg.out).1 4
  have zm0 : w11.cell? ⟨Nm, 0, none⟩ = some (.int .i64 K) := (rowc Em.out).1 0
  have zm1 : w11.cell? ⟨Nm, 1, none⟩ = some (.int .i64 N) := (rowc Em.out).1 1
  have zm2 : w11.cell? ⟨Nm, 2, none⟩ = some (.string Z) := (rowc Em.out).1 2
  have zm3 : w11.cell? ⟨Nm, 3, none⟩ = some (.int .i64 X) := (rowc Em.out).1 3
  have zm4 : w11.cell? ⟨Nm, 4, none⟩ = some (.slice Am RL cm) := (rowc Em.out).1 4
  go_wp2_with (fail)
  refine (eqV RT _ _ _ _ _ HG.out.tin HM.out).mono ?_
  rintro e w12 ⟨rfl, hb⟩
  have hbx := hb
  replace Ea0 := Lib.hid (carry hbx Ea0.out)
  replace Ea1 := Lib.hid (carry hbx Ea1.out)
  replace Em := Lib.hid (carry hbx Em.out)
  replace Eb0 := Lib.hid (carry hbx Eb0.out)
  replace Eb1 := Lib.hid (carry hbx Eb1.out)
  replace Eg := Lib.hid (carry hbx Eg.out)
  replace HM := Lib.hid (HM.out.below' hbx)
  replace HG := Lib.hid (HG.out.above fun q _ hl => Below.block hbx q hl)
  replace HB := Lib.hid (bs HB.out hbx)
  replace HX0 := Lib.hid (HX0.out.rgb hbx)
  replace HX1 := Lib.hid (HX1.out.rgb hbx)
  clear hb hbx
  try clear zg0 zg1 zg2 zg3 zg4
  try clear zm0 zm1 zm2 zm3 zm4
  have zb00 : w12.cell? ⟨Nb0, 0, none⟩ = some (.int .i64 k0) := (rowc Eb0.out).1 0
  have zb01 : w12.cell? ⟨Nb0, 1, none⟩ = some (.int .i64 n0) := (rowc Eb0.out).1 1
  have zb02 : w12.cell? ⟨Nb0, 2, none⟩ = some (.string s0) := (rowc Eb0.out).1 2
  have zb03 : w12.cell? ⟨Nb0, 3, none⟩ = some (.int .i64 x0) := (rowc Eb0.out).1 3
  have zb04 : w12.cell? ⟨Nb0, 4, none⟩ = some (.slice Ax0 L0 cx0) := (rowc Eb0.out).1 4
  have za00 : w12.cell? ⟨w.heap.size, 0, none⟩ = some (.int .i64 k0) := (rowc Ea0.out).1 0
  have za01 : w12.cell? ⟨w.heap.size, 1, none⟩ = some (.int .i64 n0) := (rowc Ea0.out).1 1
  have za02 : w12.cell? ⟨w.heap.size, 2, none⟩ = some (.string s0) := (rowc Ea0.out).1 2
  have za03 : w12.cell? ⟨w.heap.size, 3, none⟩ = some (.int .i64 x0) := (rowc Ea0.out).1 3
  have za04 : w12.cell? ⟨w.heap.size, 4, none⟩ = some (.slice A0 L0 c0) := (rowc Ea0.out).1 4
  go_wp2_with (fail)
  go_region_held3 (fun w' => w'.cell? ⟨Nb0, 0, none⟩ = some (.int .i64 k0) ∧ w'.cell? ⟨Nb0, 1, none⟩ = some (.int .i64 n0) ∧ w'.cell? ⟨Nb0, 2, none⟩ = some (.string s0) ∧ w'.cell? ⟨Nb0, 3, none⟩ = some (.int .i64 x0) ∧ w'.cell? ⟨Nb0, 4, none⟩ = some (.slice Ax0 L0 cx0) ∧ w'.cell? ⟨w.heap.size, 0, none⟩ = some (.int .i64 k0) ∧ w'.cell? ⟨w.heap.size, 1, none⟩ = some (.int .i64 n0) ∧ w'.cell? ⟨w.heap.size, 2, none⟩ = some (.string s0) ∧ w'.cell? ⟨w.heap.size, 3, none⟩ = some (.int .i64 x0) ∧ w'.cell? ⟨w.heap.size, 4, none⟩ = some (.slice A0 L0 c0)) (first | with_reducible exact ⟨zb00, zb01, zb02, zb03, zb04, za00, za01, za02, za03, za04⟩ | with_reducible exact ⟨drc (alc zb00), drc (alc zb01), drc (alc zb02), drc (alc zb03), drc (alc zb04), drc (alc za00), drc (alc za01), drc (alc za02), drc (alc za03), drc (alc za04)⟩ | with_reducible exact ⟨drc zb00, drc zb01, drc zb02, drc zb03, drc zb04, drc za00, drc za01, drc za02, drc za03, drc za04⟩ | with_reducible exact ⟨alc zb00, alc zb01, alc zb02, alc zb03, alc zb04, alc za00, alc za01, alc za02, alc za03, alc za04⟩ | with_reducible exact ⟨alc (drc zb00), alc (drc zb01), alc (drc zb02), alc (drc zb03), alc (drc zb04), alc (drc za00), alc (drc za01), alc (drc za02), alc (drc za03), alc (drc za04)⟩ | with_reducible exact ⟨st5 zb00 (by assumption), st5 zb01 (by assumption), st5 zb02 (by assumption), st5 zb03 (by assumption), st5 zb04 (by assumption), st5 za00 (by assumption), st5 za01 (by assumption), st5 za02 (by assumption), st5 za03 (by assumption), st5 za04 (by assumption)⟩ | with_reducible exact ⟨st5 (alc zb00) (by assumption), st5 (alc zb01) (by assumption), st5 (alc zb02) (by assumption), st5 (alc zb03) (by assumption), st5 (alc zb04) (by assumption), st5 (alc za00) (by assumption), st5 (alc za01) (by assumption), st5 (alc za02) (by assumption), st5 (alc za03) (by assumption), st5 (alc za04) (by assumption)⟩ | go_keep)
    (first
    | (go_at_call 14; refine (cps T0 hT0.out _ _ _ (HR0.out.below' (HB.out.trans ((Below.refl _ _).drew)))).mono ?_
       rintro e w13 ⟨v, rfl, hv, hb⟩
       have hbx := (bs ((Below.refl w12.heap.size w12).drew) hb)
       obtain ⟨Aq0, cq0, rfl, -, -⟩ := TIn.out (HT0.out ▸ hv)
       have HVq0 := Lib.hid (show TIn w13 _ T0 (vV k0 n0 s0 x0 Aq0 L0 cq0) by rw [HL0.out, HT0.out]; exact (HT0.out ▸ hv))
       rw [← HL0.out]
       clear hv
       replace Ea0 := Lib.hid (carry hbx Ea0.out)
       replace Ea1 := Lib.hid (carry hbx Ea1.out)
       replace Em := Lib.hid (carry hbx Em.out)
       replace Eb0 := Lib.hid (carry hbx Eb0.out)
       replace Eb1 := Lib.hid (carry hbx Eb1.out)
       replace Eg := Lib.hid (carry hbx Eg.out)
       replace HM := Lib.hid (HM.out.below' hbx)
       replace HG := Lib.hid (HG.out.above fun q _ hl => Below.block hbx q hl)
       replace HB := Lib.hid (bs HB.out hbx)
       replace HX0 := Lib.hid (HX0.out.rgb hbx)
       replace HX1 := Lib.hid (HX1.out.rgb hbx)
       have zb00 : w13.cell? ⟨Nb0, 0, none⟩ = some (.int .i64 k0) := (rowc Eb0.out).1 0
       have zb01 : w13.cell? ⟨Nb0, 1, none⟩ = some (.int .i64 n0) := (rowc Eb0.out).1 1
       have zb02 : w13.cell? ⟨Nb0, 2, none⟩ = some (.string s0) := (rowc Eb0.out).1 2
       have zb03 : w13.cell? ⟨Nb0, 3, none⟩ = some (.int .i64 x0) := (rowc Eb0.out).1 3
       have zb04 : w13.cell? ⟨Nb0, 4, none⟩ = some (.slice Ax0 L0 cx0) := (rowc Eb0.out).1 4
       have za00 : w13.cell? ⟨w.heap.size, 0, none⟩ = some (.int .i64 k0) := (rowc Ea0.out).1 0
       have za01 : w13.cell? ⟨w.heap.size, 1, none⟩ = some (.int .i64 n0) := (rowc Ea0.out).1 1
       have za02 : w13.cell? ⟨w.heap.size, 2, none⟩ = some (.string s0) := (rowc Ea0.out).1 2
       have za03 : w13.cell? ⟨w.heap.size, 3, none⟩ = some (.int .i64 x0) := (rowc Ea0.out).1 3
       have za04 : w13.cell? ⟨w.heap.size, 4, none⟩ = some (.slice A0 L0 c0) := (rowc Ea0.out).1 4
       clear hb hbx)
    | (go_at_call 15; refine (eqV T0 _ _ _ _ _ HX0.out HVq0.out).mono ?_
       rintro e w14 ⟨rfl, hb⟩
       have hbx := hb
       
       replace Ea0 := Lib.hid (carry hbx Ea0.out)
       replace Ea1 := Lib.hid (carry hbx Ea1.out)
       replace Em := Lib.hid (carry hbx Em.out)
       replace Eb0 := Lib.hid (carry hbx Eb0.out)
       replace Eb1 := Lib.hid (carry hbx Eb1.out)
       replace Eg := Lib.hid (carry hbx Eg.out)
       replace HM := Lib.hid (HM.out.below' hbx)
       replace HG := Lib.hid (HG.out.above fun q _ hl => Below.block hbx q hl)
       replace HB := Lib.hid (bs HB.out hbx)
       replace HX0 := Lib.hid (HX0.out.rgb hbx)
       replace HX1 := Lib.hid (HX1.out.rgb hbx)
       have zb00 : w14.cell? ⟨Nb0, 0, none⟩ = some (.int .i64 k0) := (rowc Eb0.out).1 0
       have zb01 : w14.cell? ⟨Nb0, 1, none⟩ = some (.int .i64 n0) := (rowc Eb0.out).1 1
       have zb02 : w14.cell? ⟨Nb0, 2, none⟩ = some (.string s0) := (rowc Eb0.out).1 2
       have zb03 : w14.cell? ⟨Nb0, 3, none⟩ = some (.int .i64 x0) := (rowc Eb0.out).1 3
       have zb04 : w14.cell? ⟨Nb0, 4, none⟩ = some (.slice Ax0 L0 cx0) := (rowc Eb0.out).1 4
       have za00 : w14.cell? ⟨w.heap.size, 0, none⟩ = some (.int .i64 k0) := (rowc Ea0.out).1 0
       have za01 : w14.cell? ⟨w.heap.size, 1, none⟩ = some (.int .i64 n0) := (rowc Ea0.out).1 1
       have za02 : w14.cell? ⟨w.heap.size, 2, none⟩ = some (.string s0) := (rowc Ea0.out).1 2
       have za03 : w14.cell? ⟨w.heap.size, 3, none⟩ = some (.int .i64 x0) := (rowc Ea0.out).1 3
       have za04 : w14.cell? ⟨w.heap.size, 4, none⟩ = some (.slice A0 L0 c0) := (rowc Ea0.out).1 4
       clear hb hbx))
  try clear zb00 zb01 zb02 zb03 zb04
  try clear za00 za01 za02 za03 za04
  clear HVq0
  have zb10 : w14.cell? ⟨Nb1, 0, none⟩ = some (.int .i64 k1) := (rowc Eb1.out).1 0
  have zb11 : w14.cell? ⟨Nb1, 1, none⟩ = some (.int .i64 n1) := (rowc Eb1.out).1 1
  have zb12 : w14.cell? ⟨Nb1, 2, none⟩ = some (.string s1) := (rowc Eb1.out).1 2
  have zb13 : w14.cell? ⟨Nb1, 3, none⟩ = some (.int .i64 x1) := (rowc Eb1.out).1 3
  have zb14 : w14.cell? ⟨Nb1, 4, none⟩ = some (.slice Ax1 L1 cx1) := (rowc Eb1.out).1 4
  have za10 : w14.cell? ⟨w.heap.size + 1, 0, none⟩ = some (.int .i64 k1) := (rowc Ea1.out).1 0
  have za11 : w14.cell? ⟨w.heap.size + 1, 1, none⟩ = some (.int .i64 n1) := (rowc Ea1.out).1 1
  have za12 : w14.cell? ⟨w.heap.size + 1, 2, none⟩ = some (.string s1) := (rowc Ea1.out).1 2
  have za13 : w14.cell? ⟨w.heap.size + 1, 3, none⟩ = some (.int .i64 x1) := (rowc Ea1.out).1 3
  have za14 : w14.cell? ⟨w.heap.size + 1, 4, none⟩ = some (.slice A1 L1 c1) := (rowc Ea1.out).1 4
  go_wp2_with (fail)
  go_region_held3 (fun w' => w'.cell? ⟨Nb1, 0, none⟩ = some (.int .i64 k1) ∧ w'.cell? ⟨Nb1, 1, none⟩ = some (.int .i64 n1) ∧ w'.cell? ⟨Nb1, 2, none⟩ = some (.string s1) ∧ w'.cell? ⟨Nb1, 3, none⟩ = some (.int .i64 x1) ∧ w'.cell? ⟨Nb1, 4, none⟩ = some (.slice Ax1 L1 cx1) ∧ w'.cell? ⟨w.heap.size + 1, 0, none⟩ = some (.int .i64 k1) ∧ w'.cell? ⟨w.heap.size + 1, 1, none⟩ = some (.int .i64 n1) ∧ w'.cell? ⟨w.heap.size + 1, 2, none⟩ = some (.string s1) ∧ w'.cell? ⟨w.heap.size + 1, 3, none⟩ = some (.int .i64 x1) ∧ w'.cell? ⟨w.heap.size + 1, 4, none⟩ = some (.slice A1 L1 c1)) (first | with_reducible exact ⟨zb10, zb11, zb12, zb13, zb14, za10, za11, za12, za13, za14⟩ | with_reducible exact ⟨drc (alc zb10), drc (alc zb11), drc (alc zb12), drc (alc zb13), drc (alc zb14), drc (alc za10), drc (alc za11), drc (alc za12), drc (alc za13), drc (alc za14)⟩ | with_reducible exact ⟨drc zb10, drc zb11, drc zb12, drc zb13, drc zb14, drc za10, drc za11, drc za12, drc za13, drc za14⟩ | with_reducible exact ⟨alc zb10, alc zb11, alc zb12, alc zb13, alc zb14, alc za10, alc za11, alc za12, alc za13, alc za14⟩ | with_reducible exact ⟨alc (drc zb10), alc (drc zb11), alc (drc zb12), alc (drc zb13), alc (drc zb14), alc (drc za10), alc (drc za11), alc (drc za12), alc (drc za13), alc (drc za14)⟩ | with_reducible exact ⟨st5 zb10 (by assumption), st5 zb11 (by assumption), st5 zb12 (by assumption), st5 zb13 (by assumption), st5 zb14 (by assumption), st5 za10 (by assumption), st5 za11 (by assumption), st5 za12 (by assumption), st5 za13 (by assumption), st5 za14 (by assumption)⟩ | with_reducible exact ⟨st5 (alc zb10) (by assumption), st5 (alc zb11) (by assumption), st5 (alc zb12) (by assumption), st5 (alc zb13) (by assumption), st5 (alc zb14) (by assumption), st5 (alc za10) (by assumption), st5 (alc za11) (by assumption), st5 (alc za12) (by assumption), st5 (alc za13) (by assumption), st5 (alc za14) (by assumption)⟩ | go_keep)
    (first
    | (go_at_call 14; refine (cps T1 hT1.out _ _ _ (HR1.out.below' (HB.out.trans ((Below.refl _ _).drew)))).mono ?_
       rintro e w15 ⟨v, rfl, hv, hb⟩
       have hbx := (bs ((Below.refl w14.heap.size w14).drew) hb)
       obtain ⟨Aq1, cq1, rfl, -, -⟩ := TIn.out (HT1.out ▸ hv)
       have HVq1 := Lib.hid (show TIn w15 _ T1 (vV k1 n1 s1 x1 Aq1 L1 cq1) by rw [HL1.out, HT1.out]; exact (HT1.out ▸ hv))
       rw [← HL1.out]
       clear hv
       replace Ea0 := Lib.hid (carry hbx Ea0.out)
       replace Ea1 := Lib.hid (carry hbx Ea1.out)
       replace Em := Lib.hid (carry hbx Em.out)
       replace Eb0 := Lib.hid (carry hbx Eb0.out)
       replace Eb1 := Lib.hid (carry hbx Eb1.out)
       replace Eg := Lib.hid (carry hbx Eg.out)
       replace HM := Lib.hid (HM.out.below' hbx)
       replace HG := Lib.hid (HG.out.above fun q _ hl => Below.block hbx q hl)
       replace HB := Lib.hid (bs HB.out hbx)
       replace HX0 := Lib.hid (HX0.out.rgb hbx)
       replace HX1 := Lib.hid (HX1.out.rgb hbx)
       have zb10 : w15.cell? ⟨Nb1, 0, none⟩ = some (.int .i64 k1) := (rowc Eb1.out).1 0
       have zb11 : w15.cell? ⟨Nb1, 1, none⟩ = some (.int .i64 n1) := (rowc Eb1.out).1 1
       have zb12 : w15.cell? ⟨Nb1, 2, none⟩ = some (.string s1) := (rowc Eb1.out).1 2
       have zb13 : w15.cell? ⟨Nb1, 3, none⟩ = some (.int .i64 x1) := (rowc Eb1.out).1 3
       have zb14 : w15.cell? ⟨Nb1, 4, none⟩ = some (.slice Ax1 L1 cx1) := (rowc Eb1.out).1 4
       have za10 : w15.cell? ⟨w.heap.size + 1, 0, none⟩ = some (.int .i64 k1) := (rowc Ea1.out).1 0
       have za11 : w15.cell? ⟨w.heap.size + 1, 1, none⟩ = some (.int .i64 n1) := (rowc Ea1.out).1 1
       have za12 : w15.cell? ⟨w.heap.size + 1, 2, none⟩ = some (.string s1) := (rowc Ea1.out).1 2
       have za13 : w15.cell? ⟨w.heap.size + 1, 3, none⟩ = some (.int .i64 x1) := (rowc Ea1.out).1 3
       have za14 : w15.cell? ⟨w.heap.size + 1, 4, none⟩ = some (.slice A1 L1 c1) := (rowc Ea1.out).1 4
       clear hb hbx)
    | (go_at_call 15; refine (eqV T1 _ _ _ _ _ HX1.out HVq1.out).mono ?_
       rintro e w16 ⟨rfl, hb⟩
       have hbx := hb
       
       replace Ea0 := Lib.hid (carry hbx Ea0.out)
       replace Ea1 := Lib.hid (carry hbx Ea1.out)
       replace Em := Lib.hid (carry hbx Em.out)
       replace Eb0 := Lib.hid (carry hbx Eb0.out)
       replace Eb1 := Lib.hid (carry hbx Eb1.out)
       replace Eg := Lib.hid (carry hbx Eg.out)
       replace HM := Lib.hid (HM.out.below' hbx)
       replace HG := Lib.hid (HG.out.above fun q _ hl => Below.block hbx q hl)
       replace HB := Lib.hid (bs HB.out hbx)
       replace HX0 := Lib.hid (HX0.out.rgb hbx)
       replace HX1 := Lib.hid (HX1.out.rgb hbx)
       have zb10 : w16.cell? ⟨Nb1, 0, none⟩ = some (.int .i64 k1) := (rowc Eb1.out).1 0
       have zb11 : w16.cell? ⟨Nb1, 1, none⟩ = some (.int .i64 n1) := (rowc Eb1.out).1 1
       have zb12 : w16.cell? ⟨Nb1, 2, none⟩ = some (.string s1) := (rowc Eb1.out).1 2
       have zb13 : w16.cell? ⟨Nb1, 3, none⟩ = some (.int .i64 x1) := (rowc Eb1.out).1 3
       have zb14 : w16.cell? ⟨Nb1, 4, none⟩ = some (.slice Ax1 L1 cx1) := (rowc Eb1.out).1 4
       have za10 : w16.cell? ⟨w.heap.size + 1, 0, none⟩ = some (.int .i64 k1) := (rowc Ea1.out).1 0
       have za11 : w16.cell? ⟨w.heap.size + 1, 1, none⟩ = some (.int .i64 n1) := (rowc Ea1.out).1 1
       have za12 : w16.cell? ⟨w.heap.size + 1, 2, none⟩ = some (.string s1) := (rowc Ea1.out).1 2
       have za13 : w16.cell? ⟨w.heap.size + 1, 3, none⟩ = some (.int .i64 x1) := (rowc Ea1.out).1 3
       have za14 : w16.cell? ⟨w.heap.size + 1, 4, none⟩ = some (.slice A1 L1 c1) := (rowc Ea1.out).1 4
       clear hb hbx))
  try clear zb10 zb11 zb12 zb13 zb14
  try clear za10 za11 za12 za13 za14
  clear HVq1
  have zb00 : w16.cell? ⟨Nb0, 0, none⟩ = some (.int .i64 k0) := (rowc Eb0.out).1 0
  have zb01 : w16.cell? ⟨Nb0, 1, none⟩ = some (.int .i64 n0) := (rowc Eb0.out).1 1
  have zb02 : w16.cell? ⟨Nb0, 2, none⟩ = some (.string s0) := (rowc Eb0.out).1 2
  have zb03 : w16.cell? ⟨Nb0, 3, none⟩ = some (.int .i64 x0) := (rowc Eb0.out).1 3
  have zb04 : w16.cell? ⟨Nb0, 4, none⟩ = some (.slice Ax0 L0 cx0) := (rowc Eb0.out).1 4
  go_wp2_with (fail)
  refine (markArg2 T0 _ _ (by omega) (by have := hF0.out; omega) _ lo0 Nb0 HX0.out).mono ?_
  rintro e w17 ⟨p0, rfl, hp0, hq0, hf⟩
  replace hq0 : p0 ≤ 8000000 := by have := hF0.out; omega
  try clear zb00 zb01 zb02 zb03 zb04
  clear HX0
  replace Ea0 := Lib.hid ((hf.block _ (Array.getElem?_eq_some_iff.1 Ea0.out).1 (by unfold Rg; have o0 := HPa.out; have o1 := HP0.out; have o2 := HQ0'.out; have o3 := HP1.out; have o4 := HQ1'.out; have o5 := HRR.out; have o6 := HNG.out; have o7 := HHG.out; omega)).trans Ea0.out)
  replace Ea1 := Lib.hid ((hf.block _ (Array.getElem?_eq_some_iff.1 Ea1.out).1 (by unfold Rg; have o0 := HPa.out; have o1 := HP0.out; have o2 := HQ0'.out; have o3 := HP1.out; have o4 := HQ1'.out; have o5 := HRR.out; have o6 := HNG.out; have o7 := HHG.out; omega)).trans Ea1.out)
  replace Em := Lib.hid ((hf.block _ (Array.getElem?_eq_some_iff.1 Em.out).1 (by unfold Rg; have o0 := HPa.out; have o1 := HP0.out; have o2 := HQ0'.out; have o3 := HP1.out; have o4 := HQ1'.out; have o5 := HRR.out; have o6 := HNG.out; have o7 := HHG.out; omega)).trans Em.out)
  replace Eb0 := Lib.hid ((hf.block _ (Array.getElem?_eq_some_iff.1 Eb0.out).1 (by unfold Rg; have o0 := HPa.out; have o1 := HP0.out; have o2 := HQ0'.out; have o3 := HP1.out; have o4 := HQ1'.out; have o5 := HRR.out; have o6 := HNG.out; have o7 := HHG.out; omega)).trans Eb0.out)
  replace Eb1 := Lib.hid ((hf.block _ (Array.getElem?_eq_some_iff.1 Eb1.out).1 (by unfold Rg; have o0 := HPa.out; have o1 := HP0.out; have o2 := HQ0'.out; have o3 := HP1.out; have o4 := HQ1'.out; have o5 := HRR.out; have o6 := HNG.out; have o7 := HHG.out; omega)).trans Eb1.out)
  replace Eg := Lib.hid ((hf.block _ (Array.getElem?_eq_some_iff.1 Eg.out).1 (by unfold Rg; have o0 := HPa.out; have o1 := HP0.out; have o2 := HQ0'.out; have o3 := HP1.out; have o4 := HQ1'.out; have o5 := HRR.out; have o6 := HNG.out; have o7 := HHG.out; omega)).trans Eg.out)
  replace HM := Lib.hid (HM.out.stays (fun _ h => h) (fun b hb hl => hf.block b hl (by unfold Rg; have hb' : b < lo0 := hb; have o0 := HPa.out; have o1 := HP0.out; have o2 := HQ0'.out; have o3 := HP1.out; have o4 := HQ1'.out; have o5 := HRR.out; have o6 := HNG.out; have o7 := HHG.out; omega)))
  replace HB := Lib.hid (Below.fr HB.out (Nat.le_refl _) hf (fun b hb => by unfold Rg at hb; have o0 := HPa.out; have o1 := HP0.out; have o2 := HQ0'.out; have o3 := HP1.out; have o4 := HQ1'.out; have o5 := HRR.out; have o6 := HNG.out; have o7 := HHG.out; omega))
  replace HX1 := Lib.hid (HX1.out.rgk fun b hb hl => hf.block b hl (by unfold Rg at hb ⊢; have o0 := HPa.out; have o1 := HP0.out; have o2 := HQ0'.out; have o3 := HP1.out; have o4 := HQ1'.out; have o5 := HRR.out; have o6 := HNG.out; have o7 := HHG.out; omega))
  replace HG := Lib.hid (HG.out.above fun b hb hl => hf.block b hl (by unfold Rg; simp at hb; have o0 := HPa.out; have o1 := HP0.out; have o2 := HQ0'.out; have o3 := HP1.out; have o4 := HQ1'.out; have o5 := HRR.out; have o6 := HNG.out; have o7 := HHG.out; omega))
  clear hf
  have zb10 : w17.cell? ⟨Nb1, 0, none⟩ = some (.int .i64 k1) := (rowc Eb1.out).1 0
  have zb11 : w17.cell? ⟨Nb1, 1, none⟩ = some (.int .i64 n1) := (rowc Eb1.out).1 1
  have zb12 : w17.cell? ⟨Nb1, 2, none⟩ = some (.string s1) := (rowc Eb1.out).1 2
  have zb13 : w17.cell? ⟨Nb1, 3, none⟩ = some (.int .i64 x1) := (rowc Eb1.out).1 3
  have zb14 : w17.cell? ⟨Nb1, 4, none⟩ = some (.slice Ax1 L1 cx1) := (rowc Eb1.out).1 4
  go_wp2_with (fail)
  refine (markArg2 T1 _ _ (by omega) (by have := hF1.out; omega) _ lo1 Nb1 HX1.out).mono ?_
  rintro e w18 ⟨p1, rfl, hp1, hq1, hf⟩
  replace hq1 : p1 ≤ 16000000 := by have := hF1.out; omega
  try clear zb10 zb11 zb12 zb13 zb14
  clear HX1
  replace Ea0 := Lib.hid ((hf.block _ (Array.getElem?_eq_some_iff.1 Ea0.out).1 (by unfold Rg; have o0 := HPa.out; have o1 := HP0.out; have o2 := HQ0'.out; have o3 := HP1.out; have o4 := HQ1'.out; have o5 := HRR.out; have o6 := HNG.out; have o7 := HHG.out; omega)).trans Ea0.out)
  replace Ea1 := Lib.hid ((hf.block _ (Array.getElem?_eq_some_iff.1 Ea1.out).1 (by unfold Rg; have o0 := HPa.out; have o1 := HP0.out; have o2 := HQ0'.out; have o3 := HP1.out; have o4 := HQ1'.out; have o5 := HRR.out; have o6 := HNG.out; have o7 := HHG.out; omega)).trans Ea1.out)
  replace Em := Lib.hid ((hf.block _ (Array.getElem?_eq_some_iff.1 Em.out).1 (by unfold Rg; have o0 := HPa.out; have o1 := HP0.out; have o2 := HQ0'.out; have o3 := HP1.out; have o4 := HQ1'.out; have o5 := HRR.out; have o6 := HNG.out; have o7 := HHG.out; omega)).trans Em.out)
  replace Eb0 := Lib.hid ((hf.block _ (Array.getElem?_eq_some_iff.1 Eb0.out).1 (by unfold Rg; have o0 := HPa.out; have o1 := HP0.out; have o2 := HQ0'.out; have o3 := HP1.out; have o4 := HQ1'.out; have o5 := HRR.out; have o6 := HNG.out; have o7 := HHG.out; omega)).trans Eb0.out)
  replace Eb1 := Lib.hid ((hf.block _ (Array.getElem?_eq_some_iff.1 Eb1.out).1 (by unfold Rg; have o0 := HPa.out; have o1 := HP0.out; have o2 := HQ0'.out; have o3 := HP1.out; have o4 := HQ1'.out; have o5 := HRR.out; have o6 := HNG.out; have o7 := HHG.out; omega)).trans Eb1.out)
  replace Eg := Lib.hid ((hf.block _ (Array.getElem?_eq_some_iff.1 Eg.out).1 (by unfold Rg; have o0 := HPa.out; have o1 := HP0.out; have o2 := HQ0'.out; have o3 := HP1.out; have o4 := HQ1'.out; have o5 := HRR.out; have o6 := HNG.out; have o7 := HHG.out; omega)).trans Eg.out)
  replace HM := Lib.hid (HM.out.stays (fun _ h => h) (fun b hb hl => hf.block b hl (by unfold Rg; have hb' : b < lo0 := hb; have o0 := HPa.out; have o1 := HP0.out; have o2 := HQ0'.out; have o3 := HP1.out; have o4 := HQ1'.out; have o5 := HRR.out; have o6 := HNG.out; have o7 := HHG.out; omega)))
  replace HB := Lib.hid (Below.fr HB.out (Nat.le_refl _) hf (fun b hb => by unfold Rg at hb; have o0 := HPa.out; have o1 := HP0.out; have o2 := HQ0'.out; have o3 := HP1.out; have o4 := HQ1'.out; have o5 := HRR.out; have o6 := HNG.out; have o7 := HHG.out; omega))
  replace HG := Lib.hid (HG.out.above fun b hb hl => hf.block b hl (by unfold Rg; simp at hb; have o0 := HPa.out; have o1 := HP0.out; have o2 := HQ0'.out; have o3 := HP1.out; have o4 := HQ1'.out; have o5 := HRR.out; have o6 := HNG.out; have o7 := HHG.out; omega))
  clear hf
  have zg0 : w18.cell? ⟨Ng, 0, none⟩ = some (.int .i64 K) := (rowc Eg.out).1 0
  have zg1 : w18.cell? ⟨Ng, 1, none⟩ = some (.int .i64 N) := (rowc Eg.out).1 1
  have zg2 : w18.cell? ⟨Ng, 2, none⟩ = some (.string Z) := (rowc Eg.out).1 2
  have zg3 : w18.cell? ⟨Ng, 3, none⟩ = some (.int .i64 X) := (rowc Eg.out).1 3
  have zg4 : w18.cell? ⟨Ng, 4, none⟩ = some (.slice Ag RL cg) := (rowc Eg.out).1 4
  have zm0 : w18.cell? ⟨Nm, 0, none⟩ = some (.int .i64 K) := (rowc Em.out).1 0
  have zm1 : w18.cell? ⟨Nm, 1, none⟩ = some (.int .i64 N) := (rowc Em.out).1 1
  have zm2 : w18.cell? ⟨Nm, 2, none⟩ = some (.string Z) := (rowc Em.out).1 2
  have zm3 : w18.cell? ⟨Nm, 3, none⟩ = some (.int .i64 X) := (rowc Em.out).1 3
  have zm4 : w18.cell? ⟨Nm, 4, none⟩ = some (.slice Am RL cm) := (rowc Em.out).1 4
  go_wp2_with (fail)
  refine (eqV RT _ _ _ _ _ HG.out.tin HM.out).mono ?_
  rintro e w19 ⟨rfl, hb⟩
  have hbx := hb
  replace Ea0 := Lib.hid (carry hbx Ea0.out)
  replace Ea1 := Lib.hid (carry hbx Ea1.out)
  replace Em := Lib.hid (carry hbx Em.out)
  replace Eb0 := Lib.hid (carry hbx Eb0.out)
  replace Eb1 := Lib.hid (carry hbx Eb1.out)
  replace Eg := Lib.hid (carry hbx Eg.out)
  replace HM := Lib.hid (HM.out.below' hbx)
  replace HG := Lib.hid (HG.out.above fun q _ hl => Below.block hbx q hl)
  replace HB := Lib.hid (bs HB.out hbx)
  clear hb hbx
  try clear zg0 zg1 zg2 zg3 zg4
  try clear zm0 zm1 zm2 zm3 zm4
  have zg0 : w19.cell? ⟨Ng, 0, none⟩ = some (.int .i64 K) := (rowc Eg.out).1 0
  have zg1 : w19.cell? ⟨Ng, 1, none⟩ = some (.int .i64 N) := (rowc Eg.out).1 1
  have zg2 : w19.cell? ⟨Ng, 2, none⟩ = some (.string Z) := (rowc Eg.out).1 2
  have zg3 : w19.cell? ⟨Ng, 3, none⟩ = some (.int .i64 X) := (rowc Eg.out).1 3
  have zg4 : w19.cell? ⟨Ng, 4, none⟩ = some (.slice Ag RL cg) := (rowc Eg.out).1 4
  go_wp2_with (fail)
  refine (markSep RT _ 1 (by omega) hQ1.out _ pg rg 0 (rg + 1) hig HG.out HTG.out).mono ?_
  rintro e w20 ⟨rfl, ht, hf⟩
  rw [HQ.out]
  try clear zg0 zg1 zg2 zg3 zg4
  replace Ea0 := Lib.hid ((hf.block _ (Array.getElem?_eq_some_iff.1 Ea0.out).1 (by unfold Rg; have o0 := HPa.out; have o1 := HP0.out; have o2 := HQ0'.out; have o3 := HP1.out; have o4 := HQ1'.out; have o5 := HRR.out; have o6 := HNG.out; have o7 := HHG.out; omega)).trans Ea0.out)
  replace Ea1 := Lib.hid ((hf.block _ (Array.getElem?_eq_some_iff.1 Ea1.out).1 (by unfold Rg; have o0 := HPa.out; have o1 := HP0.out; have o2 := HQ0'.out; have o3 := HP1.out; have o4 := HQ1'.out; have o5 := HRR.out; have o6 := HNG.out; have o7 := HHG.out; omega)).trans Ea1.out)
  replace Em := Lib.hid ((hf.block _ (Array.getElem?_eq_some_iff.1 Em.out).1 (by unfold Rg; have o0 := HPa.out; have o1 := HP0.out; have o2 := HQ0'.out; have o3 := HP1.out; have o4 := HQ1'.out; have o5 := HRR.out; have o6 := HNG.out; have o7 := HHG.out; omega)).trans Em.out)
  replace Eb0 := Lib.hid ((hf.block _ (Array.getElem?_eq_some_iff.1 Eb0.out).1 (by unfold Rg; have o0 := HPa.out; have o1 := HP0.out; have o2 := HQ0'.out; have o3 := HP1.out; have o4 := HQ1'.out; have o5 := HRR.out; have o6 := HNG.out; have o7 := HHG.out; omega)).trans Eb0.out)
  replace Eb1 := Lib.hid ((hf.block _ (Array.getElem?_eq_some_iff.1 Eb1.out).1 (by unfold Rg; have o0 := HPa.out; have o1 := HP0.out; have o2 := HQ0'.out; have o3 := HP1.out; have o4 := HQ1'.out; have o5 := HRR.out; have o6 := HNG.out; have o7 := HHG.out; omega)).trans Eb1.out)
  replace Eg := Lib.hid ((hf.block _ (Array.getElem?_eq_some_iff.1 Eg.out).1 (by unfold Rg; have o0 := HPa.out; have o1 := HP0.out; have o2 := HQ0'.out; have o3 := HP1.out; have o4 := HQ1'.out; have o5 := HRR.out; have o6 := HNG.out; have o7 := HHG.out; omega)).trans Eg.out)
  replace HM := Lib.hid (HM.out.stays (fun _ h => h) (fun b hb hl => hf.block b hl (by unfold Rg; have hb' : b < lo0 := hb; have o0 := HPa.out; have o1 := HP0.out; have o2 := HQ0'.out; have o3 := HP1.out; have o4 := HQ1'.out; have o5 := HRR.out; have o6 := HNG.out; have o7 := HHG.out; omega)))
  replace HB := Lib.hid (Below.fr HB.out (Nat.le_refl _) hf (fun b hb => by unfold Rg at hb; have o0 := HPa.out; have o1 := HP0.out; have o2 := HQ0'.out; have o3 := HP1.out; have o4 := HQ1'.out; have o5 := HRR.out; have o6 := HNG.out; have o7 := HHG.out; omega))
  replace HG := Lib.hid ht
  clear ht hf
  have zg0 : w20.cell? ⟨Ng, 0, none⟩ = some (.int .i64 K) := (rowc Eg.out).1 0
  have zg1 : w20.cell? ⟨Ng, 1, none⟩ = some (.int .i64 N) := (rowc Eg.out).1 1
  have zg2 : w20.cell? ⟨Ng, 2, none⟩ = some (.string Z) := (rowc Eg.out).1 2
  have zg3 : w20.cell? ⟨Ng, 3, none⟩ = some (.int .i64 X) := (rowc Eg.out).1 3
  have zg4 : w20.cell? ⟨Ng, 4, none⟩ = some (.slice Ag RL cg) := (rowc Eg.out).1 4
  go_wp2_with (fail)
  refine (heldSep RT _ 1 (by omega) hQ1.out _ _ HG.out.tin).mono ?_
  rintro e w21 ⟨rfl, hb⟩
  rw [HQ.out]
  have hbx := hb
  replace Ea0 := Lib.hid (carry hbx Ea0.out)
  replace Ea1 := Lib.hid (carry hbx Ea1.out)
  replace Em := Lib.hid (carry hbx Em.out)
  replace Eb0 := Lib.hid (carry hbx Eb0.out)
  replace Eb1 := Lib.hid (carry hbx Eb1.out)
  replace Eg := Lib.hid (carry hbx Eg.out)
  replace HM := Lib.hid (HM.out.below' hbx)
  replace HG := Lib.hid (HG.out.above fun q _ hl => Below.block hbx q hl)
  replace HB := Lib.hid (bs HB.out hbx)
  clear hb hbx
  try clear zg0 zg1 zg2 zg3 zg4
  have za00 : w21.cell? ⟨w.heap.size, 0, none⟩ = some (.int .i64 k0) := (rowc Ea0.out).1 0
  have za01 : w21.cell? ⟨w.heap.size, 1, none⟩ = some (.int .i64 n0) := (rowc Ea0.out).1 1
  have za02 : w21.cell? ⟨w.heap.size, 2, none⟩ = some (.string s0) := (rowc Ea0.out).1 2
  have za03 : w21.cell? ⟨w.heap.size, 3, none⟩ = some (.int .i64 x0) := (rowc Ea0.out).1 3
  have za04 : w21.cell? ⟨w.heap.size, 4, none⟩ = some (.slice A0 L0 c0) := (rowc Ea0.out).1 4
  have za10 : w21.cell? ⟨w.heap.size + 1, 0, none⟩ = some (.int .i64 k1) := (rowc Ea1.out).1 0
  have za11 : w21.cell? ⟨w.heap.size + 1, 1, none⟩ = some (.int .i64 n1) := (rowc Ea1.out).1 1
  have za12 : w21.cell? ⟨w.heap.size + 1, 2, none⟩ = some (.string s1) := (rowc Ea1.out).1 2
  have za13 : w21.cell? ⟨w.heap.size + 1, 3, none⟩ = some (.int .i64 x1) := (rowc Ea1.out).1 3
  have za14 : w21.cell? ⟨w.heap.size + 1, 4, none⟩ = some (.slice A1 L1 c1) := (rowc Ea1.out).1 4
  go_wp2_with (fail)
  go_cut [17, 18] (fun p f wx => CutPC w21 bb K N Z X RL RT p f wx)
  case first =>
    have HW : Hid (Below w21.heap.size w21 w21) := Lib.hid (Below.refl _ _)
    have hzw21 : w21.heap.size ≤ w21.heap.size := Nat.le_refl _
    have nza0w21 : w21.heap.size ≠ w.heap.size := by have := (Array.getElem?_eq_some_iff.1 Ea0.out).1; omega
    have nza1w21 : w21.heap.size ≠ w.heap.size + 1 := by have := (Array.getElem?_eq_some_iff.1 Ea1.out).1; omega
    go_region_held3 (fun w' => w'.cell? ⟨w.heap.size, 0, none⟩ = some (.int .i64 k0) ∧ w'.cell? ⟨w.heap.size, 1, none⟩ = some (.int .i64 n0) ∧ w'.cell? ⟨w.heap.size, 2, none⟩ = some (.string s0) ∧ w'.cell? ⟨w.heap.size, 3, none⟩ = some (.int .i64 x0) ∧ w'.cell? ⟨w.heap.size, 4, none⟩ = some (.slice A0 L0 c0) ∧ w'.cell? ⟨w.heap.size + 1, 0, none⟩ = some (.int .i64 k1) ∧ w'.cell? ⟨w.heap.size + 1, 1, none⟩ = some (.int .i64 n1) ∧ w'.cell? ⟨w.heap.size + 1, 2, none⟩ = some (.string s1) ∧ w'.cell? ⟨w.heap.size + 1, 3, none⟩ = some (.int .i64 x1) ∧ w'.cell? ⟨w.heap.size + 1, 4, none⟩ = some (.slice A1 L1 c1)) (first | with_reducible exact ⟨za00, za01, za02, za03, za04, za10, za11, za12, za13, za14⟩ | with_reducible exact ⟨drc (alc za00), drc (alc za01), drc (alc za02), drc (alc za03), drc (alc za04), drc (alc za10), drc (alc za11), drc (alc za12), drc (alc za13), drc (alc za14)⟩ | with_reducible exact ⟨drc za00, drc za01, drc za02, drc za03, drc za04, drc za10, drc za11, drc za12, drc za13, drc za14⟩ | with_reducible exact ⟨alc za00, alc za01, alc za02, alc za03, alc za04, alc za10, alc za11, alc za12, alc za13, alc za14⟩ | with_reducible exact ⟨alc (drc za00), alc (drc za01), alc (drc za02), alc (drc za03), alc (drc za04), alc (drc za10), alc (drc za11), alc (drc za12), alc (drc za13), alc (drc za14)⟩ | with_reducible exact ⟨st5 za00 (by assumption), st5 za01 (by assumption), st5 za02 (by assumption), st5 za03 (by assumption), st5 za04 (by assumption), st5 za10 (by assumption), st5 za11 (by assumption), st5 za12 (by assumption), st5 za13 (by assumption), st5 za14 (by assumption)⟩ | with_reducible exact ⟨st5 (alc za00) (by assumption), st5 (alc za01) (by assumption), st5 (alc za02) (by assumption), st5 (alc za03) (by assumption), st5 (alc za04) (by assumption), st5 (alc za10) (by assumption), st5 (alc za11) (by assumption), st5 (alc za12) (by assumption), st5 (alc za13) (by assumption), st5 (alc za14) (by assumption)⟩ | go_keep)
      (first
      | (fail_if_success (have tok := HVh0)
         go_at_call 14; refine (cps T0 hT0.out _ _ _ (HR0.out.below' (by first | with_reducible exact HB.out | with_reducible exact HB.out.trans ((Below.refl _ _).drew) | with_reducible exact HB.out.alloc HB.out.size _ | with_reducible exact (HB.out.trans ((Below.refl _ _).drew)).alloc HB.out.size _ | with_reducible exact (HB.out.alloc HB.out.size _).trans ((Below.refl _ _).drew)))).mono ?_
         rintro e w22 ⟨v, rfl, hv, hb⟩
         have hbx : Below w21.heap.size w21 w22 := by first | exact hb | exact bs ((Below.refl _ _).drew) hb | exact bs (b1 _ _) hb | exact bs (bs ((Below.refl _ _).drew) (b1 _ _)) hb | exact bs (bs (b1 _ _) ((Below.refl _ _).drew)) hb
         first | (have ez := Lib.hid (carry hb (heap_alloc_new w21 (.cells #[.int .i64 0, .int .i64 0, .string ⟨#[]⟩, .int .i64 0, .slice none 0 0] IV)))) | (have ez := Lib.hid (carry hb (heap_alloc_new w21.drew (.cells #[.int .i64 0, .int .i64 0, .string ⟨#[]⟩, .int .i64 0, .slice none 0 0] IV)))) | (replace ez := Lib.hid (carry hbx ez.out)) | skip
         obtain ⟨Ah0, ch0, rfl, -, -⟩ := TIn.out (HT0.out ▸ hv)
         have HVh0 := Lib.hid (show TIn w22 (Nw 0 w22) T0 (vV k0 n0 s0 x0 Ah0 L0 ch0) by rw [HL0.out, HT0.out]; exact (HT0.out ▸ hv).nw0)
         rw [← HL0.out]
         clear hv
         replace Ea0 := Lib.hid (carry hbx Ea0.out)
         replace Ea1 := Lib.hid (carry hbx Ea1.out)
         replace Em := Lib.hid (carry hbx Em.out)
         replace Eb0 := Lib.hid (carry hbx Eb0.out)
         replace Eb1 := Lib.hid (carry hbx Eb1.out)
         replace Eg := Lib.hid (carry hbx Eg.out)
         replace HM := Lib.hid (HM.out.below' hbx)
         replace HG := Lib.hid (HG.out.above fun q _ hl => Below.block hbx q hl)
         replace HB := Lib.hid (bs HB.out hbx)
         replace HW := Lib.hid (bs HW.out hbx)
         have hzw22 : w21.heap.size ≤ w22.heap.size := HW.out.size
         have za00 : w22.cell? ⟨w.heap.size, 0, none⟩ = some (.int .i64 k0) := (rowc Ea0.out).1 0
         have za01 : w22.cell? ⟨w.heap.size, 1, none⟩ = some (.int .i64 n0) := (rowc Ea0.out).1 1
         have za02 : w22.cell? ⟨w.heap.size, 2, none⟩ = some (.string s0) := (rowc Ea0.out).1 2
         have za03 : w22.cell? ⟨w.heap.size, 3, none⟩ = some (.int .i64 x0) := (rowc Ea0.out).1 3
         have za04 : w22.cell? ⟨w.heap.size, 4, none⟩ = some (.slice A0 L0 c0) := (rowc Ea0.out).1 4
         have za10 : w22.cell? ⟨w.heap.size + 1, 0, none⟩ = some (.int .i64 k1) := (rowc Ea1.out).1 0
         have za11 : w22.cell? ⟨w.heap.size + 1, 1, none⟩ = some (.int .i64 n1) := (rowc Ea1.out).1 1
         have za12 : w22.cell? ⟨w.heap.size + 1, 2, none⟩ = some (.string s1) := (rowc Ea1.out).1 2
         have za13 : w22.cell? ⟨w.heap.size + 1, 3, none⟩ = some (.int .i64 x1) := (rowc Ea1.out).1 3
         have za14 : w22.cell? ⟨w.heap.size + 1, 4, none⟩ = some (.slice A1 L1 c1) := (rowc Ea1.out).1 4
         have nza0w22 : w22.heap.size ≠ w.heap.size := by have := (Array.getElem?_eq_some_iff.1 Ea0.out).1; omega
         have nza1w22 : w22.heap.size ≠ w.heap.size + 1 := by have := (Array.getElem?_eq_some_iff.1 Ea1.out).1; omega
         clear hb hbx)
      | (fail_if_success (have tok := HVh1)
         have tok := HVh0
         clear tok
         go_at_call 14; refine (cps T1 hT1.out _ _ _ (HR1.out.below' (by first | with_reducible exact HB.out | with_reducible exact HB.out.trans ((Below.refl _ _).drew) | with_reducible exact HB.out.alloc HB.out.size _ | with_reducible exact (HB.out.trans ((Below.refl _ _).drew)).alloc HB.out.size _ | with_reducible exact (HB.out.alloc HB.out.size _).trans ((Below.refl _ _).drew)))).mono ?_
         rintro e w23 ⟨v, rfl, hv, hb⟩
         have hbx : Below w22.heap.size w22 w23 := by first | exact hb | exact bs ((Below.refl _ _).drew) hb | exact bs (b1 _ _) hb | exact bs (bs ((Below.refl _ _).drew) (b1 _ _)) hb | exact bs (bs (b1 _ _) ((Below.refl _ _).drew)) hb
         first | (have ez := Lib.hid (carry hb (heap_alloc_new w22 (.cells #[.int .i64 0, .int .i64 0, .string ⟨#[]⟩, .int .i64 0, .slice none 0 0] IV)))) | (have ez := Lib.hid (carry hb (heap_alloc_new w22.drew (.cells #[.int .i64 0, .int .i64 0, .string ⟨#[]⟩, .int .i64 0, .slice none 0 0] IV)))) | (replace ez := Lib.hid (carry hbx ez.out)) | skip
         obtain ⟨Ah1, ch1, rfl, -, -⟩ := TIn.out (HT1.out ▸ hv)
         have HVh1 := Lib.hid (show TIn w23 (Nw 0 w23) T1 (vV k1 n1 s1 x1 Ah1 L1 ch1) by rw [HL1.out, HT1.out]; exact (HT1.out ▸ hv).nw0)
         rw [← HL1.out]
         clear hv
         replace Ea0 := Lib.hid (carry hbx Ea0.out)
         replace Ea1 := Lib.hid (carry hbx Ea1.out)
         replace Em := Lib.hid (carry hbx Em.out)
         replace Eb0 := Lib.hid (carry hbx Eb0.out)
         replace Eb1 := Lib.hid (carry hbx Eb1.out)
         replace Eg := Lib.hid (carry hbx Eg.out)
         replace HM := Lib.hid (HM.out.below' hbx)
         replace HG := Lib.hid (HG.out.above fun q _ hl => Below.block hbx q hl)
         replace HB := Lib.hid (bs HB.out hbx)
         replace HVh0 := Lib.hid (HVh0.out.nwb hbx)
         replace HW := Lib.hid (bs HW.out hbx)
         have hzw23 : w21.heap.size ≤ w23.heap.size := HW.out.size
         have za00 : w23.cell? ⟨w.heap.size, 0, none⟩ = some (.int .i64 k0) := (rowc Ea0.out).1 0
         have za01 : w23.cell? ⟨w.heap.size, 1, none⟩ = some (.int .i64 n0) := (rowc Ea0.out).1 1
         have za02 : w23.cell? ⟨w.heap.size, 2, none⟩ = some (.string s0) := (rowc Ea0.out).1 2
         have za03 : w23.cell? ⟨w.heap.size, 3, none⟩ = some (.int .i64 x0) := (rowc Ea0.out).1 3
         have za04 : w23.cell? ⟨w.heap.size, 4, none⟩ = some (.slice A0 L0 c0) := (rowc Ea0.out).1 4
         have za10 : w23.cell? ⟨w.heap.size + 1, 0, none⟩ = some (.int .i64 k1) := (rowc Ea1.out).1 0
         have za11 : w23.cell? ⟨w.heap.size + 1, 1, none⟩ = some (.int .i64 n1) := (rowc Ea1.out).1 1
         have za12 : w23.cell? ⟨w.heap.size + 1, 2, none⟩ = some (.string s1) := (rowc Ea1.out).1 2
         have za13 : w23.cell? ⟨w.heap.size + 1, 3, none⟩ = some (.int .i64 x1) := (rowc Ea1.out).1 3
         have za14 : w23.cell? ⟨w.heap.size + 1, 4, none⟩ = some (.slice A1 L1 c1) := (rowc Ea1.out).1 4
         have nza0w23 : w23.heap.size ≠ w.heap.size := by have := (Array.getElem?_eq_some_iff.1 Ea0.out).1; omega
         have nza1w23 : w23.heap.size ≠ w.heap.size + 1 := by have := (Array.getElem?_eq_some_iff.1 Ea1.out).1; omega
         clear hb hbx)
      | (go_at_call 10; refine (HCI.out _ _ _ (by first | with_reducible exact HVh0.out | with_reducible exact HVh0.out.nwb (b1 _ _) | with_reducible exact HVh0.out.nwb ((Below.refl _ _).drew) | with_reducible exact HVh0.out.nwb (bs ((Below.refl _ _).drew) (b1 _ _)) | with_reducible exact HVh0.out.nwb (bs (b1 _ _) ((Below.refl _ _).drew))) (by first | with_reducible exact HVh1.out | with_reducible exact HVh1.out.nwb (b1 _ _) | with_reducible exact HVh1.out.nwb ((Below.refl _ _).drew) | with_reducible exact HVh1.out.nwb (bs ((Below.refl _ _).drew) (b1 _ _)) | with_reducible exact HVh1.out.nwb (bs (b1 _ _) ((Below.refl _ _).drew))) (HE.out.stays (by first | with_reducible exact HB.out | with_reducible exact HB.out.trans ((Below.refl _ _).drew) | with_reducible exact HB.out.alloc HB.out.size _ | with_reducible exact (HB.out.trans ((Below.refl _ _).drew)).alloc HB.out.size _ | with_reducible exact (HB.out.alloc HB.out.size _).trans ((Below.refl _ _).drew)))).mono ?_
         rintro e w24 ⟨u, par, r, rfl, hv, hr, hb⟩
         have hbx : Below w23.heap.size w23 w24 := by first | exact hb | exact bs ((Below.refl _ _).drew) hb | exact bs (b1 _ _) hb | exact bs (bs ((Below.refl _ _).drew) (b1 _ _)) hb | exact bs (bs (b1 _ _) ((Below.refl _ _).drew)) hb
         first | (have nzw := Lib.hid (Array.getElem?_eq_some_iff.1 ez.out).1; replace ez := Lib.hid (carry hbx ez.out)) | (have ez := Lib.hid (carry hb (heap_alloc_new w23 (.cells #[.int .i64 0, .int .i64 0, .string ⟨#[]⟩, .int .i64 0, .slice none 0 0] IV))); have nzw := Lib.hid (Array.getElem?_eq_some_iff.1 (heap_alloc_new w23 (.cells #[.int .i64 0, .int .i64 0, .string ⟨#[]⟩, .int .i64 0, .slice none 0 0] IV))).1) | (have ez := Lib.hid (carry hb (heap_alloc_new w23.drew (.cells #[.int .i64 0, .int .i64 0, .string ⟨#[]⟩, .int .i64 0, .slice none 0 0] IV)))) | skip
         obtain ⟨Ag, cg, rfl, -⟩ := TPar.out (HRT.out ▸ hv)
         have HGG := Lib.hid (show TPar w24 par (r, 0) RT (vV K N Z X Ag RL cg) by rw [HRL.out, HRT.out]; exact (HRT.out ▸ hv))
         have HRQ := Lib.hid hr
         rw [← HRL.out]
         clear hv hr
         replace Ea0 := Lib.hid (carry hbx Ea0.out)
         replace Ea1 := Lib.hid (carry hbx Ea1.out)
         replace Em := Lib.hid (carry hbx Em.out)
         replace Eb0 := Lib.hid (carry hbx Eb0.out)
         replace Eb1 := Lib.hid (carry hbx Eb1.out)
         replace Eg := Lib.hid (carry hbx Eg.out)
         replace HM := Lib.hid (HM.out.below' hbx)
         replace HG := Lib.hid (HG.out.above fun q _ hl => Below.block hbx q hl)
         replace HB := Lib.hid (bs HB.out hbx)
         replace HVh0 := Lib.hid (HVh0.out.nwb hbx)
         replace HVh1 := Lib.hid (HVh1.out.nwb hbx)
         replace HW := Lib.hid (bs HW.out hbx)
         have hzw24 : w21.heap.size ≤ w24.heap.size := HW.out.size
         have za00 : w24.cell? ⟨w.heap.size, 0, none⟩ = some (.int .i64 k0) := (rowc Ea0.out).1 0
         have za01 : w24.cell? ⟨w.heap.size, 1, none⟩ = some (.int .i64 n0) := (rowc Ea0.out).1 1
         have za02 : w24.cell? ⟨w.heap.size, 2, none⟩ = some (.string s0) := (rowc Ea0.out).1 2
         have za03 : w24.cell? ⟨w.heap.size, 3, none⟩ = some (.int .i64 x0) := (rowc Ea0.out).1 3
         have za04 : w24.cell? ⟨w.heap.size, 4, none⟩ = some (.slice A0 L0 c0) := (rowc Ea0.out).1 4
         have za10 : w24.cell? ⟨w.heap.size + 1, 0, none⟩ = some (.int .i64 k1) := (rowc Ea1.out).1 0
         have za11 : w24.cell? ⟨w.heap.size + 1, 1, none⟩ = some (.int .i64 n1) := (rowc Ea1.out).1 1
         have za12 : w24.cell? ⟨w.heap.size + 1, 2, none⟩ = some (.string s1) := (rowc Ea1.out).1 2
         have za13 : w24.cell? ⟨w.heap.size + 1, 3, none⟩ = some (.int .i64 x1) := (rowc Ea1.out).1 3
         have za14 : w24.cell? ⟨w.heap.size + 1, 4, none⟩ = some (.slice A1 L1 c1) := (rowc Ea1.out).1 4
         have nza0w24 : w24.heap.size ≠ w.heap.size := by have := (Array.getElem?_eq_some_iff.1 Ea0.out).1; omega
         have nza1w24 : w24.heap.size ≠ w.heap.size + 1 := by have := (Array.getElem?_eq_some_iff.1 Ea1.out).1; omega
         clear hb hbx
         first | (have zr := (rowc ez.out).1; have zf := (rowc ez.out).2) | skip))
    all_goals
      go_wp2_with (fail)
      go_meet
      first
      | with_reducible exact cutPC_box HW.out HGG.out (Nat.le_trans (by first | exact Nat.le_refl _ | assumption | (simp; omega)) HRQ.out)
      | exact cutPC_early HW.out (by first | exact Nat.le_refl _ | assumption) ez.out HGG.out (Nat.le_of_lt (Nat.lt_of_lt_of_le nzw.out HRQ.out)) rfl
  obtain ⟨Nh, Ah, ch, ph, rh, hp, hf, hbx, hNh, en, hv, hrh, hih, hth, hhh, hdh⟩ := hcut
  subst hp hf
  obtain ⟨w25, hwc⟩ : ∃ q, q = wc := ⟨wc, rfl⟩
  subst hwc
  try clear za00 za01 za02 za03 za04
  try clear za10 za11 za12 za13 za14
  replace Ea0 := Lib.hid (carry hbx Ea0.out)
  replace Ea1 := Lib.hid (carry hbx Ea1.out)
  replace Em := Lib.hid (carry hbx Em.out)
  replace Eb0 := Lib.hid (carry hbx Eb0.out)
  replace Eb1 := Lib.hid (carry hbx Eb1.out)
  replace Eg := Lib.hid (carry hbx Eg.out)
  replace HM := Lib.hid (HM.out.below' hbx)
  replace HG := Lib.hid (HG.out.above fun q _ hl => Below.block hbx q hl)
  replace HB := Lib.hid (bs HB.out hbx)
  have Eh := Lib.hid en
  clear en
  have HH := Lib.hid hv.tin
  clear hv hth hhh hdh hrh hNh hbx
  have zh0 : w25.cell? ⟨Nh, 0, none⟩ = some (.int .i64 K) := (rowc Eh.out).1 0
  have zh1 : w25.cell? ⟨Nh, 1, none⟩ = some (.int .i64 N) := (rowc Eh.out).1 1
  have zh2 : w25.cell? ⟨Nh, 2, none⟩ = some (.string Z) := (rowc Eh.out).1 2
  have zh3 : w25.cell? ⟨Nh, 3, none⟩ = some (.int .i64 X) := (rowc Eh.out).1 3
  have zh4 : w25.cell? ⟨Nh, 4, none⟩ = some (.slice Ah RL ch) := (rowc Eh.out).1 4
  have zm0 : w25.cell? ⟨Nm, 0, none⟩ = some (.int .i64 K) := (rowc Em.out).1 0
  have zm1 : w25.cell? ⟨Nm, 1, none⟩ = some (.int .i64 N) := (rowc Em.out).1 1
  have zm2 : w25.cell? ⟨Nm, 2, none⟩ = some (.string Z) := (rowc Em.out).1 2
  have zm3 : w25.cell? ⟨Nm, 3, none⟩ = some (.int .i64 X) := (rowc Em.out).1 3
  have zm4 : w25.cell? ⟨Nm, 4, none⟩ = some (.slice Am RL cm) := (rowc Em.out).1 4
  go_wp2_with (fail)
  refine (eqV RT _ _ _ _ _ HH.out HM.out).mono ?_
  rintro e w26 ⟨rfl, hb⟩
  have hbx := hb
  replace Ea0 := Lib.hid (carry hbx Ea0.out)
  replace Ea1 := Lib.hid (carry hbx Ea1.out)
  replace Em := Lib.hid (carry hbx Em.out)
  replace Eb0 := Lib.hid (carry hbx Eb0.out)
  replace Eb1 := Lib.hid (carry hbx Eb1.out)
  replace Eg := Lib.hid (carry hbx Eg.out)
  replace Eh := Lib.hid (carry hbx Eh.out)
  replace HM := Lib.hid (HM.out.below' hbx)
  replace HH := Lib.hid (HH.out.below' hbx)
  replace HG := Lib.hid (HG.out.above fun q _ hl => Below.block hbx q hl)
  replace HB := Lib.hid (bs HB.out hbx)
  clear hb hbx
  try clear zh0 zh1 zh2 zh3 zh4
  try clear zm0 zm1 zm2 zm3 zm4
  have zg0 : w26.cell? ⟨Ng, 0, none⟩ = some (.int .i64 K) := (rowc Eg.out).1 0
  have zg1 : w26.cell? ⟨Ng, 1, none⟩ = some (.int .i64 N) := (rowc Eg.out).1 1
  have zg2 : w26.cell? ⟨Ng, 2, none⟩ = some (.string Z) := (rowc Eg.out).1 2
  have zg3 : w26.cell? ⟨Ng, 3, none⟩ = some (.int .i64 X) := (rowc Eg.out).1 3
  have zg4 : w26.cell? ⟨Ng, 4, none⟩ = some (.slice Ag RL cg) := (rowc Eg.out).1 4
  go_wp2_with (fail)
  refine (heldSep RT _ 1 (by omega) hQ1.out _ _ HG.out.tin).mono ?_
  rintro e w27 ⟨rfl, hb⟩
  rw [HQ.out]
  have hbx := hb
  replace Ea0 := Lib.hid (carry hbx Ea0.out)
  replace Ea1 := Lib.hid (carry hbx Ea1.out)
  replace Em := Lib.hid (carry hbx Em.out)
  replace Eb0 := Lib.hid (carry hbx Eb0.out)
  replace Eb1 := Lib.hid (carry hbx Eb1.out)
  replace Eg := Lib.hid (carry hbx Eg.out)
  replace Eh := Lib.hid (carry hbx Eh.out)
  replace HM := Lib.hid (HM.out.below' hbx)
  replace HH := Lib.hid (HH.out.below' hbx)
  replace HG := Lib.hid (HG.out.above fun q _ hl => Below.block hbx q hl)
  replace HB := Lib.hid (bs HB.out hbx)
  clear hb hbx
  try clear zg0 zg1 zg2 zg3 zg4
  go_wp2_with (fail)
  go_ret
  exact ⟨rfl, HB.out⟩

theorem walk (k0 : Int) (t1 : Tr) (v1 : Value) (t2 : Tr) (v2 : Value) (w : World) (hr1 : TIn w (fun _ => True) t1 v1) (hr2 : TIn w (fun _ => True) t2 v2) (hE : OpE w) : Calls Tryz.prog 4 #[.int .i64 k0, v1, v2] w (TrueQ w) := by
  have hc0 := cnt_tot t1 hr1.fits
  have hc1 := cnt_tot t2 hr2.fits
  have h1 := binT_cnt k0 t1 t2
  refine walk0 k0 t1 v1 t2 v2 w hr1 hr2 (binT k0 t1 t2) (binC k0 t1 t2) hE (fun hT => ⟨?_, fun w S0 S1 u0 u1 h0 h1 hE => ?_, fun w u0 u1 h0 h1 hE => ?_⟩)
  · have h2 := itm_cnt (binT k0 t1 t2)
    omega
  · exact (binary_s k0 t1 t2 u0 u1 w (h0.stays (fun _ _ => trivial) (fun _ _ _ => rfl)) (h1.stays (fun _ _ => trivial) (fun _ _ _ => rfl)) (by omega) (by omega) hE).mono fun e w' ⟨u, a, b, c⟩ => ⟨u, a, b, c⟩
  · exact (binary_i k0 t1 t2 u0 u1 w h0 h1 (by omega) (by omega) hE).mono fun e w' ⟨u, par, R, a, b, c, d⟩ => ⟨u, par, R, a, b, c, d⟩

set_option maxRecDepth 100000 in
theorem lifted (os : Os) (started : os.Started) (H : Type) (enc : TypeId × Value → H) :
    ReturnsInHanded {} Tryz.checked os 4 .any (fun w args => (Rows.fnExactBinaryOpSpec.pre enc Tryz.prog Tryz.f4 [] false w args ∧ laidMetH Tryz.prog ers.bin.laidOf w) ∧ sizedMet enc Tryz.prog Tryz.f4 (OpenSpec.ofChange Rows.fnExactBinaryOpSpec) false w args)
      (Rows.fnExactBinaryOpSpec.post enc Tryz.prog Tryz.f4 false true false false) := by
  refine returnsInHanded_of_change_and (C := Tryz.checked) (X := fun w _ => laidMetH Tryz.prog ers.bin.laidOf w) (fun _ _ _ hh h => h.of_heap hh) own started (by kernel_rfl) Tryz.func4
    (ChangeSpec.witness_shaped (enc := enc) (C := Tryz.checked) (os := os) (X := fun w _ => laidMetH Tryz.prog ers.bin.laidOf w) false (World.doorLaid Tryz.prog 400 os) #[.int .i64 0, .agg #[.int .i64 0, .int .i64 0, .string ⟨#[]⟩, .int .i64 0, .slice none 0 0], .agg #[.int .i64 0, .int .i64 0, .string ⟨#[]⟩, .int .i64 0, .slice none 0 0]] 8 rfl (World.shaped_of_RefB (by kernel_rfl) (by kernel_rfl)) (by kernel_rfl) (by kernel_rfl) (by kernel_rfl) (ers.bin.door_met os _)) ?_
  intro W base args ds gs before hval0 hW _ hsz0 hL _
  have hval : ∀ (j : Nat) t v, Tryz.f4.params[j]? = some t → args[j]? = some v → Value.okWide Tryz.prog W .any base t v := hval0
  have hW' := hW
  obtain ⟨p, q, hA0, hV, rfl, hfz, hnd⟩ := hW
  have hA : DataW.TrodAll enc Tryz.prog W 0 (fun _ => true) true Tryz.f4.params.toList args.toList ds p := hA0
  have hA2 := hA
  rw [Tryz.params4] at hA hval
  obtain ⟨v0, vs0, d0, ds0, p0, q0, hargs, rfl, rfl, h0, r0⟩ := trodAll_cons hA
  obtain ⟨v1, vs1, d1, ds1, p1, q1, rfl, rfl, rfl, h1, r1⟩ := trodAll_cons r0
  obtain ⟨v2, vs2, d2, ds2, p2, q2, rfl, rfl, rfl, h2, r2⟩ := trodAll_cons r1
  obtain ⟨rfl, rfl, rfl⟩ := trodAll_nil r2
  obtain rfl : args = #[v0, v1, v2] := by cases args; simp_all
  have hE := ers.bin.env_of hL
  obtain ⟨-, -, ⟨a, hEa⟩, ⟨b, hEb⟩⟩ := id hE
  obtain ⟨rfl, rfl⟩ := hV.unique (readTN enc hEa hEb _)
  obtain ⟨k0, rfl, rfl, rfl, w0⟩ := open_int Tryz.underlying3 (hval 0 3 v0 rfl rfl) h0
  obtain ⟨t1, hr1⟩ := opt.open_value (hval 1 38 v1 rfl rfl) h1
  obtain ⟨t2, hr2⟩ := opt.open_value (hval 2 38 v2 rfl rfl) h2
  clear hA0 hval0
  refine (walk k0 t1 v1 t2 v2 W hr1 hr2 hE).mono fun e W' ⟨he, hb⟩ => ?_
  subst he
  exact ⟨_, rfl, opn.post_true_vars2 hW' hA2 rfl rfl Tryz.underlying4 (by kernel_rfl) (by kernel_rfl) hb (readTN enc (hEa.stays hb) (hEb.stays hb) _)⟩

theorem over : Rows.FnExactBinaryOpSaid :=
  OpenClaim.holds_of_wide 4 Tryz.f4 rfl rfl rfl rfl rfl rfl rfl ⟨rfl, rfl, rfl, rfl, rfl⟩ rfl rfl rfl rfl rfl (by kernel_rfl) Tryz.func4 (by kernel_rfl)
    (of_decide_eq_true (by kernel_rfl)) (by unfold Func.isWrapper; first | (rw [if_pos (by decide +kernel)]; kernel_rfl) | (rw [if_neg (by decide +kernel)]; exact ⟨rfl, rfl⟩))
    (fun os started H enc _ => lifted os started H enc)

/-- The statement. -/
theorem proved : Rows.FnExactBinaryOpCardSaid :=
  Claim7.holds_tied_plain_at .later [] Rows.fnExactBinaryOpCard.laidKinds true Rows.fnExactBinaryOpCard.stood.harness Rows.fnExactBinaryOpCard.stood.looks
    over (fun _ h => by cases h) (by kernel_rfl) (fun _ h => by cases h) fnExactBinaryOp_row_tie rfl ⟨rfl, rfl⟩ (by kernel_rfl) rfl
    (fun f fn hf hfn => by
      obtain rfl : f = 4 := Option.some.inj ((show Tryz.prog.funcNamed "loop.example/g03011/laws.FnExactBinaryOp" = some 4 by kernel_rfl).symm.trans hf) |>.symm
      obtain rfl : fn = Tryz.f4 := (Option.some.inj (Tryz.func4.symm.trans hfn)).symm
      exact ⟨by kernel_rfl, fun j t ht => by
        rw [Tryz.params4] at ht
        have hm : t ∈ [3, 38, 38] := by simpa using Array.mem_of_getElem? ht
        have hall : ([3, 38, 38].all fun u => !Tryz.prog.wantsStandIn u) = true := by kernel_rfl
        exact (show Tryz.prog.wantsStandIn t = false by simpa using List.all_eq_true.1 hall t hm)⟩)
    (by kernel_rfl)
#print axioms proved
end Go.Proofs.YteoilhbidnnneaaGreatDoor.fnExactBinaryOp

