/-
  SetPath answers as its model at every value, path, flag and value to be written; it leaves its arguments unmodified, and its answer owns its memory.
  Conditions: the package variables that the row lists hold what the program's text lays, and the card ties that to the text.
-/
import Derived.Test.YtbgffmiffmmohaaGreatDoorRows
import Derived.Test.YtbgffmiffmmohaaGreatDoorCards
import Derived.Test.YtbgffmiffmmohaaGreatDoorTie
import Derived.LaidMore
import Derived.LaidHandle
import Derived.Stop.Joined
import Derived.SevenTiedAt
import Derived.Stop.LaidErr
import Derived.SizedLaws
import Derived.Deep.RegionHeld3
import Derived.WalkKit
import Derived.ProofKit
import Derived.OpenShut
import Derived.Test.YtbgffmiffmmohaaGreatDoorSpB8
import Derived.Test.YtbgffmiffmmohaaGreatDoorSpB9
import Derived.Test.YtbgffmiffmmohaaGreatDoorSpB5
import Derived.Test.YtbgffmiffmmohaaGreatDoorSpSLawBox
import Derived.Test.YtbgffmiffmmohaaGreatDoorSpB6
import Derived.Test.YtbgffmiffmmohaaGreatDoorSpB1
import Derived.Test.YtbgffmiffmmohaaGreatDoorSpSEnvKey
namespace Go.Proofs.YtbgffmiffmmohaaGreatDoor.fnExactSetPath
open Go.ChangeShapes Go.WideShapes Go.ChangeAt Go.RowKit tree
open Go.ChangeMaps (open_string)
set_option linter.unusedVariables false

theorem own : ownKnob Tryz.prog.godebug = none := by kernel_rfl

set_option maxHeartbeats 16000000 in
set_option maxRecDepth 100000 in
theorem walk0 (t0 : Tr) (v0 : Value) (ys1 : List Ky) (A1 : Option Addr) (c1 : Nat) (b2 : Bool) (t3 : Tr) (v3 : Value) (w : World) (hr0 : TIn w (fun _ => True) t0 v0) (hk1 : KIn w ys1 A1) (hc1 : ys1.length ≤ c1 ∧ c1 ≤ maxLen) (hr3 : TIn w (fun _ => True) t3 v3) (R : Tr) (bb : Int) (hE : prs.Env w)
    (HC : tot t0 + (ys1.length + kst ys1) + tot t3 ≤ 1048576 → itm R ≤ 1048577 ∧ (∀ (w : World) (S0 S3 : Nat → Prop) (u0 u3 : Value) (A : Option Addr) (c : Nat), TIn w S0 t0 u0 → KIn w ys1 A → (ys1.length ≤ c ∧ c ≤ maxLen) → TIn w S3 t3 u3 → prs.Env w → Calls Tryz.prog 38 #[u0, .slice A ys1.length c, .bool b2, u3] w (fun e w' => ∃ u, e = .returned (.tuple #[u, .int .i64 bb]) ∧ TIn w' (fun q => w.heap.size ≤ q) R u ∧ Below w.heap.size w w')) ∧ (∀ (w : World) (u0 u3 : Value) (A : Option Addr) (c : Nat), TIn w (Nw 0 w) t0 u0 → KIn w ys1 A → (ys1.length ≤ c ∧ c ≤ maxLen) → TIn w (Nw 0 w) t3 u3 → prs.Env w → Calls Tryz.prog 40 #[u0, .slice A ys1.length c, .bool b2, u3] w (fun e w' => ∃ u par r, e = .returned (.tuple #[u, .int .i64 bb]) ∧ TPar w' par (r, 0) R u ∧ w.heap.size ≤ r ∧ Below w.heap.size w w'))) :
    Calls Tryz.prog 6 #[v0, .slice A1 (List.length ys1) c1, .bool b2, v3] w (TrueQ w) := by
  have HE := Lib.hid hE
  clear hE
  obtain ⟨K, N, Z, X, RK, RV⟩ := R
  obtain ⟨RL, HRL⟩ : ∃ L, Hid (L = RV.length) := ⟨_, Lib.hid rfl⟩
  obtain ⟨RT, HRT⟩ : ∃ T, Hid (T = Tr.mk K N Z X RK RV) := ⟨_, Lib.hid rfl⟩
  rw [← HRT.out] at HC
  obtain ⟨k0, n0, s0, x0, ks0, vs0⟩ := t0
  obtain ⟨A0, c0, rfl, -, -⟩ := hr0.out
  obtain ⟨L0, HL0⟩ : ∃ L, Hid (L = vs0.length) := ⟨_, Lib.hid rfl⟩
  obtain ⟨T0, HT0⟩ : ∃ T, Hid (T = Tr.mk k0 n0 s0 x0 ks0 vs0) := ⟨_, Lib.hid rfl⟩
  obtain ⟨k3, n3, s3, x3, ks3, vs3⟩ := t3
  obtain ⟨A3, c3, rfl, -, -⟩ := hr3.out
  obtain ⟨L3, HL3⟩ : ∃ L, Hid (L = vs3.length) := ⟨_, Lib.hid rfl⟩
  obtain ⟨T3, HT3⟩ : ∃ T, Hid (T = Tr.mk k3 n3 s3 x3 ks3 vs3) := ⟨_, Lib.hid rfl⟩
  rw [← HT0.out] at hr0 HC
  rw [← HL0.out] at hr0 ⊢
  have HR0 := Lib.hid hr0
  have SZ0 := fun w h => szV T0 w (fun _ => True) (vV k0 n0 s0 x0 A0 L0 c0) h
  rw [← HT3.out] at hr3 HC
  rw [← HL3.out] at hr3 ⊢
  have HR3 := Lib.hid hr3
  have SZ3 := fun w h => szV T3 w (fun _ => True) (vV k3 n3 s3 x3 A3 L3 c3) h
  have HOK := Lib.hid hk1.ok
  have HSK := Lib.hid (fun w' (h : KIn w' ys1 A1) l h0 h1 => szKeyS ys1 (Nat.le_trans hc1.1 hc1.2) A1 c1 w' h l h0 h1)
  have HTK : Hid (ys1.length ≤ 1048576 → ∀ w', KIn w' ys1 A1 → Calls Tryz.prog 39 #[.slice A1 ys1.length c1] w' (KsR w' ys1)) := Lib.hid (fun hm w' h => toKeyS ys1 hm A1 c1 w' h)
  have HEK := Lib.hid (fun (hm : ys1.length ≤ 1000000000) => eqKeyS ys1 hm)
  have HMK := Lib.hid (fun m (h0 : 1 ≤ m) h1 => markKeyS ys1 m h0 h1)
  obtain ⟨LY, HLY⟩ : ∃ L, Hid (ys1.length = L) := ⟨_, Lib.hid rfl⟩
  obtain ⟨KY, HKY⟩ : ∃ L, Hid (kst ys1 = L) := ⟨_, Lib.hid rfl⟩
  unfold KsR at HTK
  rw [HLY.out] at HC HSK HTK HEK HMK ⊢
  rw [HKY.out] at HC HSK
  have hLY : LY ≤ 9223372036854775807 := by have := Nat.le_trans hc1.1 hc1.2; unfold maxLen at this; rw [HLY.out] at this; omega
  have HK1 := Lib.hid hk1
  have HCC := Lib.hid HC
  clear hr0 hr3 hk1 HC hc1
  go_enter Tryz.func6, Tryz.ntmps6
  go_wp2_with (fail)
  refine (SZ0 _ (HR0.out.below' (tree.b2 _ _ _)) 1048576 (by omega) (by omega)).mono ?_
  rintro e w0 ⟨r0, rfl, ⟨ha0, hb0, hc0⟩, hw0⟩
  have Ea0 := Lib.hid (carry hw0 (heap_alloc2_old w _ _))
  have Ea3 := Lib.hid (carry hw0 (heap_alloc2_new w _ _))
  have HB := Lib.hid (bs (tree.b2 w _ _) hw0)
  have HQ0 := Lib.hid hc0
  clear hw0 hc0
  by_cases hlt0 : r0 < 0
  · go_wp2_with (fail)
    go_ret
    exact ⟨rfl, HB.out⟩
  go_wp2_with (fail)
  refine (HSK.out _ (HK1.out.below HB.out) r0 (by omega) (by omega)).mono ?_
  rintro e w1 ⟨r1, rfl, ⟨ha1, hb1, hc1⟩, hw1⟩
  replace Ea0 := Lib.hid (carry hw1 Ea0.out)
  replace Ea3 := Lib.hid (carry hw1 Ea3.out)
  replace HB := Lib.hid (bs HB.out hw1)
  have HQ1 := Lib.hid hc1
  clear hw1 hc1 HSK SZ0
  by_cases hlt1 : r1 < 0
  · go_wp2_with (fail)
    go_ret
    exact ⟨rfl, HB.out⟩
  have za30 : w1.cell? ⟨w.heap.size + 1, 0, none⟩ = some (.int .i64 k3) := (rowc Ea3.out).1 0
  have za31 : w1.cell? ⟨w.heap.size + 1, 1, none⟩ = some (.int .i64 n3) := (rowc Ea3.out).1 1
  have za32 : w1.cell? ⟨w.heap.size + 1, 2, none⟩ = some (.string s3) := (rowc Ea3.out).1 2
  have za33 : w1.cell? ⟨w.heap.size + 1, 3, none⟩ = some (.int .i64 x3) := (rowc Ea3.out).1 3
  have za34 : w1.cell? ⟨w.heap.size + 1, 4, none⟩ = some (.slice A3 L3 c3) := (rowc Ea3.out).1 4
  go_wp2_with (fail)
  refine (SZ3 _ (HR3.out.below' HB.out) r1 (by omega) (by omega)).mono ?_
  rintro e w2 ⟨r3, rfl, ⟨ha3, hb3, hc3⟩, hw3⟩
  replace Ea0 := Lib.hid (carry hw3 Ea0.out)
  replace Ea3 := Lib.hid (carry hw3 Ea3.out)
  replace HB := Lib.hid (bs HB.out hw3)
  have HQ3 := Lib.hid hc3
  clear hw3 hc3 SZ3
  clear za30 za31 za32 za33 za34
  by_cases hlt3 : r3 < 0
  · go_wp2_with (fail)
    go_ret
    exact ⟨rfl, HB.out⟩
  have HSUM : Hid (tot T0 + (LY + KY) + tot T3 ≤ 1048576) := Lib.hid (by have q0 := HQ0.out (by omega); have q1 := HQ1.out (by omega); have q3 := HQ3.out (by omega); omega)
  obtain ⟨hit, hcs, hci⟩ := HCC.out HSUM.out
  have HIT := Lib.hid hit
  have HCS := Lib.hid hcs
  have HCI := Lib.hid hci
  have HTK := Lib.hid (HTK.out (by have := HSUM.out; omega))
  have HEK := Lib.hid (HEK.out (by have := HSUM.out; omega))
  obtain ⟨Q, HQ⟩ : ∃ Q : Int, Hid (1 + 7 * (itm RT : Int) = Q) := ⟨_, Lib.hid rfl⟩
  have hQ0 : 1 ≤ Q := by rw [← HQ.out]; omega
  have hQ1 : Hid (1 + 7 * (itm RT : Int) ≤ 100000000000) := Lib.hid (by omega)
  have hT0 : Hid (tot T0 ≤ 1048576) := Lib.hid (by have := HSUM.out; omega)
  have hF0 : Hid (cnt T0 ≤ 1048577) := Lib.hid (by have := cnt_tot T0 HR0.out.fits; have := HSUM.out; omega)
  have hT3 : Hid (tot T3 ≤ 1048576) := Lib.hid (by have := HSUM.out; omega)
  have hF3 : Hid (cnt T3 ≤ 1048577) := Lib.hid (by have := cnt_tot T3 HR3.out.fits; have := HSUM.out; omega)
  have hLY2 : LY ≤ 1048576 := by have := HSUM.out; omega
  clear hit hcs hci HCC HQ0 HQ1 HQ3
  have za00 : w2.cell? ⟨w.heap.size, 0, none⟩ = some (.int .i64 k0) := (rowc Ea0.out).1 0
  have za01 : w2.cell? ⟨w.heap.size, 1, none⟩ = some (.int .i64 n0) := (rowc Ea0.out).1 1
  have za02 : w2.cell? ⟨w.heap.size, 2, none⟩ = some (.string s0) := (rowc Ea0.out).1 2
  have za03 : w2.cell? ⟨w.heap.size, 3, none⟩ = some (.int .i64 x0) := (rowc Ea0.out).1 3
  have za04 : w2.cell? ⟨w.heap.size, 4, none⟩ = some (.slice A0 L0 c0) := (rowc Ea0.out).1 4
  have za30 : w2.cell? ⟨w.heap.size + 1, 0, none⟩ = some (.int .i64 k3) := (rowc Ea3.out).1 0
  have za31 : w2.cell? ⟨w.heap.size + 1, 1, none⟩ = some (.int .i64 n3) := (rowc Ea3.out).1 1
  have za32 : w2.cell? ⟨w.heap.size + 1, 2, none⟩ = some (.string s3) := (rowc Ea3.out).1 2
  have za33 : w2.cell? ⟨w.heap.size + 1, 3, none⟩ = some (.int .i64 x3) := (rowc Ea3.out).1 3
  have za34 : w2.cell? ⟨w.heap.size + 1, 4, none⟩ = some (.slice A3 L3 c3) := (rowc Ea3.out).1 4
  go_wp2_with (fail)
  go_cut [10, 11] (fun p f wx => CutMC w2 bb K N Z X RL RT p f wx)
  case first =>
    have HW : Hid (Below w2.heap.size w2 w2) := Lib.hid (Below.refl _ _)
    have hzw2 : w2.heap.size ≤ w2.heap.size := Nat.le_refl _
    have nza0w2 : w2.heap.size ≠ w.heap.size := by have := (Array.getElem?_eq_some_iff.1 Ea0.out).1; omega
    have nza3w2 : w2.heap.size ≠ w.heap.size + 1 := by have := (Array.getElem?_eq_some_iff.1 Ea3.out).1; omega
    go_region_held3 (fun w' => w'.cell? ⟨w.heap.size, 0, none⟩ = some (.int .i64 k0) ∧ w'.cell? ⟨w.heap.size, 1, none⟩ = some (.int .i64 n0) ∧ w'.cell? ⟨w.heap.size, 2, none⟩ = some (.string s0) ∧ w'.cell? ⟨w.heap.size, 3, none⟩ = some (.int .i64 x0) ∧ w'.cell? ⟨w.heap.size, 4, none⟩ = some (.slice A0 L0 c0) ∧ w'.cell? ⟨w.heap.size + 1, 0, none⟩ = some (.int .i64 k3) ∧ w'.cell? ⟨w.heap.size + 1, 1, none⟩ = some (.int .i64 n3) ∧ w'.cell? ⟨w.heap.size + 1, 2, none⟩ = some (.string s3) ∧ w'.cell? ⟨w.heap.size + 1, 3, none⟩ = some (.int .i64 x3) ∧ w'.cell? ⟨w.heap.size + 1, 4, none⟩ = some (.slice A3 L3 c3)) (first | with_reducible exact ⟨za00, za01, za02, za03, za04, za30, za31, za32, za33, za34⟩ | with_reducible exact ⟨drc (alc za00), drc (alc za01), drc (alc za02), drc (alc za03), drc (alc za04), drc (alc za30), drc (alc za31), drc (alc za32), drc (alc za33), drc (alc za34)⟩ | with_reducible exact ⟨drc za00, drc za01, drc za02, drc za03, drc za04, drc za30, drc za31, drc za32, drc za33, drc za34⟩ | with_reducible exact ⟨alc za00, alc za01, alc za02, alc za03, alc za04, alc za30, alc za31, alc za32, alc za33, alc za34⟩ | with_reducible exact ⟨alc (drc za00), alc (drc za01), alc (drc za02), alc (drc za03), alc (drc za04), alc (drc za30), alc (drc za31), alc (drc za32), alc (drc za33), alc (drc za34)⟩ | with_reducible exact ⟨st5 za00 (by assumption), st5 za01 (by assumption), st5 za02 (by assumption), st5 za03 (by assumption), st5 za04 (by assumption), st5 za30 (by assumption), st5 za31 (by assumption), st5 za32 (by assumption), st5 za33 (by assumption), st5 za34 (by assumption)⟩ | with_reducible exact ⟨st5 (alc za00) (by assumption), st5 (alc za01) (by assumption), st5 (alc za02) (by assumption), st5 (alc za03) (by assumption), st5 (alc za04) (by assumption), st5 (alc za30) (by assumption), st5 (alc za31) (by assumption), st5 (alc za32) (by assumption), st5 (alc za33) (by assumption), st5 (alc za34) (by assumption)⟩ | go_keep)
      (first
      | (fail_if_success (have tok := HV0)
         go_at_call 31; refine (cps T0 hT0.out _ _ _ (HR0.out.below' (by first | with_reducible exact HB.out | with_reducible exact HB.out.trans ((Below.refl _ _).drew) | with_reducible exact HB.out.alloc HB.out.size _ | with_reducible exact (HB.out.trans ((Below.refl _ _).drew)).alloc HB.out.size _ | with_reducible exact (HB.out.alloc HB.out.size _).trans ((Below.refl _ _).drew)))).mono ?_
         rintro e w3 ⟨v, rfl, hv, hb⟩
         have hbx : Below w2.heap.size w2 w3 := by first | exact hb | exact bs ((Below.refl _ _).drew) hb | exact bs (b1 _ _) hb | exact bs (bs ((Below.refl _ _).drew) (b1 _ _)) hb | exact bs (bs (b1 _ _) ((Below.refl _ _).drew)) hb
         first | (have ez := Lib.hid (carry hb (heap_alloc_new w2 (.cells #[.int .i64 0, .int .i64 0, .string ⟨#[]⟩, .int .i64 0, .slice none 0 0] IV)))) | (have ez := Lib.hid (carry hb (heap_alloc_new w2.drew (.cells #[.int .i64 0, .int .i64 0, .string ⟨#[]⟩, .int .i64 0, .slice none 0 0] IV)))) | (replace ez := Lib.hid (carry hbx ez.out)) | skip
         obtain ⟨AqHV0, cqHV0, rfl, -, -⟩ := TIn.out (HT0.out ▸ hv)
         have HV0 := Lib.hid (show TIn w3 _ T0 (vV k0 n0 s0 x0 AqHV0 L0 cqHV0) by rw [HL0.out, HT0.out]; exact (HT0.out ▸ hv))
         rw [← HL0.out]
         clear hv
         try clear za00 za01 za02 za03 za04
         try clear za30 za31 za32 za33 za34
         replace Ea0 := Lib.hid (carry hbx Ea0.out)
         replace Ea3 := Lib.hid (carry hbx Ea3.out)
         replace HB := Lib.hid (bs HB.out hbx)
         replace HW := Lib.hid (bs HW.out hbx)
         have hzw3 : w2.heap.size ≤ w3.heap.size := HW.out.size
         have za00 : w3.cell? ⟨w.heap.size, 0, none⟩ = some (.int .i64 k0) := (rowc Ea0.out).1 0
         have za01 : w3.cell? ⟨w.heap.size, 1, none⟩ = some (.int .i64 n0) := (rowc Ea0.out).1 1
         have za02 : w3.cell? ⟨w.heap.size, 2, none⟩ = some (.string s0) := (rowc Ea0.out).1 2
         have za03 : w3.cell? ⟨w.heap.size, 3, none⟩ = some (.int .i64 x0) := (rowc Ea0.out).1 3
         have za04 : w3.cell? ⟨w.heap.size, 4, none⟩ = some (.slice A0 L0 c0) := (rowc Ea0.out).1 4
         have za30 : w3.cell? ⟨w.heap.size + 1, 0, none⟩ = some (.int .i64 k3) := (rowc Ea3.out).1 0
         have za31 : w3.cell? ⟨w.heap.size + 1, 1, none⟩ = some (.int .i64 n3) := (rowc Ea3.out).1 1
         have za32 : w3.cell? ⟨w.heap.size + 1, 2, none⟩ = some (.string s3) := (rowc Ea3.out).1 2
         have za33 : w3.cell? ⟨w.heap.size + 1, 3, none⟩ = some (.int .i64 x3) := (rowc Ea3.out).1 3
         have za34 : w3.cell? ⟨w.heap.size + 1, 4, none⟩ = some (.slice A3 L3 c3) := (rowc Ea3.out).1 4
         have nza0w3 : w3.heap.size ≠ w.heap.size := by have := (Array.getElem?_eq_some_iff.1 Ea0.out).1; omega
         have nza3w3 : w3.heap.size ≠ w.heap.size + 1 := by have := (Array.getElem?_eq_some_iff.1 Ea3.out).1; omega
         clear hb hbx)
      | (have tok := HV0
         clear tok
         go_at_call 39; refine (HTK.out _ (HK1.out.below (by first | with_reducible exact HB.out | with_reducible exact HB.out.trans ((Below.refl _ _).drew) | with_reducible exact HB.out.alloc HB.out.size _ | with_reducible exact (HB.out.trans ((Below.refl _ _).drew)).alloc HB.out.size _ | with_reducible exact (HB.out.alloc HB.out.size _).trans ((Below.refl _ _).drew)))).mono ?_
         rintro e w4 ⟨gk, rfl, hkr, hgk, hb⟩
         have hbx : Below w3.heap.size w3 w4 := by first | exact hb | exact bs ((Below.refl _ _).drew) hb | exact bs (b1 _ _) hb | exact bs (bs ((Below.refl _ _).drew) (b1 _ _)) hb | exact bs (bs (b1 _ _) ((Below.refl _ _).drew)) hb
         first | (have ez := Lib.hid (carry hb (heap_alloc_new w3 (.cells #[.int .i64 0, .int .i64 0, .string ⟨#[]⟩, .int .i64 0, .slice none 0 0] IV)))) | (have ez := Lib.hid (carry hb (heap_alloc_new w3.drew (.cells #[.int .i64 0, .int .i64 0, .string ⟨#[]⟩, .int .i64 0, .slice none 0 0] IV)))) | (replace ez := Lib.hid (carry hbx ez.out)) | skip
         obtain ⟨Ak, ck, ek, -, hki⟩ := KRow.kin hkr HOK.out
         obtain ⟨rfl, -⟩ : some ⟨gk, 0, none⟩ = Ak ∧ LY = ck := by rw [HLY.out] at ek; simpa using ek
         have HKI := Lib.hid hki
         clear ek hki hkr hgk
         try clear za00 za01 za02 za03 za04
         try clear za30 za31 za32 za33 za34
         replace Ea0 := Lib.hid (carry hbx Ea0.out)
         replace Ea3 := Lib.hid (carry hbx Ea3.out)
         replace HV0 := Lib.hid (HV0.out.below' hbx)
         replace HB := Lib.hid (bs HB.out hbx)
         replace HW := Lib.hid (bs HW.out hbx)
         have hzw4 : w2.heap.size ≤ w4.heap.size := HW.out.size
         have za00 : w4.cell? ⟨w.heap.size, 0, none⟩ = some (.int .i64 k0) := (rowc Ea0.out).1 0
         have za01 : w4.cell? ⟨w.heap.size, 1, none⟩ = some (.int .i64 n0) := (rowc Ea0.out).1 1
         have za02 : w4.cell? ⟨w.heap.size, 2, none⟩ = some (.string s0) := (rowc Ea0.out).1 2
         have za03 : w4.cell? ⟨w.heap.size, 3, none⟩ = some (.int .i64 x0) := (rowc Ea0.out).1 3
         have za04 : w4.cell? ⟨w.heap.size, 4, none⟩ = some (.slice A0 L0 c0) := (rowc Ea0.out).1 4
         have za30 : w4.cell? ⟨w.heap.size + 1, 0, none⟩ = some (.int .i64 k3) := (rowc Ea3.out).1 0
         have za31 : w4.cell? ⟨w.heap.size + 1, 1, none⟩ = some (.int .i64 n3) := (rowc Ea3.out).1 1
         have za32 : w4.cell? ⟨w.heap.size + 1, 2, none⟩ = some (.string s3) := (rowc Ea3.out).1 2
         have za33 : w4.cell? ⟨w.heap.size + 1, 3, none⟩ = some (.int .i64 x3) := (rowc Ea3.out).1 3
         have za34 : w4.cell? ⟨w.heap.size + 1, 4, none⟩ = some (.slice A3 L3 c3) := (rowc Ea3.out).1 4
         have nza0w4 : w4.heap.size ≠ w.heap.size := by have := (Array.getElem?_eq_some_iff.1 Ea0.out).1; omega
         have nza3w4 : w4.heap.size ≠ w.heap.size + 1 := by have := (Array.getElem?_eq_some_iff.1 Ea3.out).1; omega
         clear hb hbx)
      | (have tok := HKI
         clear tok
         fail_if_success (have tok := HV3)
         go_at_call 31; refine (cps T3 hT3.out _ _ _ (HR3.out.below' (by first | with_reducible exact HB.out | with_reducible exact HB.out.trans ((Below.refl _ _).drew) | with_reducible exact HB.out.alloc HB.out.size _ | with_reducible exact (HB.out.trans ((Below.refl _ _).drew)).alloc HB.out.size _ | with_reducible exact (HB.out.alloc HB.out.size _).trans ((Below.refl _ _).drew)))).mono ?_
         rintro e w5 ⟨v, rfl, hv, hb⟩
         have hbx : Below w4.heap.size w4 w5 := by first | exact hb | exact bs ((Below.refl _ _).drew) hb | exact bs (b1 _ _) hb | exact bs (bs ((Below.refl _ _).drew) (b1 _ _)) hb | exact bs (bs (b1 _ _) ((Below.refl _ _).drew)) hb
         first | (have ez := Lib.hid (carry hb (heap_alloc_new w4 (.cells #[.int .i64 0, .int .i64 0, .string ⟨#[]⟩, .int .i64 0, .slice none 0 0] IV)))) | (have ez := Lib.hid (carry hb (heap_alloc_new w4.drew (.cells #[.int .i64 0, .int .i64 0, .string ⟨#[]⟩, .int .i64 0, .slice none 0 0] IV)))) | (replace ez := Lib.hid (carry hbx ez.out)) | skip
         obtain ⟨AqHV3, cqHV3, rfl, -, -⟩ := TIn.out (HT3.out ▸ hv)
         have HV3 := Lib.hid (show TIn w5 _ T3 (vV k3 n3 s3 x3 AqHV3 L3 cqHV3) by rw [HL3.out, HT3.out]; exact (HT3.out ▸ hv))
         rw [← HL3.out]
         clear hv
         try clear za00 za01 za02 za03 za04
         try clear za30 za31 za32 za33 za34
         replace Ea0 := Lib.hid (carry hbx Ea0.out)
         replace Ea3 := Lib.hid (carry hbx Ea3.out)
         replace HV0 := Lib.hid (HV0.out.below' hbx)
         replace HKI := Lib.hid (HKI.out.below hbx)
         replace HB := Lib.hid (bs HB.out hbx)
         replace HW := Lib.hid (bs HW.out hbx)
         have hzw5 : w2.heap.size ≤ w5.heap.size := HW.out.size
         have za00 : w5.cell? ⟨w.heap.size, 0, none⟩ = some (.int .i64 k0) := (rowc Ea0.out).1 0
         have za01 : w5.cell? ⟨w.heap.size, 1, none⟩ = some (.int .i64 n0) := (rowc Ea0.out).1 1
         have za02 : w5.cell? ⟨w.heap.size, 2, none⟩ = some (.string s0) := (rowc Ea0.out).1 2
         have za03 : w5.cell? ⟨w.heap.size, 3, none⟩ = some (.int .i64 x0) := (rowc Ea0.out).1 3
         have za04 : w5.cell? ⟨w.heap.size, 4, none⟩ = some (.slice A0 L0 c0) := (rowc Ea0.out).1 4
         have za30 : w5.cell? ⟨w.heap.size + 1, 0, none⟩ = some (.int .i64 k3) := (rowc Ea3.out).1 0
         have za31 : w5.cell? ⟨w.heap.size + 1, 1, none⟩ = some (.int .i64 n3) := (rowc Ea3.out).1 1
         have za32 : w5.cell? ⟨w.heap.size + 1, 2, none⟩ = some (.string s3) := (rowc Ea3.out).1 2
         have za33 : w5.cell? ⟨w.heap.size + 1, 3, none⟩ = some (.int .i64 x3) := (rowc Ea3.out).1 3
         have za34 : w5.cell? ⟨w.heap.size + 1, 4, none⟩ = some (.slice A3 L3 c3) := (rowc Ea3.out).1 4
         have nza0w5 : w5.heap.size ≠ w.heap.size := by have := (Array.getElem?_eq_some_iff.1 Ea0.out).1; omega
         have nza3w5 : w5.heap.size ≠ w.heap.size + 1 := by have := (Array.getElem?_eq_some_iff.1 Ea3.out).1; omega
         clear hb hbx)
      | (go_at_call 38; refine (HCS.out _ _ _ _ _ _ _ (by first | with_reducible exact HV0.out | with_reducible exact HV0.out.below' (b1 _ _) | with_reducible exact HV0.out.below' ((Below.refl _ _).drew) | with_reducible exact HV0.out.below' (bs ((Below.refl _ _).drew) (b1 _ _)) | with_reducible exact HV0.out.below' (bs (b1 _ _) ((Below.refl _ _).drew))) (by first | with_reducible exact HKI.out | with_reducible exact HKI.out.below (b1 _ _) | with_reducible exact HKI.out.below ((Below.refl _ _).drew) | with_reducible exact HKI.out.below (bs ((Below.refl _ _).drew) (b1 _ _)) | with_reducible exact HKI.out.below (bs (b1 _ _) ((Below.refl _ _).drew))) ⟨Nat.le_refl _, by unfold maxLen; omega⟩ (by first | with_reducible exact HV3.out | with_reducible exact HV3.out.below' (b1 _ _) | with_reducible exact HV3.out.below' ((Below.refl _ _).drew) | with_reducible exact HV3.out.below' (bs ((Below.refl _ _).drew) (b1 _ _)) | with_reducible exact HV3.out.below' (bs (b1 _ _) ((Below.refl _ _).drew))) (HE.out.stays (by first | with_reducible exact HB.out | with_reducible exact HB.out.trans ((Below.refl _ _).drew) | with_reducible exact HB.out.alloc HB.out.size _ | with_reducible exact (HB.out.trans ((Below.refl _ _).drew)).alloc HB.out.size _ | with_reducible exact (HB.out.alloc HB.out.size _).trans ((Below.refl _ _).drew)))).mono ?_
         rintro e w6 ⟨u, rfl, hv, hb⟩
         have hbx : Below w5.heap.size w5 w6 := by first | exact hb | exact bs ((Below.refl _ _).drew) hb | exact bs (b1 _ _) hb | exact bs (bs ((Below.refl _ _).drew) (b1 _ _)) hb | exact bs (bs (b1 _ _) ((Below.refl _ _).drew)) hb
         first | (have nzw := Lib.hid (Array.getElem?_eq_some_iff.1 ez.out).1; replace ez := Lib.hid (carry hbx ez.out)) | (have ez := Lib.hid (carry hb (heap_alloc_new w5 (.cells #[.int .i64 0, .int .i64 0, .string ⟨#[]⟩, .int .i64 0, .slice none 0 0] IV))); have nzw := Lib.hid (Array.getElem?_eq_some_iff.1 (heap_alloc_new w5 (.cells #[.int .i64 0, .int .i64 0, .string ⟨#[]⟩, .int .i64 0, .slice none 0 0] IV))).1) | (have ez := Lib.hid (carry hb (heap_alloc_new w5.drew (.cells #[.int .i64 0, .int .i64 0, .string ⟨#[]⟩, .int .i64 0, .slice none 0 0] IV)))) | skip
         obtain ⟨Am, cm, rfl, -, -⟩ := TIn.out (HRT.out ▸ hv)
         have HMM := Lib.hid (show TIn w6 _ RT (vV K N Z X Am RL cm) by rw [HRL.out, HRT.out]; exact (HRT.out ▸ hv))
         rw [← HRL.out]
         clear hv
         try clear za00 za01 za02 za03 za04
         try clear za30 za31 za32 za33 za34
         replace Ea0 := Lib.hid (carry hbx Ea0.out)
         replace Ea3 := Lib.hid (carry hbx Ea3.out)
         replace HV0 := Lib.hid (HV0.out.below' hbx)
         replace HKI := Lib.hid (HKI.out.below hbx)
         replace HV3 := Lib.hid (HV3.out.below' hbx)
         replace HB := Lib.hid (bs HB.out hbx)
         replace HW := Lib.hid (bs HW.out hbx)
         have hzw6 : w2.heap.size ≤ w6.heap.size := HW.out.size
         have za00 : w6.cell? ⟨w.heap.size, 0, none⟩ = some (.int .i64 k0) := (rowc Ea0.out).1 0
         have za01 : w6.cell? ⟨w.heap.size, 1, none⟩ = some (.int .i64 n0) := (rowc Ea0.out).1 1
         have za02 : w6.cell? ⟨w.heap.size, 2, none⟩ = some (.string s0) := (rowc Ea0.out).1 2
         have za03 : w6.cell? ⟨w.heap.size, 3, none⟩ = some (.int .i64 x0) := (rowc Ea0.out).1 3
         have za04 : w6.cell? ⟨w.heap.size, 4, none⟩ = some (.slice A0 L0 c0) := (rowc Ea0.out).1 4
         have za30 : w6.cell? ⟨w.heap.size + 1, 0, none⟩ = some (.int .i64 k3) := (rowc Ea3.out).1 0
         have za31 : w6.cell? ⟨w.heap.size + 1, 1, none⟩ = some (.int .i64 n3) := (rowc Ea3.out).1 1
         have za32 : w6.cell? ⟨w.heap.size + 1, 2, none⟩ = some (.string s3) := (rowc Ea3.out).1 2
         have za33 : w6.cell? ⟨w.heap.size + 1, 3, none⟩ = some (.int .i64 x3) := (rowc Ea3.out).1 3
         have za34 : w6.cell? ⟨w.heap.size + 1, 4, none⟩ = some (.slice A3 L3 c3) := (rowc Ea3.out).1 4
         have nza0w6 : w6.heap.size ≠ w.heap.size := by have := (Array.getElem?_eq_some_iff.1 Ea0.out).1; omega
         have nza3w6 : w6.heap.size ≠ w.heap.size + 1 := by have := (Array.getElem?_eq_some_iff.1 Ea3.out).1; omega
         clear hb hbx
         first | (have zr := (rowc ez.out).1; have zf := (rowc ez.out).2) | skip))
    all_goals
      go_wp2_with (fail)
      go_meet
      first
      | with_reducible exact cutMC_box HW.out HMM.out
      | exact cutMC_early HW.out (by first | exact Nat.le_refl _ | assumption) ez.out HMM.out (fun q hq e => by subst e; exact absurd nzw.out (Nat.not_lt.2 hq)) rfl
  obtain ⟨Nm, Am, cm, hp, hf, hbx, hNm, en, hv⟩ := hcut
  subst hp hf
  obtain ⟨w7, hwc⟩ : ∃ q, q = wc := ⟨wc, rfl⟩
  subst hwc
  try clear za00 za01 za02 za03 za04
  try clear za30 za31 za32 za33 za34
  replace Ea0 := Lib.hid (carry hbx Ea0.out)
  replace Ea3 := Lib.hid (carry hbx Ea3.out)
  replace HB := Lib.hid (bs HB.out hbx)
  have Em := Lib.hid en
  clear en
  have HM := Lib.hid hv.lt'
  obtain ⟨lo, HLO⟩ : ∃ q, Hid (w7.heap.size = q) := ⟨_, Lib.hid rfl⟩
  rw [HLO.out] at HM
  have HPa : Hid (w.heap.size + 1 < lo) := Lib.hid (by rw [← HLO.out]; exact (Array.getElem?_eq_some_iff.1 Ea3.out).1)
  have HPm : Hid (Nm < lo) := Lib.hid (by rw [← HLO.out]; exact (Array.getElem?_eq_some_iff.1 Em.out).1)
  clear hv hbx hNm
  have za00 : w7.cell? ⟨w.heap.size, 0, none⟩ = some (.int .i64 k0) := (rowc Ea0.out).1 0
  have za01 : w7.cell? ⟨w.heap.size, 1, none⟩ = some (.int .i64 n0) := (rowc Ea0.out).1 1
  have za02 : w7.cell? ⟨w.heap.size, 2, none⟩ = some (.string s0) := (rowc Ea0.out).1 2
  have za03 : w7.cell? ⟨w.heap.size, 3, none⟩ = some (.int .i64 x0) := (rowc Ea0.out).1 3
  have za04 : w7.cell? ⟨w.heap.size, 4, none⟩ = some (.slice A0 L0 c0) := (rowc Ea0.out).1 4
  go_wp2_with (fail)
  refine (cps T0 hT0.out _ _ _ (HR0.out.below' HB.out)).mono ?_
  rintro e w8 ⟨v, rfl, hv, hb⟩
  obtain ⟨Ax0, cx0, rfl, -, -⟩ := TIn.out (HT0.out ▸ hv)
  have hx := (show TIn w8 (Nw w7.heap.size w8) T0 (vV k0 n0 s0 x0 Ax0 L0 cx0) by rw [HL0.out, HT0.out]; exact (HT0.out ▸ hv))
  rw [← HL0.out]
  replace Ea0 := Lib.hid (carry hb Ea0.out)
  replace Ea3 := Lib.hid (carry hb Ea3.out)
  replace Em := Lib.hid (carry hb Em.out)
  replace HM := Lib.hid (HM.out.below' hb)
  replace HB := Lib.hid (bs HB.out hb)
  have hsz := hb.size
  clear hv hb
  clear za00 za01 za02 za03 za04
  have HX0 := Lib.hid hx.rgp
  rw [HLO.out] at HX0 hsz
  clear hx
  go_upto_region 13 with fail
  obtain ⟨Nb0, HNb0⟩ : ∃ N, Hid (w8.heap.size = N) := ⟨_, Lib.hid rfl⟩
  generalize hwn : w8.alloc (.cells #[.int .i64 k0, .int .i64 n0, .string s0, .int .i64 x0, .slice Ax0 L0 cx0] IV) = w9
  have hbx : Below w8.heap.size w8 w9 := hwn ▸ b1 _ _
  have Eb0 : Hid (w9.heap[Nb0]? = some (.cells #[.int .i64 k0, .int .i64 n0, .string s0, .int .i64 x0, .slice Ax0 L0 cx0] IV (0, 0))) := Lib.hid (by rw [← hwn, ← HNb0.out]; exact heap_alloc_new _ _)
  rw [HNb0.out]
  replace Ea0 := Lib.hid (carry hbx Ea0.out)
  replace Ea3 := Lib.hid (carry hbx Ea3.out)
  replace Em := Lib.hid (carry hbx Em.out)
  replace HM := Lib.hid (HM.out.below' hbx)
  replace HX0 := Lib.hid (HX0.out.rgb hbx)
  replace HB := Lib.hid (bs HB.out hbx)
  rw [HNb0.out] at HX0 hsz
  have HPx : Hid (lo ≤ Nb0) := Lib.hid hsz
  have HPb : Hid (Nb0 < w9.heap.size) := Lib.hid (Array.getElem?_eq_some_iff.1 Eb0.out).1
  clear hwn hbx hsz
  go_wp2_with (fail)
  refine (HTK.out _ (HK1.out.below HB.out)).mono ?_
  rintro e w10 ⟨gy, rfl, hkr, hgy, hb⟩
  replace Ea0 := Lib.hid (carry hb Ea0.out)
  replace Ea3 := Lib.hid (carry hb Ea3.out)
  replace Em := Lib.hid (carry hb Em.out)
  replace Eb0 := Lib.hid (carry hb Eb0.out)
  replace HM := Lib.hid (HM.out.below' hb)
  replace HX0 := Lib.hid (HX0.out.rgb hb)
  replace HB := Lib.hid (bs HB.out hb)
  clear hb
  have HKR := Lib.hid hkr
  have HPy : Hid (Nb0 < gy) := Lib.hid (Nat.lt_of_lt_of_le HPb.out hgy)
  clear hkr hgy HPb
  obtain ⟨lo3, HLO3⟩ : ∃ q, Hid (w10.heap.size = q) := ⟨_, Lib.hid rfl⟩
  have HPk : Hid (gy < lo3) := Lib.hid (by rw [← HLO3.out]; exact (HKR.out.own gy rfl).2)
  have za30 : w10.cell? ⟨w.heap.size + 1, 0, none⟩ = some (.int .i64 k3) := (rowc Ea3.out).1 0
  have za31 : w10.cell? ⟨w.heap.size + 1, 1, none⟩ = some (.int .i64 n3) := (rowc Ea3.out).1 1
  have za32 : w10.cell? ⟨w.heap.size + 1, 2, none⟩ = some (.string s3) := (rowc Ea3.out).1 2
  have za33 : w10.cell? ⟨w.heap.size + 1, 3, none⟩ = some (.int .i64 x3) := (rowc Ea3.out).1 3
  have za34 : w10.cell? ⟨w.heap.size + 1, 4, none⟩ = some (.slice A3 L3 c3) := (rowc Ea3.out).1 4
  go_wp2_with (fail)
  refine (cps T3 hT3.out _ _ _ (HR3.out.below' HB.out)).mono ?_
  rintro e w11 ⟨v, rfl, hv, hb⟩
  obtain ⟨Ax3, cx3, rfl, -, -⟩ := TIn.out (HT3.out ▸ hv)
  have hx := (show TIn w11 (Nw w10.heap.size w11) T3 (vV k3 n3 s3 x3 Ax3 L3 cx3) by rw [HL3.out, HT3.out]; exact (HT3.out ▸ hv))
  rw [← HL3.out]
  replace Ea0 := Lib.hid (carry hb Ea0.out)
  replace Ea3 := Lib.hid (carry hb Ea3.out)
  replace Em := Lib.hid (carry hb Em.out)
  replace Eb0 := Lib.hid (carry hb Eb0.out)
  replace HM := Lib.hid (HM.out.below' hb)
  replace HX0 := Lib.hid (HX0.out.rgb hb)
  replace HKR := Lib.hid (HKR.out.below hb)
  replace HB := Lib.hid (bs HB.out hb)
  have hsz := hb.size
  clear hv hb
  clear za30 za31 za32 za33 za34
  have HX3 := Lib.hid hx.rgp
  rw [HLO3.out] at HX3 hsz
  clear hx
  go_upto_region 15 with fail
  obtain ⟨Nb3, HNb3⟩ : ∃ N, Hid (w11.heap.size = N) := ⟨_, Lib.hid rfl⟩
  generalize hwn : w11.alloc (.cells #[.int .i64 k3, .int .i64 n3, .string s3, .int .i64 x3, .slice Ax3 L3 cx3] IV) = w12
  have hbx : Below w11.heap.size w11 w12 := hwn ▸ b1 _ _
  have Eb3 : Hid (w12.heap[Nb3]? = some (.cells #[.int .i64 k3, .int .i64 n3, .string s3, .int .i64 x3, .slice Ax3 L3 cx3] IV (0, 0))) := Lib.hid (by rw [← hwn, ← HNb3.out]; exact heap_alloc_new _ _)
  rw [HNb3.out]
  replace Ea0 := Lib.hid (carry hbx Ea0.out)
  replace Ea3 := Lib.hid (carry hbx Ea3.out)
  replace Em := Lib.hid (carry hbx Em.out)
  replace Eb0 := Lib.hid (carry hbx Eb0.out)
  replace HM := Lib.hid (HM.out.below' hbx)
  replace HX0 := Lib.hid (HX0.out.rgb hbx)
  replace HKR := Lib.hid (HKR.out.below hbx)
  replace HX3 := Lib.hid (HX3.out.rgb hbx)
  replace HB := Lib.hid (bs HB.out hbx)
  rw [HNb3.out] at HX3 hsz
  have HPz : Hid (lo3 ≤ Nb3) := Lib.hid hsz
  clear hwn hbx hsz
  obtain ⟨W1, HW1⟩ : ∃ q, Hid (w12.heap.size = q) := ⟨_, Lib.hid rfl⟩
  have HPw : Hid (Nb3 < W1) := Lib.hid (by rw [← HW1.out]; exact (Array.getElem?_eq_some_iff.1 Eb3.out).1)
  obtain ⟨Ak, ck, ek, -, hki⟩ := KRow.kin HKR.out HOK.out
  obtain ⟨rfl, -⟩ : some ⟨gy, 0, none⟩ = Ak ∧ LY = ck := by rw [HLY.out] at ek; simpa using ek
  clear ek
  have zb00 : w12.cell? ⟨Nb0, 0, none⟩ = some (.int .i64 k0) := (rowc Eb0.out).1 0
  have zb01 : w12.cell? ⟨Nb0, 1, none⟩ = some (.int .i64 n0) := (rowc Eb0.out).1 1
  have zb02 : w12.cell? ⟨Nb0, 2, none⟩ = some (.string s0) := (rowc Eb0.out).1 2
  have zb03 : w12.cell? ⟨Nb0, 3, none⟩ = some (.int .i64 x0) := (rowc Eb0.out).1 3
  have zb04 : w12.cell? ⟨Nb0, 4, none⟩ = some (.slice Ax0 L0 cx0) := (rowc Eb0.out).1 4
  have zb30 : w12.cell? ⟨Nb3, 0, none⟩ = some (.int .i64 k3) := (rowc Eb3.out).1 0
  have zb31 : w12.cell? ⟨Nb3, 1, none⟩ = some (.int .i64 n3) := (rowc Eb3.out).1 1
  have zb32 : w12.cell? ⟨Nb3, 2, none⟩ = some (.string s3) := (rowc Eb3.out).1 2
  have zb33 : w12.cell? ⟨Nb3, 3, none⟩ = some (.int .i64 x3) := (rowc Eb3.out).1 3
  have zb34 : w12.cell? ⟨Nb3, 4, none⟩ = some (.slice Ax3 L3 cx3) := (rowc Eb3.out).1 4
  go_wp2_with (fail)
  refine (HCI.out _ _ _ _ _ HX0.out.rgn hki ⟨Nat.le_refl _, by unfold maxLen; omega⟩ HX3.out.rgn (HE.out.stays HB.out)).mono ?_
  rintro e w13 ⟨u, par, r, rfl, hv, hr, hb⟩
  obtain ⟨Ag, cg, rfl, -⟩ := TPar.out (HRT.out ▸ hv)
  have HGG := Lib.hid (show TPar w13 par (r, 0) RT (vV K N Z X Ag RL cg) by rw [HRL.out, HRT.out]; exact (HRT.out ▸ hv))
  rw [← HRL.out]
  replace Ea0 := Lib.hid (carry hb Ea0.out)
  replace Ea3 := Lib.hid (carry hb Ea3.out)
  replace Em := Lib.hid (carry hb Em.out)
  replace Eb0 := Lib.hid (carry hb Eb0.out)
  replace Eb3 := Lib.hid (carry hb Eb3.out)
  replace HM := Lib.hid (HM.out.below' hb)
  replace HX0 := Lib.hid (HX0.out.rgb hb)
  replace HKR := Lib.hid (HKR.out.below hb)
  replace HX3 := Lib.hid (HX3.out.rgb hb)
  replace HB := Lib.hid (bs HB.out hb)
  rw [HW1.out] at hr
  have HRQ := Lib.hid hr
  have hsz := hb.size
  rw [HW1.out] at hsz
  clear hb hv hr hki
  clear zb00 zb01 zb02 zb03 zb04 zb30 zb31 zb32 zb33 zb34
  obtain ⟨pg, hp2, htg⟩ := HGG.out.tight
  go_upto_region 16 with fail
  obtain ⟨Ng, HNg⟩ : ∃ N, Hid (w13.heap.size = N) := ⟨_, Lib.hid rfl⟩
  generalize hwn : w13.alloc (.cells #[.int .i64 K, .int .i64 N, .string Z, .int .i64 X, .slice Ag RL cg] IV) = w14
  have hbx : Below w13.heap.size w13 w14 := hwn ▸ b1 _ _
  have Eg : Hid (w14.heap[Ng]? = some (.cells #[.int .i64 K, .int .i64 N, .string Z, .int .i64 X, .slice Ag RL cg] IV (0, 0))) := Lib.hid (by rw [← hwn, ← HNg.out]; exact heap_alloc_new _ _)
  rw [HNg.out]
  replace Ea0 := Lib.hid (carry hbx Ea0.out)
  replace Ea3 := Lib.hid (carry hbx Ea3.out)
  replace Em := Lib.hid (carry hbx Em.out)
  replace Eb0 := Lib.hid (carry hbx Eb0.out)
  replace Eb3 := Lib.hid (carry hbx Eb3.out)
  replace HM := Lib.hid (HM.out.below' hbx)
  replace HX0 := Lib.hid (HX0.out.rgb hbx)
  replace HKR := Lib.hid (HKR.out.below hbx)
  replace HX3 := Lib.hid (HX3.out.rgb hbx)
  replace HB := Lib.hid (bs HB.out hbx)
  rw [HNg.out] at htg hsz
  have HG := Lib.hid (hp2.above fun b _ hl => hbx.block b hl)
  have HTG := Lib.hid htg
  have HSZ := Lib.hid hsz
  clear hwn hbx hp2 htg hsz HGG
  have zg0 : w14.cell? ⟨Ng, 0, none⟩ = some (.int .i64 K) := (rowc Eg.out).1 0
  have zg1 : w14.cell? ⟨Ng, 1, none⟩ = some (.int .i64 N) := (rowc Eg.out).1 1
  have zg2 : w14.cell? ⟨Ng, 2, none⟩ = some (.string Z) := (rowc Eg.out).1 2
  have zg3 : w14.cell? ⟨Ng, 3, none⟩ = some (.int .i64 X) := (rowc Eg.out).1 3
  have zg4 : w14.cell? ⟨Ng, 4, none⟩ = some (.slice Ag RL cg) := (rowc Eg.out).1 4
  have zm0 : w14.cell? ⟨Nm, 0, none⟩ = some (.int .i64 K) := (rowc Em.out).1 0
  have zm1 : w14.cell? ⟨Nm, 1, none⟩ = some (.int .i64 N) := (rowc Em.out).1 1
  have zm2 : w14.cell? ⟨Nm, 2, none⟩ = some (.string Z) := (rowc Em.out).1 2
  have zm3 : w14.cell? ⟨Nm, 3, none⟩ = some (.int .i64 X) := (rowc Em.out).1 3
  have zm4 : w14.cell? ⟨Nm, 4, none⟩ = some (.slice Am RL cm) := (rowc Em.out).1 4
  go_wp2_with (fail)
  refine (eqV RT _ _ _ _ _ HG.out.tin HM.out).mono ?_
  rintro e w15 ⟨rfl, hb⟩
  replace Ea0 := Lib.hid (carry hb Ea0.out)
  replace Ea3 := Lib.hid (carry hb Ea3.out)
  replace Em := Lib.hid (carry hb Em.out)
  replace Eb0 := Lib.hid (carry hb Eb0.out)
  replace Eb3 := Lib.hid (carry hb Eb3.out)
  replace Eg := Lib.hid (carry hb Eg.out)
  replace HM := Lib.hid (HM.out.below' hb)
  replace HX0 := Lib.hid (HX0.out.rgb hb)
  replace HKR := Lib.hid (HKR.out.below hb)
  replace HX3 := Lib.hid (HX3.out.rgb hb)
  replace HG := Lib.hid (HG.out.above fun q _ hl => Below.block hb q hl)
  replace HB := Lib.hid (bs HB.out hb)
  clear hb
  clear zg0 zg1 zg2 zg3 zg4 zm0 zm1 zm2 zm3 zm4
  have zb00 : w15.cell? ⟨Nb0, 0, none⟩ = some (.int .i64 k0) := (rowc Eb0.out).1 0
  have zb01 : w15.cell? ⟨Nb0, 1, none⟩ = some (.int .i64 n0) := (rowc Eb0.out).1 1
  have zb02 : w15.cell? ⟨Nb0, 2, none⟩ = some (.string s0) := (rowc Eb0.out).1 2
  have zb03 : w15.cell? ⟨Nb0, 3, none⟩ = some (.int .i64 x0) := (rowc Eb0.out).1 3
  have zb04 : w15.cell? ⟨Nb0, 4, none⟩ = some (.slice Ax0 L0 cx0) := (rowc Eb0.out).1 4
  have za00 : w15.cell? ⟨w.heap.size, 0, none⟩ = some (.int .i64 k0) := (rowc Ea0.out).1 0
  have za01 : w15.cell? ⟨w.heap.size, 1, none⟩ = some (.int .i64 n0) := (rowc Ea0.out).1 1
  have za02 : w15.cell? ⟨w.heap.size, 2, none⟩ = some (.string s0) := (rowc Ea0.out).1 2
  have za03 : w15.cell? ⟨w.heap.size, 3, none⟩ = some (.int .i64 x0) := (rowc Ea0.out).1 3
  have za04 : w15.cell? ⟨w.heap.size, 4, none⟩ = some (.slice A0 L0 c0) := (rowc Ea0.out).1 4
  go_wp2_with (fail)
  go_region_held3 (fun w' => w'.cell? ⟨Nb0, 0, none⟩ = some (.int .i64 k0) ∧ w'.cell? ⟨Nb0, 1, none⟩ = some (.int .i64 n0) ∧ w'.cell? ⟨Nb0, 2, none⟩ = some (.string s0) ∧ w'.cell? ⟨Nb0, 3, none⟩ = some (.int .i64 x0) ∧ w'.cell? ⟨Nb0, 4, none⟩ = some (.slice Ax0 L0 cx0) ∧ w'.cell? ⟨w.heap.size, 0, none⟩ = some (.int .i64 k0) ∧ w'.cell? ⟨w.heap.size, 1, none⟩ = some (.int .i64 n0) ∧ w'.cell? ⟨w.heap.size, 2, none⟩ = some (.string s0) ∧ w'.cell? ⟨w.heap.size, 3, none⟩ = some (.int .i64 x0) ∧ w'.cell? ⟨w.heap.size, 4, none⟩ = some (.slice A0 L0 c0)) (first | with_reducible exact ⟨zb00, zb01, zb02, zb03, zb04, za00, za01, za02, za03, za04⟩ | with_reducible exact ⟨drc (alc zb00), drc (alc zb01), drc (alc zb02), drc (alc zb03), drc (alc zb04), drc (alc za00), drc (alc za01), drc (alc za02), drc (alc za03), drc (alc za04)⟩ | with_reducible exact ⟨drc zb00, drc zb01, drc zb02, drc zb03, drc zb04, drc za00, drc za01, drc za02, drc za03, drc za04⟩ | with_reducible exact ⟨alc zb00, alc zb01, alc zb02, alc zb03, alc zb04, alc za00, alc za01, alc za02, alc za03, alc za04⟩ | with_reducible exact ⟨alc (drc zb00), alc (drc zb01), alc (drc zb02), alc (drc zb03), alc (drc zb04), alc (drc za00), alc (drc za01), alc (drc za02), alc (drc za03), alc (drc za04)⟩ | with_reducible exact ⟨st5 zb00 (by assumption), st5 zb01 (by assumption), st5 zb02 (by assumption), st5 zb03 (by assumption), st5 zb04 (by assumption), st5 za00 (by assumption), st5 za01 (by assumption), st5 za02 (by assumption), st5 za03 (by assumption), st5 za04 (by assumption)⟩ | with_reducible exact ⟨st5 (alc zb00) (by assumption), st5 (alc zb01) (by assumption), st5 (alc zb02) (by assumption), st5 (alc zb03) (by assumption), st5 (alc zb04) (by assumption), st5 (alc za00) (by assumption), st5 (alc za01) (by assumption), st5 (alc za02) (by assumption), st5 (alc za03) (by assumption), st5 (alc za04) (by assumption)⟩ | go_keep) (first
    | (go_at_call 31; refine (cps T0 hT0.out _ _ _ (HR0.out.below' (by first | exact HB.out | exact HB.out.trans ((Below.refl _ _).drew)))).mono ?_
       rintro e w16 ⟨v, rfl, hv, hb⟩
       have hbx : Below w15.heap.size w15 w16 := by first | exact hb | exact bs ((Below.refl _ _).drew) hb
       obtain ⟨Aq, cq, rfl, -, -⟩ := TIn.out (HT0.out ▸ hv)
       have HV := Lib.hid (show TIn w16 _ T0 (vV k0 n0 s0 x0 Aq L0 cq) by rw [HL0.out, HT0.out]; exact (HT0.out ▸ hv))
       rw [← HL0.out]
       clear hv
       replace Ea0 := Lib.hid (carry hbx Ea0.out)
       replace Ea3 := Lib.hid (carry hbx Ea3.out)
       replace Em := Lib.hid (carry hbx Em.out)
       replace Eb0 := Lib.hid (carry hbx Eb0.out)
       replace Eb3 := Lib.hid (carry hbx Eb3.out)
       replace Eg := Lib.hid (carry hbx Eg.out)
       replace HM := Lib.hid (HM.out.below' hbx)
       replace HX0 := Lib.hid (HX0.out.rgb hbx)
       replace HKR := Lib.hid (HKR.out.below hbx)
       replace HX3 := Lib.hid (HX3.out.rgb hbx)
       replace HG := Lib.hid (HG.out.above fun q _ hl => Below.block hbx q hl)
       replace HB := Lib.hid (bs HB.out hbx)
       have zb00 : w16.cell? ⟨Nb0, 0, none⟩ = some (.int .i64 k0) := (rowc Eb0.out).1 0
       have zb01 : w16.cell? ⟨Nb0, 1, none⟩ = some (.int .i64 n0) := (rowc Eb0.out).1 1
       have zb02 : w16.cell? ⟨Nb0, 2, none⟩ = some (.string s0) := (rowc Eb0.out).1 2
       have zb03 : w16.cell? ⟨Nb0, 3, none⟩ = some (.int .i64 x0) := (rowc Eb0.out).1 3
       have zb04 : w16.cell? ⟨Nb0, 4, none⟩ = some (.slice Ax0 L0 cx0) := (rowc Eb0.out).1 4
       have za00 : w16.cell? ⟨w.heap.size, 0, none⟩ = some (.int .i64 k0) := (rowc Ea0.out).1 0
       have za01 : w16.cell? ⟨w.heap.size, 1, none⟩ = some (.int .i64 n0) := (rowc Ea0.out).1 1
       have za02 : w16.cell? ⟨w.heap.size, 2, none⟩ = some (.string s0) := (rowc Ea0.out).1 2
       have za03 : w16.cell? ⟨w.heap.size, 3, none⟩ = some (.int .i64 x0) := (rowc Ea0.out).1 3
       have za04 : w16.cell? ⟨w.heap.size, 4, none⟩ = some (.slice A0 L0 c0) := (rowc Ea0.out).1 4
       clear hb hbx)
    | (go_at_call 33; refine (eqV T0 _ _ _ _ _ (by first | with_reducible exact HX0.out | exact HX0.out.below' ((Below.refl _ _).drew)) (by first | with_reducible exact HV.out | exact HV.out.below' ((Below.refl _ _).drew))).mono ?_
       rintro e w17 ⟨rfl, hb⟩
       have hbx : Below w16.heap.size w16 w17 := by first | exact hb | exact bs ((Below.refl _ _).drew) hb
       skip
       replace Ea0 := Lib.hid (carry hbx Ea0.out)
       replace Ea3 := Lib.hid (carry hbx Ea3.out)
       replace Em := Lib.hid (carry hbx Em.out)
       replace Eb0 := Lib.hid (carry hbx Eb0.out)
       replace Eb3 := Lib.hid (carry hbx Eb3.out)
       replace Eg := Lib.hid (carry hbx Eg.out)
       replace HM := Lib.hid (HM.out.below' hbx)
       replace HX0 := Lib.hid (HX0.out.rgb hbx)
       replace HKR := Lib.hid (HKR.out.below hbx)
       replace HX3 := Lib.hid (HX3.out.rgb hbx)
       replace HG := Lib.hid (HG.out.above fun q _ hl => Below.block hbx q hl)
       replace HV := Lib.hid (HV.out.below' hbx)
       replace HB := Lib.hid (bs HB.out hbx)
       have zb00 : w17.cell? ⟨Nb0, 0, none⟩ = some (.int .i64 k0) := (rowc Eb0.out).1 0
       have zb01 : w17.cell? ⟨Nb0, 1, none⟩ = some (.int .i64 n0) := (rowc Eb0.out).1 1
       have zb02 : w17.cell? ⟨Nb0, 2, none⟩ = some (.string s0) := (rowc Eb0.out).1 2
       have zb03 : w17.cell? ⟨Nb0, 3, none⟩ = some (.int .i64 x0) := (rowc Eb0.out).1 3
       have zb04 : w17.cell? ⟨Nb0, 4, none⟩ = some (.slice Ax0 L0 cx0) := (rowc Eb0.out).1 4
       have za00 : w17.cell? ⟨w.heap.size, 0, none⟩ = some (.int .i64 k0) := (rowc Ea0.out).1 0
       have za01 : w17.cell? ⟨w.heap.size, 1, none⟩ = some (.int .i64 n0) := (rowc Ea0.out).1 1
       have za02 : w17.cell? ⟨w.heap.size, 2, none⟩ = some (.string s0) := (rowc Ea0.out).1 2
       have za03 : w17.cell? ⟨w.heap.size, 3, none⟩ = some (.int .i64 x0) := (rowc Ea0.out).1 3
       have za04 : w17.cell? ⟨w.heap.size, 4, none⟩ = some (.slice A0 L0 c0) := (rowc Ea0.out).1 4
       clear hb hbx))
  clear HV
  clear zb00 zb01 zb02 zb03 zb04 za00 za01 za02 za03 za04
  go_wp2_with (fail)
  refine (HTK.out _ (HK1.out.below HB.out)).mono ?_
  rintro e w18 ⟨gq, rfl, hkr, hgq, hb⟩
  replace Ea0 := Lib.hid (carry hb Ea0.out)
  replace Ea3 := Lib.hid (carry hb Ea3.out)
  replace Em := Lib.hid (carry hb Em.out)
  replace Eb0 := Lib.hid (carry hb Eb0.out)
  replace Eb3 := Lib.hid (carry hb Eb3.out)
  replace Eg := Lib.hid (carry hb Eg.out)
  replace HM := Lib.hid (HM.out.below' hb)
  replace HX0 := Lib.hid (HX0.out.rgb hb)
  replace HKR := Lib.hid (HKR.out.below hb)
  replace HX3 := Lib.hid (HX3.out.rgb hb)
  replace HG := Lib.hid (HG.out.above fun q _ hl => Below.block hb q hl)
  replace HB := Lib.hid (bs HB.out hb)
  clear hb
  have HK2 := Lib.hid hkr
  clear hkr hgq
  go_wp2_with (fail)
  refine (HEK.out _ _ _ _ _ HKR.out HK2.out).mono ?_
  rintro e w19 ⟨rfl, hb⟩
  replace Ea0 := Lib.hid (carry hb Ea0.out)
  replace Ea3 := Lib.hid (carry hb Ea3.out)
  replace Em := Lib.hid (carry hb Em.out)
  replace Eb0 := Lib.hid (carry hb Eb0.out)
  replace Eb3 := Lib.hid (carry hb Eb3.out)
  replace Eg := Lib.hid (carry hb Eg.out)
  replace HM := Lib.hid (HM.out.below' hb)
  replace HX0 := Lib.hid (HX0.out.rgb hb)
  replace HKR := Lib.hid (HKR.out.below hb)
  replace HX3 := Lib.hid (HX3.out.rgb hb)
  replace HG := Lib.hid (HG.out.above fun q _ hl => Below.block hb q hl)
  replace HK2 := Lib.hid (HK2.out.below hb)
  replace HB := Lib.hid (bs HB.out hb)
  clear hb HK2
  have zb30 : w19.cell? ⟨Nb3, 0, none⟩ = some (.int .i64 k3) := (rowc Eb3.out).1 0
  have zb31 : w19.cell? ⟨Nb3, 1, none⟩ = some (.int .i64 n3) := (rowc Eb3.out).1 1
  have zb32 : w19.cell? ⟨Nb3, 2, none⟩ = some (.string s3) := (rowc Eb3.out).1 2
  have zb33 : w19.cell? ⟨Nb3, 3, none⟩ = some (.int .i64 x3) := (rowc Eb3.out).1 3
  have zb34 : w19.cell? ⟨Nb3, 4, none⟩ = some (.slice Ax3 L3 cx3) := (rowc Eb3.out).1 4
  have za30 : w19.cell? ⟨w.heap.size + 1, 0, none⟩ = some (.int .i64 k3) := (rowc Ea3.out).1 0
  have za31 : w19.cell? ⟨w.heap.size + 1, 1, none⟩ = some (.int .i64 n3) := (rowc Ea3.out).1 1
  have za32 : w19.cell? ⟨w.heap.size + 1, 2, none⟩ = some (.string s3) := (rowc Ea3.out).1 2
  have za33 : w19.cell? ⟨w.heap.size + 1, 3, none⟩ = some (.int .i64 x3) := (rowc Ea3.out).1 3
  have za34 : w19.cell? ⟨w.heap.size + 1, 4, none⟩ = some (.slice A3 L3 c3) := (rowc Ea3.out).1 4
  go_wp2_with (fail)
  go_region_held3 (fun w' => w'.cell? ⟨Nb3, 0, none⟩ = some (.int .i64 k3) ∧ w'.cell? ⟨Nb3, 1, none⟩ = some (.int .i64 n3) ∧ w'.cell? ⟨Nb3, 2, none⟩ = some (.string s3) ∧ w'.cell? ⟨Nb3, 3, none⟩ = some (.int .i64 x3) ∧ w'.cell? ⟨Nb3, 4, none⟩ = some (.slice Ax3 L3 cx3) ∧ w'.cell? ⟨w.heap.size + 1, 0, none⟩ = some (.int .i64 k3) ∧ w'.cell? ⟨w.heap.size + 1, 1, none⟩ = some (.int .i64 n3) ∧ w'.cell? ⟨w.heap.size + 1, 2, none⟩ = some (.string s3) ∧ w'.cell? ⟨w.heap.size + 1, 3, none⟩ = some (.int .i64 x3) ∧ w'.cell? ⟨w.heap.size + 1, 4, none⟩ = some (.slice A3 L3 c3)) (first | with_reducible exact ⟨zb30, zb31, zb32, zb33, zb34, za30, za31, za32, za33, za34⟩ | with_reducible exact ⟨drc (alc zb30), drc (alc zb31), drc (alc zb32), drc (alc zb33), drc (alc zb34), drc (alc za30), drc (alc za31), drc (alc za32), drc (alc za33), drc (alc za34)⟩ | with_reducible exact ⟨drc zb30, drc zb31, drc zb32, drc zb33, drc zb34, drc za30, drc za31, drc za32, drc za33, drc za34⟩ | with_reducible exact ⟨alc zb30, alc zb31, alc zb32, alc zb33, alc zb34, alc za30, alc za31, alc za32, alc za33, alc za34⟩ | with_reducible exact ⟨alc (drc zb30), alc (drc zb31), alc (drc zb32), alc (drc zb33), alc (drc zb34), alc (drc za30), alc (drc za31), alc (drc za32), alc (drc za33), alc (drc za34)⟩ | with_reducible exact ⟨st5 zb30 (by assumption), st5 zb31 (by assumption), st5 zb32 (by assumption), st5 zb33 (by assumption), st5 zb34 (by assumption), st5 za30 (by assumption), st5 za31 (by assumption), st5 za32 (by assumption), st5 za33 (by assumption), st5 za34 (by assumption)⟩ | with_reducible exact ⟨st5 (alc zb30) (by assumption), st5 (alc zb31) (by assumption), st5 (alc zb32) (by assumption), st5 (alc zb33) (by assumption), st5 (alc zb34) (by assumption), st5 (alc za30) (by assumption), st5 (alc za31) (by assumption), st5 (alc za32) (by assumption), st5 (alc za33) (by assumption), st5 (alc za34) (by assumption)⟩ | go_keep) (first
    | (go_at_call 31; refine (cps T3 hT3.out _ _ _ (HR3.out.below' (by first | exact HB.out | exact HB.out.trans ((Below.refl _ _).drew)))).mono ?_
       rintro e w20 ⟨v, rfl, hv, hb⟩
       have hbx : Below w19.heap.size w19 w20 := by first | exact hb | exact bs ((Below.refl _ _).drew) hb
       obtain ⟨Aq, cq, rfl, -, -⟩ := TIn.out (HT3.out ▸ hv)
       have HV := Lib.hid (show TIn w20 _ T3 (vV k3 n3 s3 x3 Aq L3 cq) by rw [HL3.out, HT3.out]; exact (HT3.out ▸ hv))
       rw [← HL3.out]
       clear hv
       replace Ea0 := Lib.hid (carry hbx Ea0.out)
       replace Ea3 := Lib.hid (carry hbx Ea3.out)
       replace Em := Lib.hid (carry hbx Em.out)
       replace Eb0 := Lib.hid (carry hbx Eb0.out)
       replace Eb3 := Lib.hid (carry hbx Eb3.out)
       replace Eg := Lib.hid (carry hbx Eg.out)
       replace HM := Lib.hid (HM.out.below' hbx)
       replace HX0 := Lib.hid (HX0.out.rgb hbx)
       replace HKR := Lib.hid (HKR.out.below hbx)
       replace HX3 := Lib.hid (HX3.out.rgb hbx)
       replace HG := Lib.hid (HG.out.above fun q _ hl => Below.block hbx q hl)
       replace HB := Lib.hid (bs HB.out hbx)
       have zb30 : w20.cell? ⟨Nb3, 0, none⟩ = some (.int .i64 k3) := (rowc Eb3.out).1 0
       have zb31 : w20.cell? ⟨Nb3, 1, none⟩ = some (.int .i64 n3) := (rowc Eb3.out).1 1
       have zb32 : w20.cell? ⟨Nb3, 2, none⟩ = some (.string s3) := (rowc Eb3.out).1 2
       have zb33 : w20.cell? ⟨Nb3, 3, none⟩ = some (.int .i64 x3) := (rowc Eb3.out).1 3
       have zb34 : w20.cell? ⟨Nb3, 4, none⟩ = some (.slice Ax3 L3 cx3) := (rowc Eb3.out).1 4
       have za30 : w20.cell? ⟨w.heap.size + 1, 0, none⟩ = some (.int .i64 k3) := (rowc Ea3.out).1 0
       have za31 : w20.cell? ⟨w.heap.size + 1, 1, none⟩ = some (.int .i64 n3) := (rowc Ea3.out).1 1
       have za32 : w20.cell? ⟨w.heap.size + 1, 2, none⟩ = some (.string s3) := (rowc Ea3.out).1 2
       have za33 : w20.cell? ⟨w.heap.size + 1, 3, none⟩ = some (.int .i64 x3) := (rowc Ea3.out).1 3
       have za34 : w20.cell? ⟨w.heap.size + 1, 4, none⟩ = some (.slice A3 L3 c3) := (rowc Ea3.out).1 4
       clear hb hbx)
    | (go_at_call 33; refine (eqV T3 _ _ _ _ _ (by first | with_reducible exact HX3.out | exact HX3.out.below' ((Below.refl _ _).drew)) (by first | with_reducible exact HV.out | exact HV.out.below' ((Below.refl _ _).drew))).mono ?_
       rintro e w21 ⟨rfl, hb⟩
       have hbx : Below w20.heap.size w20 w21 := by first | exact hb | exact bs ((Below.refl _ _).drew) hb
       skip
       replace Ea0 := Lib.hid (carry hbx Ea0.out)
       replace Ea3 := Lib.hid (carry hbx Ea3.out)
       replace Em := Lib.hid (carry hbx Em.out)
       replace Eb0 := Lib.hid (carry hbx Eb0.out)
       replace Eb3 := Lib.hid (carry hbx Eb3.out)
       replace Eg := Lib.hid (carry hbx Eg.out)
       replace HM := Lib.hid (HM.out.below' hbx)
       replace HX0 := Lib.hid (HX0.out.rgb hbx)
       replace HKR := Lib.hid (HKR.out.below hbx)
       replace HX3 := Lib.hid (HX3.out.rgb hbx)
       replace HG := Lib.hid (HG.out.above fun q _ hl => Below.block hbx q hl)
       replace HV := Lib.hid (HV.out.below' hbx)
       replace HB := Lib.hid (bs HB.out hbx)
       have zb30 : w21.cell? ⟨Nb3, 0, none⟩ = some (.int .i64 k3) := (rowc Eb3.out).1 0
       have zb31 : w21.cell? ⟨Nb3, 1, none⟩ = some (.int .i64 n3) := (rowc Eb3.out).1 1
       have zb32 : w21.cell? ⟨Nb3, 2, none⟩ = some (.string s3) := (rowc Eb3.out).1 2
       have zb33 : w21.cell? ⟨Nb3, 3, none⟩ = some (.int .i64 x3) := (rowc Eb3.out).1 3
       have zb34 : w21.cell? ⟨Nb3, 4, none⟩ = some (.slice Ax3 L3 cx3) := (rowc Eb3.out).1 4
       have za30 : w21.cell? ⟨w.heap.size + 1, 0, none⟩ = some (.int .i64 k3) := (rowc Ea3.out).1 0
       have za31 : w21.cell? ⟨w.heap.size + 1, 1, none⟩ = some (.int .i64 n3) := (rowc Ea3.out).1 1
       have za32 : w21.cell? ⟨w.heap.size + 1, 2, none⟩ = some (.string s3) := (rowc Ea3.out).1 2
       have za33 : w21.cell? ⟨w.heap.size + 1, 3, none⟩ = some (.int .i64 x3) := (rowc Ea3.out).1 3
       have za34 : w21.cell? ⟨w.heap.size + 1, 4, none⟩ = some (.slice A3 L3 c3) := (rowc Ea3.out).1 4
       clear hb hbx))
  clear HV
  clear zb30 zb31 zb32 zb33 zb34 za30 za31 za32 za33 za34
  have zb00 : w21.cell? ⟨Nb0, 0, none⟩ = some (.int .i64 k0) := (rowc Eb0.out).1 0
  have zb01 : w21.cell? ⟨Nb0, 1, none⟩ = some (.int .i64 n0) := (rowc Eb0.out).1 1
  have zb02 : w21.cell? ⟨Nb0, 2, none⟩ = some (.string s0) := (rowc Eb0.out).1 2
  have zb03 : w21.cell? ⟨Nb0, 3, none⟩ = some (.int .i64 x0) := (rowc Eb0.out).1 3
  have zb04 : w21.cell? ⟨Nb0, 4, none⟩ = some (.slice Ax0 L0 cx0) := (rowc Eb0.out).1 4
  go_wp2_with (fail)
  refine (markArg2 T0 _ _ (by omega) (by have := hF0.out; omega) _ lo Nb0 HX0.out).mono ?_
  rintro e w22 ⟨p0, rfl, hp0, hqp0, hf⟩
  replace hqp0 : p0 ≤ 8000000 := by have := hF0.out; omega
  clear zb00 zb01 zb02 zb03 zb04
  replace Ea0 := Lib.hid ((hf.block _ (Array.getElem?_eq_some_iff.1 Ea0.out).1 (by unfold Rg; have o0 := HPa.out; have o1 := HPm.out; have o2 := HPx.out; have o3 := HPy.out; have o4 := HPk.out; have o5 := HPz.out; have o6 := HPw.out; have o7 := HRQ.out; have o8 := HSZ.out; omega)).trans Ea0.out)
  replace Ea3 := Lib.hid ((hf.block _ (Array.getElem?_eq_some_iff.1 Ea3.out).1 (by unfold Rg; have o0 := HPa.out; have o1 := HPm.out; have o2 := HPx.out; have o3 := HPy.out; have o4 := HPk.out; have o5 := HPz.out; have o6 := HPw.out; have o7 := HRQ.out; have o8 := HSZ.out; omega)).trans Ea3.out)
  replace Em := Lib.hid ((hf.block _ (Array.getElem?_eq_some_iff.1 Em.out).1 (by unfold Rg; have o0 := HPa.out; have o1 := HPm.out; have o2 := HPx.out; have o3 := HPy.out; have o4 := HPk.out; have o5 := HPz.out; have o6 := HPw.out; have o7 := HRQ.out; have o8 := HSZ.out; omega)).trans Em.out)
  replace Eb0 := Lib.hid ((hf.block _ (Array.getElem?_eq_some_iff.1 Eb0.out).1 (by unfold Rg; have o0 := HPa.out; have o1 := HPm.out; have o2 := HPx.out; have o3 := HPy.out; have o4 := HPk.out; have o5 := HPz.out; have o6 := HPw.out; have o7 := HRQ.out; have o8 := HSZ.out; omega)).trans Eb0.out)
  replace Eb3 := Lib.hid ((hf.block _ (Array.getElem?_eq_some_iff.1 Eb3.out).1 (by unfold Rg; have o0 := HPa.out; have o1 := HPm.out; have o2 := HPx.out; have o3 := HPy.out; have o4 := HPk.out; have o5 := HPz.out; have o6 := HPw.out; have o7 := HRQ.out; have o8 := HSZ.out; omega)).trans Eb3.out)
  replace Eg := Lib.hid ((hf.block _ (Array.getElem?_eq_some_iff.1 Eg.out).1 (by unfold Rg; have o0 := HPa.out; have o1 := HPm.out; have o2 := HPx.out; have o3 := HPy.out; have o4 := HPk.out; have o5 := HPz.out; have o6 := HPw.out; have o7 := HRQ.out; have o8 := HSZ.out; omega)).trans Eg.out)
  replace HM := Lib.hid (HM.out.stays (fun _ h => h) (fun b hb hl => hf.block b hl (by unfold Rg; have hb' : b < lo := hb; have o0 := HPa.out; have o1 := HPm.out; have o2 := HPx.out; have o3 := HPy.out; have o4 := HPk.out; have o5 := HPz.out; have o6 := HPw.out; have o7 := HRQ.out; have o8 := HSZ.out; omega)))
  replace HB := Lib.hid (Below.fr HB.out (Nat.le_refl _) hf (fun b hb => by unfold Rg at hb; have o0 := HPa.out; have o1 := HPm.out; have o2 := HPx.out; have o3 := HPy.out; have o4 := HPk.out; have o5 := HPz.out; have o6 := HPw.out; have o7 := HRQ.out; have o8 := HSZ.out; omega))
  replace HX3 := Lib.hid (HX3.out.rgk fun b hb hl => hf.block b hl (by unfold Rg at hb ⊢; have o0 := HPa.out; have o1 := HPm.out; have o2 := HPx.out; have o3 := HPy.out; have o4 := HPk.out; have o5 := HPz.out; have o6 := HPw.out; have o7 := HRQ.out; have o8 := HSZ.out; omega))
  replace HKR := Lib.hid (HKR.out.blk (fun b e _ hl => hf.block b hl (by have e2 : gy = b := (by simpa [Value.ownBlock] using e); subst e2; unfold Rg; have o0 := HPa.out; have o1 := HPm.out; have o2 := HPx.out; have o3 := HPy.out; have o4 := HPk.out; have o5 := HPz.out; have o6 := HPw.out; have o7 := HRQ.out; have o8 := HSZ.out; omega)))
  replace HG := Lib.hid (HG.out.above fun b hb hl => hf.block b hl (by unfold Rg; simp at hb; have o0 := HPa.out; have o1 := HPm.out; have o2 := HPx.out; have o3 := HPy.out; have o4 := HPk.out; have o5 := HPz.out; have o6 := HPw.out; have o7 := HRQ.out; have o8 := HSZ.out; omega))
  clear hf HX0
  go_wp2_with (fail)
  refine (HMK.out p0 (by omega) (by omega) _ _ _ HKR.out).mono ?_
  rintro e w23 ⟨rfl, -, hf⟩
  replace Ea0 := Lib.hid ((hf.block _ (Array.getElem?_eq_some_iff.1 Ea0.out).1 (fun e => absurd (show gy = w.heap.size by simpa [Value.ownBlock] using e) (by have o0 := HPa.out; have o1 := HPm.out; have o2 := HPx.out; have o3 := HPy.out; have o4 := HPk.out; have o5 := HPz.out; have o6 := HPw.out; have o7 := HRQ.out; have o8 := HSZ.out; omega))).trans Ea0.out)
  replace Ea3 := Lib.hid ((hf.block _ (Array.getElem?_eq_some_iff.1 Ea3.out).1 (fun e => absurd (show gy = w.heap.size + 1 by simpa [Value.ownBlock] using e) (by have o0 := HPa.out; have o1 := HPm.out; have o2 := HPx.out; have o3 := HPy.out; have o4 := HPk.out; have o5 := HPz.out; have o6 := HPw.out; have o7 := HRQ.out; have o8 := HSZ.out; omega))).trans Ea3.out)
  replace Em := Lib.hid ((hf.block _ (Array.getElem?_eq_some_iff.1 Em.out).1 (fun e => absurd (show gy = Nm by simpa [Value.ownBlock] using e) (by have o0 := HPa.out; have o1 := HPm.out; have o2 := HPx.out; have o3 := HPy.out; have o4 := HPk.out; have o5 := HPz.out; have o6 := HPw.out; have o7 := HRQ.out; have o8 := HSZ.out; omega))).trans Em.out)
  replace Eb0 := Lib.hid ((hf.block _ (Array.getElem?_eq_some_iff.1 Eb0.out).1 (fun e => absurd (show gy = Nb0 by simpa [Value.ownBlock] using e) (by have o0 := HPa.out; have o1 := HPm.out; have o2 := HPx.out; have o3 := HPy.out; have o4 := HPk.out; have o5 := HPz.out; have o6 := HPw.out; have o7 := HRQ.out; have o8 := HSZ.out; omega))).trans Eb0.out)
  replace Eb3 := Lib.hid ((hf.block _ (Array.getElem?_eq_some_iff.1 Eb3.out).1 (fun e => absurd (show gy = Nb3 by simpa [Value.ownBlock] using e) (by have o0 := HPa.out; have o1 := HPm.out; have o2 := HPx.out; have o3 := HPy.out; have o4 := HPk.out; have o5 := HPz.out; have o6 := HPw.out; have o7 := HRQ.out; have o8 := HSZ.out; omega))).trans Eb3.out)
  replace Eg := Lib.hid ((hf.block _ (Array.getElem?_eq_some_iff.1 Eg.out).1 (fun e => absurd (show gy = Ng by simpa [Value.ownBlock] using e) (by have o0 := HPa.out; have o1 := HPm.out; have o2 := HPx.out; have o3 := HPy.out; have o4 := HPk.out; have o5 := HPz.out; have o6 := HPw.out; have o7 := HRQ.out; have o8 := HSZ.out; omega))).trans Eg.out)
  replace HM := Lib.hid (HM.out.stays (fun _ h => h) (fun b hb hl => hf.block b hl (fun e => absurd (show gy = b by simpa [Value.ownBlock] using e) (by have hb' : b < lo := hb; have o0 := HPa.out; have o1 := HPm.out; have o2 := HPx.out; have o3 := HPy.out; have o4 := HPk.out; have o5 := HPz.out; have o6 := HPw.out; have o7 := HRQ.out; have o8 := HSZ.out; omega))))
  replace HB := Lib.hid (Below.fr HB.out (Nat.le_refl _) hf (fun b e => by have e2 : gy = b := (by simpa [Value.ownBlock] using e); have o0 := HPa.out; have o1 := HPm.out; have o2 := HPx.out; have o3 := HPy.out; have o4 := HPk.out; have o5 := HPz.out; have o6 := HPw.out; have o7 := HRQ.out; have o8 := HSZ.out; omega))
  replace HX3 := Lib.hid (HX3.out.rgk fun b hb hl => hf.block b hl (fun e => absurd (show gy = b by simpa [Value.ownBlock] using e) (by unfold Rg at hb; have o0 := HPa.out; have o1 := HPm.out; have o2 := HPx.out; have o3 := HPy.out; have o4 := HPk.out; have o5 := HPz.out; have o6 := HPw.out; have o7 := HRQ.out; have o8 := HSZ.out; omega)))
  replace HG := Lib.hid (HG.out.above fun b hb hl => hf.block b hl (fun e => absurd (show gy = b by simpa [Value.ownBlock] using e) (by simp at hb; have o0 := HPa.out; have o1 := HPm.out; have o2 := HPx.out; have o3 := HPy.out; have o4 := HPk.out; have o5 := HPz.out; have o6 := HPw.out; have o7 := HRQ.out; have o8 := HSZ.out; omega)))
  have hpq : 1 ≤ p0 + 3 * (LY : Int) ∧ p0 + 3 * (LY : Int) ≤ 12000000 := by omega
  obtain ⟨p1, HP1⟩ : ∃ q : Int, Hid (p0 + 3 * (LY : Int) = q) := ⟨_, Lib.hid rfl⟩
  rw [HP1.out] at hpq ⊢
  clear hf HKR
  have zb30 : w23.cell? ⟨Nb3, 0, none⟩ = some (.int .i64 k3) := (rowc Eb3.out).1 0
  have zb31 : w23.cell? ⟨Nb3, 1, none⟩ = some (.int .i64 n3) := (rowc Eb3.out).1 1
  have zb32 : w23.cell? ⟨Nb3, 2, none⟩ = some (.string s3) := (rowc Eb3.out).1 2
  have zb33 : w23.cell? ⟨Nb3, 3, none⟩ = some (.int .i64 x3) := (rowc Eb3.out).1 3
  have zb34 : w23.cell? ⟨Nb3, 4, none⟩ = some (.slice Ax3 L3 cx3) := (rowc Eb3.out).1 4
  go_wp2_with (fail)
  refine (markArg2 T3 _ _ (by omega) (by have := hF3.out; omega) _ lo3 Nb3 HX3.out).mono ?_
  rintro e w24 ⟨p3, rfl, hp3, hqp3, hf⟩
  replace hqp3 : p3 ≤ 24000000 := by have := hF3.out; omega
  clear zb30 zb31 zb32 zb33 zb34
  replace Ea0 := Lib.hid ((hf.block _ (Array.getElem?_eq_some_iff.1 Ea0.out).1 (by unfold Rg; have o0 := HPa.out; have o1 := HPm.out; have o2 := HPx.out; have o3 := HPy.out; have o4 := HPk.out; have o5 := HPz.out; have o6 := HPw.out; have o7 := HRQ.out; have o8 := HSZ.out; omega)).trans Ea0.out)
  replace Ea3 := Lib.hid ((hf.block _ (Array.getElem?_eq_some_iff.1 Ea3.out).1 (by unfold Rg; have o0 := HPa.out; have o1 := HPm.out; have o2 := HPx.out; have o3 := HPy.out; have o4 := HPk.out; have o5 := HPz.out; have o6 := HPw.out; have o7 := HRQ.out; have o8 := HSZ.out; omega)).trans Ea3.out)
  replace Em := Lib.hid ((hf.block _ (Array.getElem?_eq_some_iff.1 Em.out).1 (by unfold Rg; have o0 := HPa.out; have o1 := HPm.out; have o2 := HPx.out; have o3 := HPy.out; have o4 := HPk.out; have o5 := HPz.out; have o6 := HPw.out; have o7 := HRQ.out; have o8 := HSZ.out; omega)).trans Em.out)
  replace Eb0 := Lib.hid ((hf.block _ (Array.getElem?_eq_some_iff.1 Eb0.out).1 (by unfold Rg; have o0 := HPa.out; have o1 := HPm.out; have o2 := HPx.out; have o3 := HPy.out; have o4 := HPk.out; have o5 := HPz.out; have o6 := HPw.out; have o7 := HRQ.out; have o8 := HSZ.out; omega)).trans Eb0.out)
  replace Eb3 := Lib.hid ((hf.block _ (Array.getElem?_eq_some_iff.1 Eb3.out).1 (by unfold Rg; have o0 := HPa.out; have o1 := HPm.out; have o2 := HPx.out; have o3 := HPy.out; have o4 := HPk.out; have o5 := HPz.out; have o6 := HPw.out; have o7 := HRQ.out; have o8 := HSZ.out; omega)).trans Eb3.out)
  replace Eg := Lib.hid ((hf.block _ (Array.getElem?_eq_some_iff.1 Eg.out).1 (by unfold Rg; have o0 := HPa.out; have o1 := HPm.out; have o2 := HPx.out; have o3 := HPy.out; have o4 := HPk.out; have o5 := HPz.out; have o6 := HPw.out; have o7 := HRQ.out; have o8 := HSZ.out; omega)).trans Eg.out)
  replace HM := Lib.hid (HM.out.stays (fun _ h => h) (fun b hb hl => hf.block b hl (by unfold Rg; have hb' : b < lo := hb; have o0 := HPa.out; have o1 := HPm.out; have o2 := HPx.out; have o3 := HPy.out; have o4 := HPk.out; have o5 := HPz.out; have o6 := HPw.out; have o7 := HRQ.out; have o8 := HSZ.out; omega)))
  replace HB := Lib.hid (Below.fr HB.out (Nat.le_refl _) hf (fun b hb => by unfold Rg at hb; have o0 := HPa.out; have o1 := HPm.out; have o2 := HPx.out; have o3 := HPy.out; have o4 := HPk.out; have o5 := HPz.out; have o6 := HPw.out; have o7 := HRQ.out; have o8 := HSZ.out; omega))
  replace HG := Lib.hid (HG.out.above fun b hb hl => hf.block b hl (by unfold Rg; simp at hb; have o0 := HPa.out; have o1 := HPm.out; have o2 := HPx.out; have o3 := HPy.out; have o4 := HPk.out; have o5 := HPz.out; have o6 := HPw.out; have o7 := HRQ.out; have o8 := HSZ.out; omega))
  clear hf HX3
  have zg0 : w24.cell? ⟨Ng, 0, none⟩ = some (.int .i64 K) := (rowc Eg.out).1 0
  have zg1 : w24.cell? ⟨Ng, 1, none⟩ = some (.int .i64 N) := (rowc Eg.out).1 1
  have zg2 : w24.cell? ⟨Ng, 2, none⟩ = some (.string Z) := (rowc Eg.out).1 2
  have zg3 : w24.cell? ⟨Ng, 3, none⟩ = some (.int .i64 X) := (rowc Eg.out).1 3
  have zg4 : w24.cell? ⟨Ng, 4, none⟩ = some (.slice Ag RL cg) := (rowc Eg.out).1 4
  have zm0 : w24.cell? ⟨Nm, 0, none⟩ = some (.int .i64 K) := (rowc Em.out).1 0
  have zm1 : w24.cell? ⟨Nm, 1, none⟩ = some (.int .i64 N) := (rowc Em.out).1 1
  have zm2 : w24.cell? ⟨Nm, 2, none⟩ = some (.string Z) := (rowc Em.out).1 2
  have zm3 : w24.cell? ⟨Nm, 3, none⟩ = some (.int .i64 X) := (rowc Em.out).1 3
  have zm4 : w24.cell? ⟨Nm, 4, none⟩ = some (.slice Am RL cm) := (rowc Em.out).1 4
  go_wp2_with (fail)
  refine (eqV RT _ _ _ _ _ HG.out.tin HM.out).mono ?_
  rintro e w25 ⟨rfl, hb⟩
  replace Ea0 := Lib.hid (carry hb Ea0.out)
  replace Ea3 := Lib.hid (carry hb Ea3.out)
  replace Em := Lib.hid (carry hb Em.out)
  replace Eb0 := Lib.hid (carry hb Eb0.out)
  replace Eb3 := Lib.hid (carry hb Eb3.out)
  replace Eg := Lib.hid (carry hb Eg.out)
  replace HM := Lib.hid (HM.out.below' hb)
  replace HG := Lib.hid (HG.out.above fun q _ hl => Below.block hb q hl)
  replace HB := Lib.hid (bs HB.out hb)
  clear hb
  clear zg0 zg1 zg2 zg3 zg4 zm0 zm1 zm2 zm3 zm4
  have zg0 : w25.cell? ⟨Ng, 0, none⟩ = some (.int .i64 K) := (rowc Eg.out).1 0
  have zg1 : w25.cell? ⟨Ng, 1, none⟩ = some (.int .i64 N) := (rowc Eg.out).1 1
  have zg2 : w25.cell? ⟨Ng, 2, none⟩ = some (.string Z) := (rowc Eg.out).1 2
  have zg3 : w25.cell? ⟨Ng, 3, none⟩ = some (.int .i64 X) := (rowc Eg.out).1 3
  have zg4 : w25.cell? ⟨Ng, 4, none⟩ = some (.slice Ag RL cg) := (rowc Eg.out).1 4
  go_wp2_with (fail)
  refine (markSep RT _ 1 (by omega) hQ1.out _ pg r 0 (r + 1) Ng HG.out HTG.out).mono ?_
  rintro e w26 ⟨rfl, ht, hf⟩
  rw [HQ.out]
  clear zg0 zg1 zg2 zg3 zg4
  replace Ea0 := Lib.hid ((hf.block _ (Array.getElem?_eq_some_iff.1 Ea0.out).1 (by unfold Rg; have o0 := HPa.out; have o1 := HPm.out; have o2 := HPx.out; have o3 := HPy.out; have o4 := HPk.out; have o5 := HPz.out; have o6 := HPw.out; have o7 := HRQ.out; have o8 := HSZ.out; omega)).trans Ea0.out)
  replace Ea3 := Lib.hid ((hf.block _ (Array.getElem?_eq_some_iff.1 Ea3.out).1 (by unfold Rg; have o0 := HPa.out; have o1 := HPm.out; have o2 := HPx.out; have o3 := HPy.out; have o4 := HPk.out; have o5 := HPz.out; have o6 := HPw.out; have o7 := HRQ.out; have o8 := HSZ.out; omega)).trans Ea3.out)
  replace Em := Lib.hid ((hf.block _ (Array.getElem?_eq_some_iff.1 Em.out).1 (by unfold Rg; have o0 := HPa.out; have o1 := HPm.out; have o2 := HPx.out; have o3 := HPy.out; have o4 := HPk.out; have o5 := HPz.out; have o6 := HPw.out; have o7 := HRQ.out; have o8 := HSZ.out; omega)).trans Em.out)
  replace Eb0 := Lib.hid ((hf.block _ (Array.getElem?_eq_some_iff.1 Eb0.out).1 (by unfold Rg; have o0 := HPa.out; have o1 := HPm.out; have o2 := HPx.out; have o3 := HPy.out; have o4 := HPk.out; have o5 := HPz.out; have o6 := HPw.out; have o7 := HRQ.out; have o8 := HSZ.out; omega)).trans Eb0.out)
  replace Eb3 := Lib.hid ((hf.block _ (Array.getElem?_eq_some_iff.1 Eb3.out).1 (by unfold Rg; have o0 := HPa.out; have o1 := HPm.out; have o2 := HPx.out; have o3 := HPy.out; have o4 := HPk.out; have o5 := HPz.out; have o6 := HPw.out; have o7 := HRQ.out; have o8 := HSZ.out; omega)).trans Eb3.out)
  replace Eg := Lib.hid ((hf.block _ (Array.getElem?_eq_some_iff.1 Eg.out).1 (by unfold Rg; have o0 := HPa.out; have o1 := HPm.out; have o2 := HPx.out; have o3 := HPy.out; have o4 := HPk.out; have o5 := HPz.out; have o6 := HPw.out; have o7 := HRQ.out; have o8 := HSZ.out; omega)).trans Eg.out)
  replace HM := Lib.hid (HM.out.stays (fun _ h => h) (fun b hb hl => hf.block b hl (by unfold Rg; have hb' : b < lo := hb; have o0 := HPa.out; have o1 := HPm.out; have o2 := HPx.out; have o3 := HPy.out; have o4 := HPk.out; have o5 := HPz.out; have o6 := HPw.out; have o7 := HRQ.out; have o8 := HSZ.out; omega)))
  replace HB := Lib.hid (Below.fr HB.out (Nat.le_refl _) hf (fun b hb => by unfold Rg at hb; have o0 := HPa.out; have o1 := HPm.out; have o2 := HPx.out; have o3 := HPy.out; have o4 := HPk.out; have o5 := HPz.out; have o6 := HPw.out; have o7 := HRQ.out; have o8 := HSZ.out; omega))
  replace HG := Lib.hid ht
  clear ht hf
  have zg0 : w26.cell? ⟨Ng, 0, none⟩ = some (.int .i64 K) := (rowc Eg.out).1 0
  have zg1 : w26.cell? ⟨Ng, 1, none⟩ = some (.int .i64 N) := (rowc Eg.out).1 1
  have zg2 : w26.cell? ⟨Ng, 2, none⟩ = some (.string Z) := (rowc Eg.out).1 2
  have zg3 : w26.cell? ⟨Ng, 3, none⟩ = some (.int .i64 X) := (rowc Eg.out).1 3
  have zg4 : w26.cell? ⟨Ng, 4, none⟩ = some (.slice Ag RL cg) := (rowc Eg.out).1 4
  go_wp2_with (fail)
  refine (heldSep RT _ 1 (by omega) hQ1.out _ _ HG.out.tin).mono ?_
  rintro e w27 ⟨rfl, hb⟩
  rw [HQ.out]
  replace Ea0 := Lib.hid (carry hb Ea0.out)
  replace Ea3 := Lib.hid (carry hb Ea3.out)
  replace Em := Lib.hid (carry hb Em.out)
  replace Eb0 := Lib.hid (carry hb Eb0.out)
  replace Eb3 := Lib.hid (carry hb Eb3.out)
  replace Eg := Lib.hid (carry hb Eg.out)
  replace HM := Lib.hid (HM.out.below' hb)
  replace HG := Lib.hid (HG.out.above fun q _ hl => Below.block hb q hl)
  replace HB := Lib.hid (bs HB.out hb)
  clear hb
  clear zg0 zg1 zg2 zg3 zg4
  have za00 : w27.cell? ⟨w.heap.size, 0, none⟩ = some (.int .i64 k0) := (rowc Ea0.out).1 0
  have za01 : w27.cell? ⟨w.heap.size, 1, none⟩ = some (.int .i64 n0) := (rowc Ea0.out).1 1
  have za02 : w27.cell? ⟨w.heap.size, 2, none⟩ = some (.string s0) := (rowc Ea0.out).1 2
  have za03 : w27.cell? ⟨w.heap.size, 3, none⟩ = some (.int .i64 x0) := (rowc Ea0.out).1 3
  have za04 : w27.cell? ⟨w.heap.size, 4, none⟩ = some (.slice A0 L0 c0) := (rowc Ea0.out).1 4
  have za30 : w27.cell? ⟨w.heap.size + 1, 0, none⟩ = some (.int .i64 k3) := (rowc Ea3.out).1 0
  have za31 : w27.cell? ⟨w.heap.size + 1, 1, none⟩ = some (.int .i64 n3) := (rowc Ea3.out).1 1
  have za32 : w27.cell? ⟨w.heap.size + 1, 2, none⟩ = some (.string s3) := (rowc Ea3.out).1 2
  have za33 : w27.cell? ⟨w.heap.size + 1, 3, none⟩ = some (.int .i64 x3) := (rowc Ea3.out).1 3
  have za34 : w27.cell? ⟨w.heap.size + 1, 4, none⟩ = some (.slice A3 L3 c3) := (rowc Ea3.out).1 4
  go_wp2_with (fail)
  go_cut [20, 21] (fun p f wx => CutPC w27 bb K N Z X RL RT p f wx)
  case first =>
    have HW : Hid (Below w27.heap.size w27 w27) := Lib.hid (Below.refl _ _)
    have hzw27 : w27.heap.size ≤ w27.heap.size := Nat.le_refl _
    have nza0w27 : w27.heap.size ≠ w.heap.size := by have := (Array.getElem?_eq_some_iff.1 Ea0.out).1; omega
    have nza3w27 : w27.heap.size ≠ w.heap.size + 1 := by have := (Array.getElem?_eq_some_iff.1 Ea3.out).1; omega
    go_region_held3 (fun w' => w'.cell? ⟨w.heap.size, 0, none⟩ = some (.int .i64 k0) ∧ w'.cell? ⟨w.heap.size, 1, none⟩ = some (.int .i64 n0) ∧ w'.cell? ⟨w.heap.size, 2, none⟩ = some (.string s0) ∧ w'.cell? ⟨w.heap.size, 3, none⟩ = some (.int .i64 x0) ∧ w'.cell? ⟨w.heap.size, 4, none⟩ = some (.slice A0 L0 c0) ∧ w'.cell? ⟨w.heap.size + 1, 0, none⟩ = some (.int .i64 k3) ∧ w'.cell? ⟨w.heap.size + 1, 1, none⟩ = some (.int .i64 n3) ∧ w'.cell? ⟨w.heap.size + 1, 2, none⟩ = some (.string s3) ∧ w'.cell? ⟨w.heap.size + 1, 3, none⟩ = some (.int .i64 x3) ∧ w'.cell? ⟨w.heap.size + 1, 4, none⟩ = some (.slice A3 L3 c3)) (first | with_reducible exact ⟨za00, za01, za02, za03, za04, za30, za31, za32, za33, za34⟩ | with_reducible exact ⟨drc (alc za00), drc (alc za01), drc (alc za02), drc (alc za03), drc (alc za04), drc (alc za30), drc (alc za31), drc (alc za32), drc (alc za33), drc (alc za34)⟩ | with_reducible exact ⟨drc za00, drc za01, drc za02, drc za03, drc za04, drc za30, drc za31, drc za32, drc za33, drc za34⟩ | with_reducible exact ⟨alc za00, alc za01, alc za02, alc za03, alc za04, alc za30, alc za31, alc za32, alc za33, alc za34⟩ | with_reducible exact ⟨alc (drc za00), alc (drc za01), alc (drc za02), alc (drc za03), alc (drc za04), alc (drc za30), alc (drc za31), alc (drc za32), alc (drc za33), alc (drc za34)⟩ | with_reducible exact ⟨st5 za00 (by assumption), st5 za01 (by assumption), st5 za02 (by assumption), st5 za03 (by assumption), st5 za04 (by assumption), st5 za30 (by assumption), st5 za31 (by assumption), st5 za32 (by assumption), st5 za33 (by assumption), st5 za34 (by assumption)⟩ | with_reducible exact ⟨st5 (alc za00) (by assumption), st5 (alc za01) (by assumption), st5 (alc za02) (by assumption), st5 (alc za03) (by assumption), st5 (alc za04) (by assumption), st5 (alc za30) (by assumption), st5 (alc za31) (by assumption), st5 (alc za32) (by assumption), st5 (alc za33) (by assumption), st5 (alc za34) (by assumption)⟩ | go_keep)
      (first
      | (fail_if_success (have tok := HN0)
         go_at_call 31; refine (cps T0 hT0.out _ _ _ (HR0.out.below' (by first | with_reducible exact HB.out | with_reducible exact HB.out.trans ((Below.refl _ _).drew) | with_reducible exact HB.out.alloc HB.out.size _ | with_reducible exact (HB.out.trans ((Below.refl _ _).drew)).alloc HB.out.size _ | with_reducible exact (HB.out.alloc HB.out.size _).trans ((Below.refl _ _).drew)))).mono ?_
         rintro e w28 ⟨v, rfl, hv, hb⟩
         have hbx : Below w27.heap.size w27 w28 := by first | exact hb | exact bs ((Below.refl _ _).drew) hb | exact bs (b1 _ _) hb | exact bs (bs ((Below.refl _ _).drew) (b1 _ _)) hb | exact bs (bs (b1 _ _) ((Below.refl _ _).drew)) hb
         first | (have ez := Lib.hid (carry hb (heap_alloc_new w27 (.cells #[.int .i64 0, .int .i64 0, .string ⟨#[]⟩, .int .i64 0, .slice none 0 0] IV)))) | (have ez := Lib.hid (carry hb (heap_alloc_new w27.drew (.cells #[.int .i64 0, .int .i64 0, .string ⟨#[]⟩, .int .i64 0, .slice none 0 0] IV)))) | (replace ez := Lib.hid (carry hbx ez.out)) | skip
         obtain ⟨AqHN0, cqHN0, rfl, -, -⟩ := TIn.out (HT0.out ▸ hv)
         have HN0 := Lib.hid (show TIn w28 (Nw 0 w28) T0 (vV k0 n0 s0 x0 AqHN0 L0 cqHN0) by rw [HL0.out, HT0.out]; exact (HT0.out ▸ hv).nw0)
         rw [← HL0.out]
         clear hv
         try clear za00 za01 za02 za03 za04
         try clear za30 za31 za32 za33 za34
         replace Ea0 := Lib.hid (carry hbx Ea0.out)
         replace Ea3 := Lib.hid (carry hbx Ea3.out)
         replace Em := Lib.hid (carry hbx Em.out)
         replace Eb0 := Lib.hid (carry hbx Eb0.out)
         replace Eb3 := Lib.hid (carry hbx Eb3.out)
         replace Eg := Lib.hid (carry hbx Eg.out)
         replace HM := Lib.hid (HM.out.below' hbx)
         replace HG := Lib.hid (HG.out.above fun q _ hl => Below.block hbx q hl)
         replace HB := Lib.hid (bs HB.out hbx)
         replace HW := Lib.hid (bs HW.out hbx)
         have hzw28 : w27.heap.size ≤ w28.heap.size := HW.out.size
         have za00 : w28.cell? ⟨w.heap.size, 0, none⟩ = some (.int .i64 k0) := (rowc Ea0.out).1 0
         have za01 : w28.cell? ⟨w.heap.size, 1, none⟩ = some (.int .i64 n0) := (rowc Ea0.out).1 1
         have za02 : w28.cell? ⟨w.heap.size, 2, none⟩ = some (.string s0) := (rowc Ea0.out).1 2
         have za03 : w28.cell? ⟨w.heap.size, 3, none⟩ = some (.int .i64 x0) := (rowc Ea0.out).1 3
         have za04 : w28.cell? ⟨w.heap.size, 4, none⟩ = some (.slice A0 L0 c0) := (rowc Ea0.out).1 4
         have za30 : w28.cell? ⟨w.heap.size + 1, 0, none⟩ = some (.int .i64 k3) := (rowc Ea3.out).1 0
         have za31 : w28.cell? ⟨w.heap.size + 1, 1, none⟩ = some (.int .i64 n3) := (rowc Ea3.out).1 1
         have za32 : w28.cell? ⟨w.heap.size + 1, 2, none⟩ = some (.string s3) := (rowc Ea3.out).1 2
         have za33 : w28.cell? ⟨w.heap.size + 1, 3, none⟩ = some (.int .i64 x3) := (rowc Ea3.out).1 3
         have za34 : w28.cell? ⟨w.heap.size + 1, 4, none⟩ = some (.slice A3 L3 c3) := (rowc Ea3.out).1 4
         have nza0w28 : w28.heap.size ≠ w.heap.size := by have := (Array.getElem?_eq_some_iff.1 Ea0.out).1; omega
         have nza3w28 : w28.heap.size ≠ w.heap.size + 1 := by have := (Array.getElem?_eq_some_iff.1 Ea3.out).1; omega
         clear hb hbx)
      | (have tok := HN0
         clear tok
         go_at_call 39; refine (HTK.out _ (HK1.out.below (by first | with_reducible exact HB.out | with_reducible exact HB.out.trans ((Below.refl _ _).drew) | with_reducible exact HB.out.alloc HB.out.size _ | with_reducible exact (HB.out.trans ((Below.refl _ _).drew)).alloc HB.out.size _ | with_reducible exact (HB.out.alloc HB.out.size _).trans ((Below.refl _ _).drew)))).mono ?_
         rintro e w29 ⟨gk, rfl, hkr, hgk, hb⟩
         have hbx : Below w28.heap.size w28 w29 := by first | exact hb | exact bs ((Below.refl _ _).drew) hb | exact bs (b1 _ _) hb | exact bs (bs ((Below.refl _ _).drew) (b1 _ _)) hb | exact bs (bs (b1 _ _) ((Below.refl _ _).drew)) hb
         first | (have ez := Lib.hid (carry hb (heap_alloc_new w28 (.cells #[.int .i64 0, .int .i64 0, .string ⟨#[]⟩, .int .i64 0, .slice none 0 0] IV)))) | (have ez := Lib.hid (carry hb (heap_alloc_new w28.drew (.cells #[.int .i64 0, .int .i64 0, .string ⟨#[]⟩, .int .i64 0, .slice none 0 0] IV)))) | (replace ez := Lib.hid (carry hbx ez.out)) | skip
         obtain ⟨Ak, ck, ek, -, hki⟩ := KRow.kin hkr HOK.out
         obtain ⟨rfl, -⟩ : some ⟨gk, 0, none⟩ = Ak ∧ LY = ck := by rw [HLY.out] at ek; simpa using ek
         have HKI := Lib.hid hki
         clear ek hki hkr hgk
         try clear za00 za01 za02 za03 za04
         try clear za30 za31 za32 za33 za34
         replace Ea0 := Lib.hid (carry hbx Ea0.out)
         replace Ea3 := Lib.hid (carry hbx Ea3.out)
         replace Em := Lib.hid (carry hbx Em.out)
         replace Eb0 := Lib.hid (carry hbx Eb0.out)
         replace Eb3 := Lib.hid (carry hbx Eb3.out)
         replace Eg := Lib.hid (carry hbx Eg.out)
         replace HM := Lib.hid (HM.out.below' hbx)
         replace HG := Lib.hid (HG.out.above fun q _ hl => Below.block hbx q hl)
         replace HN0 := Lib.hid (HN0.out.nwb hbx)
         replace HB := Lib.hid (bs HB.out hbx)
         replace HW := Lib.hid (bs HW.out hbx)
         have hzw29 : w27.heap.size ≤ w29.heap.size := HW.out.size
         have za00 : w29.cell? ⟨w.heap.size, 0, none⟩ = some (.int .i64 k0) := (rowc Ea0.out).1 0
         have za01 : w29.cell? ⟨w.heap.size, 1, none⟩ = some (.int .i64 n0) := (rowc Ea0.out).1 1
         have za02 : w29.cell? ⟨w.heap.size, 2, none⟩ = some (.string s0) := (rowc Ea0.out).1 2
         have za03 : w29.cell? ⟨w.heap.size, 3, none⟩ = some (.int .i64 x0) := (rowc Ea0.out).1 3
         have za04 : w29.cell? ⟨w.heap.size, 4, none⟩ = some (.slice A0 L0 c0) := (rowc Ea0.out).1 4
         have za30 : w29.cell? ⟨w.heap.size + 1, 0, none⟩ = some (.int .i64 k3) := (rowc Ea3.out).1 0
         have za31 : w29.cell? ⟨w.heap.size + 1, 1, none⟩ = some (.int .i64 n3) := (rowc Ea3.out).1 1
         have za32 : w29.cell? ⟨w.heap.size + 1, 2, none⟩ = some (.string s3) := (rowc Ea3.out).1 2
         have za33 : w29.cell? ⟨w.heap.size + 1, 3, none⟩ = some (.int .i64 x3) := (rowc Ea3.out).1 3
         have za34 : w29.cell? ⟨w.heap.size + 1, 4, none⟩ = some (.slice A3 L3 c3) := (rowc Ea3.out).1 4
         have nza0w29 : w29.heap.size ≠ w.heap.size := by have := (Array.getElem?_eq_some_iff.1 Ea0.out).1; omega
         have nza3w29 : w29.heap.size ≠ w.heap.size + 1 := by have := (Array.getElem?_eq_some_iff.1 Ea3.out).1; omega
         clear hb hbx)
      | (have tok := HKI
         clear tok
         fail_if_success (have tok := HN3)
         go_at_call 31; refine (cps T3 hT3.out _ _ _ (HR3.out.below' (by first | with_reducible exact HB.out | with_reducible exact HB.out.trans ((Below.refl _ _).drew) | with_reducible exact HB.out.alloc HB.out.size _ | with_reducible exact (HB.out.trans ((Below.refl _ _).drew)).alloc HB.out.size _ | with_reducible exact (HB.out.alloc HB.out.size _).trans ((Below.refl _ _).drew)))).mono ?_
         rintro e w30 ⟨v, rfl, hv, hb⟩
         have hbx : Below w29.heap.size w29 w30 := by first | exact hb | exact bs ((Below.refl _ _).drew) hb | exact bs (b1 _ _) hb | exact bs (bs ((Below.refl _ _).drew) (b1 _ _)) hb | exact bs (bs (b1 _ _) ((Below.refl _ _).drew)) hb
         first | (have ez := Lib.hid (carry hb (heap_alloc_new w29 (.cells #[.int .i64 0, .int .i64 0, .string ⟨#[]⟩, .int .i64 0, .slice none 0 0] IV)))) | (have ez := Lib.hid (carry hb (heap_alloc_new w29.drew (.cells #[.int .i64 0, .int .i64 0, .string ⟨#[]⟩, .int .i64 0, .slice none 0 0] IV)))) | (replace ez := Lib.hid (carry hbx ez.out)) | skip
         obtain ⟨AqHN3, cqHN3, rfl, -, -⟩ := TIn.out (HT3.out ▸ hv)
         have HN3 := Lib.hid (show TIn w30 (Nw 0 w30) T3 (vV k3 n3 s3 x3 AqHN3 L3 cqHN3) by rw [HL3.out, HT3.out]; exact (HT3.out ▸ hv).nw0)
         rw [← HL3.out]
         clear hv
         try clear za00 za01 za02 za03 za04
         try clear za30 za31 za32 za33 za34
         replace Ea0 := Lib.hid (carry hbx Ea0.out)
         replace Ea3 := Lib.hid (carry hbx Ea3.out)
         replace Em := Lib.hid (carry hbx Em.out)
         replace Eb0 := Lib.hid (carry hbx Eb0.out)
         replace Eb3 := Lib.hid (carry hbx Eb3.out)
         replace Eg := Lib.hid (carry hbx Eg.out)
         replace HM := Lib.hid (HM.out.below' hbx)
         replace HG := Lib.hid (HG.out.above fun q _ hl => Below.block hbx q hl)
         replace HN0 := Lib.hid (HN0.out.nwb hbx)
         replace HKI := Lib.hid (HKI.out.below hbx)
         replace HB := Lib.hid (bs HB.out hbx)
         replace HW := Lib.hid (bs HW.out hbx)
         have hzw30 : w27.heap.size ≤ w30.heap.size := HW.out.size
         have za00 : w30.cell? ⟨w.heap.size, 0, none⟩ = some (.int .i64 k0) := (rowc Ea0.out).1 0
         have za01 : w30.cell? ⟨w.heap.size, 1, none⟩ = some (.int .i64 n0) := (rowc Ea0.out).1 1
         have za02 : w30.cell? ⟨w.heap.size, 2, none⟩ = some (.string s0) := (rowc Ea0.out).1 2
         have za03 : w30.cell? ⟨w.heap.size, 3, none⟩ = some (.int .i64 x0) := (rowc Ea0.out).1 3
         have za04 : w30.cell? ⟨w.heap.size, 4, none⟩ = some (.slice A0 L0 c0) := (rowc Ea0.out).1 4
         have za30 : w30.cell? ⟨w.heap.size + 1, 0, none⟩ = some (.int .i64 k3) := (rowc Ea3.out).1 0
         have za31 : w30.cell? ⟨w.heap.size + 1, 1, none⟩ = some (.int .i64 n3) := (rowc Ea3.out).1 1
         have za32 : w30.cell? ⟨w.heap.size + 1, 2, none⟩ = some (.string s3) := (rowc Ea3.out).1 2
         have za33 : w30.cell? ⟨w.heap.size + 1, 3, none⟩ = some (.int .i64 x3) := (rowc Ea3.out).1 3
         have za34 : w30.cell? ⟨w.heap.size + 1, 4, none⟩ = some (.slice A3 L3 c3) := (rowc Ea3.out).1 4
         have nza0w30 : w30.heap.size ≠ w.heap.size := by have := (Array.getElem?_eq_some_iff.1 Ea0.out).1; omega
         have nza3w30 : w30.heap.size ≠ w.heap.size + 1 := by have := (Array.getElem?_eq_some_iff.1 Ea3.out).1; omega
         clear hb hbx)
      | (go_at_call 40; refine (HCI.out _ _ _ _ _ (by first | with_reducible exact HN0.out | with_reducible exact HN0.out.nwb (b1 _ _) | with_reducible exact HN0.out.nwb ((Below.refl _ _).drew) | with_reducible exact HN0.out.nwb (bs ((Below.refl _ _).drew) (b1 _ _)) | with_reducible exact HN0.out.nwb (bs (b1 _ _) ((Below.refl _ _).drew))) (by first | with_reducible exact HKI.out | with_reducible exact HKI.out.below (b1 _ _) | with_reducible exact HKI.out.below ((Below.refl _ _).drew) | with_reducible exact HKI.out.below (bs ((Below.refl _ _).drew) (b1 _ _)) | with_reducible exact HKI.out.below (bs (b1 _ _) ((Below.refl _ _).drew))) ⟨Nat.le_refl _, by unfold maxLen; omega⟩ (by first | with_reducible exact HN3.out | with_reducible exact HN3.out.nwb (b1 _ _) | with_reducible exact HN3.out.nwb ((Below.refl _ _).drew) | with_reducible exact HN3.out.nwb (bs ((Below.refl _ _).drew) (b1 _ _)) | with_reducible exact HN3.out.nwb (bs (b1 _ _) ((Below.refl _ _).drew))) (HE.out.stays (by first | with_reducible exact HB.out | with_reducible exact HB.out.trans ((Below.refl _ _).drew) | with_reducible exact HB.out.alloc HB.out.size _ | with_reducible exact (HB.out.trans ((Below.refl _ _).drew)).alloc HB.out.size _ | with_reducible exact (HB.out.alloc HB.out.size _).trans ((Below.refl _ _).drew)))).mono ?_
         rintro e w31 ⟨u, par, r2, rfl, hv, hr, hb⟩
         have hbx : Below w30.heap.size w30 w31 := by first | exact hb | exact bs ((Below.refl _ _).drew) hb | exact bs (b1 _ _) hb | exact bs (bs ((Below.refl _ _).drew) (b1 _ _)) hb | exact bs (bs (b1 _ _) ((Below.refl _ _).drew)) hb
         first | (have nzw := Lib.hid (Array.getElem?_eq_some_iff.1 ez.out).1; replace ez := Lib.hid (carry hbx ez.out)) | (have ez := Lib.hid (carry hb (heap_alloc_new w30 (.cells #[.int .i64 0, .int .i64 0, .string ⟨#[]⟩, .int .i64 0, .slice none 0 0] IV))); have nzw := Lib.hid (Array.getElem?_eq_some_iff.1 (heap_alloc_new w30 (.cells #[.int .i64 0, .int .i64 0, .string ⟨#[]⟩, .int .i64 0, .slice none 0 0] IV))).1) | (have ez := Lib.hid (carry hb (heap_alloc_new w30.drew (.cells #[.int .i64 0, .int .i64 0, .string ⟨#[]⟩, .int .i64 0, .slice none 0 0] IV)))) | skip
         obtain ⟨Ag, cg, rfl, -⟩ := TPar.out (HRT.out ▸ hv)
         have HGG := Lib.hid (show TPar w31 par (r2, 0) RT (vV K N Z X Ag RL cg) by rw [HRL.out, HRT.out]; exact (HRT.out ▸ hv))
         have HRQ2 := Lib.hid hr
         rw [← HRL.out]
         clear hv hr
         try clear za00 za01 za02 za03 za04
         try clear za30 za31 za32 za33 za34
         replace Ea0 := Lib.hid (carry hbx Ea0.out)
         replace Ea3 := Lib.hid (carry hbx Ea3.out)
         replace Em := Lib.hid (carry hbx Em.out)
         replace Eb0 := Lib.hid (carry hbx Eb0.out)
         replace Eb3 := Lib.hid (carry hbx Eb3.out)
         replace Eg := Lib.hid (carry hbx Eg.out)
         replace HM := Lib.hid (HM.out.below' hbx)
         replace HG := Lib.hid (HG.out.above fun q _ hl => Below.block hbx q hl)
         replace HN0 := Lib.hid (HN0.out.nwb hbx)
         replace HKI := Lib.hid (HKI.out.below hbx)
         replace HN3 := Lib.hid (HN3.out.nwb hbx)
         replace HB := Lib.hid (bs HB.out hbx)
         replace HW := Lib.hid (bs HW.out hbx)
         have hzw31 : w27.heap.size ≤ w31.heap.size := HW.out.size
         have za00 : w31.cell? ⟨w.heap.size, 0, none⟩ = some (.int .i64 k0) := (rowc Ea0.out).1 0
         have za01 : w31.cell? ⟨w.heap.size, 1, none⟩ = some (.int .i64 n0) := (rowc Ea0.out).1 1
         have za02 : w31.cell? ⟨w.heap.size, 2, none⟩ = some (.string s0) := (rowc Ea0.out).1 2
         have za03 : w31.cell? ⟨w.heap.size, 3, none⟩ = some (.int .i64 x0) := (rowc Ea0.out).1 3
         have za04 : w31.cell? ⟨w.heap.size, 4, none⟩ = some (.slice A0 L0 c0) := (rowc Ea0.out).1 4
         have za30 : w31.cell? ⟨w.heap.size + 1, 0, none⟩ = some (.int .i64 k3) := (rowc Ea3.out).1 0
         have za31 : w31.cell? ⟨w.heap.size + 1, 1, none⟩ = some (.int .i64 n3) := (rowc Ea3.out).1 1
         have za32 : w31.cell? ⟨w.heap.size + 1, 2, none⟩ = some (.string s3) := (rowc Ea3.out).1 2
         have za33 : w31.cell? ⟨w.heap.size + 1, 3, none⟩ = some (.int .i64 x3) := (rowc Ea3.out).1 3
         have za34 : w31.cell? ⟨w.heap.size + 1, 4, none⟩ = some (.slice A3 L3 c3) := (rowc Ea3.out).1 4
         have nza0w31 : w31.heap.size ≠ w.heap.size := by have := (Array.getElem?_eq_some_iff.1 Ea0.out).1; omega
         have nza3w31 : w31.heap.size ≠ w.heap.size + 1 := by have := (Array.getElem?_eq_some_iff.1 Ea3.out).1; omega
         clear hb hbx
         first | (have zr := (rowc ez.out).1; have zf := (rowc ez.out).2) | skip))
    all_goals
      go_wp2_with (fail)
      go_meet
      first
      | with_reducible exact cutPC_box HW.out HGG.out (Nat.le_trans (by first | exact Nat.le_refl _ | assumption | (simp; omega)) HRQ2.out)
      | exact cutPC_early HW.out (by first | exact Nat.le_refl _ | assumption) ez.out HGG.out (Nat.le_of_lt (Nat.lt_of_lt_of_le nzw.out HRQ2.out)) rfl
  obtain ⟨Nh, Ah, ch, ph, rh, hp, hf, hbx, hNh, en, hv, hrh, hih, hth, hhh, hdh⟩ := hcut
  subst hp hf
  obtain ⟨w32, hwc⟩ : ∃ q, q = wc := ⟨wc, rfl⟩
  subst hwc
  try clear za00 za01 za02 za03 za04
  try clear za30 za31 za32 za33 za34
  replace Ea0 := Lib.hid (carry hbx Ea0.out)
  replace Ea3 := Lib.hid (carry hbx Ea3.out)
  replace Em := Lib.hid (carry hbx Em.out)
  replace Eb0 := Lib.hid (carry hbx Eb0.out)
  replace Eb3 := Lib.hid (carry hbx Eb3.out)
  replace Eg := Lib.hid (carry hbx Eg.out)
  replace HM := Lib.hid (HM.out.below' hbx)
  replace HG := Lib.hid (HG.out.above fun q _ hl => Below.block hbx q hl)
  replace HB := Lib.hid (bs HB.out hbx)
  have Eh := Lib.hid en
  clear en
  have HH := Lib.hid hv.tin
  clear hv hth hhh hdh hrh hNh hbx
  have zh0 : w32.cell? ⟨Nh, 0, none⟩ = some (.int .i64 K) := (rowc Eh.out).1 0
  have zh1 : w32.cell? ⟨Nh, 1, none⟩ = some (.int .i64 N) := (rowc Eh.out).1 1
  have zh2 : w32.cell? ⟨Nh, 2, none⟩ = some (.string Z) := (rowc Eh.out).1 2
  have zh3 : w32.cell? ⟨Nh, 3, none⟩ = some (.int .i64 X) := (rowc Eh.out).1 3
  have zh4 : w32.cell? ⟨Nh, 4, none⟩ = some (.slice Ah RL ch) := (rowc Eh.out).1 4
  have zm0 : w32.cell? ⟨Nm, 0, none⟩ = some (.int .i64 K) := (rowc Em.out).1 0
  have zm1 : w32.cell? ⟨Nm, 1, none⟩ = some (.int .i64 N) := (rowc Em.out).1 1
  have zm2 : w32.cell? ⟨Nm, 2, none⟩ = some (.string Z) := (rowc Em.out).1 2
  have zm3 : w32.cell? ⟨Nm, 3, none⟩ = some (.int .i64 X) := (rowc Em.out).1 3
  have zm4 : w32.cell? ⟨Nm, 4, none⟩ = some (.slice Am RL cm) := (rowc Em.out).1 4
  go_wp2_with (fail)
  refine (eqV RT _ _ _ _ _ HH.out HM.out).mono ?_
  rintro e w33 ⟨rfl, hb⟩
  replace Ea0 := Lib.hid (carry hb Ea0.out)
  replace Ea3 := Lib.hid (carry hb Ea3.out)
  replace Em := Lib.hid (carry hb Em.out)
  replace Eb0 := Lib.hid (carry hb Eb0.out)
  replace Eb3 := Lib.hid (carry hb Eb3.out)
  replace Eg := Lib.hid (carry hb Eg.out)
  replace Eh := Lib.hid (carry hb Eh.out)
  replace HM := Lib.hid (HM.out.below' hb)
  replace HG := Lib.hid (HG.out.above fun q _ hl => Below.block hb q hl)
  replace HH := Lib.hid (HH.out.below' hb)
  replace HB := Lib.hid (bs HB.out hb)
  clear hb
  clear zh0 zh1 zh2 zh3 zh4 zm0 zm1 zm2 zm3 zm4
  have zg0 : w33.cell? ⟨Ng, 0, none⟩ = some (.int .i64 K) := (rowc Eg.out).1 0
  have zg1 : w33.cell? ⟨Ng, 1, none⟩ = some (.int .i64 N) := (rowc Eg.out).1 1
  have zg2 : w33.cell? ⟨Ng, 2, none⟩ = some (.string Z) := (rowc Eg.out).1 2
  have zg3 : w33.cell? ⟨Ng, 3, none⟩ = some (.int .i64 X) := (rowc Eg.out).1 3
  have zg4 : w33.cell? ⟨Ng, 4, none⟩ = some (.slice Ag RL cg) := (rowc Eg.out).1 4
  go_wp2_with (fail)
  refine (heldSep RT _ 1 (by omega) hQ1.out _ _ HG.out.tin).mono ?_
  rintro e w34 ⟨rfl, hb⟩
  rw [HQ.out]
  replace Ea0 := Lib.hid (carry hb Ea0.out)
  replace Ea3 := Lib.hid (carry hb Ea3.out)
  replace Em := Lib.hid (carry hb Em.out)
  replace Eb0 := Lib.hid (carry hb Eb0.out)
  replace Eb3 := Lib.hid (carry hb Eb3.out)
  replace Eg := Lib.hid (carry hb Eg.out)
  replace Eh := Lib.hid (carry hb Eh.out)
  replace HM := Lib.hid (HM.out.below' hb)
  replace HG := Lib.hid (HG.out.above fun q _ hl => Below.block hb q hl)
  replace HH := Lib.hid (HH.out.below' hb)
  replace HB := Lib.hid (bs HB.out hb)
  clear hb
  clear zg0 zg1 zg2 zg3 zg4
  go_wp2_with (fail)
  go_ret
  exact ⟨rfl, HB.out⟩

theorem setPR_cnt (t : Tr) (ys : List Ky) (push : Bool) (u : Tr) (hf : fits t) : cnt (setPR t ys push u).1 ≤ cnt t + cnt u + ys.length := by
  unfold setPR
  split
  · by_cases h : (putP t ys push u).2 = 0
    · exact (put_size hf h).1
    · rw [put_bad h]; omega
  · show cnt t ≤ _
    omega
theorem walk (t0 : Tr) (v0 : Value) (ys1 : List Ky) (A1 : Option Addr) (c1 : Nat) (b2 : Bool) (t3 : Tr) (v3 : Value) (w : World) (hr0 : TIn w (fun _ => True) t0 v0) (hk1 : KIn w ys1 A1) (hc1 : ys1.length ≤ c1 ∧ c1 ≤ maxLen) (hr3 : TIn w (fun _ => True) t3 v3) (hE : prs.Env w) : Calls Tryz.prog 6 #[v0, .slice A1 (List.length ys1) c1, .bool b2, v3] w (TrueQ w) := by
  refine walk0 t0 v0 ys1 A1 c1 b2 t3 v3 w hr0 hk1 hc1 hr3 (setPR t0 ys1 b2 t3).1 (setPR t0 ys1 b2 t3).2 hE (fun hT => ?_)
  have h0 := cnt_tot t0 hr0.fits
  have h3 := cnt_tot t3 hr3.fits
  have hc := setPR_cnt t0 ys1 b2 t3 hr0.fits
  have hi := itm_cnt (setPR t0 ys1 b2 t3).1
  have hk := ktot_kst ys1
  refine ⟨by omega, fun w S0 S3 u0 u3 A c h0 hk hc h3 hE => ?_, fun w u0 u3 A c h0 hk hc h3 hE => ?_⟩
  · exact setPath_s t0 ys1 b2 t3 u0 u3 A c w (fun _ => True) (h0.stays (fun _ _ => trivial) (fun _ _ _ => rfl)) (h3.stays (fun _ _ => trivial) (fun _ _ _ => rfl)) hk hc (by omega) (by omega) hE
  · exact setPath_i t0 ys1 b2 t3 u0 u3 A c w h0 h3 hk hc (by omega) (by omega) hE

end Go.Proofs.YtbgffmiffmmohaaGreatDoor.fnExactSetPath

