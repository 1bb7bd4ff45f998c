/-
  SetKey answers as its model at all values and keys, every field; it leaves its arguments unmodified, and its answer owns its memory.
  Conditions: the package variables that the row lists hold what the program's text lays, and the card ties that to the text.
-/
import Derived.Test.YtclnbfndkcpopaaDoorRows
import Derived.Test.YtclnbfndkcpopaaDoorCards
import Derived.Test.YtclnbfndkcpopaaDoorTie
import Derived.LaidMore
import Derived.LaidHandle
import Derived.Stop.Joined
import Derived.SevenTiedAt
import Derived.Stop.LaidErr
import Derived.SizedLaws
import Derived.Deep.RegionHeld3
import Derived.WalkKit
import Derived.ProofKit
import Derived.OpenShut
import Derived.Test.YtclnbfndkcpopaaDoorSetS
import Derived.Test.YtclnbfndkcpopaaDoorLawCut
import Derived.Test.YtclnbfndkcpopaaDoorOpenT
import Derived.Test.YtclnbfndkcpopaaDoorEnvKey
namespace Go.Proofs.YtclnbfndkcpopaaDoor.fnExactSetKey
open Go.ChangeShapes Go.WideShapes Go.ChangeAt Go.RowKit tree
open Go.ChangeMaps (open_string)
set_option linter.unusedVariables false

theorem own : ownKnob Tryd.prog.godebug = none := by kernel_rfl

set_option maxHeartbeats 8000000 in
set_option maxRecDepth 100000 in
theorem walk0 (t0 : Tr) (v0 : Value) (y1 : Ky) (t2 : Tr) (v2 : Value) (w : World) (hr0 : TIn w (fun _ => True) t0 v0) (hy1 : I64 y1.num ∧ y1.str.size ≤ maxLen) (hr2 : TIn w (fun _ => True) t2 v2) (R : Tr) (bb : Bool) (hE : prs.Env w)
    (HC : tot t0 + y1.str.size + tot t2 ≤ 1048576 → itm R ≤ 1048577 ∧ (∀ (w : World) (S0 : Nat → Prop) (S2 : Nat → Prop) (u0 : Value) (u2 : Value), TIn w S0 t0 u0 → TIn w S2 t2 u2 → prs.Env w → Calls Tryd.prog 36 #[u0, kyV y1, u2] w (fun e w' => ∃ u, e = .returned (.tuple #[u, .bool bb]) ∧ TIn w' (fun q => w.heap.size ≤ q) R u ∧ Below w.heap.size w w')) ∧ (∀ (w : World) (u0 : Value) (u2 : Value), TIn w (Nw 0 w) t0 u0 → TIn w (Nw 0 w) t2 u2 → prs.Env w → Calls Tryd.prog 17 #[u0, kyV y1, u2] w (fun e w' => ∃ u par r, e = .returned (.tuple #[u, .bool bb]) ∧ TPar w' par (r, 0) R u ∧ w.heap.size ≤ r ∧ Below w.heap.size w w'))) :
    Calls Tryd.prog 6 #[v0, kyV y1, v2] w (TrueQ w) := by
  have HE := Lib.hid hE
  clear hE
  obtain ⟨K, N, Z, X, RK, RV⟩ := R
  obtain ⟨RL, HRL⟩ : ∃ L, Hid (L = RV.length) := ⟨_, Lib.hid rfl⟩
  obtain ⟨RT, HRT⟩ : ∃ T, Hid (T = Tr.mk K N Z X RK RV) := ⟨_, Lib.hid rfl⟩
  rw [← HRT.out] at HC
  obtain ⟨k0, n0, s0, x0, ks0, vs0⟩ := t0
  obtain ⟨A0, c0, rfl, -, -⟩ := hr0.out
  obtain ⟨L0, HL0⟩ : ∃ L, Hid (L = vs0.length) := ⟨_, Lib.hid rfl⟩
  obtain ⟨T0, HT0⟩ : ∃ T, Hid (T = Tr.mk k0 n0 s0 x0 ks0 vs0) := ⟨_, Lib.hid rfl⟩
  obtain ⟨k2, n2, s2, x2, ks2, vs2⟩ := t2
  obtain ⟨A2, c2, rfl, -, -⟩ := hr2.out
  obtain ⟨L2, HL2⟩ : ∃ L, Hid (L = vs2.length) := ⟨_, Lib.hid rfl⟩
  obtain ⟨T2, HT2⟩ : ∃ T, Hid (T = Tr.mk k2 n2 s2 x2 ks2 vs2) := ⟨_, Lib.hid rfl⟩
  rw [← HT0.out] at hr0 HC
  rw [← HL0.out] at hr0 ⊢
  have HR0 := Lib.hid hr0
  have SZ0 := fun w h => szV T0 w (fun _ => True) (vV k0 n0 s0 x0 A0 L0 c0) h
  rw [← HT2.out] at hr2 HC
  rw [← HL2.out] at hr2 ⊢
  have HR2 := Lib.hid hr2
  have SZ2 := fun w h => szV T2 w (fun _ => True) (vV k2 n2 s2 x2 A2 L2 c2) h
  have SZ1 := fun l h0 h1 => szKey y1 hy1.2 l h0 h1
  have TK := toKey y1
  obtain ⟨Y, HY⟩ : ∃ Y, Hid (Y = y1.str.size) := ⟨_, Lib.hid rfl⟩
  rw [← HY.out] at HC
  rw [← HY.out] at SZ1
  have KY1 : kyV y1 = .agg #[.bool y1.text, .int .i64 y1.num, .string y1.str] := rfl
  obtain ⟨yb1, hyb1⟩ : ∃ b, b = y1.text := ⟨_, rfl⟩
  obtain ⟨yn1, hyn1⟩ : ∃ b, b = y1.num := ⟨_, rfl⟩
  obtain ⟨ys1, hys1⟩ : ∃ b, b = y1.str := ⟨_, rfl⟩
  rw [← hyb1, ← hyn1, ← hys1] at KY1
  rw [KY1] at SZ1 TK HC ⊢
  have HCC := Lib.hid HC
  have HTK := Lib.hid TK
  clear hr0 hr2 hyb1 hyn1 hys1 KY1 HC TK
  go_enter Tryd.func6, Tryd.ntmps6
  go_wp2_with (fail)
  refine (SZ0 _ (HR0.out.below' (b3 _ _ _ _)) 1048576 (by omega) (by omega)).mono ?_
  rintro e w0 ⟨r0, rfl, ⟨ha0, hb0, hc0⟩, hw0⟩
  obtain ⟨g0, g1, g2, -, gb⟩ := al3 w #[.int .i64 k0, .int .i64 n0, .string s0, .int .i64 x0, .slice A0 L0 c0] #[.bool yb1, .int .i64 yn1, .string ys1] #[.int .i64 k2, .int .i64 n2, .string s2, .int .i64 x2, .slice A2 L2 c2] LV LK LV
  have Ea0 := Lib.hid (carry hw0 g0)
  have Ea1 := Lib.hid (carry hw0 g1)
  have Ea2 := Lib.hid (carry hw0 g2)
  have HB := Lib.hid (bs gb hw0)
  clear g0 g1 g2 gb
  have HQ0 := Lib.hid hc0
  clear hw0 hc0
  by_cases hlt0 : r0 < 0
  · go_wp2_with (fail)
    go_ret
    exact ⟨rfl, HB.out⟩
  have za10 : w0.cell? ⟨w.heap.size + 1, 0, none⟩ = some (.bool yb1) := (rowc Ea1.out).1 0
  have za11 : w0.cell? ⟨w.heap.size + 1, 1, none⟩ = some (.int .i64 yn1) := (rowc Ea1.out).1 1
  have za12 : w0.cell? ⟨w.heap.size + 1, 2, none⟩ = some (.string ys1) := (rowc Ea1.out).1 2
  go_wp2_with (fail)
  refine (SZ1 r0 (by omega) (by omega) _).mono ?_
  rintro e w1 ⟨r1, rfl, ⟨ha1, hb1, hc1⟩, hw1⟩
  replace Ea0 := Lib.hid (carry hw1 Ea0.out)
  replace Ea1 := Lib.hid (carry hw1 Ea1.out)
  replace Ea2 := Lib.hid (carry hw1 Ea2.out)
  replace HB := Lib.hid (bs HB.out hw1)
  have HQ1 := Lib.hid hc1
  clear hw1 hc1
  clear za10 za11 za12
  by_cases hlt1 : r1 < 0
  · go_wp2_with (fail)
    go_ret
    exact ⟨rfl, HB.out⟩
  have za20 : w1.cell? ⟨w.heap.size + 1 + 1, 0, none⟩ = some (.int .i64 k2) := (rowc Ea2.out).1 0
  have za21 : w1.cell? ⟨w.heap.size + 1 + 1, 1, none⟩ = some (.int .i64 n2) := (rowc Ea2.out).1 1
  have za22 : w1.cell? ⟨w.heap.size + 1 + 1, 2, none⟩ = some (.string s2) := (rowc Ea2.out).1 2
  have za23 : w1.cell? ⟨w.heap.size + 1 + 1, 3, none⟩ = some (.int .i64 x2) := (rowc Ea2.out).1 3
  have za24 : w1.cell? ⟨w.heap.size + 1 + 1, 4, none⟩ = some (.slice A2 L2 c2) := (rowc Ea2.out).1 4
  go_wp2_with (fail)
  refine (SZ2 _ (HR2.out.below' HB.out) r1 (by omega) (by omega)).mono ?_
  rintro e w2 ⟨r2, rfl, ⟨ha2, hb2, hc2⟩, hw2⟩
  replace Ea0 := Lib.hid (carry hw2 Ea0.out)
  replace Ea1 := Lib.hid (carry hw2 Ea1.out)
  replace Ea2 := Lib.hid (carry hw2 Ea2.out)
  replace HB := Lib.hid (bs HB.out hw2)
  have HQ2 := Lib.hid hc2
  clear hw2 hc2
  clear za20 za21 za22 za23 za24
  by_cases hlt2 : r2 < 0
  · go_wp2_with (fail)
    go_ret
    exact ⟨rfl, HB.out⟩
  have HSUM : Hid (tot T0 + Y + tot T2 ≤ 1048576) := Lib.hid (by have q0 := HQ0.out (by omega); have q1 := HQ1.out (by omega); have q2 := HQ2.out (by omega); omega)
  obtain HCON := HCC.out HSUM.out
  obtain ⟨hit, hcs, hci⟩ := HCON
  have HIT := Lib.hid hit
  have HCS := Lib.hid hcs
  have HCI := Lib.hid hci
  obtain ⟨Q, HQ⟩ : ∃ Q : Int, Hid (1 + 7 * (itm RT : Int) = Q) := ⟨_, Lib.hid rfl⟩
  have hQ0 : 1 ≤ Q := by rw [← HQ.out]; omega
  have hQ1 : Hid (1 + 7 * (itm RT : Int) ≤ 100000000000) := Lib.hid (by omega)
  have hT0 : Hid (tot T0 ≤ 1048576) := Lib.hid (by have := HSUM.out; omega)
  have hF0 : Hid (cnt T0 ≤ 1048577) := Lib.hid (by have := cnt_tot T0 HR0.out.fits; have := HSUM.out; omega)
  have hT2 : Hid (tot T2 ≤ 1048576) := Lib.hid (by have := HSUM.out; omega)
  have hF2 : Hid (cnt T2 ≤ 1048577) := Lib.hid (by have := cnt_tot T2 HR2.out.fits; have := HSUM.out; omega)
  clear hit hcs hci
  have za00 : w2.cell? ⟨w.heap.size, 0, none⟩ = some (.int .i64 k0) := (rowc Ea0.out).1 0
  have za01 : w2.cell? ⟨w.heap.size, 1, none⟩ = some (.int .i64 n0) := (rowc Ea0.out).1 1
  have za02 : w2.cell? ⟨w.heap.size, 2, none⟩ = some (.string s0) := (rowc Ea0.out).1 2
  have za03 : w2.cell? ⟨w.heap.size, 3, none⟩ = some (.int .i64 x0) := (rowc Ea0.out).1 3
  have za04 : w2.cell? ⟨w.heap.size, 4, none⟩ = some (.slice A0 L0 c0) := (rowc Ea0.out).1 4
  have za10 : w2.cell? ⟨w.heap.size + 1, 0, none⟩ = some (.bool yb1) := (rowc Ea1.out).1 0
  have za11 : w2.cell? ⟨w.heap.size + 1, 1, none⟩ = some (.int .i64 yn1) := (rowc Ea1.out).1 1
  have za12 : w2.cell? ⟨w.heap.size + 1, 2, none⟩ = some (.string ys1) := (rowc Ea1.out).1 2
  have za20 : w2.cell? ⟨w.heap.size + 1 + 1, 0, none⟩ = some (.int .i64 k2) := (rowc Ea2.out).1 0
  have za21 : w2.cell? ⟨w.heap.size + 1 + 1, 1, none⟩ = some (.int .i64 n2) := (rowc Ea2.out).1 1
  have za22 : w2.cell? ⟨w.heap.size + 1 + 1, 2, none⟩ = some (.string s2) := (rowc Ea2.out).1 2
  have za23 : w2.cell? ⟨w.heap.size + 1 + 1, 3, none⟩ = some (.int .i64 x2) := (rowc Ea2.out).1 3
  have za24 : w2.cell? ⟨w.heap.size + 1 + 1, 4, none⟩ = some (.slice A2 L2 c2) := (rowc Ea2.out).1 4
  go_wp2_with (fail)
  go_cut [8, 9] (fun p f wx => CutM w2 bb K N Z X RL RT p f wx)
  case first =>
    have HW : Hid (Below w2.heap.size w2 w2) := Lib.hid (Below.refl _ _)
    have hzw2 : w2.heap.size ≤ w2.heap.size := Nat.le_refl _
    have nza0w2 : w2.heap.size ≠ w.heap.size := by have := (Array.getElem?_eq_some_iff.1 Ea0.out).1; omega
    have nza1w2 : w2.heap.size ≠ w.heap.size + 1 := by have := (Array.getElem?_eq_some_iff.1 Ea1.out).1; omega
    have nza2w2 : w2.heap.size ≠ w.heap.size + 1 + 1 := by have := (Array.getElem?_eq_some_iff.1 Ea2.out).1; omega
    go_region_held3 (fun w' => w'.cell? ⟨w.heap.size, 0, none⟩ = some (.int .i64 k0) ∧ w'.cell? ⟨w.heap.size, 1, none⟩ = some (.int .i64 n0) ∧ w'.cell? ⟨w.heap.size, 2, none⟩ = some (.string s0) ∧ w'.cell? ⟨w.heap.size, 3, none⟩ = some (.int .i64 x0) ∧ w'.cell? ⟨w.heap.size, 4, none⟩ = some (.slice A0 L0 c0) ∧ w'.cell? ⟨w.heap.size + 1, 0, none⟩ = some (.bool yb1) ∧ w'.cell? ⟨w.heap.size + 1, 1, none⟩ = some (.int .i64 yn1) ∧ w'.cell? ⟨w.heap.size + 1, 2, none⟩ = some (.string ys1) ∧ w'.cell? ⟨w.heap.size + 1 + 1, 0, none⟩ = some (.int .i64 k2) ∧ w'.cell? ⟨w.heap.size + 1 + 1, 1, none⟩ = some (.int .i64 n2) ∧ w'.cell? ⟨w.heap.size + 1 + 1, 2, none⟩ = some (.string s2) ∧ w'.cell? ⟨w.heap.size + 1 + 1, 3, none⟩ = some (.int .i64 x2) ∧ w'.cell? ⟨w.heap.size + 1 + 1, 4, none⟩ = some (.slice A2 L2 c2)) (first | with_reducible exact ⟨za00, za01, za02, za03, za04, za10, za11, za12, za20, za21, za22, za23, za24⟩ | with_reducible exact ⟨drc (alc za00), drc (alc za01), drc (alc za02), drc (alc za03), drc (alc za04), drc (alc za10), drc (alc za11), drc (alc za12), drc (alc za20), drc (alc za21), drc (alc za22), drc (alc za23), drc (alc za24)⟩ | with_reducible exact ⟨drc za00, drc za01, drc za02, drc za03, drc za04, drc za10, drc za11, drc za12, drc za20, drc za21, drc za22, drc za23, drc za24⟩ | with_reducible exact ⟨alc za00, alc za01, alc za02, alc za03, alc za04, alc za10, alc za11, alc za12, alc za20, alc za21, alc za22, alc za23, alc za24⟩ | with_reducible exact ⟨alc (drc za00), alc (drc za01), alc (drc za02), alc (drc za03), alc (drc za04), alc (drc za10), alc (drc za11), alc (drc za12), alc (drc za20), alc (drc za21), alc (drc za22), alc (drc za23), alc (drc za24)⟩ | with_reducible exact ⟨st5 za00 (by assumption), st5 za01 (by assumption), st5 za02 (by assumption), st5 za03 (by assumption), st5 za04 (by assumption), st5 za10 (by assumption), st5 za11 (by assumption), st5 za12 (by assumption), st5 za20 (by assumption), st5 za21 (by assumption), st5 za22 (by assumption), st5 za23 (by assumption), st5 za24 (by assumption)⟩ | with_reducible exact ⟨st5 (alc za00) (by assumption), st5 (alc za01) (by assumption), st5 (alc za02) (by assumption), st5 (alc za03) (by assumption), st5 (alc za04) (by assumption), st5 (alc za10) (by assumption), st5 (alc za11) (by assumption), st5 (alc za12) (by assumption), st5 (alc za20) (by assumption), st5 (alc za21) (by assumption), st5 (alc za22) (by assumption), st5 (alc za23) (by assumption), st5 (alc za24) (by assumption)⟩ | go_keep)
      (first
      | (fail_if_success (have tok := HVm0)
         go_at_call 37; refine (cps T0 hT0.out _ _ _ (HR0.out.below' (by first | with_reducible exact HB.out | with_reducible exact HB.out.trans ((Below.refl _ _).drew) | with_reducible exact HB.out.alloc HB.out.size _ | with_reducible exact (HB.out.trans ((Below.refl _ _).drew)).alloc HB.out.size _ | with_reducible exact (HB.out.alloc HB.out.size _).trans ((Below.refl _ _).drew)))).mono ?_
         rintro e w3 ⟨v, rfl, hv, hb⟩
         have hbx : Below w2.heap.size w2 w3 := by first | exact hb | exact bs ((Below.refl _ _).drew) hb | exact bs (b1 _ _) hb | exact bs (bs ((Below.refl _ _).drew) (b1 _ _)) hb | exact bs (bs (b1 _ _) ((Below.refl _ _).drew)) hb
         first | (have ez := Lib.hid (carry hb (heap_alloc_new w2 (.cells #[.int .i64 0, .int .i64 0, .string ⟨#[]⟩, .int .i64 0, .slice none 0 0] IV)))) | (have ez := Lib.hid (carry hb (heap_alloc_new w2.drew (.cells #[.int .i64 0, .int .i64 0, .string ⟨#[]⟩, .int .i64 0, .slice none 0 0] IV)))) | (replace ez := Lib.hid (carry hbx ez.out)) | skip
         obtain ⟨Am0, cm0, rfl, -, -⟩ := TIn.out (HT0.out ▸ hv)
         have HVm0 := Lib.hid (show TIn w3 _ T0 (vV k0 n0 s0 x0 Am0 L0 cm0) by rw [HL0.out, HT0.out]; exact (HT0.out ▸ hv))
         rw [← HL0.out]
         clear hv
         try clear za00 za01 za02 za03 za04
         try clear za10 za11 za12
         try clear za20 za21 za22 za23 za24
         replace Ea0 := Lib.hid (carry hbx Ea0.out)
         replace Ea1 := Lib.hid (carry hbx Ea1.out)
         replace Ea2 := Lib.hid (carry hbx Ea2.out)
         replace HB := Lib.hid (bs HB.out hbx)
         replace HW := Lib.hid (bs HW.out hbx)
         have hzw3 : w2.heap.size ≤ w3.heap.size := HW.out.size
         have za00 : w3.cell? ⟨w.heap.size, 0, none⟩ = some (.int .i64 k0) := (rowc Ea0.out).1 0
         have za01 : w3.cell? ⟨w.heap.size, 1, none⟩ = some (.int .i64 n0) := (rowc Ea0.out).1 1
         have za02 : w3.cell? ⟨w.heap.size, 2, none⟩ = some (.string s0) := (rowc Ea0.out).1 2
         have za03 : w3.cell? ⟨w.heap.size, 3, none⟩ = some (.int .i64 x0) := (rowc Ea0.out).1 3
         have za04 : w3.cell? ⟨w.heap.size, 4, none⟩ = some (.slice A0 L0 c0) := (rowc Ea0.out).1 4
         have za10 : w3.cell? ⟨w.heap.size + 1, 0, none⟩ = some (.bool yb1) := (rowc Ea1.out).1 0
         have za11 : w3.cell? ⟨w.heap.size + 1, 1, none⟩ = some (.int .i64 yn1) := (rowc Ea1.out).1 1
         have za12 : w3.cell? ⟨w.heap.size + 1, 2, none⟩ = some (.string ys1) := (rowc Ea1.out).1 2
         have za20 : w3.cell? ⟨w.heap.size + 1 + 1, 0, none⟩ = some (.int .i64 k2) := (rowc Ea2.out).1 0
         have za21 : w3.cell? ⟨w.heap.size + 1 + 1, 1, none⟩ = some (.int .i64 n2) := (rowc Ea2.out).1 1
         have za22 : w3.cell? ⟨w.heap.size + 1 + 1, 2, none⟩ = some (.string s2) := (rowc Ea2.out).1 2
         have za23 : w3.cell? ⟨w.heap.size + 1 + 1, 3, none⟩ = some (.int .i64 x2) := (rowc Ea2.out).1 3
         have za24 : w3.cell? ⟨w.heap.size + 1 + 1, 4, none⟩ = some (.slice A2 L2 c2) := (rowc Ea2.out).1 4
         have nza0w3 : w3.heap.size ≠ w.heap.size := by have := (Array.getElem?_eq_some_iff.1 Ea0.out).1; omega
         have nza1w3 : w3.heap.size ≠ w.heap.size + 1 := by have := (Array.getElem?_eq_some_iff.1 Ea1.out).1; omega
         have nza2w3 : w3.heap.size ≠ w.heap.size + 1 + 1 := by have := (Array.getElem?_eq_some_iff.1 Ea2.out).1; omega
         clear hb hbx)
      | (go_at_call 38; refine (HTK.out _).mono ?_
         rintro e w4 ⟨rfl, hb⟩
         have hbx : Below w3.heap.size w3 w4 := by first | exact hb | exact bs ((Below.refl _ _).drew) hb | exact bs (b1 _ _) hb | exact bs (bs ((Below.refl _ _).drew) (b1 _ _)) hb | exact bs (bs (b1 _ _) ((Below.refl _ _).drew)) hb
         first | (have ez := Lib.hid (carry hb (heap_alloc_new w3 (.cells #[.int .i64 0, .int .i64 0, .string ⟨#[]⟩, .int .i64 0, .slice none 0 0] IV)))) | (have ez := Lib.hid (carry hb (heap_alloc_new w3.drew (.cells #[.int .i64 0, .int .i64 0, .string ⟨#[]⟩, .int .i64 0, .slice none 0 0] IV)))) | (replace ez := Lib.hid (carry hbx ez.out)) | skip
         
         try clear za00 za01 za02 za03 za04
         try clear za10 za11 za12
         try clear za20 za21 za22 za23 za24
         replace Ea0 := Lib.hid (carry hbx Ea0.out)
         replace Ea1 := Lib.hid (carry hbx Ea1.out)
         replace Ea2 := Lib.hid (carry hbx Ea2.out)
         replace HVm0 := Lib.hid (HVm0.out.below' hbx)
         replace HB := Lib.hid (bs HB.out hbx)
         replace HW := Lib.hid (bs HW.out hbx)
         have hzw4 : w2.heap.size ≤ w4.heap.size := HW.out.size
         have za00 : w4.cell? ⟨w.heap.size, 0, none⟩ = some (.int .i64 k0) := (rowc Ea0.out).1 0
         have za01 : w4.cell? ⟨w.heap.size, 1, none⟩ = some (.int .i64 n0) := (rowc Ea0.out).1 1
         have za02 : w4.cell? ⟨w.heap.size, 2, none⟩ = some (.string s0) := (rowc Ea0.out).1 2
         have za03 : w4.cell? ⟨w.heap.size, 3, none⟩ = some (.int .i64 x0) := (rowc Ea0.out).1 3
         have za04 : w4.cell? ⟨w.heap.size, 4, none⟩ = some (.slice A0 L0 c0) := (rowc Ea0.out).1 4
         have za10 : w4.cell? ⟨w.heap.size + 1, 0, none⟩ = some (.bool yb1) := (rowc Ea1.out).1 0
         have za11 : w4.cell? ⟨w.heap.size + 1, 1, none⟩ = some (.int .i64 yn1) := (rowc Ea1.out).1 1
         have za12 : w4.cell? ⟨w.heap.size + 1, 2, none⟩ = some (.string ys1) := (rowc Ea1.out).1 2
         have za20 : w4.cell? ⟨w.heap.size + 1 + 1, 0, none⟩ = some (.int .i64 k2) := (rowc Ea2.out).1 0
         have za21 : w4.cell? ⟨w.heap.size + 1 + 1, 1, none⟩ = some (.int .i64 n2) := (rowc Ea2.out).1 1
         have za22 : w4.cell? ⟨w.heap.size + 1 + 1, 2, none⟩ = some (.string s2) := (rowc Ea2.out).1 2
         have za23 : w4.cell? ⟨w.heap.size + 1 + 1, 3, none⟩ = some (.int .i64 x2) := (rowc Ea2.out).1 3
         have za24 : w4.cell? ⟨w.heap.size + 1 + 1, 4, none⟩ = some (.slice A2 L2 c2) := (rowc Ea2.out).1 4
         have nza0w4 : w4.heap.size ≠ w.heap.size := by have := (Array.getElem?_eq_some_iff.1 Ea0.out).1; omega
         have nza1w4 : w4.heap.size ≠ w.heap.size + 1 := by have := (Array.getElem?_eq_some_iff.1 Ea1.out).1; omega
         have nza2w4 : w4.heap.size ≠ w.heap.size + 1 + 1 := by have := (Array.getElem?_eq_some_iff.1 Ea2.out).1; omega
         clear hb hbx)
      | (fail_if_success (have tok := HVm2)
         have tok := HVm0
         clear tok
         go_at_call 37; refine (cps T2 hT2.out _ _ _ (HR2.out.below' (by first | with_reducible exact HB.out | with_reducible exact HB.out.trans ((Below.refl _ _).drew) | with_reducible exact HB.out.alloc HB.out.size _ | with_reducible exact (HB.out.trans ((Below.refl _ _).drew)).alloc HB.out.size _ | with_reducible exact (HB.out.alloc HB.out.size _).trans ((Below.refl _ _).drew)))).mono ?_
         rintro e w5 ⟨v, rfl, hv, hb⟩
         have hbx : Below w4.heap.size w4 w5 := by first | exact hb | exact bs ((Below.refl _ _).drew) hb | exact bs (b1 _ _) hb | exact bs (bs ((Below.refl _ _).drew) (b1 _ _)) hb | exact bs (bs (b1 _ _) ((Below.refl _ _).drew)) hb
         first | (have ez := Lib.hid (carry hb (heap_alloc_new w4 (.cells #[.int .i64 0, .int .i64 0, .string ⟨#[]⟩, .int .i64 0, .slice none 0 0] IV)))) | (have ez := Lib.hid (carry hb (heap_alloc_new w4.drew (.cells #[.int .i64 0, .int .i64 0, .string ⟨#[]⟩, .int .i64 0, .slice none 0 0] IV)))) | (replace ez := Lib.hid (carry hbx ez.out)) | skip
         obtain ⟨Am2, cm2, rfl, -, -⟩ := TIn.out (HT2.out ▸ hv)
         have HVm2 := Lib.hid (show TIn w5 _ T2 (vV k2 n2 s2 x2 Am2 L2 cm2) by rw [HL2.out, HT2.out]; exact (HT2.out ▸ hv))
         rw [← HL2.out]
         clear hv
         try clear za00 za01 za02 za03 za04
         try clear za10 za11 za12
         try clear za20 za21 za22 za23 za24
         replace Ea0 := Lib.hid (carry hbx Ea0.out)
         replace Ea1 := Lib.hid (carry hbx Ea1.out)
         replace Ea2 := Lib.hid (carry hbx Ea2.out)
         replace HVm0 := Lib.hid (HVm0.out.below' hbx)
         replace HB := Lib.hid (bs HB.out hbx)
         replace HW := Lib.hid (bs HW.out hbx)
         have hzw5 : w2.heap.size ≤ w5.heap.size := HW.out.size
         have za00 : w5.cell? ⟨w.heap.size, 0, none⟩ = some (.int .i64 k0) := (rowc Ea0.out).1 0
         have za01 : w5.cell? ⟨w.heap.size, 1, none⟩ = some (.int .i64 n0) := (rowc Ea0.out).1 1
         have za02 : w5.cell? ⟨w.heap.size, 2, none⟩ = some (.string s0) := (rowc Ea0.out).1 2
         have za03 : w5.cell? ⟨w.heap.size, 3, none⟩ = some (.int .i64 x0) := (rowc Ea0.out).1 3
         have za04 : w5.cell? ⟨w.heap.size, 4, none⟩ = some (.slice A0 L0 c0) := (rowc Ea0.out).1 4
         have za10 : w5.cell? ⟨w.heap.size + 1, 0, none⟩ = some (.bool yb1) := (rowc Ea1.out).1 0
         have za11 : w5.cell? ⟨w.heap.size + 1, 1, none⟩ = some (.int .i64 yn1) := (rowc Ea1.out).1 1
         have za12 : w5.cell? ⟨w.heap.size + 1, 2, none⟩ = some (.string ys1) := (rowc Ea1.out).1 2
         have za20 : w5.cell? ⟨w.heap.size + 1 + 1, 0, none⟩ = some (.int .i64 k2) := (rowc Ea2.out).1 0
         have za21 : w5.cell? ⟨w.heap.size + 1 + 1, 1, none⟩ = some (.int .i64 n2) := (rowc Ea2.out).1 1
         have za22 : w5.cell? ⟨w.heap.size + 1 + 1, 2, none⟩ = some (.string s2) := (rowc Ea2.out).1 2
         have za23 : w5.cell? ⟨w.heap.size + 1 + 1, 3, none⟩ = some (.int .i64 x2) := (rowc Ea2.out).1 3
         have za24 : w5.cell? ⟨w.heap.size + 1 + 1, 4, none⟩ = some (.slice A2 L2 c2) := (rowc Ea2.out).1 4
         have nza0w5 : w5.heap.size ≠ w.heap.size := by have := (Array.getElem?_eq_some_iff.1 Ea0.out).1; omega
         have nza1w5 : w5.heap.size ≠ w.heap.size + 1 := by have := (Array.getElem?_eq_some_iff.1 Ea1.out).1; omega
         have nza2w5 : w5.heap.size ≠ w.heap.size + 1 + 1 := by have := (Array.getElem?_eq_some_iff.1 Ea2.out).1; omega
         clear hb hbx)
      | (go_at_call 36; refine (HCS.out _ _ _ _ _ (by first | with_reducible exact HVm0.out | with_reducible exact HVm0.out.below' (b1 _ _) | with_reducible exact HVm0.out.below' ((Below.refl _ _).drew) | with_reducible exact HVm0.out.below' (bs ((Below.refl _ _).drew) (b1 _ _)) | with_reducible exact HVm0.out.below' (bs (b1 _ _) ((Below.refl _ _).drew))) (by first | with_reducible exact HVm2.out | with_reducible exact HVm2.out.below' (b1 _ _) | with_reducible exact HVm2.out.below' ((Below.refl _ _).drew) | with_reducible exact HVm2.out.below' (bs ((Below.refl _ _).drew) (b1 _ _)) | with_reducible exact HVm2.out.below' (bs (b1 _ _) ((Below.refl _ _).drew))) (HE.out.stays (by first | with_reducible exact HB.out | with_reducible exact HB.out.trans ((Below.refl _ _).drew) | with_reducible exact HB.out.alloc HB.out.size _ | with_reducible exact (HB.out.trans ((Below.refl _ _).drew)).alloc HB.out.size _ | with_reducible exact (HB.out.alloc HB.out.size _).trans ((Below.refl _ _).drew)))).mono ?_
         rintro e w6 ⟨u, rfl, hv, hb⟩
         have hbx : Below w5.heap.size w5 w6 := by first | exact hb | exact bs ((Below.refl _ _).drew) hb | exact bs (b1 _ _) hb | exact bs (bs ((Below.refl _ _).drew) (b1 _ _)) hb | exact bs (bs (b1 _ _) ((Below.refl _ _).drew)) hb
         first | (have nzw := Lib.hid (Array.getElem?_eq_some_iff.1 ez.out).1; replace ez := Lib.hid (carry hbx ez.out)) | (have ez := Lib.hid (carry hb (heap_alloc_new w5 (.cells #[.int .i64 0, .int .i64 0, .string ⟨#[]⟩, .int .i64 0, .slice none 0 0] IV))); have nzw := Lib.hid (Array.getElem?_eq_some_iff.1 (heap_alloc_new w5 (.cells #[.int .i64 0, .int .i64 0, .string ⟨#[]⟩, .int .i64 0, .slice none 0 0] IV))).1) | (have ez := Lib.hid (carry hb (heap_alloc_new w5.drew (.cells #[.int .i64 0, .int .i64 0, .string ⟨#[]⟩, .int .i64 0, .slice none 0 0] IV)))) | skip
         obtain ⟨Am, cm, rfl, -, -⟩ := TIn.out (HRT.out ▸ hv)
         have HMM := Lib.hid (show TIn w6 _ RT (vV K N Z X Am RL cm) by rw [HRL.out, HRT.out]; exact (HRT.out ▸ hv))
         rw [← HRL.out]
         clear hv
         try clear za00 za01 za02 za03 za04
         try clear za10 za11 za12
         try clear za20 za21 za22 za23 za24
         replace Ea0 := Lib.hid (carry hbx Ea0.out)
         replace Ea1 := Lib.hid (carry hbx Ea1.out)
         replace Ea2 := Lib.hid (carry hbx Ea2.out)
         replace HVm0 := Lib.hid (HVm0.out.below' hbx)
         replace HVm2 := Lib.hid (HVm2.out.below' hbx)
         replace HB := Lib.hid (bs HB.out hbx)
         replace HW := Lib.hid (bs HW.out hbx)
         have hzw6 : w2.heap.size ≤ w6.heap.size := HW.out.size
         have za00 : w6.cell? ⟨w.heap.size, 0, none⟩ = some (.int .i64 k0) := (rowc Ea0.out).1 0
         have za01 : w6.cell? ⟨w.heap.size, 1, none⟩ = some (.int .i64 n0) := (rowc Ea0.out).1 1
         have za02 : w6.cell? ⟨w.heap.size, 2, none⟩ = some (.string s0) := (rowc Ea0.out).1 2
         have za03 : w6.cell? ⟨w.heap.size, 3, none⟩ = some (.int .i64 x0) := (rowc Ea0.out).1 3
         have za04 : w6.cell? ⟨w.heap.size, 4, none⟩ = some (.slice A0 L0 c0) := (rowc Ea0.out).1 4
         have za10 : w6.cell? ⟨w.heap.size + 1, 0, none⟩ = some (.bool yb1) := (rowc Ea1.out).1 0
         have za11 : w6.cell? ⟨w.heap.size + 1, 1, none⟩ = some (.int .i64 yn1) := (rowc Ea1.out).1 1
         have za12 : w6.cell? ⟨w.heap.size + 1, 2, none⟩ = some (.string ys1) := (rowc Ea1.out).1 2
         have za20 : w6.cell? ⟨w.heap.size + 1 + 1, 0, none⟩ = some (.int .i64 k2) := (rowc Ea2.out).1 0
         have za21 : w6.cell? ⟨w.heap.size + 1 + 1, 1, none⟩ = some (.int .i64 n2) := (rowc Ea2.out).1 1
         have za22 : w6.cell? ⟨w.heap.size + 1 + 1, 2, none⟩ = some (.string s2) := (rowc Ea2.out).1 2
         have za23 : w6.cell? ⟨w.heap.size + 1 + 1, 3, none⟩ = some (.int .i64 x2) := (rowc Ea2.out).1 3
         have za24 : w6.cell? ⟨w.heap.size + 1 + 1, 4, none⟩ = some (.slice A2 L2 c2) := (rowc Ea2.out).1 4
         have nza0w6 : w6.heap.size ≠ w.heap.size := by have := (Array.getElem?_eq_some_iff.1 Ea0.out).1; omega
         have nza1w6 : w6.heap.size ≠ w.heap.size + 1 := by have := (Array.getElem?_eq_some_iff.1 Ea1.out).1; omega
         have nza2w6 : w6.heap.size ≠ w.heap.size + 1 + 1 := by have := (Array.getElem?_eq_some_iff.1 Ea2.out).1; omega
         clear hb hbx
         first | (have zr := (rowc ez.out).1; have zf := (rowc ez.out).2) | skip))
    all_goals
      go_wp2_with (fail)
      go_meet
      first
      | with_reducible exact cutM_box HW.out HMM.out
      | exact cutM_early HW.out (by first | exact Nat.le_refl _ | assumption) ez.out HMM.out (fun q hq e => by subst e; exact absurd nzw.out (Nat.not_lt.2 hq)) rfl
  obtain ⟨Nm, Am, cm, hp, hf, hbx, hNm, en, hv⟩ := hcut
  subst hp hf
  obtain ⟨w7, hwc⟩ : ∃ q, q = wc := ⟨wc, rfl⟩
  subst hwc
  try clear za00 za01 za02 za03 za04
  try clear za10 za11 za12
  try clear za20 za21 za22 za23 za24
  replace Ea0 := Lib.hid (carry hbx Ea0.out)
  replace Ea1 := Lib.hid (carry hbx Ea1.out)
  replace Ea2 := Lib.hid (carry hbx Ea2.out)
  replace HB := Lib.hid (bs HB.out hbx)
  have Em := Lib.hid en
  clear en
  have HM := Lib.hid hv.lt'
  clear hv hbx hNm
  have za00 : w7.cell? ⟨w.heap.size, 0, none⟩ = some (.int .i64 k0) := (rowc Ea0.out).1 0
  have za01 : w7.cell? ⟨w.heap.size, 1, none⟩ = some (.int .i64 n0) := (rowc Ea0.out).1 1
  have za02 : w7.cell? ⟨w.heap.size, 2, none⟩ = some (.string s0) := (rowc Ea0.out).1 2
  have za03 : w7.cell? ⟨w.heap.size, 3, none⟩ = some (.int .i64 x0) := (rowc Ea0.out).1 3
  have za04 : w7.cell? ⟨w.heap.size, 4, none⟩ = some (.slice A0 L0 c0) := (rowc Ea0.out).1 4
  go_wp2_with (fail)
  obtain ⟨lo0, hlo0⟩ : ∃ N, N = w7.heap.size := ⟨_, rfl⟩
  rw [← hlo0] at HM
  have HPa : Hid (w.heap.size + 1 + 1 < lo0) := Lib.hid (by rw [hlo0]; exact (Array.getElem?_eq_some_iff.1 Ea2.out).1)
  have HP0 : Hid (Nm < lo0) := Lib.hid (by rw [hlo0]; exact (Array.getElem?_eq_some_iff.1 Em.out).1)
  refine (cps T0 hT0.out _ _ _ (HR0.out.below' HB.out)).mono ?_
  rintro e w8 ⟨v, rfl, hv, hb⟩
  have hbx := hb
  obtain ⟨Ax0, cx0, rfl, -, -⟩ := TIn.out (HT0.out ▸ hv)
  have hx := (show TIn w8 (Nw lo0 w8) T0 (vV k0 n0 s0 x0 Ax0 L0 cx0) by rw [HL0.out, HT0.out, hlo0]; exact (HT0.out ▸ hv))
  rw [← HL0.out]
  clear hv
  replace Ea0 := Lib.hid (carry hbx Ea0.out)
  replace Ea1 := Lib.hid (carry hbx Ea1.out)
  replace Ea2 := Lib.hid (carry hbx Ea2.out)
  replace Em := Lib.hid (carry hbx Em.out)
  replace HM := Lib.hid (HM.out.below' hbx)
  replace HB := Lib.hid (bs HB.out hbx)
  have HX0 := Lib.hid hx.rgp
  have hsz := hb.size
  rw [← hlo0] at hsz
  clear hb hbx hx
  try clear za00 za01 za02 za03 za04
  have zn : ∀ o j, (w8.alloc o).cell? ⟨w.heap.size + 1 + 1, j, none⟩ = _ := fun o j => (rowc (keepAlloc Ea2.out)).1 j
  go_wp2_with (fail)
  clear zn
  obtain ⟨Nb0, hNb0⟩ : ∃ N, N = w8.heap.size := ⟨_, rfl⟩
  generalize hwn : w8.alloc (.cells #[.int .i64 k0, .int .i64 n0, .string s0, .int .i64 x0, .slice Ax0 L0 cx0] IV) = w9
  have en : w9.heap[Nb0]? = some (.cells #[.int .i64 k0, .int .i64 n0, .string s0, .int .i64 x0, .slice Ax0 L0 cx0] IV (0, 0)) := by rw [← hwn, hNb0]; exact heap_alloc_new _ _
  have hbx : Below w8.heap.size w8 w9 := hwn ▸ b1 _ _
  rw [← hNb0]
  have HNb0 := Lib.hid hNb0
  replace Ea0 := Lib.hid (carry hbx Ea0.out)
  replace Ea1 := Lib.hid (carry hbx Ea1.out)
  replace Ea2 := Lib.hid (carry hbx Ea2.out)
  replace Em := Lib.hid (carry hbx Em.out)
  replace HM := Lib.hid (HM.out.below' hbx)
  replace HB := Lib.hid (bs HB.out hbx)
  replace HX0 := Lib.hid (HX0.out.rgb hbx)
  have Eb0 := Lib.hid en
  clear en hbx hwn hNb0
  rw [← HNb0.out] at HX0 hsz
  have HQ0' : Hid (lo0 ≤ Nb0) := Lib.hid hsz
  clear hsz hlo0
  obtain ⟨lo2, hlo2⟩ : ∃ N, N = w9.heap.size := ⟨_, rfl⟩
  have HP2 : Hid (Nb0 < lo2) := Lib.hid (by rw [hlo2]; exact (Array.getElem?_eq_some_iff.1 Eb0.out).1)
  refine (cps T2 hT2.out _ _ _ (HR2.out.below' HB.out)).mono ?_
  rintro e w10 ⟨v, rfl, hv, hb⟩
  have hbx := hb
  obtain ⟨Ax2, cx2, rfl, -, -⟩ := TIn.out (HT2.out ▸ hv)
  have hx := (show TIn w10 (Nw lo2 w10) T2 (vV k2 n2 s2 x2 Ax2 L2 cx2) by rw [HL2.out, HT2.out, hlo2]; exact (HT2.out ▸ hv))
  rw [← HL2.out]
  clear hv
  replace Ea0 := Lib.hid (carry hbx Ea0.out)
  replace Ea1 := Lib.hid (carry hbx Ea1.out)
  replace Ea2 := Lib.hid (carry hbx Ea2.out)
  replace Em := Lib.hid (carry hbx Em.out)
  replace Eb0 := Lib.hid (carry hbx Eb0.out)
  replace HM := Lib.hid (HM.out.below' hbx)
  replace HB := Lib.hid (bs HB.out hbx)
  replace HX0 := Lib.hid (HX0.out.rgb hbx)
  have HX2 := Lib.hid hx.rgp
  have hsz := hb.size
  rw [← hlo2] at hsz
  clear hb hbx hx
  try clear za20 za21 za22 za23 za24
  go_wp2_with (fail)
  obtain ⟨Nb2, hNb2⟩ : ∃ N, N = w10.heap.size := ⟨_, rfl⟩
  generalize hwn : w10.alloc (.cells #[.int .i64 k2, .int .i64 n2, .string s2, .int .i64 x2, .slice Ax2 L2 cx2] IV) = w11
  have en : w11.heap[Nb2]? = some (.cells #[.int .i64 k2, .int .i64 n2, .string s2, .int .i64 x2, .slice Ax2 L2 cx2] IV (0, 0)) := by rw [← hwn, hNb2]; exact heap_alloc_new _ _
  have hbx : Below w10.heap.size w10 w11 := hwn ▸ b1 _ _
  rw [← hNb2]
  have HNb2 := Lib.hid hNb2
  replace Ea0 := Lib.hid (carry hbx Ea0.out)
  replace Ea1 := Lib.hid (carry hbx Ea1.out)
  replace Ea2 := Lib.hid (carry hbx Ea2.out)
  replace Em := Lib.hid (carry hbx Em.out)
  replace Eb0 := Lib.hid (carry hbx Eb0.out)
  replace HM := Lib.hid (HM.out.below' hbx)
  replace HB := Lib.hid (bs HB.out hbx)
  replace HX0 := Lib.hid (HX0.out.rgb hbx)
  replace HX2 := Lib.hid (HX2.out.rgb hbx)
  have Eb2 := Lib.hid en
  clear en hbx hwn hNb2
  rw [← HNb2.out] at HX2 hsz
  have HQ2' : Hid (lo2 ≤ Nb2) := Lib.hid hsz
  clear hsz hlo2
  have HPg : Hid (Nb2 < w11.heap.size) := Lib.hid (Array.getElem?_eq_some_iff.1 Eb2.out).1
  have zb00 : w11.cell? ⟨Nb0, 0, none⟩ = some (.int .i64 k0) := (rowc Eb0.out).1 0
  have zb01 : w11.cell? ⟨Nb0, 1, none⟩ = some (.int .i64 n0) := (rowc Eb0.out).1 1
  have zb02 : w11.cell? ⟨Nb0, 2, none⟩ = some (.string s0) := (rowc Eb0.out).1 2
  have zb03 : w11.cell? ⟨Nb0, 3, none⟩ = some (.int .i64 x0) := (rowc Eb0.out).1 3
  have zb04 : w11.cell? ⟨Nb0, 4, none⟩ = some (.slice Ax0 L0 cx0) := (rowc Eb0.out).1 4
  have za10 : w11.cell? ⟨w.heap.size + 1, 0, none⟩ = some (.bool yb1) := (rowc Ea1.out).1 0
  have za11 : w11.cell? ⟨w.heap.size + 1, 1, none⟩ = some (.int .i64 yn1) := (rowc Ea1.out).1 1
  have za12 : w11.cell? ⟨w.heap.size + 1, 2, none⟩ = some (.string ys1) := (rowc Ea1.out).1 2
  have zb20 : w11.cell? ⟨Nb2, 0, none⟩ = some (.int .i64 k2) := (rowc Eb2.out).1 0
  have zb21 : w11.cell? ⟨Nb2, 1, none⟩ = some (.int .i64 n2) := (rowc Eb2.out).1 1
  have zb22 : w11.cell? ⟨Nb2, 2, none⟩ = some (.string s2) := (rowc Eb2.out).1 2
  have zb23 : w11.cell? ⟨Nb2, 3, none⟩ = some (.int .i64 x2) := (rowc Eb2.out).1 3
  have zb24 : w11.cell? ⟨Nb2, 4, none⟩ = some (.slice Ax2 L2 cx2) := (rowc Eb2.out).1 4
  go_wp2_with (fail)
  go_cut [12, 13] (fun p f wx => CutP w11 bb K N Z X RL RT p f wx)
  case first =>
    have HW : Hid (Below w11.heap.size w11 w11) := Lib.hid (Below.refl _ _)
    have hzw11 : w11.heap.size ≤ w11.heap.size := Nat.le_refl _
    have nzb0w11 : w11.heap.size ≠ Nb0 := by have := (Array.getElem?_eq_some_iff.1 Eb0.out).1; omega
    have nza1w11 : w11.heap.size ≠ w.heap.size + 1 := by have := (Array.getElem?_eq_some_iff.1 Ea1.out).1; omega
    have nzb2w11 : w11.heap.size ≠ Nb2 := by have := (Array.getElem?_eq_some_iff.1 Eb2.out).1; omega
    go_region_held3 (fun w' => w'.cell? ⟨Nb0, 0, none⟩ = some (.int .i64 k0) ∧ w'.cell? ⟨Nb0, 1, none⟩ = some (.int .i64 n0) ∧ w'.cell? ⟨Nb0, 2, none⟩ = some (.string s0) ∧ w'.cell? ⟨Nb0, 3, none⟩ = some (.int .i64 x0) ∧ w'.cell? ⟨Nb0, 4, none⟩ = some (.slice Ax0 L0 cx0) ∧ w'.cell? ⟨w.heap.size + 1, 0, none⟩ = some (.bool yb1) ∧ w'.cell? ⟨w.heap.size + 1, 1, none⟩ = some (.int .i64 yn1) ∧ w'.cell? ⟨w.heap.size + 1, 2, none⟩ = some (.string ys1) ∧ w'.cell? ⟨Nb2, 0, none⟩ = some (.int .i64 k2) ∧ w'.cell? ⟨Nb2, 1, none⟩ = some (.int .i64 n2) ∧ w'.cell? ⟨Nb2, 2, none⟩ = some (.string s2) ∧ w'.cell? ⟨Nb2, 3, none⟩ = some (.int .i64 x2) ∧ w'.cell? ⟨Nb2, 4, none⟩ = some (.slice Ax2 L2 cx2)) (first | with_reducible exact ⟨zb00, zb01, zb02, zb03, zb04, za10, za11, za12, zb20, zb21, zb22, zb23, zb24⟩ | with_reducible exact ⟨drc (alc zb00), drc (alc zb01), drc (alc zb02), drc (alc zb03), drc (alc zb04), drc (alc za10), drc (alc za11), drc (alc za12), drc (alc zb20), drc (alc zb21), drc (alc zb22), drc (alc zb23), drc (alc zb24)⟩ | with_reducible exact ⟨drc zb00, drc zb01, drc zb02, drc zb03, drc zb04, drc za10, drc za11, drc za12, drc zb20, drc zb21, drc zb22, drc zb23, drc zb24⟩ | with_reducible exact ⟨alc zb00, alc zb01, alc zb02, alc zb03, alc zb04, alc za10, alc za11, alc za12, alc zb20, alc zb21, alc zb22, alc zb23, alc zb24⟩ | with_reducible exact ⟨alc (drc zb00), alc (drc zb01), alc (drc zb02), alc (drc zb03), alc (drc zb04), alc (drc za10), alc (drc za11), alc (drc za12), alc (drc zb20), alc (drc zb21), alc (drc zb22), alc (drc zb23), alc (drc zb24)⟩ | with_reducible exact ⟨st5 zb00 (by assumption), st5 zb01 (by assumption), st5 zb02 (by assumption), st5 zb03 (by assumption), st5 zb04 (by assumption), st5 za10 (by assumption), st5 za11 (by assumption), st5 za12 (by assumption), st5 zb20 (by assumption), st5 zb21 (by assumption), st5 zb22 (by assumption), st5 zb23 (by assumption), st5 zb24 (by assumption)⟩ | with_reducible exact ⟨st5 (alc zb00) (by assumption), st5 (alc zb01) (by assumption), st5 (alc zb02) (by assumption), st5 (alc zb03) (by assumption), st5 (alc zb04) (by assumption), st5 (alc za10) (by assumption), st5 (alc za11) (by assumption), st5 (alc za12) (by assumption), st5 (alc zb20) (by assumption), st5 (alc zb21) (by assumption), st5 (alc zb22) (by assumption), st5 (alc zb23) (by assumption), st5 (alc zb24) (by assumption)⟩ | go_keep)
      (first
      | (go_at_call 38; refine (HTK.out _).mono ?_
         rintro e w12 ⟨rfl, hb⟩
         have hbx : Below w11.heap.size w11 w12 := by first | exact hb | exact bs ((Below.refl _ _).drew) hb | exact bs (b1 _ _) hb | exact bs (bs ((Below.refl _ _).drew) (b1 _ _)) hb | exact bs (bs (b1 _ _) ((Below.refl _ _).drew)) hb
         first | (have ez := Lib.hid (carry hb (heap_alloc_new w11 (.cells #[.int .i64 0, .int .i64 0, .string ⟨#[]⟩, .int .i64 0, .slice none 0 0] IV)))) | (have ez := Lib.hid (carry hb (heap_alloc_new w11.drew (.cells #[.int .i64 0, .int .i64 0, .string ⟨#[]⟩, .int .i64 0, .slice none 0 0] IV)))) | (replace ez := Lib.hid (carry hbx ez.out)) | skip
         
         try clear zb00 zb01 zb02 zb03 zb04
         try clear za10 za11 za12
         try clear zb20 zb21 zb22 zb23 zb24
         replace Ea0 := Lib.hid (carry hbx Ea0.out)
         replace Ea1 := Lib.hid (carry hbx Ea1.out)
         replace Ea2 := Lib.hid (carry hbx Ea2.out)
         replace Em := Lib.hid (carry hbx Em.out)
         replace Eb0 := Lib.hid (carry hbx Eb0.out)
         replace Eb2 := Lib.hid (carry hbx Eb2.out)
         replace HM := Lib.hid (HM.out.below' hbx)
         replace HB := Lib.hid (bs HB.out hbx)
         replace HX0 := Lib.hid (HX0.out.rgb hbx)
         replace HX2 := Lib.hid (HX2.out.rgb hbx)
         replace HW := Lib.hid (bs HW.out hbx)
         have hzw12 : w11.heap.size ≤ w12.heap.size := HW.out.size
         have zb00 : w12.cell? ⟨Nb0, 0, none⟩ = some (.int .i64 k0) := (rowc Eb0.out).1 0
         have zb01 : w12.cell? ⟨Nb0, 1, none⟩ = some (.int .i64 n0) := (rowc Eb0.out).1 1
         have zb02 : w12.cell? ⟨Nb0, 2, none⟩ = some (.string s0) := (rowc Eb0.out).1 2
         have zb03 : w12.cell? ⟨Nb0, 3, none⟩ = some (.int .i64 x0) := (rowc Eb0.out).1 3
         have zb04 : w12.cell? ⟨Nb0, 4, none⟩ = some (.slice Ax0 L0 cx0) := (rowc Eb0.out).1 4
         have za10 : w12.cell? ⟨w.heap.size + 1, 0, none⟩ = some (.bool yb1) := (rowc Ea1.out).1 0
         have za11 : w12.cell? ⟨w.heap.size + 1, 1, none⟩ = some (.int .i64 yn1) := (rowc Ea1.out).1 1
         have za12 : w12.cell? ⟨w.heap.size + 1, 2, none⟩ = some (.string ys1) := (rowc Ea1.out).1 2
         have zb20 : w12.cell? ⟨Nb2, 0, none⟩ = some (.int .i64 k2) := (rowc Eb2.out).1 0
         have zb21 : w12.cell? ⟨Nb2, 1, none⟩ = some (.int .i64 n2) := (rowc Eb2.out).1 1
         have zb22 : w12.cell? ⟨Nb2, 2, none⟩ = some (.string s2) := (rowc Eb2.out).1 2
         have zb23 : w12.cell? ⟨Nb2, 3, none⟩ = some (.int .i64 x2) := (rowc Eb2.out).1 3
         have zb24 : w12.cell? ⟨Nb2, 4, none⟩ = some (.slice Ax2 L2 cx2) := (rowc Eb2.out).1 4
         have nzb0w12 : w12.heap.size ≠ Nb0 := by have := (Array.getElem?_eq_some_iff.1 Eb0.out).1; omega
         have nza1w12 : w12.heap.size ≠ w.heap.size + 1 := by have := (Array.getElem?_eq_some_iff.1 Ea1.out).1; omega
         have nzb2w12 : w12.heap.size ≠ Nb2 := by have := (Array.getElem?_eq_some_iff.1 Eb2.out).1; omega
         clear hb hbx)
      | (go_at_call 17; refine (HCI.out _ _ _ (by first | with_reducible exact HX0.out.rgn | with_reducible exact (HX0.out.rgb (b1 _ _)).rgn | with_reducible exact (HX0.out.rgb ((Below.refl _ _).drew)).rgn | with_reducible exact (HX0.out.rgb (bs ((Below.refl _ _).drew) (b1 _ _))).rgn | with_reducible exact (HX0.out.rgb (bs (b1 _ _) ((Below.refl _ _).drew))).rgn) (by first | with_reducible exact HX2.out.rgn | with_reducible exact (HX2.out.rgb (b1 _ _)).rgn | with_reducible exact (HX2.out.rgb ((Below.refl _ _).drew)).rgn | with_reducible exact (HX2.out.rgb (bs ((Below.refl _ _).drew) (b1 _ _))).rgn | with_reducible exact (HX2.out.rgb (bs (b1 _ _) ((Below.refl _ _).drew))).rgn) (HE.out.stays (by first | with_reducible exact HB.out | with_reducible exact HB.out.trans ((Below.refl _ _).drew) | with_reducible exact HB.out.alloc HB.out.size _ | with_reducible exact (HB.out.trans ((Below.refl _ _).drew)).alloc HB.out.size _ | with_reducible exact (HB.out.alloc HB.out.size _).trans ((Below.refl _ _).drew)))).mono ?_
         rintro e w13 ⟨u, par, r, rfl, hv, hr, hb⟩
         have hbx : Below w12.heap.size w12 w13 := by first | exact hb | exact bs ((Below.refl _ _).drew) hb | exact bs (b1 _ _) hb | exact bs (bs ((Below.refl _ _).drew) (b1 _ _)) hb | exact bs (bs (b1 _ _) ((Below.refl _ _).drew)) hb
         first | (have nzw := Lib.hid (Array.getElem?_eq_some_iff.1 ez.out).1; replace ez := Lib.hid (carry hbx ez.out)) | (have ez := Lib.hid (carry hb (heap_alloc_new w12 (.cells #[.int .i64 0, .int .i64 0, .string ⟨#[]⟩, .int .i64 0, .slice none 0 0] IV))); have nzw := Lib.hid (Array.getElem?_eq_some_iff.1 (heap_alloc_new w12 (.cells #[.int .i64 0, .int .i64 0, .string ⟨#[]⟩, .int .i64 0, .slice none 0 0] IV))).1) | (have ez := Lib.hid (carry hb (heap_alloc_new w12.drew (.cells #[.int .i64 0, .int .i64 0, .string ⟨#[]⟩, .int .i64 0, .slice none 0 0] IV)))) | skip
         obtain ⟨Ag, cg, rfl, -⟩ := TPar.out (HRT.out ▸ hv)
         have HGG := Lib.hid (show TPar w13 par (r, 0) RT (vV K N Z X Ag RL cg) by rw [HRL.out, HRT.out]; exact (HRT.out ▸ hv))
         have HRQ := Lib.hid hr
         rw [← HRL.out]
         clear hv hr
         try clear zb00 zb01 zb02 zb03 zb04
         try clear za10 za11 za12
         try clear zb20 zb21 zb22 zb23 zb24
         replace Ea0 := Lib.hid (carry hbx Ea0.out)
         replace Ea1 := Lib.hid (carry hbx Ea1.out)
         replace Ea2 := Lib.hid (carry hbx Ea2.out)
         replace Em := Lib.hid (carry hbx Em.out)
         replace Eb0 := Lib.hid (carry hbx Eb0.out)
         replace Eb2 := Lib.hid (carry hbx Eb2.out)
         replace HM := Lib.hid (HM.out.below' hbx)
         replace HB := Lib.hid (bs HB.out hbx)
         replace HX0 := Lib.hid (HX0.out.rgb hbx)
         replace HX2 := Lib.hid (HX2.out.rgb hbx)
         replace HW := Lib.hid (bs HW.out hbx)
         have hzw13 : w11.heap.size ≤ w13.heap.size := HW.out.size
         have zb00 : w13.cell? ⟨Nb0, 0, none⟩ = some (.int .i64 k0) := (rowc Eb0.out).1 0
         have zb01 : w13.cell? ⟨Nb0, 1, none⟩ = some (.int .i64 n0) := (rowc Eb0.out).1 1
         have zb02 : w13.cell? ⟨Nb0, 2, none⟩ = some (.string s0) := (rowc Eb0.out).1 2
         have zb03 : w13.cell? ⟨Nb0, 3, none⟩ = some (.int .i64 x0) := (rowc Eb0.out).1 3
         have zb04 : w13.cell? ⟨Nb0, 4, none⟩ = some (.slice Ax0 L0 cx0) := (rowc Eb0.out).1 4
         have za10 : w13.cell? ⟨w.heap.size + 1, 0, none⟩ = some (.bool yb1) := (rowc Ea1.out).1 0
         have za11 : w13.cell? ⟨w.heap.size + 1, 1, none⟩ = some (.int .i64 yn1) := (rowc Ea1.out).1 1
         have za12 : w13.cell? ⟨w.heap.size + 1, 2, none⟩ = some (.string ys1) := (rowc Ea1.out).1 2
         have zb20 : w13.cell? ⟨Nb2, 0, none⟩ = some (.int .i64 k2) := (rowc Eb2.out).1 0
         have zb21 : w13.cell? ⟨Nb2, 1, none⟩ = some (.int .i64 n2) := (rowc Eb2.out).1 1
         have zb22 : w13.cell? ⟨Nb2, 2, none⟩ = some (.string s2) := (rowc Eb2.out).1 2
         have zb23 : w13.cell? ⟨Nb2, 3, none⟩ = some (.int .i64 x2) := (rowc Eb2.out).1 3
         have zb24 : w13.cell? ⟨Nb2, 4, none⟩ = some (.slice Ax2 L2 cx2) := (rowc Eb2.out).1 4
         have nzb0w13 : w13.heap.size ≠ Nb0 := by have := (Array.getElem?_eq_some_iff.1 Eb0.out).1; omega
         have nza1w13 : w13.heap.size ≠ w.heap.size + 1 := by have := (Array.getElem?_eq_some_iff.1 Ea1.out).1; omega
         have nzb2w13 : w13.heap.size ≠ Nb2 := by have := (Array.getElem?_eq_some_iff.1 Eb2.out).1; omega
         clear hb hbx
         first | (have zr := (rowc ez.out).1; have zf := (rowc ez.out).2) | skip))
    all_goals
      go_wp2_with (fail)
      go_meet
      first
      | with_reducible exact cutP_box HW.out HGG.out (Nat.le_trans (by first | exact Nat.le_refl _ | assumption | (simp; omega)) HRQ.out)
      | exact cutP_early HW.out (by first | exact Nat.le_refl _ | assumption) ez.out HGG.out (Nat.le_of_lt (Nat.lt_of_lt_of_le nzw.out HRQ.out)) rfl
  obtain ⟨Ng, Ag, cg, pg, rg, hp, hf, hbx, hNg, en, hv, hrg, hig, htg, hhg, hdg⟩ := hcut
  subst hp hf
  obtain ⟨w14, hwc⟩ : ∃ q, q = wc := ⟨wc, rfl⟩
  subst hwc
  try clear zb00 zb01 zb02 zb03 zb04
  try clear za10 za11 za12
  try clear zb20 zb21 zb22 zb23 zb24
  replace Ea0 := Lib.hid (carry hbx Ea0.out)
  replace Ea1 := Lib.hid (carry hbx Ea1.out)
  replace Ea2 := Lib.hid (carry hbx Ea2.out)
  replace Em := Lib.hid (carry hbx Em.out)
  replace Eb0 := Lib.hid (carry hbx Eb0.out)
  replace Eb2 := Lib.hid (carry hbx Eb2.out)
  replace HM := Lib.hid (HM.out.below' hbx)
  replace HB := Lib.hid (bs HB.out hbx)
  replace HX0 := Lib.hid (HX0.out.rgb hbx)
  replace HX2 := Lib.hid (HX2.out.rgb hbx)
  have Eg := Lib.hid en
  clear en
  have HG := Lib.hid hv
  have HTG := Lib.hid htg
  have HHG := Lib.hid hdg
  have HRR : Hid (Nb2 < rg) := Lib.hid (Nat.lt_of_lt_of_le HPg.out hrg)
  have HNG : Hid (Nb2 < Ng) := Lib.hid (Nat.lt_of_lt_of_le HPg.out hNg)
  clear hv htg hhg hdg hrg hNg hbx HPg
  have zg0 : w14.cell? ⟨Ng, 0, none⟩ = some (.int .i64 K) := (rowc Eg.out).1 0
  have zg1 : w14.cell? ⟨Ng, 1, none⟩ = some (.int .i64 N) := (rowc Eg.out).1 1
  have zg2 : w14.cell? ⟨Ng, 2, none⟩ = some (.string Z) := (rowc Eg.out).1 2
  have zg3 : w14.cell? ⟨Ng, 3, none⟩ = some (.int .i64 X) := (rowc Eg.out).1 3
  have zg4 : w14.cell? ⟨Ng, 4, none⟩ = some (.slice Ag RL cg) := (rowc Eg.out).1 4
  have zm0 : w14.cell? ⟨Nm, 0, none⟩ = some (.int .i64 K) := (rowc Em.out).1 0
  have zm1 : w14.cell? ⟨Nm, 1, none⟩ = some (.int .i64 N) := (rowc Em.out).1 1
  have zm2 : w14.cell? ⟨Nm, 2, none⟩ = some (.string Z) := (rowc Em.out).1 2
  have zm3 : w14.cell? ⟨Nm, 3, none⟩ = some (.int .i64 X) := (rowc Em.out).1 3
  have zm4 : w14.cell? ⟨Nm, 4, none⟩ = some (.slice Am RL cm) := (rowc Em.out).1 4
  go_wp2_with (fail)
  refine (eqV RT _ _ _ _ _ HG.out.tin HM.out).mono ?_
  rintro e w15 ⟨rfl, hb⟩
  have hbx := hb
  replace Ea0 := Lib.hid (carry hbx Ea0.out)
  replace Ea1 := Lib.hid (carry hbx Ea1.out)
  replace Ea2 := Lib.hid (carry hbx Ea2.out)
  replace Em := Lib.hid (carry hbx Em.out)
  replace Eb0 := Lib.hid (carry hbx Eb0.out)
  replace Eb2 := Lib.hid (carry hbx Eb2.out)
  replace Eg := Lib.hid (carry hbx Eg.out)
  replace HM := Lib.hid (HM.out.below' hbx)
  replace HG := Lib.hid (HG.out.above fun q _ hl => Below.block hbx q hl)
  replace HB := Lib.hid (bs HB.out hbx)
  replace HX0 := Lib.hid (HX0.out.rgb hbx)
  replace HX2 := Lib.hid (HX2.out.rgb hbx)
  clear hb hbx
  try clear zg0 zg1 zg2 zg3 zg4
  try clear zm0 zm1 zm2 zm3 zm4
  have zb00 : w15.cell? ⟨Nb0, 0, none⟩ = some (.int .i64 k0) := (rowc Eb0.out).1 0
  have zb01 : w15.cell? ⟨Nb0, 1, none⟩ = some (.int .i64 n0) := (rowc Eb0.out).1 1
  have zb02 : w15.cell? ⟨Nb0, 2, none⟩ = some (.string s0) := (rowc Eb0.out).1 2
  have zb03 : w15.cell? ⟨Nb0, 3, none⟩ = some (.int .i64 x0) := (rowc Eb0.out).1 3
  have zb04 : w15.cell? ⟨Nb0, 4, none⟩ = some (.slice Ax0 L0 cx0) := (rowc Eb0.out).1 4
  have za00 : w15.cell? ⟨w.heap.size, 0, none⟩ = some (.int .i64 k0) := (rowc Ea0.out).1 0
  have za01 : w15.cell? ⟨w.heap.size, 1, none⟩ = some (.int .i64 n0) := (rowc Ea0.out).1 1
  have za02 : w15.cell? ⟨w.heap.size, 2, none⟩ = some (.string s0) := (rowc Ea0.out).1 2
  have za03 : w15.cell? ⟨w.heap.size, 3, none⟩ = some (.int .i64 x0) := (rowc Ea0.out).1 3
  have za04 : w15.cell? ⟨w.heap.size, 4, none⟩ = some (.slice A0 L0 c0) := (rowc Ea0.out).1 4
  go_wp2_with (fail)
  go_region_held3 (fun w' => w'.cell? ⟨Nb0, 0, none⟩ = some (.int .i64 k0) ∧ w'.cell? ⟨Nb0, 1, none⟩ = some (.int .i64 n0) ∧ w'.cell? ⟨Nb0, 2, none⟩ = some (.string s0) ∧ w'.cell? ⟨Nb0, 3, none⟩ = some (.int .i64 x0) ∧ w'.cell? ⟨Nb0, 4, none⟩ = some (.slice Ax0 L0 cx0) ∧ w'.cell? ⟨w.heap.size, 0, none⟩ = some (.int .i64 k0) ∧ w'.cell? ⟨w.heap.size, 1, none⟩ = some (.int .i64 n0) ∧ w'.cell? ⟨w.heap.size, 2, none⟩ = some (.string s0) ∧ w'.cell? ⟨w.heap.size, 3, none⟩ = some (.int .i64 x0) ∧ w'.cell? ⟨w.heap.size, 4, none⟩ = some (.slice A0 L0 c0)) (first | with_reducible exact ⟨zb00, zb01, zb02, zb03, zb04, za00, za01, za02, za03, za04⟩ | with_reducible exact ⟨drc (alc zb00), drc (alc zb01), drc (alc zb02), drc (alc zb03), drc (alc zb04), drc (alc za00), drc (alc za01), drc (alc za02), drc (alc za03), drc (alc za04)⟩ | with_reducible exact ⟨drc zb00, drc zb01, drc zb02, drc zb03, drc zb04, drc za00, drc za01, drc za02, drc za03, drc za04⟩ | with_reducible exact ⟨alc zb00, alc zb01, alc zb02, alc zb03, alc zb04, alc za00, alc za01, alc za02, alc za03, alc za04⟩ | with_reducible exact ⟨alc (drc zb00), alc (drc zb01), alc (drc zb02), alc (drc zb03), alc (drc zb04), alc (drc za00), alc (drc za01), alc (drc za02), alc (drc za03), alc (drc za04)⟩ | with_reducible exact ⟨st5 zb00 (by assumption), st5 zb01 (by assumption), st5 zb02 (by assumption), st5 zb03 (by assumption), st5 zb04 (by assumption), st5 za00 (by assumption), st5 za01 (by assumption), st5 za02 (by assumption), st5 za03 (by assumption), st5 za04 (by assumption)⟩ | with_reducible exact ⟨st5 (alc zb00) (by assumption), st5 (alc zb01) (by assumption), st5 (alc zb02) (by assumption), st5 (alc zb03) (by assumption), st5 (alc zb04) (by assumption), st5 (alc za00) (by assumption), st5 (alc za01) (by assumption), st5 (alc za02) (by assumption), st5 (alc za03) (by assumption), st5 (alc za04) (by assumption)⟩ | go_keep)
    (first
    | (go_at_call 37; refine (cps T0 hT0.out _ _ _ (HR0.out.below' (HB.out.trans ((Below.refl _ _).drew)))).mono ?_
       rintro e w16 ⟨v, rfl, hv, hb⟩
       have hbx := (bs ((Below.refl w15.heap.size w15).drew) hb)
       obtain ⟨Aq0, cq0, rfl, -, -⟩ := TIn.out (HT0.out ▸ hv)
       have HVq0 := Lib.hid (show TIn w16 _ T0 (vV k0 n0 s0 x0 Aq0 L0 cq0) by rw [HL0.out, HT0.out]; exact (HT0.out ▸ hv))
       rw [← HL0.out]
       clear hv
       replace Ea0 := Lib.hid (carry hbx Ea0.out)
       replace Ea1 := Lib.hid (carry hbx Ea1.out)
       replace Ea2 := Lib.hid (carry hbx Ea2.out)
       replace Em := Lib.hid (carry hbx Em.out)
       replace Eb0 := Lib.hid (carry hbx Eb0.out)
       replace Eb2 := Lib.hid (carry hbx Eb2.out)
       replace Eg := Lib.hid (carry hbx Eg.out)
       replace HM := Lib.hid (HM.out.below' hbx)
       replace HG := Lib.hid (HG.out.above fun q _ hl => Below.block hbx q hl)
       replace HB := Lib.hid (bs HB.out hbx)
       replace HX0 := Lib.hid (HX0.out.rgb hbx)
       replace HX2 := Lib.hid (HX2.out.rgb hbx)
       have zb00 : w16.cell? ⟨Nb0, 0, none⟩ = some (.int .i64 k0) := (rowc Eb0.out).1 0
       have zb01 : w16.cell? ⟨Nb0, 1, none⟩ = some (.int .i64 n0) := (rowc Eb0.out).1 1
       have zb02 : w16.cell? ⟨Nb0, 2, none⟩ = some (.string s0) := (rowc Eb0.out).1 2
       have zb03 : w16.cell? ⟨Nb0, 3, none⟩ = some (.int .i64 x0) := (rowc Eb0.out).1 3
       have zb04 : w16.cell? ⟨Nb0, 4, none⟩ = some (.slice Ax0 L0 cx0) := (rowc Eb0.out).1 4
       have za00 : w16.cell? ⟨w.heap.size, 0, none⟩ = some (.int .i64 k0) := (rowc Ea0.out).1 0
       have za01 : w16.cell? ⟨w.heap.size, 1, none⟩ = some (.int .i64 n0) := (rowc Ea0.out).1 1
       have za02 : w16.cell? ⟨w.heap.size, 2, none⟩ = some (.string s0) := (rowc Ea0.out).1 2
       have za03 : w16.cell? ⟨w.heap.size, 3, none⟩ = some (.int .i64 x0) := (rowc Ea0.out).1 3
       have za04 : w16.cell? ⟨w.heap.size, 4, none⟩ = some (.slice A0 L0 c0) := (rowc Ea0.out).1 4
       clear hb hbx)
    | (go_at_call 39; refine (eqV T0 _ _ _ _ _ HX0.out HVq0.out).mono ?_
       rintro e w17 ⟨rfl, hb⟩
       have hbx := hb
       
       replace Ea0 := Lib.hid (carry hbx Ea0.out)
       replace Ea1 := Lib.hid (carry hbx Ea1.out)
       replace Ea2 := Lib.hid (carry hbx Ea2.out)
       replace Em := Lib.hid (carry hbx Em.out)
       replace Eb0 := Lib.hid (carry hbx Eb0.out)
       replace Eb2 := Lib.hid (carry hbx Eb2.out)
       replace Eg := Lib.hid (carry hbx Eg.out)
       replace HM := Lib.hid (HM.out.below' hbx)
       replace HG := Lib.hid (HG.out.above fun q _ hl => Below.block hbx q hl)
       replace HB := Lib.hid (bs HB.out hbx)
       replace HX0 := Lib.hid (HX0.out.rgb hbx)
       replace HX2 := Lib.hid (HX2.out.rgb hbx)
       have zb00 : w17.cell? ⟨Nb0, 0, none⟩ = some (.int .i64 k0) := (rowc Eb0.out).1 0
       have zb01 : w17.cell? ⟨Nb0, 1, none⟩ = some (.int .i64 n0) := (rowc Eb0.out).1 1
       have zb02 : w17.cell? ⟨Nb0, 2, none⟩ = some (.string s0) := (rowc Eb0.out).1 2
       have zb03 : w17.cell? ⟨Nb0, 3, none⟩ = some (.int .i64 x0) := (rowc Eb0.out).1 3
       have zb04 : w17.cell? ⟨Nb0, 4, none⟩ = some (.slice Ax0 L0 cx0) := (rowc Eb0.out).1 4
       have za00 : w17.cell? ⟨w.heap.size, 0, none⟩ = some (.int .i64 k0) := (rowc Ea0.out).1 0
       have za01 : w17.cell? ⟨w.heap.size, 1, none⟩ = some (.int .i64 n0) := (rowc Ea0.out).1 1
       have za02 : w17.cell? ⟨w.heap.size, 2, none⟩ = some (.string s0) := (rowc Ea0.out).1 2
       have za03 : w17.cell? ⟨w.heap.size, 3, none⟩ = some (.int .i64 x0) := (rowc Ea0.out).1 3
       have za04 : w17.cell? ⟨w.heap.size, 4, none⟩ = some (.slice A0 L0 c0) := (rowc Ea0.out).1 4
       clear hb hbx))
  try clear zb00 zb01 zb02 zb03 zb04
  try clear za00 za01 za02 za03 za04
  clear HVq0
  have zb20 : w17.cell? ⟨Nb2, 0, none⟩ = some (.int .i64 k2) := (rowc Eb2.out).1 0
  have zb21 : w17.cell? ⟨Nb2, 1, none⟩ = some (.int .i64 n2) := (rowc Eb2.out).1 1
  have zb22 : w17.cell? ⟨Nb2, 2, none⟩ = some (.string s2) := (rowc Eb2.out).1 2
  have zb23 : w17.cell? ⟨Nb2, 3, none⟩ = some (.int .i64 x2) := (rowc Eb2.out).1 3
  have zb24 : w17.cell? ⟨Nb2, 4, none⟩ = some (.slice Ax2 L2 cx2) := (rowc Eb2.out).1 4
  have za20 : w17.cell? ⟨w.heap.size + 1 + 1, 0, none⟩ = some (.int .i64 k2) := (rowc Ea2.out).1 0
  have za21 : w17.cell? ⟨w.heap.size + 1 + 1, 1, none⟩ = some (.int .i64 n2) := (rowc Ea2.out).1 1
  have za22 : w17.cell? ⟨w.heap.size + 1 + 1, 2, none⟩ = some (.string s2) := (rowc Ea2.out).1 2
  have za23 : w17.cell? ⟨w.heap.size + 1 + 1, 3, none⟩ = some (.int .i64 x2) := (rowc Ea2.out).1 3
  have za24 : w17.cell? ⟨w.heap.size + 1 + 1, 4, none⟩ = some (.slice A2 L2 c2) := (rowc Ea2.out).1 4
  go_wp2_with (fail)
  go_region_held3 (fun w' => w'.cell? ⟨Nb2, 0, none⟩ = some (.int .i64 k2) ∧ w'.cell? ⟨Nb2, 1, none⟩ = some (.int .i64 n2) ∧ w'.cell? ⟨Nb2, 2, none⟩ = some (.string s2) ∧ w'.cell? ⟨Nb2, 3, none⟩ = some (.int .i64 x2) ∧ w'.cell? ⟨Nb2, 4, none⟩ = some (.slice Ax2 L2 cx2) ∧ w'.cell? ⟨w.heap.size + 1 + 1, 0, none⟩ = some (.int .i64 k2) ∧ w'.cell? ⟨w.heap.size + 1 + 1, 1, none⟩ = some (.int .i64 n2) ∧ w'.cell? ⟨w.heap.size + 1 + 1, 2, none⟩ = some (.string s2) ∧ w'.cell? ⟨w.heap.size + 1 + 1, 3, none⟩ = some (.int .i64 x2) ∧ w'.cell? ⟨w.heap.size + 1 + 1, 4, none⟩ = some (.slice A2 L2 c2)) (first | with_reducible exact ⟨zb20, zb21, zb22, zb23, zb24, za20, za21, za22, za23, za24⟩ | with_reducible exact ⟨drc (alc zb20), drc (alc zb21), drc (alc zb22), drc (alc zb23), drc (alc zb24), drc (alc za20), drc (alc za21), drc (alc za22), drc (alc za23), drc (alc za24)⟩ | with_reducible exact ⟨drc zb20, drc zb21, drc zb22, drc zb23, drc zb24, drc za20, drc za21, drc za22, drc za23, drc za24⟩ | with_reducible exact ⟨alc zb20, alc zb21, alc zb22, alc zb23, alc zb24, alc za20, alc za21, alc za22, alc za23, alc za24⟩ | with_reducible exact ⟨alc (drc zb20), alc (drc zb21), alc (drc zb22), alc (drc zb23), alc (drc zb24), alc (drc za20), alc (drc za21), alc (drc za22), alc (drc za23), alc (drc za24)⟩ | with_reducible exact ⟨st5 zb20 (by assumption), st5 zb21 (by assumption), st5 zb22 (by assumption), st5 zb23 (by assumption), st5 zb24 (by assumption), st5 za20 (by assumption), st5 za21 (by assumption), st5 za22 (by assumption), st5 za23 (by assumption), st5 za24 (by assumption)⟩ | with_reducible exact ⟨st5 (alc zb20) (by assumption), st5 (alc zb21) (by assumption), st5 (alc zb22) (by assumption), st5 (alc zb23) (by assumption), st5 (alc zb24) (by assumption), st5 (alc za20) (by assumption), st5 (alc za21) (by assumption), st5 (alc za22) (by assumption), st5 (alc za23) (by assumption), st5 (alc za24) (by assumption)⟩ | go_keep)
    (first
    | (go_at_call 37; refine (cps T2 hT2.out _ _ _ (HR2.out.below' (HB.out.trans ((Below.refl _ _).drew)))).mono ?_
       rintro e w18 ⟨v, rfl, hv, hb⟩
       have hbx := (bs ((Below.refl w17.heap.size w17).drew) hb)
       obtain ⟨Aq2, cq2, rfl, -, -⟩ := TIn.out (HT2.out ▸ hv)
       have HVq2 := Lib.hid (show TIn w18 _ T2 (vV k2 n2 s2 x2 Aq2 L2 cq2) by rw [HL2.out, HT2.out]; exact (HT2.out ▸ hv))
       rw [← HL2.out]
       clear hv
       replace Ea0 := Lib.hid (carry hbx Ea0.out)
       replace Ea1 := Lib.hid (carry hbx Ea1.out)
       replace Ea2 := Lib.hid (carry hbx Ea2.out)
       replace Em := Lib.hid (carry hbx Em.out)
       replace Eb0 := Lib.hid (carry hbx Eb0.out)
       replace Eb2 := Lib.hid (carry hbx Eb2.out)
       replace Eg := Lib.hid (carry hbx Eg.out)
       replace HM := Lib.hid (HM.out.below' hbx)
       replace HG := Lib.hid (HG.out.above fun q _ hl => Below.block hbx q hl)
       replace HB := Lib.hid (bs HB.out hbx)
       replace HX0 := Lib.hid (HX0.out.rgb hbx)
       replace HX2 := Lib.hid (HX2.out.rgb hbx)
       have zb20 : w18.cell? ⟨Nb2, 0, none⟩ = some (.int .i64 k2) := (rowc Eb2.out).1 0
       have zb21 : w18.cell? ⟨Nb2, 1, none⟩ = some (.int .i64 n2) := (rowc Eb2.out).1 1
       have zb22 : w18.cell? ⟨Nb2, 2, none⟩ = some (.string s2) := (rowc Eb2.out).1 2
       have zb23 : w18.cell? ⟨Nb2, 3, none⟩ = some (.int .i64 x2) := (rowc Eb2.out).1 3
       have zb24 : w18.cell? ⟨Nb2, 4, none⟩ = some (.slice Ax2 L2 cx2) := (rowc Eb2.out).1 4
       have za20 : w18.cell? ⟨w.heap.size + 1 + 1, 0, none⟩ = some (.int .i64 k2) := (rowc Ea2.out).1 0
       have za21 : w18.cell? ⟨w.heap.size + 1 + 1, 1, none⟩ = some (.int .i64 n2) := (rowc Ea2.out).1 1
       have za22 : w18.cell? ⟨w.heap.size + 1 + 1, 2, none⟩ = some (.string s2) := (rowc Ea2.out).1 2
       have za23 : w18.cell? ⟨w.heap.size + 1 + 1, 3, none⟩ = some (.int .i64 x2) := (rowc Ea2.out).1 3
       have za24 : w18.cell? ⟨w.heap.size + 1 + 1, 4, none⟩ = some (.slice A2 L2 c2) := (rowc Ea2.out).1 4
       clear hb hbx)
    | (go_at_call 39; refine (eqV T2 _ _ _ _ _ HX2.out HVq2.out).mono ?_
       rintro e w19 ⟨rfl, hb⟩
       have hbx := hb
       
       replace Ea0 := Lib.hid (carry hbx Ea0.out)
       replace Ea1 := Lib.hid (carry hbx Ea1.out)
       replace Ea2 := Lib.hid (carry hbx Ea2.out)
       replace Em := Lib.hid (carry hbx Em.out)
       replace Eb0 := Lib.hid (carry hbx Eb0.out)
       replace Eb2 := Lib.hid (carry hbx Eb2.out)
       replace Eg := Lib.hid (carry hbx Eg.out)
       replace HM := Lib.hid (HM.out.below' hbx)
       replace HG := Lib.hid (HG.out.above fun q _ hl => Below.block hbx q hl)
       replace HB := Lib.hid (bs HB.out hbx)
       replace HX0 := Lib.hid (HX0.out.rgb hbx)
       replace HX2 := Lib.hid (HX2.out.rgb hbx)
       have zb20 : w19.cell? ⟨Nb2, 0, none⟩ = some (.int .i64 k2) := (rowc Eb2.out).1 0
       have zb21 : w19.cell? ⟨Nb2, 1, none⟩ = some (.int .i64 n2) := (rowc Eb2.out).1 1
       have zb22 : w19.cell? ⟨Nb2, 2, none⟩ = some (.string s2) := (rowc Eb2.out).1 2
       have zb23 : w19.cell? ⟨Nb2, 3, none⟩ = some (.int .i64 x2) := (rowc Eb2.out).1 3
       have zb24 : w19.cell? ⟨Nb2, 4, none⟩ = some (.slice Ax2 L2 cx2) := (rowc Eb2.out).1 4
       have za20 : w19.cell? ⟨w.heap.size + 1 + 1, 0, none⟩ = some (.int .i64 k2) := (rowc Ea2.out).1 0
       have za21 : w19.cell? ⟨w.heap.size + 1 + 1, 1, none⟩ = some (.int .i64 n2) := (rowc Ea2.out).1 1
       have za22 : w19.cell? ⟨w.heap.size + 1 + 1, 2, none⟩ = some (.string s2) := (rowc Ea2.out).1 2
       have za23 : w19.cell? ⟨w.heap.size + 1 + 1, 3, none⟩ = some (.int .i64 x2) := (rowc Ea2.out).1 3
       have za24 : w19.cell? ⟨w.heap.size + 1 + 1, 4, none⟩ = some (.slice A2 L2 c2) := (rowc Ea2.out).1 4
       clear hb hbx))
  try clear zb20 zb21 zb22 zb23 zb24
  try clear za20 za21 za22 za23 za24
  clear HVq2
  have zb00 : w19.cell? ⟨Nb0, 0, none⟩ = some (.int .i64 k0) := (rowc Eb0.out).1 0
  have zb01 : w19.cell? ⟨Nb0, 1, none⟩ = some (.int .i64 n0) := (rowc Eb0.out).1 1
  have zb02 : w19.cell? ⟨Nb0, 2, none⟩ = some (.string s0) := (rowc Eb0.out).1 2
  have zb03 : w19.cell? ⟨Nb0, 3, none⟩ = some (.int .i64 x0) := (rowc Eb0.out).1 3
  have zb04 : w19.cell? ⟨Nb0, 4, none⟩ = some (.slice Ax0 L0 cx0) := (rowc Eb0.out).1 4
  go_wp2_with (fail)
  refine (markArg2 T0 _ _ (by omega) (by have := hF0.out; omega) _ lo0 Nb0 HX0.out).mono ?_
  rintro e w20 ⟨p0, rfl, hp0, hq0, hf⟩
  replace hq0 : p0 ≤ 8000000 := by have := hF0.out; omega
  try clear zb00 zb01 zb02 zb03 zb04
  clear HX0
  replace Ea0 := Lib.hid ((hf.block _ (Array.getElem?_eq_some_iff.1 Ea0.out).1 (by unfold Rg; have o0 := HPa.out; have o1 := HP0.out; have o2 := HQ0'.out; have o3 := HP2.out; have o4 := HQ2'.out; have o5 := HRR.out; have o6 := HNG.out; have o7 := HHG.out; omega)).trans Ea0.out)
  replace Ea1 := Lib.hid ((hf.block _ (Array.getElem?_eq_some_iff.1 Ea1.out).1 (by unfold Rg; have o0 := HPa.out; have o1 := HP0.out; have o2 := HQ0'.out; have o3 := HP2.out; have o4 := HQ2'.out; have o5 := HRR.out; have o6 := HNG.out; have o7 := HHG.out; omega)).trans Ea1.out)
  replace Ea2 := Lib.hid ((hf.block _ (Array.getElem?_eq_some_iff.1 Ea2.out).1 (by unfold Rg; have o0 := HPa.out; have o1 := HP0.out; have o2 := HQ0'.out; have o3 := HP2.out; have o4 := HQ2'.out; have o5 := HRR.out; have o6 := HNG.out; have o7 := HHG.out; omega)).trans Ea2.out)
  replace Em := Lib.hid ((hf.block _ (Array.getElem?_eq_some_iff.1 Em.out).1 (by unfold Rg; have o0 := HPa.out; have o1 := HP0.out; have o2 := HQ0'.out; have o3 := HP2.out; have o4 := HQ2'.out; have o5 := HRR.out; have o6 := HNG.out; have o7 := HHG.out; omega)).trans Em.out)
  replace Eb0 := Lib.hid ((hf.block _ (Array.getElem?_eq_some_iff.1 Eb0.out).1 (by unfold Rg; have o0 := HPa.out; have o1 := HP0.out; have o2 := HQ0'.out; have o3 := HP2.out; have o4 := HQ2'.out; have o5 := HRR.out; have o6 := HNG.out; have o7 := HHG.out; omega)).trans Eb0.out)
  replace Eb2 := Lib.hid ((hf.block _ (Array.getElem?_eq_some_iff.1 Eb2.out).1 (by unfold Rg; have o0 := HPa.out; have o1 := HP0.out; have o2 := HQ0'.out; have o3 := HP2.out; have o4 := HQ2'.out; have o5 := HRR.out; have o6 := HNG.out; have o7 := HHG.out; omega)).trans Eb2.out)
  replace Eg := Lib.hid ((hf.block _ (Array.getElem?_eq_some_iff.1 Eg.out).1 (by unfold Rg; have o0 := HPa.out; have o1 := HP0.out; have o2 := HQ0'.out; have o3 := HP2.out; have o4 := HQ2'.out; have o5 := HRR.out; have o6 := HNG.out; have o7 := HHG.out; omega)).trans Eg.out)
  replace HM := Lib.hid (HM.out.stays (fun _ h => h) (fun b hb hl => hf.block b hl (by unfold Rg; have hb' : b < lo0 := hb; have o0 := HPa.out; have o1 := HP0.out; have o2 := HQ0'.out; have o3 := HP2.out; have o4 := HQ2'.out; have o5 := HRR.out; have o6 := HNG.out; have o7 := HHG.out; omega)))
  replace HB := Lib.hid (Below.fr HB.out (Nat.le_refl _) hf (fun b hb => by unfold Rg at hb; have o0 := HPa.out; have o1 := HP0.out; have o2 := HQ0'.out; have o3 := HP2.out; have o4 := HQ2'.out; have o5 := HRR.out; have o6 := HNG.out; have o7 := HHG.out; omega))
  replace HX2 := Lib.hid (HX2.out.rgk fun b hb hl => hf.block b hl (by unfold Rg at hb ⊢; have o0 := HPa.out; have o1 := HP0.out; have o2 := HQ0'.out; have o3 := HP2.out; have o4 := HQ2'.out; have o5 := HRR.out; have o6 := HNG.out; have o7 := HHG.out; omega))
  replace HG := Lib.hid (HG.out.above fun b hb hl => hf.block b hl (by unfold Rg; simp at hb; have o0 := HPa.out; have o1 := HP0.out; have o2 := HQ0'.out; have o3 := HP2.out; have o4 := HQ2'.out; have o5 := HRR.out; have o6 := HNG.out; have o7 := HHG.out; omega))
  clear hf
  have zb20 : w20.cell? ⟨Nb2, 0, none⟩ = some (.int .i64 k2) := (rowc Eb2.out).1 0
  have zb21 : w20.cell? ⟨Nb2, 1, none⟩ = some (.int .i64 n2) := (rowc Eb2.out).1 1
  have zb22 : w20.cell? ⟨Nb2, 2, none⟩ = some (.string s2) := (rowc Eb2.out).1 2
  have zb23 : w20.cell? ⟨Nb2, 3, none⟩ = some (.int .i64 x2) := (rowc Eb2.out).1 3
  have zb24 : w20.cell? ⟨Nb2, 4, none⟩ = some (.slice Ax2 L2 cx2) := (rowc Eb2.out).1 4
  go_wp2_with (fail)
  refine (markArg2 T2 _ _ (by omega) (by have := hF2.out; omega) _ lo2 Nb2 HX2.out).mono ?_
  rintro e w21 ⟨p2, rfl, hp2, hq2, hf⟩
  replace hq2 : p2 ≤ 16000000 := by have := hF2.out; omega
  try clear zb20 zb21 zb22 zb23 zb24
  clear HX2
  replace Ea0 := Lib.hid ((hf.block _ (Array.getElem?_eq_some_iff.1 Ea0.out).1 (by unfold Rg; have o0 := HPa.out; have o1 := HP0.out; have o2 := HQ0'.out; have o3 := HP2.out; have o4 := HQ2'.out; have o5 := HRR.out; have o6 := HNG.out; have o7 := HHG.out; omega)).trans Ea0.out)
  replace Ea1 := Lib.hid ((hf.block _ (Array.getElem?_eq_some_iff.1 Ea1.out).1 (by unfold Rg; have o0 := HPa.out; have o1 := HP0.out; have o2 := HQ0'.out; have o3 := HP2.out; have o4 := HQ2'.out; have o5 := HRR.out; have o6 := HNG.out; have o7 := HHG.out; omega)).trans Ea1.out)
  replace Ea2 := Lib.hid ((hf.block _ (Array.getElem?_eq_some_iff.1 Ea2.out).1 (by unfold Rg; have o0 := HPa.out; have o1 := HP0.out; have o2 := HQ0'.out; have o3 := HP2.out; have o4 := HQ2'.out; have o5 := HRR.out; have o6 := HNG.out; have o7 := HHG.out; omega)).trans Ea2.out)
  replace Em := Lib.hid ((hf.block _ (Array.getElem?_eq_some_iff.1 Em.out).1 (by unfold Rg; have o0 := HPa.out; have o1 := HP0.out; have o2 := HQ0'.out; have o3 := HP2.out; have o4 := HQ2'.out; have o5 := HRR.out; have o6 := HNG.out; have o7 := HHG.out; omega)).trans Em.out)
  replace Eb0 := Lib.hid ((hf.block _ (Array.getElem?_eq_some_iff.1 Eb0.out).1 (by unfold Rg; have o0 := HPa.out; have o1 := HP0.out; have o2 := HQ0'.out; have o3 := HP2.out; have o4 := HQ2'.out; have o5 := HRR.out; have o6 := HNG.out; have o7 := HHG.out; omega)).trans Eb0.out)
  replace Eb2 := Lib.hid ((hf.block _ (Array.getElem?_eq_some_iff.1 Eb2.out).1 (by unfold Rg; have o0 := HPa.out; have o1 := HP0.out; have o2 := HQ0'.out; have o3 := HP2.out; have o4 := HQ2'.out; have o5 := HRR.out; have o6 := HNG.out; have o7 := HHG.out; omega)).trans Eb2.out)
  replace Eg := Lib.hid ((hf.block _ (Array.getElem?_eq_some_iff.1 Eg.out).1 (by unfold Rg; have o0 := HPa.out; have o1 := HP0.out; have o2 := HQ0'.out; have o3 := HP2.out; have o4 := HQ2'.out; have o5 := HRR.out; have o6 := HNG.out; have o7 := HHG.out; omega)).trans Eg.out)
  replace HM := Lib.hid (HM.out.stays (fun _ h => h) (fun b hb hl => hf.block b hl (by unfold Rg; have hb' : b < lo0 := hb; have o0 := HPa.out; have o1 := HP0.out; have o2 := HQ0'.out; have o3 := HP2.out; have o4 := HQ2'.out; have o5 := HRR.out; have o6 := HNG.out; have o7 := HHG.out; omega)))
  replace HB := Lib.hid (Below.fr HB.out (Nat.le_refl _) hf (fun b hb => by unfold Rg at hb; have o0 := HPa.out; have o1 := HP0.out; have o2 := HQ0'.out; have o3 := HP2.out; have o4 := HQ2'.out; have o5 := HRR.out; have o6 := HNG.out; have o7 := HHG.out; omega))
  replace HG := Lib.hid (HG.out.above fun b hb hl => hf.block b hl (by unfold Rg; simp at hb; have o0 := HPa.out; have o1 := HP0.out; have o2 := HQ0'.out; have o3 := HP2.out; have o4 := HQ2'.out; have o5 := HRR.out; have o6 := HNG.out; have o7 := HHG.out; omega))
  clear hf
  have zg0 : w21.cell? ⟨Ng, 0, none⟩ = some (.int .i64 K) := (rowc Eg.out).1 0
  have zg1 : w21.cell? ⟨Ng, 1, none⟩ = some (.int .i64 N) := (rowc Eg.out).1 1
  have zg2 : w21.cell? ⟨Ng, 2, none⟩ = some (.string Z) := (rowc Eg.out).1 2
  have zg3 : w21.cell? ⟨Ng, 3, none⟩ = some (.int .i64 X) := (rowc Eg.out).1 3
  have zg4 : w21.cell? ⟨Ng, 4, none⟩ = some (.slice Ag RL cg) := (rowc Eg.out).1 4
  have zm0 : w21.cell? ⟨Nm, 0, none⟩ = some (.int .i64 K) := (rowc Em.out).1 0
  have zm1 : w21.cell? ⟨Nm, 1, none⟩ = some (.int .i64 N) := (rowc Em.out).1 1
  have zm2 : w21.cell? ⟨Nm, 2, none⟩ = some (.string Z) := (rowc Em.out).1 2
  have zm3 : w21.cell? ⟨Nm, 3, none⟩ = some (.int .i64 X) := (rowc Em.out).1 3
  have zm4 : w21.cell? ⟨Nm, 4, none⟩ = some (.slice Am RL cm) := (rowc Em.out).1 4
  go_wp2_with (fail)
  refine (eqV RT _ _ _ _ _ HG.out.tin HM.out).mono ?_
  rintro e w22 ⟨rfl, hb⟩
  have hbx := hb
  replace Ea0 := Lib.hid (carry hbx Ea0.out)
  replace Ea1 := Lib.hid (carry hbx Ea1.out)
  replace Ea2 := Lib.hid (carry hbx Ea2.out)
  replace Em := Lib.hid (carry hbx Em.out)
  replace Eb0 := Lib.hid (carry hbx Eb0.out)
  replace Eb2 := Lib.hid (carry hbx Eb2.out)
  replace Eg := Lib.hid (carry hbx Eg.out)
  replace HM := Lib.hid (HM.out.below' hbx)
  replace HG := Lib.hid (HG.out.above fun q _ hl => Below.block hbx q hl)
  replace HB := Lib.hid (bs HB.out hbx)
  clear hb hbx
  try clear zg0 zg1 zg2 zg3 zg4
  try clear zm0 zm1 zm2 zm3 zm4
  have zg0 : w22.cell? ⟨Ng, 0, none⟩ = some (.int .i64 K) := (rowc Eg.out).1 0
  have zg1 : w22.cell? ⟨Ng, 1, none⟩ = some (.int .i64 N) := (rowc Eg.out).1 1
  have zg2 : w22.cell? ⟨Ng, 2, none⟩ = some (.string Z) := (rowc Eg.out).1 2
  have zg3 : w22.cell? ⟨Ng, 3, none⟩ = some (.int .i64 X) := (rowc Eg.out).1 3
  have zg4 : w22.cell? ⟨Ng, 4, none⟩ = some (.slice Ag RL cg) := (rowc Eg.out).1 4
  go_wp2_with (fail)
  refine (markSep RT _ 1 (by omega) hQ1.out _ pg rg 0 (rg + 1) hig HG.out HTG.out).mono ?_
  rintro e w23 ⟨rfl, ht, hf⟩
  rw [HQ.out]
  try clear zg0 zg1 zg2 zg3 zg4
  replace Ea0 := Lib.hid ((hf.block _ (Array.getElem?_eq_some_iff.1 Ea0.out).1 (by unfold Rg; have o0 := HPa.out; have o1 := HP0.out; have o2 := HQ0'.out; have o3 := HP2.out; have o4 := HQ2'.out; have o5 := HRR.out; have o6 := HNG.out; have o7 := HHG.out; omega)).trans Ea0.out)
  replace Ea1 := Lib.hid ((hf.block _ (Array.getElem?_eq_some_iff.1 Ea1.out).1 (by unfold Rg; have o0 := HPa.out; have o1 := HP0.out; have o2 := HQ0'.out; have o3 := HP2.out; have o4 := HQ2'.out; have o5 := HRR.out; have o6 := HNG.out; have o7 := HHG.out; omega)).trans Ea1.out)
  replace Ea2 := Lib.hid ((hf.block _ (Array.getElem?_eq_some_iff.1 Ea2.out).1 (by unfold Rg; have o0 := HPa.out; have o1 := HP0.out; have o2 := HQ0'.out; have o3 := HP2.out; have o4 := HQ2'.out; have o5 := HRR.out; have o6 := HNG.out; have o7 := HHG.out; omega)).trans Ea2.out)
  replace Em := Lib.hid ((hf.block _ (Array.getElem?_eq_some_iff.1 Em.out).1 (by unfold Rg; have o0 := HPa.out; have o1 := HP0.out; have o2 := HQ0'.out; have o3 := HP2.out; have o4 := HQ2'.out; have o5 := HRR.out; have o6 := HNG.out; have o7 := HHG.out; omega)).trans Em.out)
  replace Eb0 := Lib.hid ((hf.block _ (Array.getElem?_eq_some_iff.1 Eb0.out).1 (by unfold Rg; have o0 := HPa.out; have o1 := HP0.out; have o2 := HQ0'.out; have o3 := HP2.out; have o4 := HQ2'.out; have o5 := HRR.out; have o6 := HNG.out; have o7 := HHG.out; omega)).trans Eb0.out)
  replace Eb2 := Lib.hid ((hf.block _ (Array.getElem?_eq_some_iff.1 Eb2.out).1 (by unfold Rg; have o0 := HPa.out; have o1 := HP0.out; have o2 := HQ0'.out; have o3 := HP2.out; have o4 := HQ2'.out; have o5 := HRR.out; have o6 := HNG.out; have o7 := HHG.out; omega)).trans Eb2.out)
  replace Eg := Lib.hid ((hf.block _ (Array.getElem?_eq_some_iff.1 Eg.out).1 (by unfold Rg; have o0 := HPa.out; have o1 := HP0.out; have o2 := HQ0'.out; have o3 := HP2.out; have o4 := HQ2'.out; have o5 := HRR.out; have o6 := HNG.out; have o7 := HHG.out; omega)).trans Eg.out)
  replace HM := Lib.hid (HM.out.stays (fun _ h => h) (fun b hb hl => hf.block b hl (by unfold Rg; have hb' : b < lo0 := hb; have o0 := HPa.out; have o1 := HP0.out; have o2 := HQ0'.out; have o3 := HP2.out; have o4 := HQ2'.out; have o5 := HRR.out; have o6 := HNG.out; have o7 := HHG.out; omega)))
  replace HB := Lib.hid (Below.fr HB.out (Nat.le_refl _) hf (fun b hb => by unfold Rg at hb; have o0 := HPa.out; have o1 := HP0.out; have o2 := HQ0'.out; have o3 := HP2.out; have o4 := HQ2'.out; have o5 := HRR.out; have o6 := HNG.out; have o7 := HHG.out; omega))
  replace HG := Lib.hid ht
  clear ht hf
  have zg0 : w23.cell? ⟨Ng, 0, none⟩ = some (.int .i64 K) := (rowc Eg.out).1 0
  have zg1 : w23.cell? ⟨Ng, 1, none⟩ = some (.int .i64 N) := (rowc Eg.out).1 1
  have zg2 : w23.cell? ⟨Ng, 2, none⟩ = some (.string Z) := (rowc Eg.out).1 2
  have zg3 : w23.cell? ⟨Ng, 3, none⟩ = some (.int .i64 X) := (rowc Eg.out).1 3
  have zg4 : w23.cell? ⟨Ng, 4, none⟩ = some (.slice Ag RL cg) := (rowc Eg.out).1 4
  go_wp2_with (fail)
  refine (heldSep RT _ 1 (by omega) hQ1.out _ _ HG.out.tin).mono ?_
  rintro e w24 ⟨rfl, hb⟩
  rw [HQ.out]
  have hbx := hb
  replace Ea0 := Lib.hid (carry hbx Ea0.out)
  replace Ea1 := Lib.hid (carry hbx Ea1.out)
  replace Ea2 := Lib.hid (carry hbx Ea2.out)
  replace Em := Lib.hid (carry hbx Em.out)
  replace Eb0 := Lib.hid (carry hbx Eb0.out)
  replace Eb2 := Lib.hid (carry hbx Eb2.out)
  replace Eg := Lib.hid (carry hbx Eg.out)
  replace HM := Lib.hid (HM.out.below' hbx)
  replace HG := Lib.hid (HG.out.above fun q _ hl => Below.block hbx q hl)
  replace HB := Lib.hid (bs HB.out hbx)
  clear hb hbx
  try clear zg0 zg1 zg2 zg3 zg4
  have za00 : w24.cell? ⟨w.heap.size, 0, none⟩ = some (.int .i64 k0) := (rowc Ea0.out).1 0
  have za01 : w24.cell? ⟨w.heap.size, 1, none⟩ = some (.int .i64 n0) := (rowc Ea0.out).1 1
  have za02 : w24.cell? ⟨w.heap.size, 2, none⟩ = some (.string s0) := (rowc Ea0.out).1 2
  have za03 : w24.cell? ⟨w.heap.size, 3, none⟩ = some (.int .i64 x0) := (rowc Ea0.out).1 3
  have za04 : w24.cell? ⟨w.heap.size, 4, none⟩ = some (.slice A0 L0 c0) := (rowc Ea0.out).1 4
  have za10 : w24.cell? ⟨w.heap.size + 1, 0, none⟩ = some (.bool yb1) := (rowc Ea1.out).1 0
  have za11 : w24.cell? ⟨w.heap.size + 1, 1, none⟩ = some (.int .i64 yn1) := (rowc Ea1.out).1 1
  have za12 : w24.cell? ⟨w.heap.size + 1, 2, none⟩ = some (.string ys1) := (rowc Ea1.out).1 2
  have za20 : w24.cell? ⟨w.heap.size + 1 + 1, 0, none⟩ = some (.int .i64 k2) := (rowc Ea2.out).1 0
  have za21 : w24.cell? ⟨w.heap.size + 1 + 1, 1, none⟩ = some (.int .i64 n2) := (rowc Ea2.out).1 1
  have za22 : w24.cell? ⟨w.heap.size + 1 + 1, 2, none⟩ = some (.string s2) := (rowc Ea2.out).1 2
  have za23 : w24.cell? ⟨w.heap.size + 1 + 1, 3, none⟩ = some (.int .i64 x2) := (rowc Ea2.out).1 3
  have za24 : w24.cell? ⟨w.heap.size + 1 + 1, 4, none⟩ = some (.slice A2 L2 c2) := (rowc Ea2.out).1 4
  go_wp2_with (fail)
  go_cut [17, 18] (fun p f wx => CutP w24 bb K N Z X RL RT p f wx)
  case first =>
    have HW : Hid (Below w24.heap.size w24 w24) := Lib.hid (Below.refl _ _)
    have hzw24 : w24.heap.size ≤ w24.heap.size := Nat.le_refl _
    have nza0w24 : w24.heap.size ≠ w.heap.size := by have := (Array.getElem?_eq_some_iff.1 Ea0.out).1; omega
    have nza1w24 : w24.heap.size ≠ w.heap.size + 1 := by have := (Array.getElem?_eq_some_iff.1 Ea1.out).1; omega
    have nza2w24 : w24.heap.size ≠ w.heap.size + 1 + 1 := by have := (Array.getElem?_eq_some_iff.1 Ea2.out).1; omega
    go_region_held3 (fun w' => w'.cell? ⟨w.heap.size, 0, none⟩ = some (.int .i64 k0) ∧ w'.cell? ⟨w.heap.size, 1, none⟩ = some (.int .i64 n0) ∧ w'.cell? ⟨w.heap.size, 2, none⟩ = some (.string s0) ∧ w'.cell? ⟨w.heap.size, 3, none⟩ = some (.int .i64 x0) ∧ w'.cell? ⟨w.heap.size, 4, none⟩ = some (.slice A0 L0 c0) ∧ w'.cell? ⟨w.heap.size + 1, 0, none⟩ = some (.bool yb1) ∧ w'.cell? ⟨w.heap.size + 1, 1, none⟩ = some (.int .i64 yn1) ∧ w'.cell? ⟨w.heap.size + 1, 2, none⟩ = some (.string ys1) ∧ w'.cell? ⟨w.heap.size + 1 + 1, 0, none⟩ = some (.int .i64 k2) ∧ w'.cell? ⟨w.heap.size + 1 + 1, 1, none⟩ = some (.int .i64 n2) ∧ w'.cell? ⟨w.heap.size + 1 + 1, 2, none⟩ = some (.string s2) ∧ w'.cell? ⟨w.heap.size + 1 + 1, 3, none⟩ = some (.int .i64 x2) ∧ w'.cell? ⟨w.heap.size + 1 + 1, 4, none⟩ = some (.slice A2 L2 c2)) (first | with_reducible exact ⟨za00, za01, za02, za03, za04, za10, za11, za12, za20, za21, za22, za23, za24⟩ | with_reducible exact ⟨drc (alc za00), drc (alc za01), drc (alc za02), drc (alc za03), drc (alc za04), drc (alc za10), drc (alc za11), drc (alc za12), drc (alc za20), drc (alc za21), drc (alc za22), drc (alc za23), drc (alc za24)⟩ | with_reducible exact ⟨drc za00, drc za01, drc za02, drc za03, drc za04, drc za10, drc za11, drc za12, drc za20, drc za21, drc za22, drc za23, drc za24⟩ | with_reducible exact ⟨alc za00, alc za01, alc za02, alc za03, alc za04, alc za10, alc za11, alc za12, alc za20, alc za21, alc za22, alc za23, alc za24⟩ | with_reducible exact ⟨alc (drc za00), alc (drc za01), alc (drc za02), alc (drc za03), alc (drc za04), alc (drc za10), alc (drc za11), alc (drc za12), alc (drc za20), alc (drc za21), alc (drc za22), alc (drc za23), alc (drc za24)⟩ | with_reducible exact ⟨st5 za00 (by assumption), st5 za01 (by assumption), st5 za02 (by assumption), st5 za03 (by assumption), st5 za04 (by assumption), st5 za10 (by assumption), st5 za11 (by assumption), st5 za12 (by assumption), st5 za20 (by assumption), st5 za21 (by assumption), st5 za22 (by assumption), st5 za23 (by assumption), st5 za24 (by assumption)⟩ | with_reducible exact ⟨st5 (alc za00) (by assumption), st5 (alc za01) (by assumption), st5 (alc za02) (by assumption), st5 (alc za03) (by assumption), st5 (alc za04) (by assumption), st5 (alc za10) (by assumption), st5 (alc za11) (by assumption), st5 (alc za12) (by assumption), st5 (alc za20) (by assumption), st5 (alc za21) (by assumption), st5 (alc za22) (by assumption), st5 (alc za23) (by assumption), st5 (alc za24) (by assumption)⟩ | go_keep)
      (first
      | (fail_if_success (have tok := HVh0)
         go_at_call 37; refine (cps T0 hT0.out _ _ _ (HR0.out.below' (by first | with_reducible exact HB.out | with_reducible exact HB.out.trans ((Below.refl _ _).drew) | with_reducible exact HB.out.alloc HB.out.size _ | with_reducible exact (HB.out.trans ((Below.refl _ _).drew)).alloc HB.out.size _ | with_reducible exact (HB.out.alloc HB.out.size _).trans ((Below.refl _ _).drew)))).mono ?_
         rintro e w25 ⟨v, rfl, hv, hb⟩
         have hbx : Below w24.heap.size w24 w25 := by first | exact hb | exact bs ((Below.refl _ _).drew) hb | exact bs (b1 _ _) hb | exact bs (bs ((Below.refl _ _).drew) (b1 _ _)) hb | exact bs (bs (b1 _ _) ((Below.refl _ _).drew)) hb
         first | (have ez := Lib.hid (carry hb (heap_alloc_new w24 (.cells #[.int .i64 0, .int .i64 0, .string ⟨#[]⟩, .int .i64 0, .slice none 0 0] IV)))) | (have ez := Lib.hid (carry hb (heap_alloc_new w24.drew (.cells #[.int .i64 0, .int .i64 0, .string ⟨#[]⟩, .int .i64 0, .slice none 0 0] IV)))) | (replace ez := Lib.hid (carry hbx ez.out)) | skip
         obtain ⟨Ah0, ch0, rfl, -, -⟩ := TIn.out (HT0.out ▸ hv)
         have HVh0 := Lib.hid (show TIn w25 (Nw 0 w25) T0 (vV k0 n0 s0 x0 Ah0 L0 ch0) by rw [HL0.out, HT0.out]; exact (HT0.out ▸ hv).nw0)
         rw [← HL0.out]
         clear hv
         try clear za00 za01 za02 za03 za04
         try clear za10 za11 za12
         try clear za20 za21 za22 za23 za24
         replace Ea0 := Lib.hid (carry hbx Ea0.out)
         replace Ea1 := Lib.hid (carry hbx Ea1.out)
         replace Ea2 := Lib.hid (carry hbx Ea2.out)
         replace Em := Lib.hid (carry hbx Em.out)
         replace Eb0 := Lib.hid (carry hbx Eb0.out)
         replace Eb2 := Lib.hid (carry hbx Eb2.out)
         replace Eg := Lib.hid (carry hbx Eg.out)
         replace HM := Lib.hid (HM.out.below' hbx)
         replace HG := Lib.hid (HG.out.above fun q _ hl => Below.block hbx q hl)
         replace HB := Lib.hid (bs HB.out hbx)
         replace HW := Lib.hid (bs HW.out hbx)
         have hzw25 : w24.heap.size ≤ w25.heap.size := HW.out.size
         have za00 : w25.cell? ⟨w.heap.size, 0, none⟩ = some (.int .i64 k0) := (rowc Ea0.out).1 0
         have za01 : w25.cell? ⟨w.heap.size, 1, none⟩ = some (.int .i64 n0) := (rowc Ea0.out).1 1
         have za02 : w25.cell? ⟨w.heap.size, 2, none⟩ = some (.string s0) := (rowc Ea0.out).1 2
         have za03 : w25.cell? ⟨w.heap.size, 3, none⟩ = some (.int .i64 x0) := (rowc Ea0.out).1 3
         have za04 : w25.cell? ⟨w.heap.size, 4, none⟩ = some (.slice A0 L0 c0) := (rowc Ea0.out).1 4
         have za10 : w25.cell? ⟨w.heap.size + 1, 0, none⟩ = some (.bool yb1) := (rowc Ea1.out).1 0
         have za11 : w25.cell? ⟨w.heap.size + 1, 1, none⟩ = some (.int .i64 yn1) := (rowc Ea1.out).1 1
         have za12 : w25.cell? ⟨w.heap.size + 1, 2, none⟩ = some (.string ys1) := (rowc Ea1.out).1 2
         have za20 : w25.cell? ⟨w.heap.size + 1 + 1, 0, none⟩ = some (.int .i64 k2) := (rowc Ea2.out).1 0
         have za21 : w25.cell? ⟨w.heap.size + 1 + 1, 1, none⟩ = some (.int .i64 n2) := (rowc Ea2.out).1 1
         have za22 : w25.cell? ⟨w.heap.size + 1 + 1, 2, none⟩ = some (.string s2) := (rowc Ea2.out).1 2
         have za23 : w25.cell? ⟨w.heap.size + 1 + 1, 3, none⟩ = some (.int .i64 x2) := (rowc Ea2.out).1 3
         have za24 : w25.cell? ⟨w.heap.size + 1 + 1, 4, none⟩ = some (.slice A2 L2 c2) := (rowc Ea2.out).1 4
         have nza0w25 : w25.heap.size ≠ w.heap.size := by have := (Array.getElem?_eq_some_iff.1 Ea0.out).1; omega
         have nza1w25 : w25.heap.size ≠ w.heap.size + 1 := by have := (Array.getElem?_eq_some_iff.1 Ea1.out).1; omega
         have nza2w25 : w25.heap.size ≠ w.heap.size + 1 + 1 := by have := (Array.getElem?_eq_some_iff.1 Ea2.out).1; omega
         clear hb hbx)
      | (go_at_call 38; refine (HTK.out _).mono ?_
         rintro e w26 ⟨rfl, hb⟩
         have hbx : Below w25.heap.size w25 w26 := by first | exact hb | exact bs ((Below.refl _ _).drew) hb | exact bs (b1 _ _) hb | exact bs (bs ((Below.refl _ _).drew) (b1 _ _)) hb | exact bs (bs (b1 _ _) ((Below.refl _ _).drew)) hb
         first | (have ez := Lib.hid (carry hb (heap_alloc_new w25 (.cells #[.int .i64 0, .int .i64 0, .string ⟨#[]⟩, .int .i64 0, .slice none 0 0] IV)))) | (have ez := Lib.hid (carry hb (heap_alloc_new w25.drew (.cells #[.int .i64 0, .int .i64 0, .string ⟨#[]⟩, .int .i64 0, .slice none 0 0] IV)))) | (replace ez := Lib.hid (carry hbx ez.out)) | skip
         
         try clear za00 za01 za02 za03 za04
         try clear za10 za11 za12
         try clear za20 za21 za22 za23 za24
         replace Ea0 := Lib.hid (carry hbx Ea0.out)
         replace Ea1 := Lib.hid (carry hbx Ea1.out)
         replace Ea2 := Lib.hid (carry hbx Ea2.out)
         replace Em := Lib.hid (carry hbx Em.out)
         replace Eb0 := Lib.hid (carry hbx Eb0.out)
         replace Eb2 := Lib.hid (carry hbx Eb2.out)
         replace Eg := Lib.hid (carry hbx Eg.out)
         replace HM := Lib.hid (HM.out.below' hbx)
         replace HG := Lib.hid (HG.out.above fun q _ hl => Below.block hbx q hl)
         replace HB := Lib.hid (bs HB.out hbx)
         replace HVh0 := Lib.hid (HVh0.out.nwb hbx)
         replace HW := Lib.hid (bs HW.out hbx)
         have hzw26 : w24.heap.size ≤ w26.heap.size := HW.out.size
         have za00 : w26.cell? ⟨w.heap.size, 0, none⟩ = some (.int .i64 k0) := (rowc Ea0.out).1 0
         have za01 : w26.cell? ⟨w.heap.size, 1, none⟩ = some (.int .i64 n0) := (rowc Ea0.out).1 1
         have za02 : w26.cell? ⟨w.heap.size, 2, none⟩ = some (.string s0) := (rowc Ea0.out).1 2
         have za03 : w26.cell? ⟨w.heap.size, 3, none⟩ = some (.int .i64 x0) := (rowc Ea0.out).1 3
         have za04 : w26.cell? ⟨w.heap.size, 4, none⟩ = some (.slice A0 L0 c0) := (rowc Ea0.out).1 4
         have za10 : w26.cell? ⟨w.heap.size + 1, 0, none⟩ = some (.bool yb1) := (rowc Ea1.out).1 0
         have za11 : w26.cell? ⟨w.heap.size + 1, 1, none⟩ = some (.int .i64 yn1) := (rowc Ea1.out).1 1
         have za12 : w26.cell? ⟨w.heap.size + 1, 2, none⟩ = some (.string ys1) := (rowc Ea1.out).1 2
         have za20 : w26.cell? ⟨w.heap.size + 1 + 1, 0, none⟩ = some (.int .i64 k2) := (rowc Ea2.out).1 0
         have za21 : w26.cell? ⟨w.heap.size + 1 + 1, 1, none⟩ = some (.int .i64 n2) := (rowc Ea2.out).1 1
         have za22 : w26.cell? ⟨w.heap.size + 1 + 1, 2, none⟩ = some (.string s2) := (rowc Ea2.out).1 2
         have za23 : w26.cell? ⟨w.heap.size + 1 + 1, 3, none⟩ = some (.int .i64 x2) := (rowc Ea2.out).1 3
         have za24 : w26.cell? ⟨w.heap.size + 1 + 1, 4, none⟩ = some (.slice A2 L2 c2) := (rowc Ea2.out).1 4
         have nza0w26 : w26.heap.size ≠ w.heap.size := by have := (Array.getElem?_eq_some_iff.1 Ea0.out).1; omega
         have nza1w26 : w26.heap.size ≠ w.heap.size + 1 := by have := (Array.getElem?_eq_some_iff.1 Ea1.out).1; omega
         have nza2w26 : w26.heap.size ≠ w.heap.size + 1 + 1 := by have := (Array.getElem?_eq_some_iff.1 Ea2.out).1; omega
         clear hb hbx)
      | (fail_if_success (have tok := HVh2)
         have tok := HVh0
         clear tok
         go_at_call 37; refine (cps T2 hT2.out _ _ _ (HR2.out.below' (by first | with_reducible exact HB.out | with_reducible exact HB.out.trans ((Below.refl _ _).drew) | with_reducible exact HB.out.alloc HB.out.size _ | with_reducible exact (HB.out.trans ((Below.refl _ _).drew)).alloc HB.out.size _ | with_reducible exact (HB.out.alloc HB.out.size _).trans ((Below.refl _ _).drew)))).mono ?_
         rintro e w27 ⟨v, rfl, hv, hb⟩
         have hbx : Below w26.heap.size w26 w27 := by first | exact hb | exact bs ((Below.refl _ _).drew) hb | exact bs (b1 _ _) hb | exact bs (bs ((Below.refl _ _).drew) (b1 _ _)) hb | exact bs (bs (b1 _ _) ((Below.refl _ _).drew)) hb
         first | (have ez := Lib.hid (carry hb (heap_alloc_new w26 (.cells #[.int .i64 0, .int .i64 0, .string ⟨#[]⟩, .int .i64 0, .slice none 0 0] IV)))) | (have ez := Lib.hid (carry hb (heap_alloc_new w26.drew (.cells #[.int .i64 0, .int .i64 0, .string ⟨#[]⟩, .int .i64 0, .slice none 0 0] IV)))) | (replace ez := Lib.hid (carry hbx ez.out)) | skip
         obtain ⟨Ah2, ch2, rfl, -, -⟩ := TIn.out (HT2.out ▸ hv)
         have HVh2 := Lib.hid (show TIn w27 (Nw 0 w27) T2 (vV k2 n2 s2 x2 Ah2 L2 ch2) by rw [HL2.out, HT2.out]; exact (HT2.out ▸ hv).nw0)
         rw [← HL2.out]
         clear hv
         try clear za00 za01 za02 za03 za04
         try clear za10 za11 za12
         try clear za20 za21 za22 za23 za24
         replace Ea0 := Lib.hid (carry hbx Ea0.out)
         replace Ea1 := Lib.hid (carry hbx Ea1.out)
         replace Ea2 := Lib.hid (carry hbx Ea2.out)
         replace Em := Lib.hid (carry hbx Em.out)
         replace Eb0 := Lib.hid (carry hbx Eb0.out)
         replace Eb2 := Lib.hid (carry hbx Eb2.out)
         replace Eg := Lib.hid (carry hbx Eg.out)
         replace HM := Lib.hid (HM.out.below' hbx)
         replace HG := Lib.hid (HG.out.above fun q _ hl => Below.block hbx q hl)
         replace HB := Lib.hid (bs HB.out hbx)
         replace HVh0 := Lib.hid (HVh0.out.nwb hbx)
         replace HW := Lib.hid (bs HW.out hbx)
         have hzw27 : w24.heap.size ≤ w27.heap.size := HW.out.size
         have za00 : w27.cell? ⟨w.heap.size, 0, none⟩ = some (.int .i64 k0) := (rowc Ea0.out).1 0
         have za01 : w27.cell? ⟨w.heap.size, 1, none⟩ = some (.int .i64 n0) := (rowc Ea0.out).1 1
         have za02 : w27.cell? ⟨w.heap.size, 2, none⟩ = some (.string s0) := (rowc Ea0.out).1 2
         have za03 : w27.cell? ⟨w.heap.size, 3, none⟩ = some (.int .i64 x0) := (rowc Ea0.out).1 3
         have za04 : w27.cell? ⟨w.heap.size, 4, none⟩ = some (.slice A0 L0 c0) := (rowc Ea0.out).1 4
         have za10 : w27.cell? ⟨w.heap.size + 1, 0, none⟩ = some (.bool yb1) := (rowc Ea1.out).1 0
         have za11 : w27.cell? ⟨w.heap.size + 1, 1, none⟩ = some (.int .i64 yn1) := (rowc Ea1.out).1 1
         have za12 : w27.cell? ⟨w.heap.size + 1, 2, none⟩ = some (.string ys1) := (rowc Ea1.out).1 2
         have za20 : w27.cell? ⟨w.heap.size + 1 + 1, 0, none⟩ = some (.int .i64 k2) := (rowc Ea2.out).1 0
         have za21 : w27.cell? ⟨w.heap.size + 1 + 1, 1, none⟩ = some (.int .i64 n2) := (rowc Ea2.out).1 1
         have za22 : w27.cell? ⟨w.heap.size + 1 + 1, 2, none⟩ = some (.string s2) := (rowc Ea2.out).1 2
         have za23 : w27.cell? ⟨w.heap.size + 1 + 1, 3, none⟩ = some (.int .i64 x2) := (rowc Ea2.out).1 3
         have za24 : w27.cell? ⟨w.heap.size + 1 + 1, 4, none⟩ = some (.slice A2 L2 c2) := (rowc Ea2.out).1 4
         have nza0w27 : w27.heap.size ≠ w.heap.size := by have := (Array.getElem?_eq_some_iff.1 Ea0.out).1; omega
         have nza1w27 : w27.heap.size ≠ w.heap.size + 1 := by have := (Array.getElem?_eq_some_iff.1 Ea1.out).1; omega
         have nza2w27 : w27.heap.size ≠ w.heap.size + 1 + 1 := by have := (Array.getElem?_eq_some_iff.1 Ea2.out).1; omega
         clear hb hbx)
      | (go_at_call 17; refine (HCI.out _ _ _ (by first | with_reducible exact HVh0.out | with_reducible exact HVh0.out.nwb (b1 _ _) | with_reducible exact HVh0.out.nwb ((Below.refl _ _).drew) | with_reducible exact HVh0.out.nwb (bs ((Below.refl _ _).drew) (b1 _ _)) | with_reducible exact HVh0.out.nwb (bs (b1 _ _) ((Below.refl _ _).drew))) (by first | with_reducible exact HVh2.out | with_reducible exact HVh2.out.nwb (b1 _ _) | with_reducible exact HVh2.out.nwb ((Below.refl _ _).drew) | with_reducible exact HVh2.out.nwb (bs ((Below.refl _ _).drew) (b1 _ _)) | with_reducible exact HVh2.out.nwb (bs (b1 _ _) ((Below.refl _ _).drew))) (HE.out.stays (by first | with_reducible exact HB.out | with_reducible exact HB.out.trans ((Below.refl _ _).drew) | with_reducible exact HB.out.alloc HB.out.size _ | with_reducible exact (HB.out.trans ((Below.refl _ _).drew)).alloc HB.out.size _ | with_reducible exact (HB.out.alloc HB.out.size _).trans ((Below.refl _ _).drew)))).mono ?_
         rintro e w28 ⟨u, par, r, rfl, hv, hr, hb⟩
         have hbx : Below w27.heap.size w27 w28 := by first | exact hb | exact bs ((Below.refl _ _).drew) hb | exact bs (b1 _ _) hb | exact bs (bs ((Below.refl _ _).drew) (b1 _ _)) hb | exact bs (bs (b1 _ _) ((Below.refl _ _).drew)) hb
         first | (have nzw := Lib.hid (Array.getElem?_eq_some_iff.1 ez.out).1; replace ez := Lib.hid (carry hbx ez.out)) | (have ez := Lib.hid (carry hb (heap_alloc_new w27 (.cells #[.int .i64 0, .int .i64 0, .string ⟨#[]⟩, .int .i64 0, .slice none 0 0] IV))); have nzw := Lib.hid (Array.getElem?_eq_some_iff.1 (heap_alloc_new w27 (.cells #[.int .i64 0, .int .i64 0, .string ⟨#[]⟩, .int .i64 0, .slice none 0 0] IV))).1) | (have ez := Lib.hid (carry hb (heap_alloc_new w27.drew (.cells #[.int .i64 0, .int .i64 0, .string ⟨#[]⟩, .int .i64 0, .slice none 0 0] IV)))) | skip
         obtain ⟨Ag, cg, rfl, -⟩ := TPar.out (HRT.out ▸ hv)
         have HGG := Lib.hid (show TPar w28 par (r, 0) RT (vV K N Z X Ag RL cg) by rw [HRL.out, HRT.out]; exact (HRT.out ▸ hv))
         have HRQ := Lib.hid hr
         rw [← HRL.out]
         clear hv hr
         try clear za00 za01 za02 za03 za04
         try clear za10 za11 za12
         try clear za20 za21 za22 za23 za24
         replace Ea0 := Lib.hid (carry hbx Ea0.out)
         replace Ea1 := Lib.hid (carry hbx Ea1.out)
         replace Ea2 := Lib.hid (carry hbx Ea2.out)
         replace Em := Lib.hid (carry hbx Em.out)
         replace Eb0 := Lib.hid (carry hbx Eb0.out)
         replace Eb2 := Lib.hid (carry hbx Eb2.out)
         replace Eg := Lib.hid (carry hbx Eg.out)
         replace HM := Lib.hid (HM.out.below' hbx)
         replace HG := Lib.hid (HG.out.above fun q _ hl => Below.block hbx q hl)
         replace HB := Lib.hid (bs HB.out hbx)
         replace HVh0 := Lib.hid (HVh0.out.nwb hbx)
         replace HVh2 := Lib.hid (HVh2.out.nwb hbx)
         replace HW := Lib.hid (bs HW.out hbx)
         have hzw28 : w24.heap.size ≤ w28.heap.size := HW.out.size
         have za00 : w28.cell? ⟨w.heap.size, 0, none⟩ = some (.int .i64 k0) := (rowc Ea0.out).1 0
         have za01 : w28.cell? ⟨w.heap.size, 1, none⟩ = some (.int .i64 n0) := (rowc Ea0.out).1 1
         have za02 : w28.cell? ⟨w.heap.size, 2, none⟩ = some (.string s0) := (rowc Ea0.out).1 2
         have za03 : w28.cell? ⟨w.heap.size, 3, none⟩ = some (.int .i64 x0) := (rowc Ea0.out).1 3
         have za04 : w28.cell? ⟨w.heap.size, 4, none⟩ = some (.slice A0 L0 c0) := (rowc Ea0.out).1 4
         have za10 : w28.cell? ⟨w.heap.size + 1, 0, none⟩ = some (.bool yb1) := (rowc Ea1.out).1 0
         have za11 : w28.cell? ⟨w.heap.size + 1, 1, none⟩ = some (.int .i64 yn1) := (rowc Ea1.out).1 1
         have za12 : w28.cell? ⟨w.heap.size + 1, 2, none⟩ = some (.string ys1) := (rowc Ea1.out).1 2
         have za20 : w28.cell? ⟨w.heap.size + 1 + 1, 0, none⟩ = some (.int .i64 k2) := (rowc Ea2.out).1 0
         have za21 : w28.cell? ⟨w.heap.size + 1 + 1, 1, none⟩ = some (.int .i64 n2) := (rowc Ea2.out).1 1
         have za22 : w28.cell? ⟨w.heap.size + 1 + 1, 2, none⟩ = some (.string s2) := (rowc Ea2.out).1 2
         have za23 : w28.cell? ⟨w.heap.size + 1 + 1, 3, none⟩ = some (.int .i64 x2) := (rowc Ea2.out).1 3
         have za24 : w28.cell? ⟨w.heap.size + 1 + 1, 4, none⟩ = some (.slice A2 L2 c2) := (rowc Ea2.out).1 4
         have nza0w28 : w28.heap.size ≠ w.heap.size := by have := (Array.getElem?_eq_some_iff.1 Ea0.out).1; omega
         have nza1w28 : w28.heap.size ≠ w.heap.size + 1 := by have := (Array.getElem?_eq_some_iff.1 Ea1.out).1; omega
         have nza2w28 : w28.heap.size ≠ w.heap.size + 1 + 1 := by have := (Array.getElem?_eq_some_iff.1 Ea2.out).1; omega
         clear hb hbx
         first | (have zr := (rowc ez.out).1; have zf := (rowc ez.out).2) | skip))
    all_goals
      go_wp2_with (fail)
      go_meet
      first
      | with_reducible exact cutP_box HW.out HGG.out (Nat.le_trans (by first | exact Nat.le_refl _ | assumption | (simp; omega)) HRQ.out)
      | exact cutP_early HW.out (by first | exact Nat.le_refl _ | assumption) ez.out HGG.out (Nat.le_of_lt (Nat.lt_of_lt_of_le nzw.out HRQ.out)) rfl
  obtain ⟨Nh, Ah, ch, ph, rh, hp, hf, hbx, hNh, en, hv, hrh, hih, hth, hhh, hdh⟩ := hcut
  subst hp hf
  obtain ⟨w29, hwc⟩ : ∃ q, q = wc := ⟨wc, rfl⟩
  subst hwc
  try clear za00 za01 za02 za03 za04
  try clear za10 za11 za12
  try clear za20 za21 za22 za23 za24
  replace Ea0 := Lib.hid (carry hbx Ea0.out)
  replace Ea1 := Lib.hid (carry hbx Ea1.out)
  replace Ea2 := Lib.hid (carry hbx Ea2.out)
  replace Em := Lib.hid (carry hbx Em.out)
  replace Eb0 := Lib.hid (carry hbx Eb0.out)
  replace Eb2 := Lib.hid (carry hbx Eb2.out)
  replace Eg := Lib.hid (carry hbx Eg.out)
  replace HM := Lib.hid (HM.out.below' hbx)
  replace HG := Lib.hid (HG.out.above fun q _ hl => Below.block hbx q hl)
  replace HB := Lib.hid (bs HB.out hbx)
  have Eh := Lib.hid en
  clear en
  have HH := Lib.hid hv.tin
  clear hv hth hhh hdh hrh hNh hbx
  have zh0 : w29.cell? ⟨Nh, 0, none⟩ = some (.int .i64 K) := (rowc Eh.out).1 0
  have zh1 : w29.cell? ⟨Nh, 1, none⟩ = some (.int .i64 N) := (rowc Eh.out).1 1
  have zh2 : w29.cell? ⟨Nh, 2, none⟩ = some (.string Z) := (rowc Eh.out).1 2
  have zh3 : w29.cell? ⟨Nh, 3, none⟩ = some (.int .i64 X) := (rowc Eh.out).1 3
  have zh4 : w29.cell? ⟨Nh, 4, none⟩ = some (.slice Ah RL ch) := (rowc Eh.out).1 4
  have zm0 : w29.cell? ⟨Nm, 0, none⟩ = some (.int .i64 K) := (rowc Em.out).1 0
  have zm1 : w29.cell? ⟨Nm, 1, none⟩ = some (.int .i64 N) := (rowc Em.out).1 1
  have zm2 : w29.cell? ⟨Nm, 2, none⟩ = some (.string Z) := (rowc Em.out).1 2
  have zm3 : w29.cell? ⟨Nm, 3, none⟩ = some (.int .i64 X) := (rowc Em.out).1 3
  have zm4 : w29.cell? ⟨Nm, 4, none⟩ = some (.slice Am RL cm) := (rowc Em.out).1 4
  go_wp2_with (fail)
  refine (eqV RT _ _ _ _ _ HH.out HM.out).mono ?_
  rintro e w30 ⟨rfl, hb⟩
  have hbx := hb
  replace Ea0 := Lib.hid (carry hbx Ea0.out)
  replace Ea1 := Lib.hid (carry hbx Ea1.out)
  replace Ea2 := Lib.hid (carry hbx Ea2.out)
  replace Em := Lib.hid (carry hbx Em.out)
  replace Eb0 := Lib.hid (carry hbx Eb0.out)
  replace Eb2 := Lib.hid (carry hbx Eb2.out)
  replace Eg := Lib.hid (carry hbx Eg.out)
  replace Eh := Lib.hid (carry hbx Eh.out)
  replace HM := Lib.hid (HM.out.below' hbx)
  replace HH := Lib.hid (HH.out.below' hbx)
  replace HG := Lib.hid (HG.out.above fun q _ hl => Below.block hbx q hl)
  replace HB := Lib.hid (bs HB.out hbx)
  clear hb hbx
  try clear zh0 zh1 zh2 zh3 zh4
  try clear zm0 zm1 zm2 zm3 zm4
  have zg0 : w30.cell? ⟨Ng, 0, none⟩ = some (.int .i64 K) := (rowc Eg.out).1 0
  have zg1 : w30.cell? ⟨Ng, 1, none⟩ = some (.int .i64 N) := (rowc Eg.out).1 1
  have zg2 : w30.cell? ⟨Ng, 2, none⟩ = some (.string Z) := (rowc Eg.out).1 2
  have zg3 : w30.cell? ⟨Ng, 3, none⟩ = some (.int .i64 X) := (rowc Eg.out).1 3
  have zg4 : w30.cell? ⟨Ng, 4, none⟩ = some (.slice Ag RL cg) := (rowc Eg.out).1 4
  go_wp2_with (fail)
  refine (heldSep RT _ 1 (by omega) hQ1.out _ _ HG.out.tin).mono ?_
  rintro e w31 ⟨rfl, hb⟩
  rw [HQ.out]
  have hbx := hb
  replace Ea0 := Lib.hid (carry hbx Ea0.out)
  replace Ea1 := Lib.hid (carry hbx Ea1.out)
  replace Ea2 := Lib.hid (carry hbx Ea2.out)
  replace Em := Lib.hid (carry hbx Em.out)
  replace Eb0 := Lib.hid (carry hbx Eb0.out)
  replace Eb2 := Lib.hid (carry hbx Eb2.out)
  replace Eg := Lib.hid (carry hbx Eg.out)
  replace Eh := Lib.hid (carry hbx Eh.out)
  replace HM := Lib.hid (HM.out.below' hbx)
  replace HH := Lib.hid (HH.out.below' hbx)
  replace HG := Lib.hid (HG.out.above fun q _ hl => Below.block hbx q hl)
  replace HB := Lib.hid (bs HB.out hbx)
  clear hb hbx
  try clear zg0 zg1 zg2 zg3 zg4
  go_wp2_with (fail)
  go_ret
  exact ⟨rfl, HB.out⟩

theorem walk (t0 : Tr) (v0 : Value) (y1 : Ky) (t2 : Tr) (v2 : Value) (w : World) (hr0 : TIn w (fun _ => True) t0 v0) (hy1 : I64 y1.num ∧ y1.str.size ≤ maxLen) (hr2 : TIn w (fun _ => True) t2 v2) (hE : prs.Env w) : Calls Tryd.prog 6 #[v0, kyV y1, v2] w (TrueQ w) := by
  have hc0 := cnt_tot t0 hr0.fits
  have hc2 := cnt_tot t2 hr2.fits
  have h1 := setR_cnt t0 y1 t2
  refine walk0 t0 v0 y1 t2 v2 w hr0 hy1 hr2 (setR t0 y1 t2) (setB t0 y1) hE (fun hT => ⟨?_, fun w S0 S2 u0 u2 h0 h2 hE => ?_, fun w u0 u2 h0 h2 hE => ?_⟩)
  · have h2 := itm_cnt (setR t0 y1 t2)
    omega
  · exact (setKey_s t0 u0 y1 t2 u2 w (fun _ => True) (h0.stays (fun _ _ => trivial) (fun _ _ _ => rfl)) (h2.stays (fun _ _ => trivial) (fun _ _ _ => rfl)) hy1 (by omega) (by omega) hE).mono fun e w' ⟨u, a, b, c⟩ => ⟨u, a, b, c⟩
  · exact (setKey_i t0 u0 y1 t2 u2 w h0 h2 hy1 (by omega) (by omega) hE).mono fun e w' ⟨u, par, R, a, b, c, d⟩ => ⟨u, par, R, a, b, c, d⟩

set_option maxRecDepth 100000 in
theorem lifted (os : Os) (started : os.Started) (H : Type) (enc : TypeId × Value → H) :
    ReturnsInHanded {} Tryd.checked os 6 .any (fun w args => (Rows.fnExactSetKeySpec.pre enc Tryd.prog Tryd.f6 [] false w args ∧ laidMetH Tryd.prog prs.laidOf w) ∧ sizedMet enc Tryd.prog Tryd.f6 (OpenSpec.ofChange Rows.fnExactSetKeySpec) false w args)
      (Rows.fnExactSetKeySpec.post enc Tryd.prog Tryd.f6 false true false false) := by
  refine returnsInHanded_of_change_and (C := Tryd.checked) (X := fun w _ => laidMetH Tryd.prog prs.laidOf w) (fun _ _ _ hh h => h.of_heap hh) own started (by kernel_rfl) Tryd.func6
    (ChangeSpec.witness_shaped (enc := enc) (C := Tryd.checked) (os := os) (X := fun w _ => laidMetH Tryd.prog prs.laidOf w) false (World.doorLaid Tryd.prog 400 os) #[.agg #[.int .i64 0, .int .i64 0, .string ⟨#[]⟩, .int .i64 0, .slice none 0 0], .agg #[.bool false, .int .i64 0, .string ⟨#[]⟩], .agg #[.int .i64 0, .int .i64 0, .string ⟨#[]⟩, .int .i64 0, .slice none 0 0]] 8 rfl (World.shaped_of_RefB (by kernel_rfl) (by kernel_rfl)) (by kernel_rfl) (by kernel_rfl) (by kernel_rfl) (prs.door_met os _)) ?_
  intro W base args ds gs before hval0 hW _ hsz0 hL _
  have hval : ∀ (j : Nat) t v, Tryd.f6.params[j]? = some t → args[j]? = some v → Value.okWide Tryd.prog W .any base t v := hval0
  have hW' := hW
  obtain ⟨p, q, hA0, hV, rfl, hfz, hnd⟩ := hW
  have hA : DataW.TrodAll enc Tryd.prog W 0 (fun _ => true) true Tryd.f6.params.toList args.toList ds p := hA0
  have hA2 := hA
  rw [Tryd.params6] at hA hval
  obtain ⟨v0, vs0, d0, ds0, p0, q0, hargs, rfl, rfl, h0, r0⟩ := trodAll_cons hA
  obtain ⟨v1, vs1, d1, ds1, p1, q1, rfl, rfl, rfl, h1, r1⟩ := trodAll_cons r0
  obtain ⟨v2, vs2, d2, ds2, p2, q2, rfl, rfl, rfl, h2, r2⟩ := trodAll_cons r1
  obtain ⟨rfl, rfl, rfl⟩ := trodAll_nil r2
  obtain rfl : args = #[v0, v1, v2] := by cases args; simp_all
  obtain ⟨rfl, rfl⟩ := trodVars_none hV
  obtain ⟨t0, hr0⟩ := opt.open_value (hval 0 65 v0 rfl rfl) h0
  obtain ⟨y1, rfl, hy1⟩ := opt.open_key (hval 1 66 v1 rfl rfl) h1
  obtain ⟨t2, hr2⟩ := opt.open_value (hval 2 65 v2 rfl rfl) h2
  clear hA0 hval0
  simp only [List.append_nil] at hW' hA2
  refine (walk t0 v0 y1 t2 v2 W hr0 hy1 hr2 (prs.env_of hL)).mono fun e W' ⟨he, hb⟩ => ?_
  subst he
  exact ⟨_, rfl, opn.post_true hW' rfl hA2 rfl rfl Tryd.underlying4 (by kernel_rfl) (by kernel_rfl) hb⟩

theorem over : Rows.FnExactSetKeySaid :=
  OpenClaim.holds_of_wide 6 Tryd.f6 rfl rfl rfl rfl rfl rfl rfl ⟨rfl, rfl, rfl, rfl, rfl⟩ rfl rfl rfl rfl rfl (by kernel_rfl) Tryd.func6 (by kernel_rfl)
    (of_decide_eq_true (by kernel_rfl)) (by unfold Func.isWrapper; first | (rw [if_pos (by decide +kernel)]; kernel_rfl) | (rw [if_neg (by decide +kernel)]; exact ⟨rfl, rfl⟩))
    (fun os started H enc _ => lifted os started H enc)

/-- The statement. -/
theorem proved : Rows.FnExactSetKeyCardSaid :=
  Claim7.holds_tied_plain_at .later [] Rows.fnExactSetKeyCard.laidKinds true Rows.fnExactSetKeyCard.stood.harness Rows.fnExactSetKeyCard.stood.looks
    over (fun _ h => by cases h) (by kernel_rfl) (fun _ h => by cases h) fnExactSetKey_row_tie rfl ⟨rfl, rfl⟩ (by kernel_rfl) rfl
    (fun f fn hf hfn => by
      obtain rfl : f = 6 := Option.some.inj ((show Tryd.prog.funcNamed "loop.example/g03011/laws.FnExactSetKey" = some 6 by kernel_rfl).symm.trans hf) |>.symm
      obtain rfl : fn = Tryd.f6 := (Option.some.inj (Tryd.func6.symm.trans hfn)).symm
      exact ⟨by kernel_rfl, fun j t ht => by
        rw [Tryd.params6] at ht
        have hm : t ∈ [65, 66, 65] := by simpa using Array.mem_of_getElem? ht
        have hall : ([65, 66, 65].all fun u => !Tryd.prog.wantsStandIn u) = true := by kernel_rfl
        exact (show Tryd.prog.wantsStandIn t = false by simpa using List.all_eq_true.1 hall t hm)⟩)
    (by kernel_rfl)
#print axioms proved
end Go.Proofs.YtclnbfndkcpopaaDoor.fnExactSetKey
