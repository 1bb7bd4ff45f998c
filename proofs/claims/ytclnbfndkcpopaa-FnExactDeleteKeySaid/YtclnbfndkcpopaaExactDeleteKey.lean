/-
  DeleteKey answers as its model at every value and key, every field; it leaves its argument unmodified, and its answer owns its memory.
  Conditions: none.
-/
import Derived.Test.YtclnbfndkcpopaaRows
import Derived.Deep.RegionHeld3
import Derived.WalkKit
import Derived.ProofKit
import Derived.OpenShut
import Derived.Test.YtclnbfndkcpopaaDelS
import Derived.Test.YtclnbfndkcpopaaLawCut
import Derived.Test.YtclnbfndkcpopaaOpenT
namespace Go.Proofs.Ytclnbfndkcpopaa.fnExactDeleteKey
open Go.ChangeShapes Go.WideShapes Go.ChangeAt Go.RowKit tree
open Go.ChangeMaps (open_string)
set_option linter.unusedVariables false

theorem own : ownKnob Try.prog.godebug = none := by kernel_rfl

set_option maxHeartbeats 8000000 in
set_option maxRecDepth 100000 in
theorem walk0 (t0 : Tr) (v0 : Value) (y1 : Ky) (w : World) (hr0 : TIn w (fun _ => True) t0 v0) (hy1 : I64 y1.num ∧ y1.str.size ≤ maxLen) (R : Tr) (bb : Bool)
    (HC : tot t0 + y1.str.size ≤ 1048576 → itm R ≤ 1048577 ∧ (∀ (w : World) (S0 : Nat → Prop) (u0 : Value), TIn w S0 t0 u0 → Calls Try.prog 41 #[u0, kyV y1] w (fun e w' => ∃ u, e = .returned (u) ∧ TIn w' (fun q => w.heap.size ≤ q) R u ∧ Below w.heap.size w w')) ∧ (∀ (w : World) (u0 : Value), TIn w (Nw 0 w) t0 u0 → Calls Try.prog 42 #[u0, kyV y1] w (fun e w' => ∃ u par r, e = .returned (u) ∧ TPar w' par (r, 0) R u ∧ w.heap.size ≤ r ∧ Below w.heap.size w w'))) :
    Calls Try.prog 9 #[v0, kyV y1] w (TrueQ w) := by
  obtain ⟨K, N, Z, X, RK, RV⟩ := R
  obtain ⟨RL, HRL⟩ : ∃ L, Hid (L = RV.length) := ⟨_, Lib.hid rfl⟩
  obtain ⟨RT, HRT⟩ : ∃ T, Hid (T = Tr.mk K N Z X RK RV) := ⟨_, Lib.hid rfl⟩
  rw [← HRT.out] at HC
  obtain ⟨k0, n0, s0, x0, ks0, vs0⟩ := t0
  obtain ⟨A0, c0, rfl, -, -⟩ := hr0.out
  obtain ⟨L0, HL0⟩ : ∃ L, Hid (L = vs0.length) := ⟨_, Lib.hid rfl⟩
  obtain ⟨T0, HT0⟩ : ∃ T, Hid (T = Tr.mk k0 n0 s0 x0 ks0 vs0) := ⟨_, Lib.hid rfl⟩
  rw [← HT0.out] at hr0 HC
  rw [← HL0.out] at hr0 ⊢
  have HR0 := Lib.hid hr0
  have SZ0 := fun w h => szV T0 w (fun _ => True) (vV k0 n0 s0 x0 A0 L0 c0) h
  have SZ1 := fun l h0 h1 => szKey y1 hy1.2 l h0 h1
  have TK := toKey y1
  obtain ⟨Y, HY⟩ : ∃ Y, Hid (Y = y1.str.size) := ⟨_, Lib.hid rfl⟩
  rw [← HY.out] at HC
  rw [← HY.out] at SZ1
  have KY1 : kyV y1 = .agg #[.bool y1.text, .int .i64 y1.num, .string y1.str] := rfl
  obtain ⟨yb1, hyb1⟩ : ∃ b, b = y1.text := ⟨_, rfl⟩
  obtain ⟨yn1, hyn1⟩ : ∃ b, b = y1.num := ⟨_, rfl⟩
  obtain ⟨ys1, hys1⟩ : ∃ b, b = y1.str := ⟨_, rfl⟩
  rw [← hyb1, ← hyn1, ← hys1] at KY1
  rw [KY1] at SZ1 TK HC ⊢
  have HCC := Lib.hid HC
  have HTK := Lib.hid TK
  clear hr0 hyb1 hyn1 hys1 KY1 HC TK
  go_enter Try.func9, Try.ntmps9
  go_wp2_with (fail)
  refine (SZ0 _ (HR0.out.below' (b2 _ _ _)) 1048576 (by omega) (by omega)).mono ?_
  rintro e w0 ⟨r0, rfl, ⟨ha0, hb0, hc0⟩, hw0⟩
  have Ea0 := Lib.hid (carry hw0 (heap_alloc2_old w _ _))
  have Ea1 := Lib.hid (carry hw0 (heap_alloc2_new w _ _))
  have HB := Lib.hid (bs (b2 w _ _) hw0)
  have HQ0 := Lib.hid hc0
  clear hw0 hc0
  by_cases hlt0 : r0 < 0
  · go_wp2_with (fail)
    go_ret
    exact ⟨rfl, HB.out⟩
  have za10 : w0.cell? ⟨w.heap.size + 1, 0, none⟩ = some (.bool yb1) := (rowc Ea1.out).1 0
  have za11 : w0.cell? ⟨w.heap.size + 1, 1, none⟩ = some (.int .i64 yn1) := (rowc Ea1.out).1 1
  have za12 : w0.cell? ⟨w.heap.size + 1, 2, none⟩ = some (.string ys1) := (rowc Ea1.out).1 2
  go_wp2_with (fail)
  refine (SZ1 r0 (by omega) (by omega) _).mono ?_
  rintro e w1 ⟨r1, rfl, ⟨ha1, hb1, hc1⟩, hw1⟩
  replace Ea0 := Lib.hid (carry hw1 Ea0.out)
  replace Ea1 := Lib.hid (carry hw1 Ea1.out)
  replace HB := Lib.hid (bs HB.out hw1)
  have HQ1 := Lib.hid hc1
  clear hw1 hc1
  clear za10 za11 za12
  by_cases hlt1 : r1 < 0
  · go_wp2_with (fail)
    go_ret
    exact ⟨rfl, HB.out⟩
  have HSUM : Hid (tot T0 + Y ≤ 1048576) := Lib.hid (by have q0 := HQ0.out (by omega); have q1 := HQ1.out (by omega); omega)
  obtain HCON := HCC.out HSUM.out
  obtain ⟨hit, hcs, hci⟩ := HCON
  have HIT := Lib.hid hit
  have HCS := Lib.hid hcs
  have HCI := Lib.hid hci
  obtain ⟨Q, HQ⟩ : ∃ Q : Int, Hid (1 + 7 * (itm RT : Int) = Q) := ⟨_, Lib.hid rfl⟩
  have hQ0 : 1 ≤ Q := by rw [← HQ.out]; omega
  have hQ1 : Hid (1 + 7 * (itm RT : Int) ≤ 100000000000) := Lib.hid (by omega)
  have hT0 : Hid (tot T0 ≤ 1048576) := Lib.hid (by have := HSUM.out; omega)
  have hF0 : Hid (cnt T0 ≤ 1048577) := Lib.hid (by have := cnt_tot T0 HR0.out.fits; have := HSUM.out; omega)
  clear hit hcs hci
  have za00 : w1.cell? ⟨w.heap.size, 0, none⟩ = some (.int .i64 k0) := (rowc Ea0.out).1 0
  have za01 : w1.cell? ⟨w.heap.size, 1, none⟩ = some (.int .i64 n0) := (rowc Ea0.out).1 1
  have za02 : w1.cell? ⟨w.heap.size, 2, none⟩ = some (.string s0) := (rowc Ea0.out).1 2
  have za03 : w1.cell? ⟨w.heap.size, 3, none⟩ = some (.int .i64 x0) := (rowc Ea0.out).1 3
  have za04 : w1.cell? ⟨w.heap.size, 4, none⟩ = some (.slice A0 L0 c0) := (rowc Ea0.out).1 4
  have za10 : w1.cell? ⟨w.heap.size + 1, 0, none⟩ = some (.bool yb1) := (rowc Ea1.out).1 0
  have za11 : w1.cell? ⟨w.heap.size + 1, 1, none⟩ = some (.int .i64 yn1) := (rowc Ea1.out).1 1
  have za12 : w1.cell? ⟨w.heap.size + 1, 2, none⟩ = some (.string ys1) := (rowc Ea1.out).1 2
  go_wp2_with (fail)
  go_cut [6] (fun p wx => CutM w1 bb K N Z X RL RT p (.bool bb) wx)
  case first =>
    have HW : Hid (Below w1.heap.size w1 w1) := Lib.hid (Below.refl _ _)
    have hzw1 : w1.heap.size ≤ w1.heap.size := Nat.le_refl _
    have nza0w1 : w1.heap.size ≠ w.heap.size := by have := (Array.getElem?_eq_some_iff.1 Ea0.out).1; omega
    have nza1w1 : w1.heap.size ≠ w.heap.size + 1 := by have := (Array.getElem?_eq_some_iff.1 Ea1.out).1; omega
    go_region_held3 (fun w' => w'.cell? ⟨w.heap.size, 0, none⟩ = some (.int .i64 k0) ∧ w'.cell? ⟨w.heap.size, 1, none⟩ = some (.int .i64 n0) ∧ w'.cell? ⟨w.heap.size, 2, none⟩ = some (.string s0) ∧ w'.cell? ⟨w.heap.size, 3, none⟩ = some (.int .i64 x0) ∧ w'.cell? ⟨w.heap.size, 4, none⟩ = some (.slice A0 L0 c0) ∧ w'.cell? ⟨w.heap.size + 1, 0, none⟩ = some (.bool yb1) ∧ w'.cell? ⟨w.heap.size + 1, 1, none⟩ = some (.int .i64 yn1) ∧ w'.cell? ⟨w.heap.size + 1, 2, none⟩ = some (.string ys1)) (go_keep)
      (first
      | (go_at_call 25; refine (cps T0 hT0.out _ _ _ (HR0.out.below' (by first | exact HB.out | exact HB.out.trans ((Below.refl _ _).drew) | exact HB.out.alloc HB.out.size _ | exact (HB.out.trans ((Below.refl _ _).drew)).alloc HB.out.size _))).mono ?_
         rintro e w2 ⟨v, rfl, hv, hb⟩
         have hbx : Below w1.heap.size w1 w2 := by first | exact hb | exact bs ((Below.refl _ _).drew) hb | exact bs (b1 _ _) hb | exact bs (bs ((Below.refl _ _).drew) (b1 _ _)) hb
         first | (have ez := Lib.hid (carry hb (heap_alloc_new w1 (.cells #[.int .i64 0, .int .i64 0, .string ⟨#[]⟩, .int .i64 0, .slice none 0 0] IV)))) | (have ez := Lib.hid (carry hb (heap_alloc_new w1.drew (.cells #[.int .i64 0, .int .i64 0, .string ⟨#[]⟩, .int .i64 0, .slice none 0 0] IV)))) | (replace ez := Lib.hid (carry hbx ez.out)) | skip
         obtain ⟨Am0, cm0, rfl, -, -⟩ := TIn.out (HT0.out ▸ hv)
         have HVm0 := Lib.hid (show TIn w2 _ T0 (vV k0 n0 s0 x0 Am0 L0 cm0) by rw [HL0.out, HT0.out]; exact (HT0.out ▸ hv))
         rw [← HL0.out]
         clear hv
         replace Ea0 := Lib.hid (carry hbx Ea0.out)
         replace Ea1 := Lib.hid (carry hbx Ea1.out)
         replace HB := Lib.hid (bs HB.out hbx)
         replace HW := Lib.hid (bs HW.out hbx)
         have hzw2 : w1.heap.size ≤ w2.heap.size := HW.out.size
         have za00 : w2.cell? ⟨w.heap.size, 0, none⟩ = some (.int .i64 k0) := (rowc Ea0.out).1 0
         have za01 : w2.cell? ⟨w.heap.size, 1, none⟩ = some (.int .i64 n0) := (rowc Ea0.out).1 1
         have za02 : w2.cell? ⟨w.heap.size, 2, none⟩ = some (.string s0) := (rowc Ea0.out).1 2
         have za03 : w2.cell? ⟨w.heap.size, 3, none⟩ = some (.int .i64 x0) := (rowc Ea0.out).1 3
         have za04 : w2.cell? ⟨w.heap.size, 4, none⟩ = some (.slice A0 L0 c0) := (rowc Ea0.out).1 4
         have za10 : w2.cell? ⟨w.heap.size + 1, 0, none⟩ = some (.bool yb1) := (rowc Ea1.out).1 0
         have za11 : w2.cell? ⟨w.heap.size + 1, 1, none⟩ = some (.int .i64 yn1) := (rowc Ea1.out).1 1
         have za12 : w2.cell? ⟨w.heap.size + 1, 2, none⟩ = some (.string ys1) := (rowc Ea1.out).1 2
         have nza0w2 : w2.heap.size ≠ w.heap.size := by have := (Array.getElem?_eq_some_iff.1 Ea0.out).1; omega
         have nza1w2 : w2.heap.size ≠ w.heap.size + 1 := by have := (Array.getElem?_eq_some_iff.1 Ea1.out).1; omega
         clear hb hbx)
      | (go_at_call 12; refine (HTK.out _).mono ?_
         rintro e w3 ⟨rfl, hb⟩
         have hbx : Below w2.heap.size w2 w3 := by first | exact hb | exact bs ((Below.refl _ _).drew) hb | exact bs (b1 _ _) hb | exact bs (bs ((Below.refl _ _).drew) (b1 _ _)) hb
         first | (have ez := Lib.hid (carry hb (heap_alloc_new w2 (.cells #[.int .i64 0, .int .i64 0, .string ⟨#[]⟩, .int .i64 0, .slice none 0 0] IV)))) | (have ez := Lib.hid (carry hb (heap_alloc_new w2.drew (.cells #[.int .i64 0, .int .i64 0, .string ⟨#[]⟩, .int .i64 0, .slice none 0 0] IV)))) | (replace ez := Lib.hid (carry hbx ez.out)) | skip
         
         replace Ea0 := Lib.hid (carry hbx Ea0.out)
         replace Ea1 := Lib.hid (carry hbx Ea1.out)
         replace HVm0 := Lib.hid (HVm0.out.below' hbx)
         replace HB := Lib.hid (bs HB.out hbx)
         replace HW := Lib.hid (bs HW.out hbx)
         have hzw3 : w1.heap.size ≤ w3.heap.size := HW.out.size
         have za00 : w3.cell? ⟨w.heap.size, 0, none⟩ = some (.int .i64 k0) := (rowc Ea0.out).1 0
         have za01 : w3.cell? ⟨w.heap.size, 1, none⟩ = some (.int .i64 n0) := (rowc Ea0.out).1 1
         have za02 : w3.cell? ⟨w.heap.size, 2, none⟩ = some (.string s0) := (rowc Ea0.out).1 2
         have za03 : w3.cell? ⟨w.heap.size, 3, none⟩ = some (.int .i64 x0) := (rowc Ea0.out).1 3
         have za04 : w3.cell? ⟨w.heap.size, 4, none⟩ = some (.slice A0 L0 c0) := (rowc Ea0.out).1 4
         have za10 : w3.cell? ⟨w.heap.size + 1, 0, none⟩ = some (.bool yb1) := (rowc Ea1.out).1 0
         have za11 : w3.cell? ⟨w.heap.size + 1, 1, none⟩ = some (.int .i64 yn1) := (rowc Ea1.out).1 1
         have za12 : w3.cell? ⟨w.heap.size + 1, 2, none⟩ = some (.string ys1) := (rowc Ea1.out).1 2
         have nza0w3 : w3.heap.size ≠ w.heap.size := by have := (Array.getElem?_eq_some_iff.1 Ea0.out).1; omega
         have nza1w3 : w3.heap.size ≠ w.heap.size + 1 := by have := (Array.getElem?_eq_some_iff.1 Ea1.out).1; omega
         clear hb hbx)
      | (go_at_call 41; refine (HCS.out _ _ _ (by first | exact HVm0.out | exact HVm0.out.below' (b1 _ _) | exact HVm0.out.below' ((Below.refl _ _).drew) | exact HVm0.out.below' (bs ((Below.refl _ _).drew) (b1 _ _)))).mono ?_
         rintro e w4 ⟨u, rfl, hv, hb⟩
         have hbx : Below w3.heap.size w3 w4 := by first | exact hb | exact bs ((Below.refl _ _).drew) hb | exact bs (b1 _ _) hb | exact bs (bs ((Below.refl _ _).drew) (b1 _ _)) hb
         first | (have nzw := Lib.hid (Array.getElem?_eq_some_iff.1 ez.out).1; replace ez := Lib.hid (carry hbx ez.out)) | (have ez := Lib.hid (carry hb (heap_alloc_new w3 (.cells #[.int .i64 0, .int .i64 0, .string ⟨#[]⟩, .int .i64 0, .slice none 0 0] IV))); have nzw := Lib.hid (Array.getElem?_eq_some_iff.1 (heap_alloc_new w3 (.cells #[.int .i64 0, .int .i64 0, .string ⟨#[]⟩, .int .i64 0, .slice none 0 0] IV))).1) | (have ez := Lib.hid (carry hb (heap_alloc_new w3.drew (.cells #[.int .i64 0, .int .i64 0, .string ⟨#[]⟩, .int .i64 0, .slice none 0 0] IV)))) | skip
         obtain ⟨Am, cm, rfl, -, -⟩ := TIn.out (HRT.out ▸ hv)
         have HMM := Lib.hid (show TIn w4 _ RT (vV K N Z X Am RL cm) by rw [HRL.out, HRT.out]; exact (HRT.out ▸ hv))
         rw [← HRL.out]
         clear hv
         replace Ea0 := Lib.hid (carry hbx Ea0.out)
         replace Ea1 := Lib.hid (carry hbx Ea1.out)
         replace HVm0 := Lib.hid (HVm0.out.below' hbx)
         replace HB := Lib.hid (bs HB.out hbx)
         replace HW := Lib.hid (bs HW.out hbx)
         have hzw4 : w1.heap.size ≤ w4.heap.size := HW.out.size
         have za00 : w4.cell? ⟨w.heap.size, 0, none⟩ = some (.int .i64 k0) := (rowc Ea0.out).1 0
         have za01 : w4.cell? ⟨w.heap.size, 1, none⟩ = some (.int .i64 n0) := (rowc Ea0.out).1 1
         have za02 : w4.cell? ⟨w.heap.size, 2, none⟩ = some (.string s0) := (rowc Ea0.out).1 2
         have za03 : w4.cell? ⟨w.heap.size, 3, none⟩ = some (.int .i64 x0) := (rowc Ea0.out).1 3
         have za04 : w4.cell? ⟨w.heap.size, 4, none⟩ = some (.slice A0 L0 c0) := (rowc Ea0.out).1 4
         have za10 : w4.cell? ⟨w.heap.size + 1, 0, none⟩ = some (.bool yb1) := (rowc Ea1.out).1 0
         have za11 : w4.cell? ⟨w.heap.size + 1, 1, none⟩ = some (.int .i64 yn1) := (rowc Ea1.out).1 1
         have za12 : w4.cell? ⟨w.heap.size + 1, 2, none⟩ = some (.string ys1) := (rowc Ea1.out).1 2
         have nza0w4 : w4.heap.size ≠ w.heap.size := by have := (Array.getElem?_eq_some_iff.1 Ea0.out).1; omega
         have nza1w4 : w4.heap.size ≠ w.heap.size + 1 := by have := (Array.getElem?_eq_some_iff.1 Ea1.out).1; omega
         clear hb hbx
         first | (have zr := (rowc ez.out).1; have zf := (rowc ez.out).2) | skip))
    all_goals
      go_wp2_with (fail)
      go_meet
      first
      | with_reducible exact cutM_box HW.out HMM.out
      | exact cutM_early HW.out (by first | exact Nat.le_refl _ | assumption) ez.out HMM.out (fun q hq e => by subst e; exact absurd nzw.out (Nat.not_lt.2 hq)) rfl
  obtain ⟨Nm, Am, cm, hp, hf, hbx, hNm, en, hv⟩ := hcut
  clear hf
  subst hp
  obtain ⟨w5, hwc⟩ : ∃ q, q = wc := ⟨wc, rfl⟩
  subst hwc
  try clear za00 za01 za02 za03 za04
  try clear za10 za11 za12
  replace Ea0 := Lib.hid (carry hbx Ea0.out)
  replace Ea1 := Lib.hid (carry hbx Ea1.out)
  replace HB := Lib.hid (bs HB.out hbx)
  have Em := Lib.hid en
  clear en
  have HM := Lib.hid hv.lt'
  clear hv hbx hNm
  have za00 : w5.cell? ⟨w.heap.size, 0, none⟩ = some (.int .i64 k0) := (rowc Ea0.out).1 0
  have za01 : w5.cell? ⟨w.heap.size, 1, none⟩ = some (.int .i64 n0) := (rowc Ea0.out).1 1
  have za02 : w5.cell? ⟨w.heap.size, 2, none⟩ = some (.string s0) := (rowc Ea0.out).1 2
  have za03 : w5.cell? ⟨w.heap.size, 3, none⟩ = some (.int .i64 x0) := (rowc Ea0.out).1 3
  have za04 : w5.cell? ⟨w.heap.size, 4, none⟩ = some (.slice A0 L0 c0) := (rowc Ea0.out).1 4
  go_wp2_with (fail)
  obtain ⟨lo0, hlo0⟩ : ∃ N, N = w5.heap.size := ⟨_, rfl⟩
  rw [← hlo0] at HM
  have HPa : Hid (w.heap.size + 1 < lo0) := Lib.hid (by rw [hlo0]; exact (Array.getElem?_eq_some_iff.1 Ea1.out).1)
  have HP0 : Hid (Nm < lo0) := Lib.hid (by rw [hlo0]; exact (Array.getElem?_eq_some_iff.1 Em.out).1)
  refine (cps T0 hT0.out _ _ _ (HR0.out.below' HB.out)).mono ?_
  rintro e w6 ⟨v, rfl, hv, hb⟩
  have hbx := hb
  obtain ⟨Ax0, cx0, rfl, -, -⟩ := TIn.out (HT0.out ▸ hv)
  have hx := (show TIn w6 (Nw lo0 w6) T0 (vV k0 n0 s0 x0 Ax0 L0 cx0) by rw [HL0.out, HT0.out, hlo0]; exact (HT0.out ▸ hv))
  rw [← HL0.out]
  clear hv
  replace Ea0 := Lib.hid (carry hbx Ea0.out)
  replace Ea1 := Lib.hid (carry hbx Ea1.out)
  replace Em := Lib.hid (carry hbx Em.out)
  replace HM := Lib.hid (HM.out.below' hbx)
  replace HB := Lib.hid (bs HB.out hbx)
  have HX0 := Lib.hid hx.rgp
  have hsz := hb.size
  rw [← hlo0] at hsz
  clear hb hbx hx
  try clear za00 za01 za02 za03 za04
  go_wp2_with (fail)
  obtain ⟨Nb0, hNb0⟩ : ∃ N, N = w6.heap.size := ⟨_, rfl⟩
  generalize hwn : w6.alloc (.cells #[.int .i64 k0, .int .i64 n0, .string s0, .int .i64 x0, .slice Ax0 L0 cx0] IV) = w7
  have en : w7.heap[Nb0]? = some (.cells #[.int .i64 k0, .int .i64 n0, .string s0, .int .i64 x0, .slice Ax0 L0 cx0] IV (0, 0)) := by rw [← hwn, hNb0]; exact heap_alloc_new _ _
  have hbx : Below w6.heap.size w6 w7 := hwn ▸ b1 _ _
  rw [← hNb0]
  have HNb0 := Lib.hid hNb0
  replace Ea0 := Lib.hid (carry hbx Ea0.out)
  replace Ea1 := Lib.hid (carry hbx Ea1.out)
  replace Em := Lib.hid (carry hbx Em.out)
  replace HM := Lib.hid (HM.out.below' hbx)
  replace HB := Lib.hid (bs HB.out hbx)
  replace HX0 := Lib.hid (HX0.out.rgb hbx)
  have Eb0 := Lib.hid en
  clear en hbx hwn hNb0
  rw [← HNb0.out] at HX0 hsz
  have HQ0' : Hid (lo0 ≤ Nb0) := Lib.hid hsz
  clear hsz hlo0
  have HPg : Hid (Nb0 < w7.heap.size) := Lib.hid (Array.getElem?_eq_some_iff.1 Eb0.out).1
  have zb00 : w7.cell? ⟨Nb0, 0, none⟩ = some (.int .i64 k0) := (rowc Eb0.out).1 0
  have zb01 : w7.cell? ⟨Nb0, 1, none⟩ = some (.int .i64 n0) := (rowc Eb0.out).1 1
  have zb02 : w7.cell? ⟨Nb0, 2, none⟩ = some (.string s0) := (rowc Eb0.out).1 2
  have zb03 : w7.cell? ⟨Nb0, 3, none⟩ = some (.int .i64 x0) := (rowc Eb0.out).1 3
  have zb04 : w7.cell? ⟨Nb0, 4, none⟩ = some (.slice Ax0 L0 cx0) := (rowc Eb0.out).1 4
  have za10 : w7.cell? ⟨w.heap.size + 1, 0, none⟩ = some (.bool yb1) := (rowc Ea1.out).1 0
  have za11 : w7.cell? ⟨w.heap.size + 1, 1, none⟩ = some (.int .i64 yn1) := (rowc Ea1.out).1 1
  have za12 : w7.cell? ⟨w.heap.size + 1, 2, none⟩ = some (.string ys1) := (rowc Ea1.out).1 2
  go_wp2_with (fail)
  go_cut [8] (fun p wx => CutP w7 bb K N Z X RL RT p (.bool bb) wx)
  case first =>
    have HW : Hid (Below w7.heap.size w7 w7) := Lib.hid (Below.refl _ _)
    have hzw7 : w7.heap.size ≤ w7.heap.size := Nat.le_refl _
    have nzb0w7 : w7.heap.size ≠ Nb0 := by have := (Array.getElem?_eq_some_iff.1 Eb0.out).1; omega
    have nza1w7 : w7.heap.size ≠ w.heap.size + 1 := by have := (Array.getElem?_eq_some_iff.1 Ea1.out).1; omega
    go_region_held3 (fun w' => w'.cell? ⟨Nb0, 0, none⟩ = some (.int .i64 k0) ∧ w'.cell? ⟨Nb0, 1, none⟩ = some (.int .i64 n0) ∧ w'.cell? ⟨Nb0, 2, none⟩ = some (.string s0) ∧ w'.cell? ⟨Nb0, 3, none⟩ = some (.int .i64 x0) ∧ w'.cell? ⟨Nb0, 4, none⟩ = some (.slice Ax0 L0 cx0) ∧ w'.cell? ⟨w.heap.size + 1, 0, none⟩ = some (.bool yb1) ∧ w'.cell? ⟨w.heap.size + 1, 1, none⟩ = some (.int .i64 yn1) ∧ w'.cell? ⟨w.heap.size + 1, 2, none⟩ = some (.string ys1)) (go_keep)
      (first
      | (go_at_call 12; refine (HTK.out _).mono ?_
         rintro e w8 ⟨rfl, hb⟩
         have hbx : Below w7.heap.size w7 w8 := by first | exact hb | exact bs ((Below.refl _ _).drew) hb | exact bs (b1 _ _) hb | exact bs (bs ((Below.refl _ _).drew) (b1 _ _)) hb
         first | (have ez := Lib.hid (carry hb (heap_alloc_new w7 (.cells #[.int .i64 0, .int .i64 0, .string ⟨#[]⟩, .int .i64 0, .slice none 0 0] IV)))) | (have ez := Lib.hid (carry hb (heap_alloc_new w7.drew (.cells #[.int .i64 0, .int .i64 0, .string ⟨#[]⟩, .int .i64 0, .slice none 0 0] IV)))) | (replace ez := Lib.hid (carry hbx ez.out)) | skip
         
         replace Ea0 := Lib.hid (carry hbx Ea0.out)
         replace Ea1 := Lib.hid (carry hbx Ea1.out)
         replace Em := Lib.hid (carry hbx Em.out)
         replace Eb0 := Lib.hid (carry hbx Eb0.out)
         replace HM := Lib.hid (HM.out.below' hbx)
         replace HB := Lib.hid (bs HB.out hbx)
         replace HX0 := Lib.hid (HX0.out.rgb hbx)
         replace HW := Lib.hid (bs HW.out hbx)
         have hzw8 : w7.heap.size ≤ w8.heap.size := HW.out.size
         have zb00 : w8.cell? ⟨Nb0, 0, none⟩ = some (.int .i64 k0) := (rowc Eb0.out).1 0
         have zb01 : w8.cell? ⟨Nb0, 1, none⟩ = some (.int .i64 n0) := (rowc Eb0.out).1 1
         have zb02 : w8.cell? ⟨Nb0, 2, none⟩ = some (.string s0) := (rowc Eb0.out).1 2
         have zb03 : w8.cell? ⟨Nb0, 3, none⟩ = some (.int .i64 x0) := (rowc Eb0.out).1 3
         have zb04 : w8.cell? ⟨Nb0, 4, none⟩ = some (.slice Ax0 L0 cx0) := (rowc Eb0.out).1 4
         have za10 : w8.cell? ⟨w.heap.size + 1, 0, none⟩ = some (.bool yb1) := (rowc Ea1.out).1 0
         have za11 : w8.cell? ⟨w.heap.size + 1, 1, none⟩ = some (.int .i64 yn1) := (rowc Ea1.out).1 1
         have za12 : w8.cell? ⟨w.heap.size + 1, 2, none⟩ = some (.string ys1) := (rowc Ea1.out).1 2
         have nzb0w8 : w8.heap.size ≠ Nb0 := by have := (Array.getElem?_eq_some_iff.1 Eb0.out).1; omega
         have nza1w8 : w8.heap.size ≠ w.heap.size + 1 := by have := (Array.getElem?_eq_some_iff.1 Ea1.out).1; omega
         clear hb hbx)
      | (go_at_call 42; refine (HCI.out _ _ (by first | exact HX0.out.rgn | exact (HX0.out.rgb (b1 _ _)).rgn | exact (HX0.out.rgb ((Below.refl _ _).drew)).rgn | exact (HX0.out.rgb (bs ((Below.refl _ _).drew) (b1 _ _))).rgn)).mono ?_
         rintro e w9 ⟨u, par, r, rfl, hv, hr, hb⟩
         have hbx : Below w8.heap.size w8 w9 := by first | exact hb | exact bs ((Below.refl _ _).drew) hb | exact bs (b1 _ _) hb | exact bs (bs ((Below.refl _ _).drew) (b1 _ _)) hb
         first | (have nzw := Lib.hid (Array.getElem?_eq_some_iff.1 ez.out).1; replace ez := Lib.hid (carry hbx ez.out)) | (have ez := Lib.hid (carry hb (heap_alloc_new w8 (.cells #[.int .i64 0, .int .i64 0, .string ⟨#[]⟩, .int .i64 0, .slice none 0 0] IV))); have nzw := Lib.hid (Array.getElem?_eq_some_iff.1 (heap_alloc_new w8 (.cells #[.int .i64 0, .int .i64 0, .string ⟨#[]⟩, .int .i64 0, .slice none 0 0] IV))).1) | (have ez := Lib.hid (carry hb (heap_alloc_new w8.drew (.cells #[.int .i64 0, .int .i64 0, .string ⟨#[]⟩, .int .i64 0, .slice none 0 0] IV)))) | skip
         obtain ⟨Ag, cg, rfl, -⟩ := TPar.out (HRT.out ▸ hv)
         have HGG := Lib.hid (show TPar w9 par (r, 0) RT (vV K N Z X Ag RL cg) by rw [HRL.out, HRT.out]; exact (HRT.out ▸ hv))
         have HRQ := Lib.hid hr
         rw [← HRL.out]
         clear hv hr
         replace Ea0 := Lib.hid (carry hbx Ea0.out)
         replace Ea1 := Lib.hid (carry hbx Ea1.out)
         replace Em := Lib.hid (carry hbx Em.out)
         replace Eb0 := Lib.hid (carry hbx Eb0.out)
         replace HM := Lib.hid (HM.out.below' hbx)
         replace HB := Lib.hid (bs HB.out hbx)
         replace HX0 := Lib.hid (HX0.out.rgb hbx)
         replace HW := Lib.hid (bs HW.out hbx)
         have hzw9 : w7.heap.size ≤ w9.heap.size := HW.out.size
         have zb00 : w9.cell? ⟨Nb0, 0, none⟩ = some (.int .i64 k0) := (rowc Eb0.out).1 0
         have zb01 : w9.cell? ⟨Nb0, 1, none⟩ = some (.int .i64 n0) := (rowc Eb0.out).1 1
         have zb02 : w9.cell? ⟨Nb0, 2, none⟩ = some (.string s0) := (rowc Eb0.out).1 2
         have zb03 : w9.cell? ⟨Nb0, 3, none⟩ = some (.int .i64 x0) := (rowc Eb0.out).1 3
         have zb04 : w9.cell? ⟨Nb0, 4, none⟩ = some (.slice Ax0 L0 cx0) := (rowc Eb0.out).1 4
         have za10 : w9.cell? ⟨w.heap.size + 1, 0, none⟩ = some (.bool yb1) := (rowc Ea1.out).1 0
         have za11 : w9.cell? ⟨w.heap.size + 1, 1, none⟩ = some (.int .i64 yn1) := (rowc Ea1.out).1 1
         have za12 : w9.cell? ⟨w.heap.size + 1, 2, none⟩ = some (.string ys1) := (rowc Ea1.out).1 2
         have nzb0w9 : w9.heap.size ≠ Nb0 := by have := (Array.getElem?_eq_some_iff.1 Eb0.out).1; omega
         have nza1w9 : w9.heap.size ≠ w.heap.size + 1 := by have := (Array.getElem?_eq_some_iff.1 Ea1.out).1; omega
         clear hb hbx
         first | (have zr := (rowc ez.out).1; have zf := (rowc ez.out).2) | skip))
    all_goals
      go_wp2_with (fail)
      go_meet
      first
      | with_reducible exact cutP_box HW.out HGG.out (Nat.le_trans (by first | exact Nat.le_refl _ | assumption | (simp; omega)) HRQ.out)
      | exact cutP_early HW.out (by first | exact Nat.le_refl _ | assumption) ez.out HGG.out (Nat.le_of_lt (Nat.lt_of_lt_of_le nzw.out HRQ.out)) rfl
  obtain ⟨Ng, Ag, cg, pg, rg, hp, hf, hbx, hNg, en, hv, hrg, hig, htg, hhg, hdg⟩ := hcut
  clear hf
  subst hp
  obtain ⟨w10, hwc⟩ : ∃ q, q = wc := ⟨wc, rfl⟩
  subst hwc
  try clear zb00 zb01 zb02 zb03 zb04
  try clear za10 za11 za12
  replace Ea0 := Lib.hid (carry hbx Ea0.out)
  replace Ea1 := Lib.hid (carry hbx Ea1.out)
  replace Em := Lib.hid (carry hbx Em.out)
  replace Eb0 := Lib.hid (carry hbx Eb0.out)
  replace HM := Lib.hid (HM.out.below' hbx)
  replace HB := Lib.hid (bs HB.out hbx)
  replace HX0 := Lib.hid (HX0.out.rgb hbx)
  have Eg := Lib.hid en
  clear en
  have HG := Lib.hid hv
  have HTG := Lib.hid htg
  have HHG := Lib.hid hdg
  have HRR : Hid (Nb0 < rg) := Lib.hid (Nat.lt_of_lt_of_le HPg.out hrg)
  have HNG : Hid (Nb0 < Ng) := Lib.hid (Nat.lt_of_lt_of_le HPg.out hNg)
  clear hv htg hhg hdg hrg hNg hbx HPg
  have zg0 : w10.cell? ⟨Ng, 0, none⟩ = some (.int .i64 K) := (rowc Eg.out).1 0
  have zg1 : w10.cell? ⟨Ng, 1, none⟩ = some (.int .i64 N) := (rowc Eg.out).1 1
  have zg2 : w10.cell? ⟨Ng, 2, none⟩ = some (.string Z) := (rowc Eg.out).1 2
  have zg3 : w10.cell? ⟨Ng, 3, none⟩ = some (.int .i64 X) := (rowc Eg.out).1 3
  have zg4 : w10.cell? ⟨Ng, 4, none⟩ = some (.slice Ag RL cg) := (rowc Eg.out).1 4
  have zm0 : w10.cell? ⟨Nm, 0, none⟩ = some (.int .i64 K) := (rowc Em.out).1 0
  have zm1 : w10.cell? ⟨Nm, 1, none⟩ = some (.int .i64 N) := (rowc Em.out).1 1
  have zm2 : w10.cell? ⟨Nm, 2, none⟩ = some (.string Z) := (rowc Em.out).1 2
  have zm3 : w10.cell? ⟨Nm, 3, none⟩ = some (.int .i64 X) := (rowc Em.out).1 3
  have zm4 : w10.cell? ⟨Nm, 4, none⟩ = some (.slice Am RL cm) := (rowc Em.out).1 4
  go_wp2_with (fail)
  refine (eqV RT _ _ _ _ _ HG.out.tin HM.out).mono ?_
  rintro e w11 ⟨rfl, hb⟩
  have hbx := hb
  replace Ea0 := Lib.hid (carry hbx Ea0.out)
  replace Ea1 := Lib.hid (carry hbx Ea1.out)
  replace Em := Lib.hid (carry hbx Em.out)
  replace Eb0 := Lib.hid (carry hbx Eb0.out)
  replace Eg := Lib.hid (carry hbx Eg.out)
  replace HM := Lib.hid (HM.out.below' hbx)
  replace HG := Lib.hid (HG.out.above fun q _ hl => Below.block hbx q hl)
  replace HB := Lib.hid (bs HB.out hbx)
  replace HX0 := Lib.hid (HX0.out.rgb hbx)
  clear hb hbx
  try clear zg0 zg1 zg2 zg3 zg4
  try clear zm0 zm1 zm2 zm3 zm4
  have zb00 : w11.cell? ⟨Nb0, 0, none⟩ = some (.int .i64 k0) := (rowc Eb0.out).1 0
  have zb01 : w11.cell? ⟨Nb0, 1, none⟩ = some (.int .i64 n0) := (rowc Eb0.out).1 1
  have zb02 : w11.cell? ⟨Nb0, 2, none⟩ = some (.string s0) := (rowc Eb0.out).1 2
  have zb03 : w11.cell? ⟨Nb0, 3, none⟩ = some (.int .i64 x0) := (rowc Eb0.out).1 3
  have zb04 : w11.cell? ⟨Nb0, 4, none⟩ = some (.slice Ax0 L0 cx0) := (rowc Eb0.out).1 4
  have za00 : w11.cell? ⟨w.heap.size, 0, none⟩ = some (.int .i64 k0) := (rowc Ea0.out).1 0
  have za01 : w11.cell? ⟨w.heap.size, 1, none⟩ = some (.int .i64 n0) := (rowc Ea0.out).1 1
  have za02 : w11.cell? ⟨w.heap.size, 2, none⟩ = some (.string s0) := (rowc Ea0.out).1 2
  have za03 : w11.cell? ⟨w.heap.size, 3, none⟩ = some (.int .i64 x0) := (rowc Ea0.out).1 3
  have za04 : w11.cell? ⟨w.heap.size, 4, none⟩ = some (.slice A0 L0 c0) := (rowc Ea0.out).1 4
  go_wp2_with (fail)
  go_region_held3 (fun w' => w'.cell? ⟨Nb0, 0, none⟩ = some (.int .i64 k0) ∧ w'.cell? ⟨Nb0, 1, none⟩ = some (.int .i64 n0) ∧ w'.cell? ⟨Nb0, 2, none⟩ = some (.string s0) ∧ w'.cell? ⟨Nb0, 3, none⟩ = some (.int .i64 x0) ∧ w'.cell? ⟨Nb0, 4, none⟩ = some (.slice Ax0 L0 cx0) ∧ w'.cell? ⟨w.heap.size, 0, none⟩ = some (.int .i64 k0) ∧ w'.cell? ⟨w.heap.size, 1, none⟩ = some (.int .i64 n0) ∧ w'.cell? ⟨w.heap.size, 2, none⟩ = some (.string s0) ∧ w'.cell? ⟨w.heap.size, 3, none⟩ = some (.int .i64 x0) ∧ w'.cell? ⟨w.heap.size, 4, none⟩ = some (.slice A0 L0 c0)) (go_keep)
    (first
    | (go_at_call 25; refine (cps T0 hT0.out _ _ _ (HR0.out.below' (HB.out.trans ((Below.refl _ _).drew)))).mono ?_
       rintro e w12 ⟨v, rfl, hv, hb⟩
       have hbx := (bs ((Below.refl w11.heap.size w11).drew) hb)
       obtain ⟨Aq0, cq0, rfl, -, -⟩ := TIn.out (HT0.out ▸ hv)
       have HVq0 := Lib.hid (show TIn w12 _ T0 (vV k0 n0 s0 x0 Aq0 L0 cq0) by rw [HL0.out, HT0.out]; exact (HT0.out ▸ hv))
       rw [← HL0.out]
       clear hv
       replace Ea0 := Lib.hid (carry hbx Ea0.out)
       replace Ea1 := Lib.hid (carry hbx Ea1.out)
       replace Em := Lib.hid (carry hbx Em.out)
       replace Eb0 := Lib.hid (carry hbx Eb0.out)
       replace Eg := Lib.hid (carry hbx Eg.out)
       replace HM := Lib.hid (HM.out.below' hbx)
       replace HG := Lib.hid (HG.out.above fun q _ hl => Below.block hbx q hl)
       replace HB := Lib.hid (bs HB.out hbx)
       replace HX0 := Lib.hid (HX0.out.rgb hbx)
       have zb00 : w12.cell? ⟨Nb0, 0, none⟩ = some (.int .i64 k0) := (rowc Eb0.out).1 0
       have zb01 : w12.cell? ⟨Nb0, 1, none⟩ = some (.int .i64 n0) := (rowc Eb0.out).1 1
       have zb02 : w12.cell? ⟨Nb0, 2, none⟩ = some (.string s0) := (rowc Eb0.out).1 2
       have zb03 : w12.cell? ⟨Nb0, 3, none⟩ = some (.int .i64 x0) := (rowc Eb0.out).1 3
       have zb04 : w12.cell? ⟨Nb0, 4, none⟩ = some (.slice Ax0 L0 cx0) := (rowc Eb0.out).1 4
       have za00 : w12.cell? ⟨w.heap.size, 0, none⟩ = some (.int .i64 k0) := (rowc Ea0.out).1 0
       have za01 : w12.cell? ⟨w.heap.size, 1, none⟩ = some (.int .i64 n0) := (rowc Ea0.out).1 1
       have za02 : w12.cell? ⟨w.heap.size, 2, none⟩ = some (.string s0) := (rowc Ea0.out).1 2
       have za03 : w12.cell? ⟨w.heap.size, 3, none⟩ = some (.int .i64 x0) := (rowc Ea0.out).1 3
       have za04 : w12.cell? ⟨w.heap.size, 4, none⟩ = some (.slice A0 L0 c0) := (rowc Ea0.out).1 4
       clear hb hbx)
    | (go_at_call 18; refine (eqV T0 _ _ _ _ _ HX0.out HVq0.out).mono ?_
       rintro e w13 ⟨rfl, hb⟩
       have hbx := hb
       
       replace Ea0 := Lib.hid (carry hbx Ea0.out)
       replace Ea1 := Lib.hid (carry hbx Ea1.out)
       replace Em := Lib.hid (carry hbx Em.out)
       replace Eb0 := Lib.hid (carry hbx Eb0.out)
       replace Eg := Lib.hid (carry hbx Eg.out)
       replace HM := Lib.hid (HM.out.below' hbx)
       replace HG := Lib.hid (HG.out.above fun q _ hl => Below.block hbx q hl)
       replace HB := Lib.hid (bs HB.out hbx)
       replace HX0 := Lib.hid (HX0.out.rgb hbx)
       have zb00 : w13.cell? ⟨Nb0, 0, none⟩ = some (.int .i64 k0) := (rowc Eb0.out).1 0
       have zb01 : w13.cell? ⟨Nb0, 1, none⟩ = some (.int .i64 n0) := (rowc Eb0.out).1 1
       have zb02 : w13.cell? ⟨Nb0, 2, none⟩ = some (.string s0) := (rowc Eb0.out).1 2
       have zb03 : w13.cell? ⟨Nb0, 3, none⟩ = some (.int .i64 x0) := (rowc Eb0.out).1 3
       have zb04 : w13.cell? ⟨Nb0, 4, none⟩ = some (.slice Ax0 L0 cx0) := (rowc Eb0.out).1 4
       have za00 : w13.cell? ⟨w.heap.size, 0, none⟩ = some (.int .i64 k0) := (rowc Ea0.out).1 0
       have za01 : w13.cell? ⟨w.heap.size, 1, none⟩ = some (.int .i64 n0) := (rowc Ea0.out).1 1
       have za02 : w13.cell? ⟨w.heap.size, 2, none⟩ = some (.string s0) := (rowc Ea0.out).1 2
       have za03 : w13.cell? ⟨w.heap.size, 3, none⟩ = some (.int .i64 x0) := (rowc Ea0.out).1 3
       have za04 : w13.cell? ⟨w.heap.size, 4, none⟩ = some (.slice A0 L0 c0) := (rowc Ea0.out).1 4
       clear hb hbx))
  try clear zb00 zb01 zb02 zb03 zb04
  try clear za00 za01 za02 za03 za04
  clear HVq0
  have zb00 : w13.cell? ⟨Nb0, 0, none⟩ = some (.int .i64 k0) := (rowc Eb0.out).1 0
  have zb01 : w13.cell? ⟨Nb0, 1, none⟩ = some (.int .i64 n0) := (rowc Eb0.out).1 1
  have zb02 : w13.cell? ⟨Nb0, 2, none⟩ = some (.string s0) := (rowc Eb0.out).1 2
  have zb03 : w13.cell? ⟨Nb0, 3, none⟩ = some (.int .i64 x0) := (rowc Eb0.out).1 3
  have zb04 : w13.cell? ⟨Nb0, 4, none⟩ = some (.slice Ax0 L0 cx0) := (rowc Eb0.out).1 4
  go_wp2_with (fail)
  refine (markArg2 T0 _ _ (by omega) (by have := hF0.out; omega) _ lo0 Nb0 HX0.out).mono ?_
  rintro e w14 ⟨p0, rfl, hp0, hq0, hf⟩
  replace hq0 : p0 ≤ 8000000 := by have := hF0.out; omega
  try clear zb00 zb01 zb02 zb03 zb04
  clear HX0
  replace Ea0 := Lib.hid ((hf.block _ (Array.getElem?_eq_some_iff.1 Ea0.out).1 (by unfold Rg; have o0 := HPa.out; have o1 := HP0.out; have o2 := HQ0'.out; have o3 := HRR.out; have o4 := HNG.out; have o5 := HHG.out; omega)).trans Ea0.out)
  replace Ea1 := Lib.hid ((hf.block _ (Array.getElem?_eq_some_iff.1 Ea1.out).1 (by unfold Rg; have o0 := HPa.out; have o1 := HP0.out; have o2 := HQ0'.out; have o3 := HRR.out; have o4 := HNG.out; have o5 := HHG.out; omega)).trans Ea1.out)
  replace Em := Lib.hid ((hf.block _ (Array.getElem?_eq_some_iff.1 Em.out).1 (by unfold Rg; have o0 := HPa.out; have o1 := HP0.out; have o2 := HQ0'.out; have o3 := HRR.out; have o4 := HNG.out; have o5 := HHG.out; omega)).trans Em.out)
  replace Eb0 := Lib.hid ((hf.block _ (Array.getElem?_eq_some_iff.1 Eb0.out).1 (by unfold Rg; have o0 := HPa.out; have o1 := HP0.out; have o2 := HQ0'.out; have o3 := HRR.out; have o4 := HNG.out; have o5 := HHG.out; omega)).trans Eb0.out)
  replace Eg := Lib.hid ((hf.block _ (Array.getElem?_eq_some_iff.1 Eg.out).1 (by unfold Rg; have o0 := HPa.out; have o1 := HP0.out; have o2 := HQ0'.out; have o3 := HRR.out; have o4 := HNG.out; have o5 := HHG.out; omega)).trans Eg.out)
  replace HM := Lib.hid (HM.out.stays (fun _ h => h) (fun b hb hl => hf.block b hl (by unfold Rg; have hb' : b < lo0 := hb; have o0 := HPa.out; have o1 := HP0.out; have o2 := HQ0'.out; have o3 := HRR.out; have o4 := HNG.out; have o5 := HHG.out; omega)))
  replace HB := Lib.hid (Below.fr HB.out (Nat.le_refl _) hf (fun b hb => by unfold Rg at hb; have o0 := HPa.out; have o1 := HP0.out; have o2 := HQ0'.out; have o3 := HRR.out; have o4 := HNG.out; have o5 := HHG.out; omega))
  replace HG := Lib.hid (HG.out.above fun b hb hl => hf.block b hl (by unfold Rg; simp at hb; have o0 := HPa.out; have o1 := HP0.out; have o2 := HQ0'.out; have o3 := HRR.out; have o4 := HNG.out; have o5 := HHG.out; omega))
  clear hf
  have zg0 : w14.cell? ⟨Ng, 0, none⟩ = some (.int .i64 K) := (rowc Eg.out).1 0
  have zg1 : w14.cell? ⟨Ng, 1, none⟩ = some (.int .i64 N) := (rowc Eg.out).1 1
  have zg2 : w14.cell? ⟨Ng, 2, none⟩ = some (.string Z) := (rowc Eg.out).1 2
  have zg3 : w14.cell? ⟨Ng, 3, none⟩ = some (.int .i64 X) := (rowc Eg.out).1 3
  have zg4 : w14.cell? ⟨Ng, 4, none⟩ = some (.slice Ag RL cg) := (rowc Eg.out).1 4
  have zm0 : w14.cell? ⟨Nm, 0, none⟩ = some (.int .i64 K) := (rowc Em.out).1 0
  have zm1 : w14.cell? ⟨Nm, 1, none⟩ = some (.int .i64 N) := (rowc Em.out).1 1
  have zm2 : w14.cell? ⟨Nm, 2, none⟩ = some (.string Z) := (rowc Em.out).1 2
  have zm3 : w14.cell? ⟨Nm, 3, none⟩ = some (.int .i64 X) := (rowc Em.out).1 3
  have zm4 : w14.cell? ⟨Nm, 4, none⟩ = some (.slice Am RL cm) := (rowc Em.out).1 4
  go_wp2_with (fail)
  refine (eqV RT _ _ _ _ _ HG.out.tin HM.out).mono ?_
  rintro e w15 ⟨rfl, hb⟩
  have hbx := hb
  replace Ea0 := Lib.hid (carry hbx Ea0.out)
  replace Ea1 := Lib.hid (carry hbx Ea1.out)
  replace Em := Lib.hid (carry hbx Em.out)
  replace Eb0 := Lib.hid (carry hbx Eb0.out)
  replace Eg := Lib.hid (carry hbx Eg.out)
  replace HM := Lib.hid (HM.out.below' hbx)
  replace HG := Lib.hid (HG.out.above fun q _ hl => Below.block hbx q hl)
  replace HB := Lib.hid (bs HB.out hbx)
  clear hb hbx
  try clear zg0 zg1 zg2 zg3 zg4
  try clear zm0 zm1 zm2 zm3 zm4
  have zg0 : w15.cell? ⟨Ng, 0, none⟩ = some (.int .i64 K) := (rowc Eg.out).1 0
  have zg1 : w15.cell? ⟨Ng, 1, none⟩ = some (.int .i64 N) := (rowc Eg.out).1 1
  have zg2 : w15.cell? ⟨Ng, 2, none⟩ = some (.string Z) := (rowc Eg.out).1 2
  have zg3 : w15.cell? ⟨Ng, 3, none⟩ = some (.int .i64 X) := (rowc Eg.out).1 3
  have zg4 : w15.cell? ⟨Ng, 4, none⟩ = some (.slice Ag RL cg) := (rowc Eg.out).1 4
  go_wp2_with (fail)
  refine (markSep RT _ 1 (by omega) hQ1.out _ pg rg 0 (rg + 1) hig HG.out HTG.out).mono ?_
  rintro e w16 ⟨rfl, ht, hf⟩
  rw [HQ.out]
  try clear zg0 zg1 zg2 zg3 zg4
  replace Ea0 := Lib.hid ((hf.block _ (Array.getElem?_eq_some_iff.1 Ea0.out).1 (by unfold Rg; have o0 := HPa.out; have o1 := HP0.out; have o2 := HQ0'.out; have o3 := HRR.out; have o4 := HNG.out; have o5 := HHG.out; omega)).trans Ea0.out)
  replace Ea1 := Lib.hid ((hf.block _ (Array.getElem?_eq_some_iff.1 Ea1.out).1 (by unfold Rg; have o0 := HPa.out; have o1 := HP0.out; have o2 := HQ0'.out; have o3 := HRR.out; have o4 := HNG.out; have o5 := HHG.out; omega)).trans Ea1.out)
  replace Em := Lib.hid ((hf.block _ (Array.getElem?_eq_some_iff.1 Em.out).1 (by unfold Rg; have o0 := HPa.out; have o1 := HP0.out; have o2 := HQ0'.out; have o3 := HRR.out; have o4 := HNG.out; have o5 := HHG.out; omega)).trans Em.out)
  replace Eb0 := Lib.hid ((hf.block _ (Array.getElem?_eq_some_iff.1 Eb0.out).1 (by unfold Rg; have o0 := HPa.out; have o1 := HP0.out; have o2 := HQ0'.out; have o3 := HRR.out; have o4 := HNG.out; have o5 := HHG.out; omega)).trans Eb0.out)
  replace Eg := Lib.hid ((hf.block _ (Array.getElem?_eq_some_iff.1 Eg.out).1 (by unfold Rg; have o0 := HPa.out; have o1 := HP0.out; have o2 := HQ0'.out; have o3 := HRR.out; have o4 := HNG.out; have o5 := HHG.out; omega)).trans Eg.out)
  replace HM := Lib.hid (HM.out.stays (fun _ h => h) (fun b hb hl => hf.block b hl (by unfold Rg; have hb' : b < lo0 := hb; have o0 := HPa.out; have o1 := HP0.out; have o2 := HQ0'.out; have o3 := HRR.out; have o4 := HNG.out; have o5 := HHG.out; omega)))
  replace HB := Lib.hid (Below.fr HB.out (Nat.le_refl _) hf (fun b hb => by unfold Rg at hb; have o0 := HPa.out; have o1 := HP0.out; have o2 := HQ0'.out; have o3 := HRR.out; have o4 := HNG.out; have o5 := HHG.out; omega))
  replace HG := Lib.hid ht
  clear ht hf
  have zg0 : w16.cell? ⟨Ng, 0, none⟩ = some (.int .i64 K) := (rowc Eg.out).1 0
  have zg1 : w16.cell? ⟨Ng, 1, none⟩ = some (.int .i64 N) := (rowc Eg.out).1 1
  have zg2 : w16.cell? ⟨Ng, 2, none⟩ = some (.string Z) := (rowc Eg.out).1 2
  have zg3 : w16.cell? ⟨Ng, 3, none⟩ = some (.int .i64 X) := (rowc Eg.out).1 3
  have zg4 : w16.cell? ⟨Ng, 4, none⟩ = some (.slice Ag RL cg) := (rowc Eg.out).1 4
  go_wp2_with (fail)
  refine (heldSep RT _ 1 (by omega) hQ1.out _ _ HG.out.tin).mono ?_
  rintro e w17 ⟨rfl, hb⟩
  rw [HQ.out]
  have hbx := hb
  replace Ea0 := Lib.hid (carry hbx Ea0.out)
  replace Ea1 := Lib.hid (carry hbx Ea1.out)
  replace Em := Lib.hid (carry hbx Em.out)
  replace Eb0 := Lib.hid (carry hbx Eb0.out)
  replace Eg := Lib.hid (carry hbx Eg.out)
  replace HM := Lib.hid (HM.out.below' hbx)
  replace HG := Lib.hid (HG.out.above fun q _ hl => Below.block hbx q hl)
  replace HB := Lib.hid (bs HB.out hbx)
  clear hb hbx
  try clear zg0 zg1 zg2 zg3 zg4
  have za00 : w17.cell? ⟨w.heap.size, 0, none⟩ = some (.int .i64 k0) := (rowc Ea0.out).1 0
  have za01 : w17.cell? ⟨w.heap.size, 1, none⟩ = some (.int .i64 n0) := (rowc Ea0.out).1 1
  have za02 : w17.cell? ⟨w.heap.size, 2, none⟩ = some (.string s0) := (rowc Ea0.out).1 2
  have za03 : w17.cell? ⟨w.heap.size, 3, none⟩ = some (.int .i64 x0) := (rowc Ea0.out).1 3
  have za04 : w17.cell? ⟨w.heap.size, 4, none⟩ = some (.slice A0 L0 c0) := (rowc Ea0.out).1 4
  have za10 : w17.cell? ⟨w.heap.size + 1, 0, none⟩ = some (.bool yb1) := (rowc Ea1.out).1 0
  have za11 : w17.cell? ⟨w.heap.size + 1, 1, none⟩ = some (.int .i64 yn1) := (rowc Ea1.out).1 1
  have za12 : w17.cell? ⟨w.heap.size + 1, 2, none⟩ = some (.string ys1) := (rowc Ea1.out).1 2
  go_wp2_with (fail)
  go_cut [12] (fun p wx => CutP w17 bb K N Z X RL RT p (.bool bb) wx)
  case first =>
    have HW : Hid (Below w17.heap.size w17 w17) := Lib.hid (Below.refl _ _)
    have hzw17 : w17.heap.size ≤ w17.heap.size := Nat.le_refl _
    have nza0w17 : w17.heap.size ≠ w.heap.size := by have := (Array.getElem?_eq_some_iff.1 Ea0.out).1; omega
    have nza1w17 : w17.heap.size ≠ w.heap.size + 1 := by have := (Array.getElem?_eq_some_iff.1 Ea1.out).1; omega
    go_region_held3 (fun w' => w'.cell? ⟨w.heap.size, 0, none⟩ = some (.int .i64 k0) ∧ w'.cell? ⟨w.heap.size, 1, none⟩ = some (.int .i64 n0) ∧ w'.cell? ⟨w.heap.size, 2, none⟩ = some (.string s0) ∧ w'.cell? ⟨w.heap.size, 3, none⟩ = some (.int .i64 x0) ∧ w'.cell? ⟨w.heap.size, 4, none⟩ = some (.slice A0 L0 c0) ∧ w'.cell? ⟨w.heap.size + 1, 0, none⟩ = some (.bool yb1) ∧ w'.cell? ⟨w.heap.size + 1, 1, none⟩ = some (.int .i64 yn1) ∧ w'.cell? ⟨w.heap.size + 1, 2, none⟩ = some (.string ys1)) (go_keep)
      (first
      | (go_at_call 25; refine (cps T0 hT0.out _ _ _ (HR0.out.below' (by first | exact HB.out | exact HB.out.trans ((Below.refl _ _).drew) | exact HB.out.alloc HB.out.size _ | exact (HB.out.trans ((Below.refl _ _).drew)).alloc HB.out.size _))).mono ?_
         rintro e w18 ⟨v, rfl, hv, hb⟩
         have hbx : Below w17.heap.size w17 w18 := by first | exact hb | exact bs ((Below.refl _ _).drew) hb | exact bs (b1 _ _) hb | exact bs (bs ((Below.refl _ _).drew) (b1 _ _)) hb
         first | (have ez := Lib.hid (carry hb (heap_alloc_new w17 (.cells #[.int .i64 0, .int .i64 0, .string ⟨#[]⟩, .int .i64 0, .slice none 0 0] IV)))) | (have ez := Lib.hid (carry hb (heap_alloc_new w17.drew (.cells #[.int .i64 0, .int .i64 0, .string ⟨#[]⟩, .int .i64 0, .slice none 0 0] IV)))) | (replace ez := Lib.hid (carry hbx ez.out)) | skip
         obtain ⟨Ah0, ch0, rfl, -, -⟩ := TIn.out (HT0.out ▸ hv)
         have HVh0 := Lib.hid (show TIn w18 (Nw 0 w18) T0 (vV k0 n0 s0 x0 Ah0 L0 ch0) by rw [HL0.out, HT0.out]; exact (HT0.out ▸ hv).nw0)
         rw [← HL0.out]
         clear hv
         replace Ea0 := Lib.hid (carry hbx Ea0.out)
         replace Ea1 := Lib.hid (carry hbx Ea1.out)
         replace Em := Lib.hid (carry hbx Em.out)
         replace Eb0 := Lib.hid (carry hbx Eb0.out)
         replace Eg := Lib.hid (carry hbx Eg.out)
         replace HM := Lib.hid (HM.out.below' hbx)
         replace HG := Lib.hid (HG.out.above fun q _ hl => Below.block hbx q hl)
         replace HB := Lib.hid (bs HB.out hbx)
         replace HW := Lib.hid (bs HW.out hbx)
         have hzw18 : w17.heap.size ≤ w18.heap.size := HW.out.size
         have za00 : w18.cell? ⟨w.heap.size, 0, none⟩ = some (.int .i64 k0) := (rowc Ea0.out).1 0
         have za01 : w18.cell? ⟨w.heap.size, 1, none⟩ = some (.int .i64 n0) := (rowc Ea0.out).1 1
         have za02 : w18.cell? ⟨w.heap.size, 2, none⟩ = some (.string s0) := (rowc Ea0.out).1 2
         have za03 : w18.cell? ⟨w.heap.size, 3, none⟩ = some (.int .i64 x0) := (rowc Ea0.out).1 3
         have za04 : w18.cell? ⟨w.heap.size, 4, none⟩ = some (.slice A0 L0 c0) := (rowc Ea0.out).1 4
         have za10 : w18.cell? ⟨w.heap.size + 1, 0, none⟩ = some (.bool yb1) := (rowc Ea1.out).1 0
         have za11 : w18.cell? ⟨w.heap.size + 1, 1, none⟩ = some (.int .i64 yn1) := (rowc Ea1.out).1 1
         have za12 : w18.cell? ⟨w.heap.size + 1, 2, none⟩ = some (.string ys1) := (rowc Ea1.out).1 2
         have nza0w18 : w18.heap.size ≠ w.heap.size := by have := (Array.getElem?_eq_some_iff.1 Ea0.out).1; omega
         have nza1w18 : w18.heap.size ≠ w.heap.size + 1 := by have := (Array.getElem?_eq_some_iff.1 Ea1.out).1; omega
         clear hb hbx)
      | (go_at_call 12; refine (HTK.out _).mono ?_
         rintro e w19 ⟨rfl, hb⟩
         have hbx : Below w18.heap.size w18 w19 := by first | exact hb | exact bs ((Below.refl _ _).drew) hb | exact bs (b1 _ _) hb | exact bs (bs ((Below.refl _ _).drew) (b1 _ _)) hb
         first | (have ez := Lib.hid (carry hb (heap_alloc_new w18 (.cells #[.int .i64 0, .int .i64 0, .string ⟨#[]⟩, .int .i64 0, .slice none 0 0] IV)))) | (have ez := Lib.hid (carry hb (heap_alloc_new w18.drew (.cells #[.int .i64 0, .int .i64 0, .string ⟨#[]⟩, .int .i64 0, .slice none 0 0] IV)))) | (replace ez := Lib.hid (carry hbx ez.out)) | skip
         
         replace Ea0 := Lib.hid (carry hbx Ea0.out)
         replace Ea1 := Lib.hid (carry hbx Ea1.out)
         replace Em := Lib.hid (carry hbx Em.out)
         replace Eb0 := Lib.hid (carry hbx Eb0.out)
         replace Eg := Lib.hid (carry hbx Eg.out)
         replace HM := Lib.hid (HM.out.below' hbx)
         replace HG := Lib.hid (HG.out.above fun q _ hl => Below.block hbx q hl)
         replace HB := Lib.hid (bs HB.out hbx)
         replace HVh0 := Lib.hid (HVh0.out.nwb hbx)
         replace HW := Lib.hid (bs HW.out hbx)
         have hzw19 : w17.heap.size ≤ w19.heap.size := HW.out.size
         have za00 : w19.cell? ⟨w.heap.size, 0, none⟩ = some (.int .i64 k0) := (rowc Ea0.out).1 0
         have za01 : w19.cell? ⟨w.heap.size, 1, none⟩ = some (.int .i64 n0) := (rowc Ea0.out).1 1
         have za02 : w19.cell? ⟨w.heap.size, 2, none⟩ = some (.string s0) := (rowc Ea0.out).1 2
         have za03 : w19.cell? ⟨w.heap.size, 3, none⟩ = some (.int .i64 x0) := (rowc Ea0.out).1 3
         have za04 : w19.cell? ⟨w.heap.size, 4, none⟩ = some (.slice A0 L0 c0) := (rowc Ea0.out).1 4
         have za10 : w19.cell? ⟨w.heap.size + 1, 0, none⟩ = some (.bool yb1) := (rowc Ea1.out).1 0
         have za11 : w19.cell? ⟨w.heap.size + 1, 1, none⟩ = some (.int .i64 yn1) := (rowc Ea1.out).1 1
         have za12 : w19.cell? ⟨w.heap.size + 1, 2, none⟩ = some (.string ys1) := (rowc Ea1.out).1 2
         have nza0w19 : w19.heap.size ≠ w.heap.size := by have := (Array.getElem?_eq_some_iff.1 Ea0.out).1; omega
         have nza1w19 : w19.heap.size ≠ w.heap.size + 1 := by have := (Array.getElem?_eq_some_iff.1 Ea1.out).1; omega
         clear hb hbx)
      | (go_at_call 42; refine (HCI.out _ _ (by first | exact HVh0.out | exact HVh0.out.nwb (b1 _ _) | exact HVh0.out.nwb ((Below.refl _ _).drew) | exact HVh0.out.nwb (bs ((Below.refl _ _).drew) (b1 _ _)))).mono ?_
         rintro e w20 ⟨u, par, r, rfl, hv, hr, hb⟩
         have hbx : Below w19.heap.size w19 w20 := by first | exact hb | exact bs ((Below.refl _ _).drew) hb | exact bs (b1 _ _) hb | exact bs (bs ((Below.refl _ _).drew) (b1 _ _)) hb
         first | (have nzw := Lib.hid (Array.getElem?_eq_some_iff.1 ez.out).1; replace ez := Lib.hid (carry hbx ez.out)) | (have ez := Lib.hid (carry hb (heap_alloc_new w19 (.cells #[.int .i64 0, .int .i64 0, .string ⟨#[]⟩, .int .i64 0, .slice none 0 0] IV))); have nzw := Lib.hid (Array.getElem?_eq_some_iff.1 (heap_alloc_new w19 (.cells #[.int .i64 0, .int .i64 0, .string ⟨#[]⟩, .int .i64 0, .slice none 0 0] IV))).1) | (have ez := Lib.hid (carry hb (heap_alloc_new w19.drew (.cells #[.int .i64 0, .int .i64 0, .string ⟨#[]⟩, .int .i64 0, .slice none 0 0] IV)))) | skip
         obtain ⟨Ag, cg, rfl, -⟩ := TPar.out (HRT.out ▸ hv)
         have HGG := Lib.hid (show TPar w20 par (r, 0) RT (vV K N Z X Ag RL cg) by rw [HRL.out, HRT.out]; exact (HRT.out ▸ hv))
         have HRQ := Lib.hid hr
         rw [← HRL.out]
         clear hv hr
         replace Ea0 := Lib.hid (carry hbx Ea0.out)
         replace Ea1 := Lib.hid (carry hbx Ea1.out)
         replace Em := Lib.hid (carry hbx Em.out)
         replace Eb0 := Lib.hid (carry hbx Eb0.out)
         replace Eg := Lib.hid (carry hbx Eg.out)
         replace HM := Lib.hid (HM.out.below' hbx)
         replace HG := Lib.hid (HG.out.above fun q _ hl => Below.block hbx q hl)
         replace HB := Lib.hid (bs HB.out hbx)
         replace HVh0 := Lib.hid (HVh0.out.nwb hbx)
         replace HW := Lib.hid (bs HW.out hbx)
         have hzw20 : w17.heap.size ≤ w20.heap.size := HW.out.size
         have za00 : w20.cell? ⟨w.heap.size, 0, none⟩ = some (.int .i64 k0) := (rowc Ea0.out).1 0
         have za01 : w20.cell? ⟨w.heap.size, 1, none⟩ = some (.int .i64 n0) := (rowc Ea0.out).1 1
         have za02 : w20.cell? ⟨w.heap.size, 2, none⟩ = some (.string s0) := (rowc Ea0.out).1 2
         have za03 : w20.cell? ⟨w.heap.size, 3, none⟩ = some (.int .i64 x0) := (rowc Ea0.out).1 3
         have za04 : w20.cell? ⟨w.heap.size, 4, none⟩ = some (.slice A0 L0 c0) := (rowc Ea0.out).1 4
         have za10 : w20.cell? ⟨w.heap.size + 1, 0, none⟩ = some (.bool yb1) := (rowc Ea1.out).1 0
         have za11 : w20.cell? ⟨w.heap.size + 1, 1, none⟩ = some (.int .i64 yn1) := (rowc Ea1.out).1 1
         have za12 : w20.cell? ⟨w.heap.size + 1, 2, none⟩ = some (.string ys1) := (rowc Ea1.out).1 2
         have nza0w20 : w20.heap.size ≠ w.heap.size := by have := (Array.getElem?_eq_some_iff.1 Ea0.out).1; omega
         have nza1w20 : w20.heap.size ≠ w.heap.size + 1 := by have := (Array.getElem?_eq_some_iff.1 Ea1.out).1; omega
         clear hb hbx
         first | (have zr := (rowc ez.out).1; have zf := (rowc ez.out).2) | skip))
    all_goals
      go_wp2_with (fail)
      go_meet
      first
      | with_reducible exact cutP_box HW.out HGG.out (Nat.le_trans (by first | exact Nat.le_refl _ | assumption | (simp; omega)) HRQ.out)
      | exact cutP_early HW.out (by first | exact Nat.le_refl _ | assumption) ez.out HGG.out (Nat.le_of_lt (Nat.lt_of_lt_of_le nzw.out HRQ.out)) rfl
  obtain ⟨Nh, Ah, ch, ph, rh, hp, hf, hbx, hNh, en, hv, hrh, hih, hth, hhh, hdh⟩ := hcut
  clear hf
  subst hp
  obtain ⟨w21, hwc⟩ : ∃ q, q = wc := ⟨wc, rfl⟩
  subst hwc
  try clear za00 za01 za02 za03 za04
  try clear za10 za11 za12
  replace Ea0 := Lib.hid (carry hbx Ea0.out)
  replace Ea1 := Lib.hid (carry hbx Ea1.out)
  replace Em := Lib.hid (carry hbx Em.out)
  replace Eb0 := Lib.hid (carry hbx Eb0.out)
  replace Eg := Lib.hid (carry hbx Eg.out)
  replace HM := Lib.hid (HM.out.below' hbx)
  replace HG := Lib.hid (HG.out.above fun q _ hl => Below.block hbx q hl)
  replace HB := Lib.hid (bs HB.out hbx)
  have Eh := Lib.hid en
  clear en
  have HH := Lib.hid hv.tin
  clear hv hth hhh hdh hrh hNh hbx
  have zh0 : w21.cell? ⟨Nh, 0, none⟩ = some (.int .i64 K) := (rowc Eh.out).1 0
  have zh1 : w21.cell? ⟨Nh, 1, none⟩ = some (.int .i64 N) := (rowc Eh.out).1 1
  have zh2 : w21.cell? ⟨Nh, 2, none⟩ = some (.string Z) := (rowc Eh.out).1 2
  have zh3 : w21.cell? ⟨Nh, 3, none⟩ = some (.int .i64 X) := (rowc Eh.out).1 3
  have zh4 : w21.cell? ⟨Nh, 4, none⟩ = some (.slice Ah RL ch) := (rowc Eh.out).1 4
  have zm0 : w21.cell? ⟨Nm, 0, none⟩ = some (.int .i64 K) := (rowc Em.out).1 0
  have zm1 : w21.cell? ⟨Nm, 1, none⟩ = some (.int .i64 N) := (rowc Em.out).1 1
  have zm2 : w21.cell? ⟨Nm, 2, none⟩ = some (.string Z) := (rowc Em.out).1 2
  have zm3 : w21.cell? ⟨Nm, 3, none⟩ = some (.int .i64 X) := (rowc Em.out).1 3
  have zm4 : w21.cell? ⟨Nm, 4, none⟩ = some (.slice Am RL cm) := (rowc Em.out).1 4
  go_wp2_with (fail)
  refine (eqV RT _ _ _ _ _ HH.out HM.out).mono ?_
  rintro e w22 ⟨rfl, hb⟩
  have hbx := hb
  replace Ea0 := Lib.hid (carry hbx Ea0.out)
  replace Ea1 := Lib.hid (carry hbx Ea1.out)
  replace Em := Lib.hid (carry hbx Em.out)
  replace Eb0 := Lib.hid (carry hbx Eb0.out)
  replace Eg := Lib.hid (carry hbx Eg.out)
  replace Eh := Lib.hid (carry hbx Eh.out)
  replace HM := Lib.hid (HM.out.below' hbx)
  replace HH := Lib.hid (HH.out.below' hbx)
  replace HG := Lib.hid (HG.out.above fun q _ hl => Below.block hbx q hl)
  replace HB := Lib.hid (bs HB.out hbx)
  clear hb hbx
  try clear zh0 zh1 zh2 zh3 zh4
  try clear zm0 zm1 zm2 zm3 zm4
  have zg0 : w22.cell? ⟨Ng, 0, none⟩ = some (.int .i64 K) := (rowc Eg.out).1 0
  have zg1 : w22.cell? ⟨Ng, 1, none⟩ = some (.int .i64 N) := (rowc Eg.out).1 1
  have zg2 : w22.cell? ⟨Ng, 2, none⟩ = some (.string Z) := (rowc Eg.out).1 2
  have zg3 : w22.cell? ⟨Ng, 3, none⟩ = some (.int .i64 X) := (rowc Eg.out).1 3
  have zg4 : w22.cell? ⟨Ng, 4, none⟩ = some (.slice Ag RL cg) := (rowc Eg.out).1 4
  go_wp2_with (fail)
  refine (heldSep RT _ 1 (by omega) hQ1.out _ _ HG.out.tin).mono ?_
  rintro e w23 ⟨rfl, hb⟩
  rw [HQ.out]
  have hbx := hb
  replace Ea0 := Lib.hid (carry hbx Ea0.out)
  replace Ea1 := Lib.hid (carry hbx Ea1.out)
  replace Em := Lib.hid (carry hbx Em.out)
  replace Eb0 := Lib.hid (carry hbx Eb0.out)
  replace Eg := Lib.hid (carry hbx Eg.out)
  replace Eh := Lib.hid (carry hbx Eh.out)
  replace HM := Lib.hid (HM.out.below' hbx)
  replace HH := Lib.hid (HH.out.below' hbx)
  replace HG := Lib.hid (HG.out.above fun q _ hl => Below.block hbx q hl)
  replace HB := Lib.hid (bs HB.out hbx)
  clear hb hbx
  try clear zg0 zg1 zg2 zg3 zg4
  go_wp2_with (fail)
  go_ret
  exact ⟨rfl, HB.out⟩

theorem cnts_erase : ∀ (vs : List Tr) (i : Nat), cnts (vs.eraseIdx i) ≤ cnts vs
  | [], i => by simp
  | t :: vs, 0 => by rw [List.eraseIdx_cons_zero, cnts_cons']; omega
  | t :: vs, i + 1 => by
    have := cnts_erase vs i
    rw [List.eraseIdx_cons_succ, cnts_cons', cnts_cons']
    omega
theorem tots_erase : ∀ (ks : List Ky) (vs : List Tr) (i : Nat), ks.length = vs.length → tots (ks.eraseIdx i) (vs.eraseIdx i) ≤ tots ks vs
  | [], [], i, _ => by simp
  | y :: ks, t :: vs, 0, _ => by rw [List.eraseIdx_cons_zero, List.eraseIdx_cons_zero, tots_cons]; omega
  | y :: ks, t :: vs, i + 1, h => by
    have := tots_erase ks vs i (by simpa using h)
    rw [List.eraseIdx_cons_succ, List.eraseIdx_cons_succ, tots_cons, tots_cons]
    omega
theorem delT_cnt (t : Tr) (y : Ky) : cnt (delT t y) ≤ cnt t := by
  obtain ⟨k, n, s, x, ks, vs⟩ := t
  rcases posV_cases k n s x ks vs y with hp | ⟨i, hp, hi, rfl⟩
  · rw [delT_none hp]; exact Nat.le_refl _
  · have := cnts_erase vs i
    rw [delT_some hp, cnt_mk', cnt_mk']
    omega
theorem delT_tot (t : Tr) (y : Ky) (hf : fits t) : tot (delT t y) ≤ tot t := by
  obtain ⟨k, n, s, x, ks, vs⟩ := t
  rw [fits] at hf
  rcases posV_cases k n s x ks vs y with hp | ⟨i, hp, hi, rfl⟩
  · rw [delT_none hp]; exact Nat.le_refl _
  · have h1 := tots_erase ks vs i hf.1
    have h2 := List.length_eraseIdx_le vs i
    rw [delT_some hp, tot_mk, tot_mk]
    omega

theorem walk (t0 : Tr) (v0 : Value) (y1 : Ky) (w : World) (hr0 : TIn w (fun _ => True) t0 v0) (hy1 : I64 y1.num ∧ y1.str.size ≤ maxLen) : Calls Try.prog 9 #[v0, kyV y1] w (TrueQ w) := by
  have hft := hr0.fits
  have hc := cnt_tot t0 hft
  have h1 := delT_cnt t0 y1
  have h3 := delT_tot t0 y1 hft
  refine walk0 t0 v0 y1 w hr0 hy1 (delT t0 y1) true (fun hT => ⟨?_, fun w S u h => ?_, fun w u h => ?_⟩)
  · have h2 := itm_cnt (delT t0 y1)
    omega
  · exact deleteKey_s t0 u y1 w S h (by omega) (by omega)
  · exact (deleteKey_i t0 u y1 w 0 h (by omega) (by omega) (by omega) (by omega)).mono fun e w' ⟨u, par, R, a, b, c, d⟩ => ⟨u, par, R, a, b, c, d⟩

set_option maxRecDepth 100000 in
theorem lifted (os : Os) (started : os.Started) (H : Type) (enc : TypeId × Value → H) :
    ReturnsInHanded {} Try.checked os 9 .any (Rows.fnExactDeleteKeySpec.pre6 enc Try.prog Try.f9 Rows.fnExactDeleteKeyRow.domain false) (Rows.fnExactDeleteKeySpec.post enc Try.prog Try.f9 false true false false) := by
  refine returnsInHanded_of_change (C := Try.checked) own started (by kernel_rfl) Try.func9
    (ChangeSpec.witness6 (enc := enc) (C := Try.checked) false ⟨#[], #[.agg #[.int .i64 0, .int .i64 0, .string ⟨#[]⟩, .int .i64 0, .slice none 0 0], .agg #[.bool false, .int .i64 0, .string ⟨#[]⟩]], []⟩ 8 (by kernel_rfl) (by kernel_rfl) (by kernel_rfl) (by kernel_rfl)) ?_
  intro W base args ds gs before hval0 hW hcnd _
  have hval : ∀ (j : Nat) t v, Try.f9.params[j]? = some t → args[j]? = some v → Value.okWide Try.prog W .any base t v := hval0
  have hW' := hW
  obtain ⟨p, q, hA0, hV, rfl, hfz, hnd⟩ := hW
  have hA : DataW.TrodAll enc Try.prog W 0 (fun _ => true) true Try.f9.params.toList args.toList ds p := hA0
  have hA2 := hA
  rw [Try.params9] at hA hval
  obtain ⟨v0, vs0, d0, ds0, p0, q0, hargs, rfl, rfl, h0, r0⟩ := trodAll_cons hA
  obtain ⟨v1, vs1, d1, ds1, p1, q1, rfl, rfl, rfl, h1, r1⟩ := trodAll_cons r0
  obtain ⟨rfl, rfl, rfl⟩ := trodAll_nil r1
  obtain rfl : args = #[v0, v1] := by cases args; simp_all
  obtain ⟨rfl, rfl⟩ := trodVars_none hV
  obtain ⟨t0, hr0⟩ := opt.open_value (hval 0 49 v0 rfl rfl) h0
  obtain ⟨y1, rfl, hy1⟩ := opt.open_key (hval 1 23 v1 rfl rfl) h1
  clear hA0 hval0
  simp only [List.append_nil] at hW' hA2
  refine (walk t0 v0 y1 W hr0 hy1).mono fun e W' ⟨he, hb⟩ => ?_
  subst he
  exact ⟨_, rfl, opn.post_true hW' rfl hA2 rfl rfl Try.underlying4 (by kernel_rfl) (by kernel_rfl) hb⟩

theorem over : Rows.fnExactDeleteKeyRow.holds Try.pinned (OpenSpec.ofChange Rows.fnExactDeleteKeySpec) :=
  OpenClaim.holds_of_wide 9 Try.f9 rfl rfl rfl rfl rfl rfl rfl ⟨rfl, rfl, rfl, rfl, rfl⟩ rfl rfl rfl rfl rfl (by kernel_rfl) Try.func9 (by kernel_rfl)
    (of_decide_eq_true (by kernel_rfl)) (by unfold Func.isWrapper; first | (rw [if_pos (by decide +kernel)]; kernel_rfl) | (rw [if_neg (by decide +kernel)]; exact ⟨rfl, rfl⟩))
    (fun os started H enc _ => lifted os started H enc)

/-- The statement. -/
theorem proved : Rows.FnExactDeleteKeySaid :=
  over
#print axioms proved
end Go.Proofs.Ytclnbfndkcpopaa.fnExactDeleteKey
