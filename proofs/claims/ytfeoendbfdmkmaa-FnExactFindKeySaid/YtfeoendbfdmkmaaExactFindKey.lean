/-
  FindKey answers as its model at every value and key; it leaves its argument unmodified.
  Conditions: none.
-/
import Derived.Test.YtfeoendbfdmkmaaRows
import Derived.Deep.RegionHeld3
import Derived.WalkKit
import Derived.ProofKit
import Derived.OpenShut
import Derived.Test.YtfeoendbfdmkmaaFindI
import Derived.Test.YtfeoendbfdmkmaaLawKit
import Derived.Test.YtfeoendbfdmkmaaOpenT
namespace Go.Proofs.Ytfeoendbfdmkmaa.fnExactFindKey
open Go.ChangeShapes Go.WideShapes Go.ChangeAt Go.RowKit tree
open Go.ChangeMaps (open_string)
set_option linter.unusedVariables false

theorem own : ownKnob Try.prog.godebug = none := by kernel_rfl

set_option maxHeartbeats 2000000 in
theorem walk0 (t0 : Tr) (v0 : Value) (y1 : Ky) (w : World) (hr0 : TIn w (fun _ => True) t0 v0) (hy1 : I64 y1.num ∧ y1.str.size ≤ maxLen) (R : Int)
    (HC : tot t0 + y1.str.size ≤ 1048576 → (∀ (w : World) (S : Nat → Prop) (u : Value), TIn w S t0 u → Calls Try.prog 18 #[u, kyV y1] w (LtQ w R)) ∧ (∀ (w : World) (S : Nat → Prop) (u : Value), TIn w S t0 u → Calls Try.prog 20 #[u, kyV y1] w (LtQ w R))) :
    Calls Try.prog 4 #[v0, kyV y1] w (TrueQ w) := by
  obtain ⟨k0, n0, s0, x0, ks0, vs0⟩ := t0
  obtain ⟨A0, c0, rfl, -, -⟩ := hr0.out
  obtain ⟨L0, HL0⟩ : ∃ L, Hid (L = vs0.length) := ⟨_, Lib.hid rfl⟩
  obtain ⟨T0, HT0⟩ : ∃ T, Hid (T = Tr.mk k0 n0 s0 x0 ks0 vs0) := ⟨_, Lib.hid rfl⟩
  rw [← HT0.out] at hr0 HC
  rw [← HL0.out] at hr0 ⊢
  have HR0 := Lib.hid hr0
  have SZ0 := fun w h => szV T0 w (fun _ => True) (vV k0 n0 s0 x0 A0 L0 c0) h
  have SZ1 := fun l h0 h1 => szKey y1 hy1.2 l h0 h1
  have TK := toKey y1
  obtain ⟨Y, HY⟩ : ∃ Y, Hid (Y = y1.str.size) := ⟨_, Lib.hid rfl⟩
  rw [← HY.out] at HC
  rw [← HY.out] at SZ1
  have KY1 : kyV y1 = .agg #[.bool y1.text, .int .i64 y1.num, .string y1.str] := rfl
  obtain ⟨yb1, hyb1⟩ : ∃ b, b = y1.text := ⟨_, rfl⟩
  obtain ⟨yn1, hyn1⟩ : ∃ b, b = y1.num := ⟨_, rfl⟩
  obtain ⟨ys1, hys1⟩ : ∃ b, b = y1.str := ⟨_, rfl⟩
  rw [← hyb1, ← hyn1, ← hys1] at KY1
  rw [KY1] at SZ1 TK HC ⊢
  have HCC := Lib.hid HC
  have HTK := Lib.hid TK
  clear hr0 hyb1 hyn1 hys1 KY1 HC TK
  go_enter Try.func4, Try.ntmps4
  go_wp2_with (fail)
  refine (SZ0 _ (HR0.out.below' (b2 _ _ _)) 1048576 (by omega) (by omega)).mono ?_
  rintro e w0 ⟨r0, rfl, ⟨ha0, hb0, hc0⟩, hw0⟩
  have Ea0 := Lib.hid (carry hw0 (heap_alloc2_old w _ _))
  have Ea1 := Lib.hid (carry hw0 (heap_alloc2_new w _ _))
  have HB := Lib.hid (bs (b2 w _ _) hw0)
  have HQ0 := Lib.hid hc0
  clear hw0 hc0
  by_cases hlt0 : r0 < 0
  · go_wp2_with (fail)
    go_ret
    exact ⟨rfl, HB.out⟩
  have za10 : w0.cell? ⟨w.heap.size + 1, 0, none⟩ = some (.bool yb1) := (rowc Ea1.out).1 0
  have za11 : w0.cell? ⟨w.heap.size + 1, 1, none⟩ = some (.int .i64 yn1) := (rowc Ea1.out).1 1
  have za12 : w0.cell? ⟨w.heap.size + 1, 2, none⟩ = some (.string ys1) := (rowc Ea1.out).1 2
  go_wp2_with (fail)
  refine (SZ1 r0 (by omega) (by omega) _).mono ?_
  rintro e w1 ⟨r1, rfl, ⟨ha1, hb1, hc1⟩, hw1⟩
  replace Ea0 := Lib.hid (carry hw1 Ea0.out)
  replace Ea1 := Lib.hid (carry hw1 Ea1.out)
  replace HB := Lib.hid (bs HB.out hw1)
  have HQ1 := Lib.hid hc1
  clear hw1 hc1
  clear za10 za11 za12
  by_cases hlt1 : r1 < 0
  · go_wp2_with (fail)
    go_ret
    exact ⟨rfl, HB.out⟩
  have HSUM : Hid (tot T0 + Y ≤ 1048576) := Lib.hid (by have q0 := HQ0.out (by omega); have q1 := HQ1.out (by omega); omega)
  obtain HCON := HCC.out HSUM.out
  obtain ⟨hcs, hci⟩ := HCON
  have HCS := Lib.hid hcs
  have HCI := Lib.hid hci
  have hT : Hid (tot T0 ≤ 1048576) := Lib.hid (by have := HSUM.out; omega)
  clear hcs hci
  have za00 : w1.cell? ⟨w.heap.size, 0, none⟩ = some (.int .i64 k0) := (rowc Ea0.out).1 0
  have za01 : w1.cell? ⟨w.heap.size, 1, none⟩ = some (.int .i64 n0) := (rowc Ea0.out).1 1
  have za02 : w1.cell? ⟨w.heap.size, 2, none⟩ = some (.string s0) := (rowc Ea0.out).1 2
  have za03 : w1.cell? ⟨w.heap.size, 3, none⟩ = some (.int .i64 x0) := (rowc Ea0.out).1 3
  have za04 : w1.cell? ⟨w.heap.size, 4, none⟩ = some (.slice A0 L0 c0) := (rowc Ea0.out).1 4
  have za10 : w1.cell? ⟨w.heap.size + 1, 0, none⟩ = some (.bool yb1) := (rowc Ea1.out).1 0
  have za11 : w1.cell? ⟨w.heap.size + 1, 1, none⟩ = some (.int .i64 yn1) := (rowc Ea1.out).1 1
  have za12 : w1.cell? ⟨w.heap.size + 1, 2, none⟩ = some (.string ys1) := (rowc Ea1.out).1 2
  go_wp2_with (fail)
  go_region_held3 (fun w' => w'.cell? ⟨w.heap.size, 0, none⟩ = some (.int .i64 k0) ∧ w'.cell? ⟨w.heap.size, 1, none⟩ = some (.int .i64 n0) ∧ w'.cell? ⟨w.heap.size, 2, none⟩ = some (.string s0) ∧ w'.cell? ⟨w.heap.size, 3, none⟩ = some (.int .i64 x0) ∧ w'.cell? ⟨w.heap.size, 4, none⟩ = some (.slice A0 L0 c0) ∧ w'.cell? ⟨w.heap.size + 1, 0, none⟩ = some (.bool yb1) ∧ w'.cell? ⟨w.heap.size + 1, 1, none⟩ = some (.int .i64 yn1) ∧ w'.cell? ⟨w.heap.size + 1, 2, none⟩ = some (.string ys1)) (go_keep)
    (first
    | (go_at_call 19; refine (cps T0 hT.out _ _ _ (HR0.out.below' (HB.out.trans ((Below.refl _ _).drew)))).mono ?_
       rintro e w2 ⟨v, rfl, hv, hb⟩
       have hbx := (bs ((Below.refl w1.heap.size w1).drew) hb)
       obtain ⟨A2, c2, rfl, -, -⟩ := TIn.out (HT0.out ▸ hv)
       have HV2 := Lib.hid (show TIn w2 _ T0 (vV k0 n0 s0 x0 A2 L0 c2) by rw [HL0.out, HT0.out]; exact (HT0.out ▸ hv))
       rw [← HL0.out]
       clear hv
       replace Ea0 := Lib.hid (carry hbx Ea0.out)
       replace Ea1 := Lib.hid (carry hbx Ea1.out)
       replace HB := Lib.hid (bs HB.out hbx)
       have za00 : w2.cell? ⟨w.heap.size, 0, none⟩ = some (.int .i64 k0) := (rowc Ea0.out).1 0
       have za01 : w2.cell? ⟨w.heap.size, 1, none⟩ = some (.int .i64 n0) := (rowc Ea0.out).1 1
       have za02 : w2.cell? ⟨w.heap.size, 2, none⟩ = some (.string s0) := (rowc Ea0.out).1 2
       have za03 : w2.cell? ⟨w.heap.size, 3, none⟩ = some (.int .i64 x0) := (rowc Ea0.out).1 3
       have za04 : w2.cell? ⟨w.heap.size, 4, none⟩ = some (.slice A0 L0 c0) := (rowc Ea0.out).1 4
       have za10 : w2.cell? ⟨w.heap.size + 1, 0, none⟩ = some (.bool yb1) := (rowc Ea1.out).1 0
       have za11 : w2.cell? ⟨w.heap.size + 1, 1, none⟩ = some (.int .i64 yn1) := (rowc Ea1.out).1 1
       have za12 : w2.cell? ⟨w.heap.size + 1, 2, none⟩ = some (.string ys1) := (rowc Ea1.out).1 2
       clear hb hbx)
    | (go_at_call 12; refine (HTK.out _).mono ?_
       rintro e w3 ⟨rfl, hb⟩
       have hbx := hb
       
       replace Ea0 := Lib.hid (carry hbx Ea0.out)
       replace Ea1 := Lib.hid (carry hbx Ea1.out)
       replace HV2 := Lib.hid (HV2.out.below' hbx)
       replace HB := Lib.hid (bs HB.out hbx)
       have za00 : w3.cell? ⟨w.heap.size, 0, none⟩ = some (.int .i64 k0) := (rowc Ea0.out).1 0
       have za01 : w3.cell? ⟨w.heap.size, 1, none⟩ = some (.int .i64 n0) := (rowc Ea0.out).1 1
       have za02 : w3.cell? ⟨w.heap.size, 2, none⟩ = some (.string s0) := (rowc Ea0.out).1 2
       have za03 : w3.cell? ⟨w.heap.size, 3, none⟩ = some (.int .i64 x0) := (rowc Ea0.out).1 3
       have za04 : w3.cell? ⟨w.heap.size, 4, none⟩ = some (.slice A0 L0 c0) := (rowc Ea0.out).1 4
       have za10 : w3.cell? ⟨w.heap.size + 1, 0, none⟩ = some (.bool yb1) := (rowc Ea1.out).1 0
       have za11 : w3.cell? ⟨w.heap.size + 1, 1, none⟩ = some (.int .i64 yn1) := (rowc Ea1.out).1 1
       have za12 : w3.cell? ⟨w.heap.size + 1, 2, none⟩ = some (.string ys1) := (rowc Ea1.out).1 2
       clear hb hbx)
    | (go_at_call 18; refine (HCS.out _ _ _ HV2.out).mono ?_
       rintro e w4 ⟨rfl, hb⟩
       have hbx := hb
       
       replace Ea0 := Lib.hid (carry hbx Ea0.out)
       replace Ea1 := Lib.hid (carry hbx Ea1.out)
       replace HV2 := Lib.hid (HV2.out.below' hbx)
       replace HB := Lib.hid (bs HB.out hbx)
       have za00 : w4.cell? ⟨w.heap.size, 0, none⟩ = some (.int .i64 k0) := (rowc Ea0.out).1 0
       have za01 : w4.cell? ⟨w.heap.size, 1, none⟩ = some (.int .i64 n0) := (rowc Ea0.out).1 1
       have za02 : w4.cell? ⟨w.heap.size, 2, none⟩ = some (.string s0) := (rowc Ea0.out).1 2
       have za03 : w4.cell? ⟨w.heap.size, 3, none⟩ = some (.int .i64 x0) := (rowc Ea0.out).1 3
       have za04 : w4.cell? ⟨w.heap.size, 4, none⟩ = some (.slice A0 L0 c0) := (rowc Ea0.out).1 4
       have za10 : w4.cell? ⟨w.heap.size + 1, 0, none⟩ = some (.bool yb1) := (rowc Ea1.out).1 0
       have za11 : w4.cell? ⟨w.heap.size + 1, 1, none⟩ = some (.int .i64 yn1) := (rowc Ea1.out).1 1
       have za12 : w4.cell? ⟨w.heap.size + 1, 2, none⟩ = some (.string ys1) := (rowc Ea1.out).1 2
       clear hb hbx))
  clear za00 za01 za02 za03 za04 za10 za11 za12
  clear HV2
  go_wp2_with (fail)
  refine (cps T0 hT.out _ _ _ (HR0.out.below' HB.out)).mono ?_
  rintro e w5 ⟨v, rfl, hv, hb⟩
  have hbx := hb
  obtain ⟨A5, c5, rfl, -, -⟩ := TIn.out (HT0.out ▸ hv)
  have HV5 := Lib.hid (show TIn w5 _ T0 (vV k0 n0 s0 x0 A5 L0 c5) by rw [HL0.out, HT0.out]; exact (HT0.out ▸ hv))
  rw [← HL0.out]
  clear hv
  replace Ea0 := Lib.hid (carry hbx Ea0.out)
  replace Ea1 := Lib.hid (carry hbx Ea1.out)
  replace HB := Lib.hid (bs HB.out hbx)
  clear hb hbx
  go_wp2_with (fail)
  obtain ⟨Nb, hNb⟩ : ∃ N, N = w5.heap.size := ⟨_, rfl⟩
  generalize hwn : w5.alloc (.cells #[.int .i64 k0, .int .i64 n0, .string s0, .int .i64 x0, .slice A5 L0 c5] IV) = w6
  have en : w6.heap[Nb]? = some (.cells #[.int .i64 k0, .int .i64 n0, .string s0, .int .i64 x0, .slice A5 L0 c5] IV (0, 0)) := by rw [← hwn, hNb]; exact heap_alloc_new _ _
  have hbx : Below w5.heap.size w5 w6 := hwn ▸ b1 _ _
  rw [← hNb]
  have HNb := Lib.hid hNb
  replace Ea0 := Lib.hid (carry hbx Ea0.out)
  replace Ea1 := Lib.hid (carry hbx Ea1.out)
  replace HV5 := Lib.hid (HV5.out.below' hbx)
  replace HB := Lib.hid (bs HB.out hbx)
  have Eb := Lib.hid en
  clear en hbx hwn hNb
  have zb0 : w6.cell? ⟨Nb, 0, none⟩ = some (.int .i64 k0) := (rowc Eb.out).1 0
  have zb1 : w6.cell? ⟨Nb, 1, none⟩ = some (.int .i64 n0) := (rowc Eb.out).1 1
  have zb2 : w6.cell? ⟨Nb, 2, none⟩ = some (.string s0) := (rowc Eb.out).1 2
  have zb3 : w6.cell? ⟨Nb, 3, none⟩ = some (.int .i64 x0) := (rowc Eb.out).1 3
  have zb4 : w6.cell? ⟨Nb, 4, none⟩ = some (.slice A5 L0 c5) := (rowc Eb.out).1 4
  have za10 : w6.cell? ⟨w.heap.size + 1, 0, none⟩ = some (.bool yb1) := (rowc Ea1.out).1 0
  have za11 : w6.cell? ⟨w.heap.size + 1, 1, none⟩ = some (.int .i64 yn1) := (rowc Ea1.out).1 1
  have za12 : w6.cell? ⟨w.heap.size + 1, 2, none⟩ = some (.string ys1) := (rowc Ea1.out).1 2
  have za00 : w6.cell? ⟨w.heap.size, 0, none⟩ = some (.int .i64 k0) := (rowc Ea0.out).1 0
  have za01 : w6.cell? ⟨w.heap.size, 1, none⟩ = some (.int .i64 n0) := (rowc Ea0.out).1 1
  have za02 : w6.cell? ⟨w.heap.size, 2, none⟩ = some (.string s0) := (rowc Ea0.out).1 2
  have za03 : w6.cell? ⟨w.heap.size, 3, none⟩ = some (.int .i64 x0) := (rowc Ea0.out).1 3
  have za04 : w6.cell? ⟨w.heap.size, 4, none⟩ = some (.slice A0 L0 c0) := (rowc Ea0.out).1 4
  go_region_held3 (fun w' => w'.cell? ⟨Nb, 0, none⟩ = some (.int .i64 k0) ∧ w'.cell? ⟨Nb, 1, none⟩ = some (.int .i64 n0) ∧ w'.cell? ⟨Nb, 2, none⟩ = some (.string s0) ∧ w'.cell? ⟨Nb, 3, none⟩ = some (.int .i64 x0) ∧ w'.cell? ⟨Nb, 4, none⟩ = some (.slice A5 L0 c5) ∧ w'.cell? ⟨w.heap.size + 1, 0, none⟩ = some (.bool yb1) ∧ w'.cell? ⟨w.heap.size + 1, 1, none⟩ = some (.int .i64 yn1) ∧ w'.cell? ⟨w.heap.size + 1, 2, none⟩ = some (.string ys1)) (go_keep)
    (first
    | (go_at_call 12; refine (HTK.out _).mono ?_
       rintro e w7 ⟨rfl, hb⟩
       have hbx := (bs ((Below.refl w6.heap.size w6).drew) hb)
       
       replace Ea0 := Lib.hid (carry hbx Ea0.out)
       replace Ea1 := Lib.hid (carry hbx Ea1.out)
       replace Eb := Lib.hid (carry hbx Eb.out)
       replace HV5 := Lib.hid (HV5.out.below' hbx)
       replace HB := Lib.hid (bs HB.out hbx)
       have zb0 : w7.cell? ⟨Nb, 0, none⟩ = some (.int .i64 k0) := (rowc Eb.out).1 0
       have zb1 : w7.cell? ⟨Nb, 1, none⟩ = some (.int .i64 n0) := (rowc Eb.out).1 1
       have zb2 : w7.cell? ⟨Nb, 2, none⟩ = some (.string s0) := (rowc Eb.out).1 2
       have zb3 : w7.cell? ⟨Nb, 3, none⟩ = some (.int .i64 x0) := (rowc Eb.out).1 3
       have zb4 : w7.cell? ⟨Nb, 4, none⟩ = some (.slice A5 L0 c5) := (rowc Eb.out).1 4
       have za10 : w7.cell? ⟨w.heap.size + 1, 0, none⟩ = some (.bool yb1) := (rowc Ea1.out).1 0
       have za11 : w7.cell? ⟨w.heap.size + 1, 1, none⟩ = some (.int .i64 yn1) := (rowc Ea1.out).1 1
       have za12 : w7.cell? ⟨w.heap.size + 1, 2, none⟩ = some (.string ys1) := (rowc Ea1.out).1 2
       have za00 : w7.cell? ⟨w.heap.size, 0, none⟩ = some (.int .i64 k0) := (rowc Ea0.out).1 0
       have za01 : w7.cell? ⟨w.heap.size, 1, none⟩ = some (.int .i64 n0) := (rowc Ea0.out).1 1
       have za02 : w7.cell? ⟨w.heap.size, 2, none⟩ = some (.string s0) := (rowc Ea0.out).1 2
       have za03 : w7.cell? ⟨w.heap.size, 3, none⟩ = some (.int .i64 x0) := (rowc Ea0.out).1 3
       have za04 : w7.cell? ⟨w.heap.size, 4, none⟩ = some (.slice A0 L0 c0) := (rowc Ea0.out).1 4
       clear hb hbx)
    | (go_at_call 20; refine (HCI.out _ _ _ HV5.out).mono ?_
       rintro e w8 ⟨rfl, hb⟩
       have hbx := hb
       
       replace Ea0 := Lib.hid (carry hbx Ea0.out)
       replace Ea1 := Lib.hid (carry hbx Ea1.out)
       replace Eb := Lib.hid (carry hbx Eb.out)
       replace HV5 := Lib.hid (HV5.out.below' hbx)
       replace HB := Lib.hid (bs HB.out hbx)
       have zb0 : w8.cell? ⟨Nb, 0, none⟩ = some (.int .i64 k0) := (rowc Eb.out).1 0
       have zb1 : w8.cell? ⟨Nb, 1, none⟩ = some (.int .i64 n0) := (rowc Eb.out).1 1
       have zb2 : w8.cell? ⟨Nb, 2, none⟩ = some (.string s0) := (rowc Eb.out).1 2
       have zb3 : w8.cell? ⟨Nb, 3, none⟩ = some (.int .i64 x0) := (rowc Eb.out).1 3
       have zb4 : w8.cell? ⟨Nb, 4, none⟩ = some (.slice A5 L0 c5) := (rowc Eb.out).1 4
       have za10 : w8.cell? ⟨w.heap.size + 1, 0, none⟩ = some (.bool yb1) := (rowc Ea1.out).1 0
       have za11 : w8.cell? ⟨w.heap.size + 1, 1, none⟩ = some (.int .i64 yn1) := (rowc Ea1.out).1 1
       have za12 : w8.cell? ⟨w.heap.size + 1, 2, none⟩ = some (.string ys1) := (rowc Ea1.out).1 2
       have za00 : w8.cell? ⟨w.heap.size, 0, none⟩ = some (.int .i64 k0) := (rowc Ea0.out).1 0
       have za01 : w8.cell? ⟨w.heap.size, 1, none⟩ = some (.int .i64 n0) := (rowc Ea0.out).1 1
       have za02 : w8.cell? ⟨w.heap.size, 2, none⟩ = some (.string s0) := (rowc Ea0.out).1 2
       have za03 : w8.cell? ⟨w.heap.size, 3, none⟩ = some (.int .i64 x0) := (rowc Ea0.out).1 3
       have za04 : w8.cell? ⟨w.heap.size, 4, none⟩ = some (.slice A0 L0 c0) := (rowc Ea0.out).1 4
       clear hb hbx))
  go_wp2_with (fail)
  go_region_held3 (fun w' => w'.cell? ⟨Nb, 0, none⟩ = some (.int .i64 k0) ∧ w'.cell? ⟨Nb, 1, none⟩ = some (.int .i64 n0) ∧ w'.cell? ⟨Nb, 2, none⟩ = some (.string s0) ∧ w'.cell? ⟨Nb, 3, none⟩ = some (.int .i64 x0) ∧ w'.cell? ⟨Nb, 4, none⟩ = some (.slice A5 L0 c5) ∧ w'.cell? ⟨w.heap.size, 0, none⟩ = some (.int .i64 k0) ∧ w'.cell? ⟨w.heap.size, 1, none⟩ = some (.int .i64 n0) ∧ w'.cell? ⟨w.heap.size, 2, none⟩ = some (.string s0) ∧ w'.cell? ⟨w.heap.size, 3, none⟩ = some (.int .i64 x0) ∧ w'.cell? ⟨w.heap.size, 4, none⟩ = some (.slice A0 L0 c0)) (go_keep)
    (first
    | (go_at_call 19; refine (cps T0 hT.out _ _ _ (HR0.out.below' (HB.out.trans ((Below.refl _ _).drew)))).mono ?_
       rintro e w9 ⟨v, rfl, hv, hb⟩
       have hbx := (bs ((Below.refl w8.heap.size w8).drew) hb)
       obtain ⟨A9, c9, rfl, -, -⟩ := TIn.out (HT0.out ▸ hv)
       have HV9 := Lib.hid (show TIn w9 _ T0 (vV k0 n0 s0 x0 A9 L0 c9) by rw [HL0.out, HT0.out]; exact (HT0.out ▸ hv))
       rw [← HL0.out]
       clear hv
       replace Ea0 := Lib.hid (carry hbx Ea0.out)
       replace Ea1 := Lib.hid (carry hbx Ea1.out)
       replace Eb := Lib.hid (carry hbx Eb.out)
       replace HV5 := Lib.hid (HV5.out.below' hbx)
       replace HB := Lib.hid (bs HB.out hbx)
       have zb0 : w9.cell? ⟨Nb, 0, none⟩ = some (.int .i64 k0) := (rowc Eb.out).1 0
       have zb1 : w9.cell? ⟨Nb, 1, none⟩ = some (.int .i64 n0) := (rowc Eb.out).1 1
       have zb2 : w9.cell? ⟨Nb, 2, none⟩ = some (.string s0) := (rowc Eb.out).1 2
       have zb3 : w9.cell? ⟨Nb, 3, none⟩ = some (.int .i64 x0) := (rowc Eb.out).1 3
       have zb4 : w9.cell? ⟨Nb, 4, none⟩ = some (.slice A5 L0 c5) := (rowc Eb.out).1 4
       have za10 : w9.cell? ⟨w.heap.size + 1, 0, none⟩ = some (.bool yb1) := (rowc Ea1.out).1 0
       have za11 : w9.cell? ⟨w.heap.size + 1, 1, none⟩ = some (.int .i64 yn1) := (rowc Ea1.out).1 1
       have za12 : w9.cell? ⟨w.heap.size + 1, 2, none⟩ = some (.string ys1) := (rowc Ea1.out).1 2
       have za00 : w9.cell? ⟨w.heap.size, 0, none⟩ = some (.int .i64 k0) := (rowc Ea0.out).1 0
       have za01 : w9.cell? ⟨w.heap.size, 1, none⟩ = some (.int .i64 n0) := (rowc Ea0.out).1 1
       have za02 : w9.cell? ⟨w.heap.size, 2, none⟩ = some (.string s0) := (rowc Ea0.out).1 2
       have za03 : w9.cell? ⟨w.heap.size, 3, none⟩ = some (.int .i64 x0) := (rowc Ea0.out).1 3
       have za04 : w9.cell? ⟨w.heap.size, 4, none⟩ = some (.slice A0 L0 c0) := (rowc Ea0.out).1 4
       clear hb hbx)
    | (go_at_call 14; refine (eqV T0 _ _ _ _ _ HV5.out HV9.out).mono ?_
       rintro e w10 ⟨rfl, hb⟩
       have hbx := hb
       
       replace Ea0 := Lib.hid (carry hbx Ea0.out)
       replace Ea1 := Lib.hid (carry hbx Ea1.out)
       replace Eb := Lib.hid (carry hbx Eb.out)
       replace HV5 := Lib.hid (HV5.out.below' hbx)
       replace HB := Lib.hid (bs HB.out hbx)
       have zb0 : w10.cell? ⟨Nb, 0, none⟩ = some (.int .i64 k0) := (rowc Eb.out).1 0
       have zb1 : w10.cell? ⟨Nb, 1, none⟩ = some (.int .i64 n0) := (rowc Eb.out).1 1
       have zb2 : w10.cell? ⟨Nb, 2, none⟩ = some (.string s0) := (rowc Eb.out).1 2
       have zb3 : w10.cell? ⟨Nb, 3, none⟩ = some (.int .i64 x0) := (rowc Eb.out).1 3
       have zb4 : w10.cell? ⟨Nb, 4, none⟩ = some (.slice A5 L0 c5) := (rowc Eb.out).1 4
       have za10 : w10.cell? ⟨w.heap.size + 1, 0, none⟩ = some (.bool yb1) := (rowc Ea1.out).1 0
       have za11 : w10.cell? ⟨w.heap.size + 1, 1, none⟩ = some (.int .i64 yn1) := (rowc Ea1.out).1 1
       have za12 : w10.cell? ⟨w.heap.size + 1, 2, none⟩ = some (.string ys1) := (rowc Ea1.out).1 2
       have za00 : w10.cell? ⟨w.heap.size, 0, none⟩ = some (.int .i64 k0) := (rowc Ea0.out).1 0
       have za01 : w10.cell? ⟨w.heap.size, 1, none⟩ = some (.int .i64 n0) := (rowc Ea0.out).1 1
       have za02 : w10.cell? ⟨w.heap.size, 2, none⟩ = some (.string s0) := (rowc Ea0.out).1 2
       have za03 : w10.cell? ⟨w.heap.size, 3, none⟩ = some (.int .i64 x0) := (rowc Ea0.out).1 3
       have za04 : w10.cell? ⟨w.heap.size, 4, none⟩ = some (.slice A0 L0 c0) := (rowc Ea0.out).1 4
       clear hb hbx))
  go_wp2_with (fail)
  go_ret
  exact ⟨rfl, HB.out⟩

theorem walk (t0 : Tr) (v0 : Value) (y1 : Ky) (w : World) (hr0 : TIn w (fun _ => True) t0 v0) (hy1 : I64 y1.num ∧ y1.str.size ≤ maxLen) : Calls Try.prog 4 #[v0, kyV y1] w (TrueQ w) :=
  walk0 t0 v0 y1 w hr0 hy1 (posV t0 y1) (fun _ => ⟨fun w S u h => findV_s' t0 u y1 w S h, fun w S u h => findKey_i t0 u y1 w S h⟩)

set_option maxRecDepth 100000 in
theorem lifted (os : Os) (started : os.Started) (H : Type) (enc : TypeId × Value → H) :
    ReturnsInHanded {} Try.checked os 4 .any (Rows.fnExactFindKeySpec.pre6 enc Try.prog Try.f4 Rows.fnExactFindKeyRow.domain false) (Rows.fnExactFindKeySpec.post enc Try.prog Try.f4 false true false false) := by
  refine returnsInHanded_of_change (C := Try.checked) own started (by kernel_rfl) Try.func4
    (ChangeSpec.witness6 (enc := enc) (C := Try.checked) false ⟨#[], #[.agg #[.int .i64 0, .int .i64 0, .string ⟨#[]⟩, .int .i64 0, .slice none 0 0], .agg #[.bool false, .int .i64 0, .string ⟨#[]⟩]], []⟩ 8 (by kernel_rfl) (by kernel_rfl) (by kernel_rfl) (by kernel_rfl)) ?_
  intro W base args ds gs before hval0 hW hcnd _
  have hval : ∀ (j : Nat) t v, Try.f4.params[j]? = some t → args[j]? = some v → Value.okWide Try.prog W .any base t v := hval0
  have hW' := hW
  obtain ⟨p, q, hA0, hV, rfl, hfz, hnd⟩ := hW
  have hA : DataW.TrodAll enc Try.prog W 0 (fun _ => true) true Try.f4.params.toList args.toList ds p := hA0
  have hA2 := hA
  rw [Try.params4] at hA hval
  obtain ⟨v0, vs0, d0, ds0, p0, q0, hargs, rfl, rfl, h0, r0⟩ := trodAll_cons hA
  obtain ⟨v1, vs1, d1, ds1, p1, q1, rfl, rfl, rfl, h1, r1⟩ := trodAll_cons r0
  obtain ⟨rfl, rfl, rfl⟩ := trodAll_nil r1
  obtain rfl : args = #[v0, v1] := by cases args; simp_all
  obtain ⟨rfl, rfl⟩ := trodVars_none hV
  obtain ⟨t0, hr0⟩ := opt.open_value (hval 0 36 v0 rfl rfl) h0
  obtain ⟨y1, rfl, hy1⟩ := opt.open_key (hval 1 23 v1 rfl rfl) h1
  clear hA0 hval0
  simp only [List.append_nil] at hW' hA2
  refine (walk t0 v0 y1 W hr0 hy1).mono fun e W' ⟨he, hb⟩ => ?_
  subst he
  exact ⟨_, rfl, opn.post_true hW' rfl hA2 rfl rfl Try.underlying4 (by kernel_rfl) (by kernel_rfl) hb⟩

theorem over : Rows.fnExactFindKeyRow.holds Try.pinned (OpenSpec.ofChange Rows.fnExactFindKeySpec) :=
  OpenClaim.holds_of_wide 4 Try.f4 rfl rfl rfl rfl rfl rfl rfl ⟨rfl, rfl, rfl, rfl, rfl⟩ rfl rfl rfl rfl rfl (by kernel_rfl) Try.func4 (by kernel_rfl)
    (of_decide_eq_true (by kernel_rfl)) (by unfold Func.isWrapper; first | (rw [if_pos (by decide +kernel)]; kernel_rfl) | (rw [if_neg (by decide +kernel)]; exact ⟨rfl, rfl⟩))
    (fun os started H enc _ => lifted os started H enc)

/-- The statement. -/
theorem proved : Rows.FnExactFindKeySaid :=
  over
#print axioms proved
end Go.Proofs.Ytfeoendbfdmkmaa.fnExactFindKey
