/-
  IsHeld answers as its model at every heap and value; it leaves its arguments unmodified.
  Conditions: the package variables that the row lists hold what the program's text lays, and the card ties that to the text.
-/
import Derived.Test.YtbgffmiffmmohaaDoorRows
import Derived.Test.YtbgffmiffmmohaaDoorCards
import Derived.Test.YtbgffmiffmmohaaDoorTie
import Derived.LaidMore
import Derived.LaidHandle
import Derived.Stop.Joined
import Derived.SevenTiedAt
import Derived.Stop.LaidErr
import Derived.SizedLaws
import Derived.Deep.RegionHeld3
import Derived.WalkKit
import Derived.ProofKit
import Derived.OpenShut
import Derived.Test.YtbgffmiffmmohaaDoorIhB3
import Derived.Test.YtbgffmiffmmohaaDoorIhB4
import Derived.Test.YtbgffmiffmmohaaDoorIhSTreeCp
import Derived.Test.YtbgffmiffmmohaaDoorIhB1
import Derived.Test.YtbgffmiffmmohaaDoorIhSEnvKey
namespace Go.Proofs.YtbgffmiffmmohaaDoor.fnExactIsHeld
open Go.ChangeShapes Go.WideShapes Go.ChangeAt Go.RowKit tree
open Go.ChangeMaps (open_string)
set_option linter.unusedVariables false

theorem own : ownKnob Tryd.prog.godebug = none := by kernel_rfl

set_option maxHeartbeats 8000000 in
set_option maxRecDepth 100000 in
theorem walk0 (bl0 : List Bk) (A0 : Option Addr) (c0 : Nat) (t1 : Tr) (v1 : Value) (w : World) (hh0 : HIn w (fun _ => True) bl0 A0) (hc0 : bl0.length ≤ c0 ∧ c0 ≤ maxLen) (hr1 : TIn w (fun _ => True) t1 v1) (PP : Prop) (hE : prs.Env w)
    (HC : bl0.length + totB bl0 + tot t1 ≤ 1048576 → (∀ (w : World) (S0 : Nat → Prop) (A : Option Addr) (c : Nat), HIn w S0 bl0 A → ∀ (S1 : Nat → Prop) (u : Value), TIn w S1 t1 u → prs.Env w → Calls Tryd.prog 14 #[hpV A bl0.length c, u] w (fun e w' => ∃ q, e = .returned (.bool q) ∧ (q = true ↔ PP) ∧ Below w.heap.size w w')) ∧ (∀ (w : World) (S0 : Nat → Prop) (A : Option Addr) (c : Nat), HIn w S0 bl0 A → ∀ (S1 : Nat → Prop) (u : Value), TIn w S1 t1 u → prs.Env w → Calls Tryd.prog 17 #[hpV A bl0.length c, u] w (fun e w' => ∃ q, e = .returned (.bool q) ∧ (q = true ↔ PP) ∧ Below w.heap.size w w'))) :
    Calls Tryd.prog 4 #[hpV A0 (List.length bl0) c0, v1] w (TrueQ w) := by
  have HE := Lib.hid hE
  clear hE
  obtain ⟨L0, HL0⟩ : ∃ L, Hid (bl0.length = L) := ⟨_, Lib.hid rfl⟩
  have HH0 := Lib.hid hh0
  have HLI : Hid (∀ i, i < bl0.length → i < L0) := Lib.hid (fun i h => by rw [← HL0.out]; exact h)
  have SZ0 := Lib.hid (fun w' (h : HIn w' (fun _ => True) bl0 A0) l h0 h1 => szHeap bl0 (Nat.le_trans hc0.1 hc0.2) A0 c0 w' (fun _ => True) h l h0 h1)
  have TH : Hid (bl0.length + totB bl0 ≤ 1048576 → ∀ w', HIn w' (fun _ => True) bl0 A0 → Calls Tryd.prog 15 #[hpV A0 bl0.length c0] w' (HpQ w' bl0)) := Lib.hid (fun hm w' h => toHeap bl0 hm A0 c0 w' _ h)
  have EH := Lib.hid (fun (hh : ∀ k ∈ bl0, k.heads.length ≤ 17592186044416) => eqHeap bl0 (Nat.le_trans hc0.1 hc0.2) hh)
  unfold HpQ at TH
  rw [HL0.out] at SZ0 TH EH ⊢
  have hL0 : L0 ≤ 9223372036854775807 := by have := Nat.le_trans hc0.1 hc0.2; unfold maxLen at this; rw [HL0.out] at this; omega
  rw [HL0.out] at HC
  obtain ⟨k1, n1, s1, x1, ks1, vs1⟩ := t1
  obtain ⟨A1, c1, rfl, -, -⟩ := hr1.out
  obtain ⟨L1, HL1⟩ : ∃ L, Hid (L = vs1.length) := ⟨_, Lib.hid rfl⟩
  obtain ⟨T1, HT1⟩ : ∃ T, Hid (T = Tr.mk k1 n1 s1 x1 ks1 vs1) := ⟨_, Lib.hid rfl⟩
  rw [← HT1.out] at hr1 HC
  rw [← HL1.out] at hr1 ⊢
  have HR1 := Lib.hid hr1
  have SZ1 := Lib.hid (fun w' h => szV T1 w' (fun _ => True) (vV k1 n1 s1 x1 A1 L1 c1) h)
  have HCC := Lib.hid HC
  clear hh0 hc0 HC hr1
  go_enter Tryd.func4, Tryd.ntmps4
  go_wp2_with (fail)
  refine (SZ0.out _ (HH0.out.below (tree.b2 _ _ _)) 1048576 (by omega) (by omega)).mono ?_
  rintro e w0 ⟨r0, rfl, ⟨ha0, hb0, hc0⟩, hw0⟩
  have Ea0 := Lib.hid (carry hw0 (heap_alloc2_old w _ _))
  have Ea1 := Lib.hid (carry hw0 (heap_alloc2_new w _ _))
  have HB := Lib.hid (bs (tree.b2 w _ _) hw0)
  have HQ0 := Lib.hid hc0
  clear hw0 hc0
  by_cases hlt0 : r0 < 0
  · go_wp2_with (fail)
    go_ret
    exact ⟨rfl, HB.out⟩
  have za10 : w0.cell? ⟨w.heap.size + 1, 0, none⟩ = some (.int .i64 k1) := (rowc Ea1.out).1 0
  have za11 : w0.cell? ⟨w.heap.size + 1, 1, none⟩ = some (.int .i64 n1) := (rowc Ea1.out).1 1
  have za12 : w0.cell? ⟨w.heap.size + 1, 2, none⟩ = some (.string s1) := (rowc Ea1.out).1 2
  have za13 : w0.cell? ⟨w.heap.size + 1, 3, none⟩ = some (.int .i64 x1) := (rowc Ea1.out).1 3
  have za14 : w0.cell? ⟨w.heap.size + 1, 4, none⟩ = some (.slice A1 L1 c1) := (rowc Ea1.out).1 4
  go_wp2_with (fail)
  refine (SZ1.out _ (HR1.out.below' HB.out) r0 (by omega) (by omega)).mono ?_
  rintro e w1 ⟨r1, rfl, ⟨ha1, hb1, hc1⟩, hw1⟩
  replace Ea0 := Lib.hid (carry hw1 Ea0.out)
  replace Ea1 := Lib.hid (carry hw1 Ea1.out)
  replace HB := Lib.hid (bs HB.out hw1)
  have HQ1 := Lib.hid hc1
  clear hw1 hc1
  clear za10 za11 za12 za13 za14
  by_cases hlt1 : r1 < 0
  · go_wp2_with (fail)
    go_ret
    exact ⟨rfl, HB.out⟩
  have HSUM : Hid ((L0 + totB bl0) + tot T1 ≤ 1048576) := Lib.hid (by have q0 := HQ0.out (by omega); have q1 := HQ1.out (by omega); omega)
  have hT1 : Hid (tot T1 ≤ 1048576) := Lib.hid (by have := HSUM.out; omega)
  have hbT : L0 + totB bl0 ≤ 1048576 := by have := HSUM.out; omega
  have TH := Lib.hid (TH.out (by omega))
  have HKB : Hid (∀ k ∈ bl0, k.heads.length ≤ 1048576 ∧ k.slots.length ≤ 1048576) := Lib.hid (fun k hk => by have := totB_le hk; unfold szB at this; exact ⟨by omega, by omega⟩)
  have EH := Lib.hid (EH.out (fun k hk => by have := (HKB.out k hk).1; omega))
  obtain ⟨hcs, hci⟩ := HCC.out HSUM.out
  have HCS := Lib.hid hcs
  have HCI := Lib.hid hci
  clear hcs hci HCC
  have za00 : w1.cell? ⟨w.heap.size, 0, none⟩ = some (.slice A0 L0 c0) := (rowc Ea0.out).1 0
  have za10 : w1.cell? ⟨w.heap.size + 1, 0, none⟩ = some (.int .i64 k1) := (rowc Ea1.out).1 0
  have za11 : w1.cell? ⟨w.heap.size + 1, 1, none⟩ = some (.int .i64 n1) := (rowc Ea1.out).1 1
  have za12 : w1.cell? ⟨w.heap.size + 1, 2, none⟩ = some (.string s1) := (rowc Ea1.out).1 2
  have za13 : w1.cell? ⟨w.heap.size + 1, 3, none⟩ = some (.int .i64 x1) := (rowc Ea1.out).1 3
  have za14 : w1.cell? ⟨w.heap.size + 1, 4, none⟩ = some (.slice A1 L1 c1) := (rowc Ea1.out).1 4
  go_wp2_with (fail)
  go_region_held3 (fun w' => w'.cell? ⟨w.heap.size, 0, none⟩ = some (.slice A0 L0 c0) ∧ w'.cell? ⟨w.heap.size + 1, 0, none⟩ = some (.int .i64 k1) ∧ w'.cell? ⟨w.heap.size + 1, 1, none⟩ = some (.int .i64 n1) ∧ w'.cell? ⟨w.heap.size + 1, 2, none⟩ = some (.string s1) ∧ w'.cell? ⟨w.heap.size + 1, 3, none⟩ = some (.int .i64 x1) ∧ w'.cell? ⟨w.heap.size + 1, 4, none⟩ = some (.slice A1 L1 c1)) (first | with_reducible exact ⟨za00, za10, za11, za12, za13, za14⟩ | with_reducible exact ⟨drc (alc za00), drc (alc za10), drc (alc za11), drc (alc za12), drc (alc za13), drc (alc za14)⟩ | with_reducible exact ⟨drc za00, drc za10, drc za11, drc za12, drc za13, drc za14⟩ | with_reducible exact ⟨alc za00, alc za10, alc za11, alc za12, alc za13, alc za14⟩ | with_reducible exact ⟨alc (drc za00), alc (drc za10), alc (drc za11), alc (drc za12), alc (drc za13), alc (drc za14)⟩ | go_keep) (first
    | (go_at_call 15; refine (TH.out _ (HH0.out.below (by first | exact HB.out | exact HB.out.trans ((Below.refl _ _).drew)))).mono ?_
       rintro e w2 ⟨gq, owq, hgq, rfl, hlq, hb⟩
       have hbx : Below w1.heap.size w1 w2 := by first | exact hb | exact bs ((Below.refl _ _).drew) hb
       have HX := Lib.hid (hlq.hin HLI.out)
       clear hlq hgq
       replace Ea0 := Lib.hid (carry hbx Ea0.out)
       replace Ea1 := Lib.hid (carry hbx Ea1.out)
       replace HB := Lib.hid (bs HB.out hbx)
       have za00 : w2.cell? ⟨w.heap.size, 0, none⟩ = some (.slice A0 L0 c0) := (rowc Ea0.out).1 0
       have za10 : w2.cell? ⟨w.heap.size + 1, 0, none⟩ = some (.int .i64 k1) := (rowc Ea1.out).1 0
       have za11 : w2.cell? ⟨w.heap.size + 1, 1, none⟩ = some (.int .i64 n1) := (rowc Ea1.out).1 1
       have za12 : w2.cell? ⟨w.heap.size + 1, 2, none⟩ = some (.string s1) := (rowc Ea1.out).1 2
       have za13 : w2.cell? ⟨w.heap.size + 1, 3, none⟩ = some (.int .i64 x1) := (rowc Ea1.out).1 3
       have za14 : w2.cell? ⟨w.heap.size + 1, 4, none⟩ = some (.slice A1 L1 c1) := (rowc Ea1.out).1 4
       clear hb hbx)
    | (go_at_call 16; refine (cps T1 hT1.out _ _ _ (HR1.out.below' (by first | exact HB.out | exact HB.out.trans ((Below.refl _ _).drew)))).mono ?_
       rintro e w3 ⟨v, rfl, hv, hb⟩
       have hbx : Below w2.heap.size w2 w3 := by first | exact hb | exact bs ((Below.refl _ _).drew) hb
       obtain ⟨A2, c2, rfl, -, -⟩ := TIn.out (HT1.out ▸ hv)
       have HV2 := Lib.hid (show TIn w3 _ T1 (vV k1 n1 s1 x1 A2 L1 c2) by rw [HL1.out, HT1.out]; exact (HT1.out ▸ hv))
       rw [← HL1.out]
       clear hv
       replace Ea0 := Lib.hid (carry hbx Ea0.out)
       replace Ea1 := Lib.hid (carry hbx Ea1.out)
       replace HX := Lib.hid (HX.out.below hbx)
       replace HB := Lib.hid (bs HB.out hbx)
       have za00 : w3.cell? ⟨w.heap.size, 0, none⟩ = some (.slice A0 L0 c0) := (rowc Ea0.out).1 0
       have za10 : w3.cell? ⟨w.heap.size + 1, 0, none⟩ = some (.int .i64 k1) := (rowc Ea1.out).1 0
       have za11 : w3.cell? ⟨w.heap.size + 1, 1, none⟩ = some (.int .i64 n1) := (rowc Ea1.out).1 1
       have za12 : w3.cell? ⟨w.heap.size + 1, 2, none⟩ = some (.string s1) := (rowc Ea1.out).1 2
       have za13 : w3.cell? ⟨w.heap.size + 1, 3, none⟩ = some (.int .i64 x1) := (rowc Ea1.out).1 3
       have za14 : w3.cell? ⟨w.heap.size + 1, 4, none⟩ = some (.slice A1 L1 c1) := (rowc Ea1.out).1 4
       clear hb hbx)
    | (go_at_call 14; refine (HCS.out _ _ _ _ (by first | with_reducible exact HX.out | exact HX.out.below ((Below.refl _ _).drew)) _ _ (by first | with_reducible exact HV2.out | exact HV2.out.below' ((Below.refl _ _).drew)) (HE.out.stays (by first | exact HB.out | exact HB.out.trans ((Below.refl _ _).drew)))).mono ?_
       rintro e w4 ⟨q1, rfl, hq1, hb⟩
       have hbx : Below w3.heap.size w3 w4 := by first | exact hb | exact bs ((Below.refl _ _).drew) hb
       have HQ1 := Lib.hid hq1
       clear hq1
       replace Ea0 := Lib.hid (carry hbx Ea0.out)
       replace Ea1 := Lib.hid (carry hbx Ea1.out)
       replace HX := Lib.hid (HX.out.below hbx)
       replace HV2 := Lib.hid (HV2.out.below' hbx)
       replace HB := Lib.hid (bs HB.out hbx)
       have za00 : w4.cell? ⟨w.heap.size, 0, none⟩ = some (.slice A0 L0 c0) := (rowc Ea0.out).1 0
       have za10 : w4.cell? ⟨w.heap.size + 1, 0, none⟩ = some (.int .i64 k1) := (rowc Ea1.out).1 0
       have za11 : w4.cell? ⟨w.heap.size + 1, 1, none⟩ = some (.int .i64 n1) := (rowc Ea1.out).1 1
       have za12 : w4.cell? ⟨w.heap.size + 1, 2, none⟩ = some (.string s1) := (rowc Ea1.out).1 2
       have za13 : w4.cell? ⟨w.heap.size + 1, 3, none⟩ = some (.int .i64 x1) := (rowc Ea1.out).1 3
       have za14 : w4.cell? ⟨w.heap.size + 1, 4, none⟩ = some (.slice A1 L1 c1) := (rowc Ea1.out).1 4
       clear hb hbx))
  clear HX HV2
  clear za00 za10 za11 za12 za13 za14
  have za00 : w4.cell? ⟨w.heap.size, 0, none⟩ = some (.slice A0 L0 c0) := (rowc Ea0.out).1 0
  go_wp2_with (fail)
  refine (TH.out _ (HH0.out.below HB.out)).mono ?_
  rintro e w5 ⟨gx, owx, hgx, rfl, hlx, hb⟩
  clear za00
  have HX0 := Lib.hid (hlx.hin HLI.out)
  clear hlx hgx
  replace Ea0 := Lib.hid (carry hb Ea0.out)
  replace Ea1 := Lib.hid (carry hb Ea1.out)
  replace HB := Lib.hid (bs HB.out hb)
  clear hb
  go_upto_region 10 with fail
  obtain ⟨Nb, HNb⟩ : ∃ N, Hid (w5.heap.size = N) := ⟨_, Lib.hid rfl⟩
  generalize hwn : w5.alloc (.cells #[.slice (some ⟨gx, 0, none⟩) L0 L0] IH) = w6
  have hbx : Below w5.heap.size w5 w6 := hwn ▸ b1 _ _
  have Eb : Hid (w6.heap[Nb]? = some (.cells #[.slice (some ⟨gx, 0, none⟩) L0 L0] IH (0, 0))) := Lib.hid (by rw [← hwn, ← HNb.out]; exact heap_alloc_new _ _)
  rw [HNb.out]
  replace Ea0 := Lib.hid (carry hbx Ea0.out)
  replace Ea1 := Lib.hid (carry hbx Ea1.out)
  replace HX0 := Lib.hid (HX0.out.below hbx)
  replace HB := Lib.hid (bs HB.out hbx)
  clear hwn hbx
  have za10 : w6.cell? ⟨w.heap.size + 1, 0, none⟩ = some (.int .i64 k1) := (rowc Ea1.out).1 0
  have za11 : w6.cell? ⟨w.heap.size + 1, 1, none⟩ = some (.int .i64 n1) := (rowc Ea1.out).1 1
  have za12 : w6.cell? ⟨w.heap.size + 1, 2, none⟩ = some (.string s1) := (rowc Ea1.out).1 2
  have za13 : w6.cell? ⟨w.heap.size + 1, 3, none⟩ = some (.int .i64 x1) := (rowc Ea1.out).1 3
  have za14 : w6.cell? ⟨w.heap.size + 1, 4, none⟩ = some (.slice A1 L1 c1) := (rowc Ea1.out).1 4
  go_wp2_with (fail)
  refine (cps T1 hT1.out _ _ _ (HR1.out.below' HB.out)).mono ?_
  rintro e w7 ⟨v, rfl, hv, hb⟩
  clear za10 za11 za12 za13 za14
  obtain ⟨Ax, cx, rfl, -, -⟩ := TIn.out (HT1.out ▸ hv)
  have HVx := Lib.hid (show TIn w7 _ T1 (vV k1 n1 s1 x1 Ax L1 cx) by rw [HL1.out, HT1.out]; exact (HT1.out ▸ hv))
  rw [← HL1.out]
  clear hv
  replace Ea0 := Lib.hid (carry hb Ea0.out)
  replace Ea1 := Lib.hid (carry hb Ea1.out)
  replace Eb := Lib.hid (carry hb Eb.out)
  replace HX0 := Lib.hid (HX0.out.below hb)
  replace HB := Lib.hid (bs HB.out hb)
  clear hb
  go_upto_region 11 with fail
  obtain ⟨Nd, HNd⟩ : ∃ N, Hid (w7.heap.size = N) := ⟨_, Lib.hid rfl⟩
  generalize hwn : w7.alloc (.cells #[.int .i64 k1, .int .i64 n1, .string s1, .int .i64 x1, .slice Ax L1 cx] IV) = w8
  have hbx : Below w7.heap.size w7 w8 := hwn ▸ b1 _ _
  have Ed : Hid (w8.heap[Nd]? = some (.cells #[.int .i64 k1, .int .i64 n1, .string s1, .int .i64 x1, .slice Ax L1 cx] IV (0, 0))) := Lib.hid (by rw [← hwn, ← HNd.out]; exact heap_alloc_new _ _)
  rw [HNd.out]
  replace Ea0 := Lib.hid (carry hbx Ea0.out)
  replace Ea1 := Lib.hid (carry hbx Ea1.out)
  replace Eb := Lib.hid (carry hbx Eb.out)
  replace HX0 := Lib.hid (HX0.out.below hbx)
  replace HVx := Lib.hid (HVx.out.below' hbx)
  replace HB := Lib.hid (bs HB.out hbx)
  clear hwn hbx
  have zb0 : w8.cell? ⟨Nb, 0, none⟩ = some (.slice (some ⟨gx, 0, none⟩) L0 L0) := (rowc Eb.out).1 0
  have zd0 : w8.cell? ⟨Nd, 0, none⟩ = some (.int .i64 k1) := (rowc Ed.out).1 0
  have zd1 : w8.cell? ⟨Nd, 1, none⟩ = some (.int .i64 n1) := (rowc Ed.out).1 1
  have zd2 : w8.cell? ⟨Nd, 2, none⟩ = some (.string s1) := (rowc Ed.out).1 2
  have zd3 : w8.cell? ⟨Nd, 3, none⟩ = some (.int .i64 x1) := (rowc Ed.out).1 3
  have zd4 : w8.cell? ⟨Nd, 4, none⟩ = some (.slice Ax L1 cx) := (rowc Ed.out).1 4
  go_wp2_with (fail)
  refine (HCI.out _ _ _ _ HX0.out _ _ HVx.out (HE.out.stays HB.out)).mono ?_
  rintro e w9 ⟨q2, rfl, hq2, hb⟩
  obtain rfl : q1 = q2 := by
    have h1 := HQ1.out
    have e : q1 = true ↔ q2 = true := h1.trans hq2.symm
    cases q1 <;> cases q2 <;> simp_all
  clear zb0 zd0 zd1 zd2 zd3 zd4
  replace Ea0 := Lib.hid (carry hb Ea0.out)
  replace Ea1 := Lib.hid (carry hb Ea1.out)
  replace Eb := Lib.hid (carry hb Eb.out)
  replace Ed := Lib.hid (carry hb Ed.out)
  replace HX0 := Lib.hid (HX0.out.below hb)
  replace HVx := Lib.hid (HVx.out.below' hb)
  replace HB := Lib.hid (bs HB.out hb)
  clear hb hq2 HQ1
  have zb0 : w9.cell? ⟨Nb, 0, none⟩ = some (.slice (some ⟨gx, 0, none⟩) L0 L0) := (rowc Eb.out).1 0
  have za00 : w9.cell? ⟨w.heap.size, 0, none⟩ = some (.slice A0 L0 c0) := (rowc Ea0.out).1 0
  cases q1
  all_goals
    go_wp2_with (fail)
    go_region_held3 (fun w' => w'.cell? ⟨Nb, 0, none⟩ = some (.slice (some ⟨gx, 0, none⟩) L0 L0) ∧ w'.cell? ⟨w.heap.size, 0, none⟩ = some (.slice A0 L0 c0)) (first | with_reducible exact ⟨zb0, za00⟩ | with_reducible exact ⟨drc (alc zb0), drc (alc za00)⟩ | with_reducible exact ⟨drc zb0, drc za00⟩ | with_reducible exact ⟨alc zb0, alc za00⟩ | with_reducible exact ⟨alc (drc zb0), alc (drc za00)⟩ | go_keep) (first
      | (go_at_call 15; refine (TH.out _ (HH0.out.below (by first | exact HB.out | exact HB.out.trans ((Below.refl _ _).drew)))).mono ?_
         rintro e w10 ⟨gq, owq, hgq, rfl, hlq, hb⟩
         have hbx : Below w9.heap.size w9 w10 := by first | exact hb | exact bs ((Below.refl _ _).drew) hb
         have HQ := Lib.hid (hlq.hin HLI.out)
         clear hlq hgq
         replace Ea0 := Lib.hid (carry hbx Ea0.out)
         replace Ea1 := Lib.hid (carry hbx Ea1.out)
         replace Eb := Lib.hid (carry hbx Eb.out)
         replace Ed := Lib.hid (carry hbx Ed.out)
         replace HX0 := Lib.hid (HX0.out.below hbx)
         replace HVx := Lib.hid (HVx.out.below' hbx)
         replace HB := Lib.hid (bs HB.out hbx)
         have zb0 : w10.cell? ⟨Nb, 0, none⟩ = some (.slice (some ⟨gx, 0, none⟩) L0 L0) := (rowc Eb.out).1 0
         have za00 : w10.cell? ⟨w.heap.size, 0, none⟩ = some (.slice A0 L0 c0) := (rowc Ea0.out).1 0
         clear hb hbx)
      | (go_at_call 18; refine (EH.out _ _ _ _ _ _ _ (by first | with_reducible exact HX0.out | exact HX0.out.below ((Below.refl _ _).drew)) (by first | with_reducible exact HQ.out | exact HQ.out.below ((Below.refl _ _).drew))).mono ?_
         rintro e w11 ⟨rfl, hb⟩
         have hbx : Below w10.heap.size w10 w11 := by first | exact hb | exact bs ((Below.refl _ _).drew) hb
         replace Ea0 := Lib.hid (carry hbx Ea0.out)
         replace Ea1 := Lib.hid (carry hbx Ea1.out)
         replace Eb := Lib.hid (carry hbx Eb.out)
         replace Ed := Lib.hid (carry hbx Ed.out)
         replace HX0 := Lib.hid (HX0.out.below hbx)
         replace HVx := Lib.hid (HVx.out.below' hbx)
         replace HQ := Lib.hid (HQ.out.below hbx)
         replace HB := Lib.hid (bs HB.out hbx)
         have zb0 : w11.cell? ⟨Nb, 0, none⟩ = some (.slice (some ⟨gx, 0, none⟩) L0 L0) := (rowc Eb.out).1 0
         have za00 : w11.cell? ⟨w.heap.size, 0, none⟩ = some (.slice A0 L0 c0) := (rowc Ea0.out).1 0
         clear hb hbx))
    clear HQ
    clear zb0 za00
    have zd0 : w11.cell? ⟨Nd, 0, none⟩ = some (.int .i64 k1) := (rowc Ed.out).1 0
    have zd1 : w11.cell? ⟨Nd, 1, none⟩ = some (.int .i64 n1) := (rowc Ed.out).1 1
    have zd2 : w11.cell? ⟨Nd, 2, none⟩ = some (.string s1) := (rowc Ed.out).1 2
    have zd3 : w11.cell? ⟨Nd, 3, none⟩ = some (.int .i64 x1) := (rowc Ed.out).1 3
    have zd4 : w11.cell? ⟨Nd, 4, none⟩ = some (.slice Ax L1 cx) := (rowc Ed.out).1 4
    have za10 : w11.cell? ⟨w.heap.size + 1, 0, none⟩ = some (.int .i64 k1) := (rowc Ea1.out).1 0
    have za11 : w11.cell? ⟨w.heap.size + 1, 1, none⟩ = some (.int .i64 n1) := (rowc Ea1.out).1 1
    have za12 : w11.cell? ⟨w.heap.size + 1, 2, none⟩ = some (.string s1) := (rowc Ea1.out).1 2
    have za13 : w11.cell? ⟨w.heap.size + 1, 3, none⟩ = some (.int .i64 x1) := (rowc Ea1.out).1 3
    have za14 : w11.cell? ⟨w.heap.size + 1, 4, none⟩ = some (.slice A1 L1 c1) := (rowc Ea1.out).1 4
    go_wp2_with (fail)
    go_region_held3 (fun w' => w'.cell? ⟨Nd, 0, none⟩ = some (.int .i64 k1) ∧ w'.cell? ⟨Nd, 1, none⟩ = some (.int .i64 n1) ∧ w'.cell? ⟨Nd, 2, none⟩ = some (.string s1) ∧ w'.cell? ⟨Nd, 3, none⟩ = some (.int .i64 x1) ∧ w'.cell? ⟨Nd, 4, none⟩ = some (.slice Ax L1 cx) ∧ w'.cell? ⟨w.heap.size + 1, 0, none⟩ = some (.int .i64 k1) ∧ w'.cell? ⟨w.heap.size + 1, 1, none⟩ = some (.int .i64 n1) ∧ w'.cell? ⟨w.heap.size + 1, 2, none⟩ = some (.string s1) ∧ w'.cell? ⟨w.heap.size + 1, 3, none⟩ = some (.int .i64 x1) ∧ w'.cell? ⟨w.heap.size + 1, 4, none⟩ = some (.slice A1 L1 c1)) (first | with_reducible exact ⟨zd0, zd1, zd2, zd3, zd4, za10, za11, za12, za13, za14⟩ | with_reducible exact ⟨drc (alc zd0), drc (alc zd1), drc (alc zd2), drc (alc zd3), drc (alc zd4), drc (alc za10), drc (alc za11), drc (alc za12), drc (alc za13), drc (alc za14)⟩ | with_reducible exact ⟨drc zd0, drc zd1, drc zd2, drc zd3, drc zd4, drc za10, drc za11, drc za12, drc za13, drc za14⟩ | with_reducible exact ⟨alc zd0, alc zd1, alc zd2, alc zd3, alc zd4, alc za10, alc za11, alc za12, alc za13, alc za14⟩ | with_reducible exact ⟨alc (drc zd0), alc (drc zd1), alc (drc zd2), alc (drc zd3), alc (drc zd4), alc (drc za10), alc (drc za11), alc (drc za12), alc (drc za13), alc (drc za14)⟩ | go_keep) (first
      | (go_at_call 16; refine (cps T1 hT1.out _ _ _ (HR1.out.below' (by first | exact HB.out | exact HB.out.trans ((Below.refl _ _).drew)))).mono ?_
         rintro e w12 ⟨v, rfl, hv, hb⟩
         have hbx : Below w11.heap.size w11 w12 := by first | exact hb | exact bs ((Below.refl _ _).drew) hb
         obtain ⟨Aq, cq, rfl, -, -⟩ := TIn.out (HT1.out ▸ hv)
         have HVq := Lib.hid (show TIn w12 _ T1 (vV k1 n1 s1 x1 Aq L1 cq) by rw [HL1.out, HT1.out]; exact (HT1.out ▸ hv))
         rw [← HL1.out]
         clear hv
         replace Ea0 := Lib.hid (carry hbx Ea0.out)
         replace Ea1 := Lib.hid (carry hbx Ea1.out)
         replace Eb := Lib.hid (carry hbx Eb.out)
         replace Ed := Lib.hid (carry hbx Ed.out)
         replace HX0 := Lib.hid (HX0.out.below hbx)
         replace HVx := Lib.hid (HVx.out.below' hbx)
         replace HB := Lib.hid (bs HB.out hbx)
         have zd0 : w12.cell? ⟨Nd, 0, none⟩ = some (.int .i64 k1) := (rowc Ed.out).1 0
         have zd1 : w12.cell? ⟨Nd, 1, none⟩ = some (.int .i64 n1) := (rowc Ed.out).1 1
         have zd2 : w12.cell? ⟨Nd, 2, none⟩ = some (.string s1) := (rowc Ed.out).1 2
         have zd3 : w12.cell? ⟨Nd, 3, none⟩ = some (.int .i64 x1) := (rowc Ed.out).1 3
         have zd4 : w12.cell? ⟨Nd, 4, none⟩ = some (.slice Ax L1 cx) := (rowc Ed.out).1 4
         have za10 : w12.cell? ⟨w.heap.size + 1, 0, none⟩ = some (.int .i64 k1) := (rowc Ea1.out).1 0
         have za11 : w12.cell? ⟨w.heap.size + 1, 1, none⟩ = some (.int .i64 n1) := (rowc Ea1.out).1 1
         have za12 : w12.cell? ⟨w.heap.size + 1, 2, none⟩ = some (.string s1) := (rowc Ea1.out).1 2
         have za13 : w12.cell? ⟨w.heap.size + 1, 3, none⟩ = some (.int .i64 x1) := (rowc Ea1.out).1 3
         have za14 : w12.cell? ⟨w.heap.size + 1, 4, none⟩ = some (.slice A1 L1 c1) := (rowc Ea1.out).1 4
         clear hb hbx)
      | (go_at_call 19; refine (eqV T1 _ _ _ _ _ (by first | with_reducible exact HVx.out | exact HVx.out.below' ((Below.refl _ _).drew)) (by first | with_reducible exact HVq.out | exact HVq.out.below' ((Below.refl _ _).drew))).mono ?_
         rintro e w13 ⟨rfl, hb⟩
         have hbx : Below w12.heap.size w12 w13 := by first | exact hb | exact bs ((Below.refl _ _).drew) hb
         replace Ea0 := Lib.hid (carry hbx Ea0.out)
         replace Ea1 := Lib.hid (carry hbx Ea1.out)
         replace Eb := Lib.hid (carry hbx Eb.out)
         replace Ed := Lib.hid (carry hbx Ed.out)
         replace HX0 := Lib.hid (HX0.out.below hbx)
         replace HVx := Lib.hid (HVx.out.below' hbx)
         replace HVq := Lib.hid (HVq.out.below' hbx)
         replace HB := Lib.hid (bs HB.out hbx)
         have zd0 : w13.cell? ⟨Nd, 0, none⟩ = some (.int .i64 k1) := (rowc Ed.out).1 0
         have zd1 : w13.cell? ⟨Nd, 1, none⟩ = some (.int .i64 n1) := (rowc Ed.out).1 1
         have zd2 : w13.cell? ⟨Nd, 2, none⟩ = some (.string s1) := (rowc Ed.out).1 2
         have zd3 : w13.cell? ⟨Nd, 3, none⟩ = some (.int .i64 x1) := (rowc Ed.out).1 3
         have zd4 : w13.cell? ⟨Nd, 4, none⟩ = some (.slice Ax L1 cx) := (rowc Ed.out).1 4
         have za10 : w13.cell? ⟨w.heap.size + 1, 0, none⟩ = some (.int .i64 k1) := (rowc Ea1.out).1 0
         have za11 : w13.cell? ⟨w.heap.size + 1, 1, none⟩ = some (.int .i64 n1) := (rowc Ea1.out).1 1
         have za12 : w13.cell? ⟨w.heap.size + 1, 2, none⟩ = some (.string s1) := (rowc Ea1.out).1 2
         have za13 : w13.cell? ⟨w.heap.size + 1, 3, none⟩ = some (.int .i64 x1) := (rowc Ea1.out).1 3
         have za14 : w13.cell? ⟨w.heap.size + 1, 4, none⟩ = some (.slice A1 L1 c1) := (rowc Ea1.out).1 4
         clear hb hbx))
    clear HVq
    clear zd0 zd1 zd2 zd3 zd4 za10 za11 za12 za13 za14
    go_wp2_with (fail)
    go_ret
    exact ⟨rfl, HB.out⟩

theorem walk (bl0 : List Bk) (A0 : Option Addr) (c0 : Nat) (t1 : Tr) (v1 : Value) (w : World) (hh0 : HIn w (fun _ => True) bl0 A0) (hc0 : bl0.length ≤ c0 ∧ c0 ≤ maxLen) (hr1 : TIn w (fun _ => True) t1 v1) (hE : prs.Env w) : Calls Tryd.prog 4 #[hpV A0 (List.length bl0) c0, v1] w (TrueQ w) :=
  walk0 bl0 A0 c0 t1 v1 w hh0 hc0 hr1 (heldB bl0 t1 = true) hE (fun hT => ⟨fun w S A c h S1 u hu hE => (isHeld_s bl0 t1 A c u w S S1 h (by omega) hu (by omega) hE).mono fun e w' ⟨h1, h2⟩ => ⟨_, h1, Iff.rfl, h2⟩, fun w S A c h S1 u hu hE => (isHeld_i bl0 t1 A c u w S S1 h (by omega) hu (by omega) hE).mono fun e w' ⟨h1, h2⟩ => ⟨_, h1, Iff.rfl, h2⟩⟩)

set_option maxRecDepth 100000 in
theorem lifted (os : Os) (started : os.Started) (H : Type) (enc : TypeId × Value → H) :
    ReturnsInHanded {} Tryd.checked os 4 .any (fun w args => (Rows.fnExactIsHeldSpec.pre enc Tryd.prog Tryd.f4 [] false w args ∧ laidMetH Tryd.prog prs.laidOf w) ∧ sizedMet enc Tryd.prog Tryd.f4 (OpenSpec.ofChange Rows.fnExactIsHeldSpec) false w args)
      (Rows.fnExactIsHeldSpec.post enc Tryd.prog Tryd.f4 false true false false) := by
  refine returnsInHanded_of_change_and (C := Tryd.checked) (X := fun w _ => laidMetH Tryd.prog prs.laidOf w) (fun _ _ _ hh h => h.of_heap hh) own started (by kernel_rfl) Tryd.func4
    (ChangeSpec.witness_shaped (enc := enc) (C := Tryd.checked) (os := os) (X := fun w _ => laidMetH Tryd.prog prs.laidOf w) false (World.doorLaid Tryd.prog 400 os) #[.agg #[.slice none 0 0], .agg #[.int .i64 0, .int .i64 0, .string ⟨#[]⟩, .int .i64 0, .slice none 0 0]] 8 rfl (World.shaped_of_RefB (by kernel_rfl) (by kernel_rfl)) (by kernel_rfl) (by kernel_rfl) (by kernel_rfl) (prs.door_met os _)) ?_
  intro W base args ds gs before hval0 hW _ hsz0 hL _
  have hval : ∀ (j : Nat) t v, Tryd.f4.params[j]? = some t → args[j]? = some v → Value.okWide Tryd.prog W .any base t v := hval0
  have hW' := hW
  obtain ⟨p, q, hA0, hV, rfl, hfz, hnd⟩ := hW
  have hA : DataW.TrodAll enc Tryd.prog W 0 (fun _ => true) true Tryd.f4.params.toList args.toList ds p := hA0
  have hA2 := hA
  rw [Tryd.params4] at hA hval
  obtain ⟨v0, vs0, d0, ds0, p0, q0, hargs, rfl, rfl, h0, r0⟩ := trodAll_cons hA
  obtain ⟨v1, vs1, d1, ds1, p1, q1, rfl, rfl, rfl, h1, r1⟩ := trodAll_cons r0
  obtain ⟨rfl, rfl, rfl⟩ := trodAll_nil r1
  obtain rfl : args = #[v0, v1] := by cases args; simp_all
  obtain ⟨rfl, rfl⟩ := trodVars_none hV
  obtain ⟨A0, c0, bl0, rfl, hc0, hh0⟩ := open_heap (hval 0 41 v0 rfl rfl) h0
  obtain ⟨t1, hr1⟩ := opt.open_value (hval 1 44 v1 rfl rfl) h1
  clear hA0 hval0
  simp only [List.append_nil] at hW' hA2
  refine (walk bl0 A0 c0 t1 v1 W hh0 hc0 hr1 (prs.env_of hL)).mono fun e W' ⟨he, hb⟩ => ?_
  subst he
  exact ⟨_, rfl, opn.post_true hW' rfl hA2 rfl rfl Tryd.underlying4 (by kernel_rfl) (by kernel_rfl) hb⟩

theorem over : Rows.FnExactIsHeldSaid :=
  OpenClaim.holds_of_wide 4 Tryd.f4 rfl rfl rfl rfl rfl rfl rfl ⟨rfl, rfl, rfl, rfl, rfl⟩ rfl rfl rfl rfl rfl (by kernel_rfl) Tryd.func4 (by kernel_rfl)
    (of_decide_eq_true (by kernel_rfl)) (by unfold Func.isWrapper; first | (rw [if_pos (by decide +kernel)]; kernel_rfl) | (rw [if_neg (by decide +kernel)]; exact ⟨rfl, rfl⟩))
    (fun os started H enc _ => lifted os started H enc)

/-- The statement. -/
theorem proved : Rows.FnExactIsHeldCardSaid :=
  Claim7.holds_tied_plain_at .later [] Rows.fnExactIsHeldCard.laidKinds true Rows.fnExactIsHeldCard.stood.harness Rows.fnExactIsHeldCard.stood.looks
    over (fun _ h => by cases h) (by kernel_rfl) (fun _ h => by cases h) fnExactIsHeld_row_tie rfl ⟨rfl, rfl⟩ (by kernel_rfl) rfl
    (fun f fn hf hfn => by
      obtain rfl : f = 4 := Option.some.inj ((show Tryd.prog.funcNamed "loop.example/g03011/laws.FnExactIsHeld" = some 4 by kernel_rfl).symm.trans hf) |>.symm
      obtain rfl : fn = Tryd.f4 := (Option.some.inj (Tryd.func4.symm.trans hfn)).symm
      exact ⟨by kernel_rfl, fun j t ht => by
        rw [Tryd.params4] at ht
        have hm : t ∈ [41, 44] := by simpa using Array.mem_of_getElem? ht
        have hall : ([41, 44].all fun u => !Tryd.prog.wantsStandIn u) = true := by kernel_rfl
        exact (show Tryd.prog.wantsStandIn t = false by simpa using List.all_eq_true.1 hall t hm)⟩)
    (by kernel_rfl)
#print axioms proved
end Go.Proofs.YtbgffmiffmmohaaDoor.fnExactIsHeld

