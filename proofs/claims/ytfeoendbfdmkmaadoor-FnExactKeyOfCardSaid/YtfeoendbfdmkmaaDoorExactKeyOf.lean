/-
  KeyOf answers as its model at every value; it leaves its argument unmodified.
  Conditions: the package variables that the row lists hold what the program's text lays, and the card ties that to the text.
-/
import Derived.Test.YtfeoendbfdmkmaaDoorRows
import Derived.Test.YtfeoendbfdmkmaaDoorCards
import Derived.Test.YtfeoendbfdmkmaaDoorTie
import Derived.LaidMore
import Derived.LaidHandle
import Derived.Stop.Joined
import Derived.SevenTiedAt
import Derived.Stop.LaidErr
import Derived.SizedLaws
import Derived.Deep.RegionHeld3
import Derived.WalkKit
import Derived.ProofKit
import Derived.OpenShut
import Derived.Test.YtfeoendbfdmkmaaDoorKeyOf
import Derived.Test.YtfeoendbfdmkmaaDoorLawKit
import Derived.Test.YtfeoendbfdmkmaaDoorOpenT
import Derived.Test.YtfeoendbfdmkmaaDoorEnvKey
namespace Go.Proofs.YtfeoendbfdmkmaaDoor.fnExactKeyOf
open Go.ChangeShapes Go.WideShapes Go.ChangeAt Go.RowKit tree
open Go.ChangeMaps (open_string)
set_option linter.unusedVariables false

theorem own : ownKnob Tryd.prog.godebug = none := by kernel_rfl

set_option maxHeartbeats 2000000 in
theorem walk0 (t0 : Tr) (v0 : Value) (w : World) (hr0 : TIn w (fun _ => True) t0 v0) (y : Ky) (bb : Bool) (hE : prs.Env w)
    (HC : tot t0 ≤ 1048576 → (∀ (w : World) (S : Nat → Prop) (u : Value), TIn w S t0 u → Calls Tryd.prog 24 #[u] w (GivesQ w (.tuple #[kyV y, .bool bb]))) ∧ (∀ (w : World) (S : Nat → Prop) (u : Value), TIn w S t0 u → prs.Env w → Calls Tryd.prog 26 #[u] w (GivesQ w (.tuple #[kyV y, .bool bb])))) :
    Calls Tryd.prog 5 #[v0] w (TrueQ w) := by
  have EQ := eqKey y
  obtain ⟨yb, yn, ys⟩ := y
  unfold kyV at EQ HC
  have HEQ := Lib.hid EQ
  have HE := Lib.hid hE
  clear EQ hE
  obtain ⟨k0, n0, s0, x0, ks0, vs0⟩ := t0
  obtain ⟨A0, c0, rfl, -, -⟩ := hr0.out
  obtain ⟨L0, HL0⟩ : ∃ L, Hid (L = vs0.length) := ⟨_, Lib.hid rfl⟩
  obtain ⟨T0, HT0⟩ : ∃ T, Hid (T = Tr.mk k0 n0 s0 x0 ks0 vs0) := ⟨_, Lib.hid rfl⟩
  rw [← HT0.out] at hr0 HC
  rw [← HL0.out] at hr0 ⊢
  have HR0 := Lib.hid hr0
  have SZ0 := fun w h => szV T0 w (fun _ => True) (vV k0 n0 s0 x0 A0 L0 c0) h
  have HCC := Lib.hid HC
  clear hr0 HC
  go_enter Tryd.func5, Tryd.ntmps5
  go_wp2_with (fail)
  refine (SZ0 _ (HR0.out.below' (b1 _ _)) 1048576 (by omega) (by omega)).mono ?_
  rintro e w0 ⟨r0, rfl, ⟨ha0, hb0, hc0⟩, hw0⟩
  have Ea0 := Lib.hid (carry hw0 (heap_alloc_new w _))
  have HB := Lib.hid (bs (b1 w _) hw0)
  have HQ0 := Lib.hid hc0
  clear hw0 hc0
  by_cases hlt0 : r0 < 0
  · go_wp2_with (fail)
    go_ret
    exact ⟨rfl, HB.out⟩
  have HSUM : Hid (tot T0 ≤ 1048576) := Lib.hid (by have q0 := HQ0.out (by omega); omega)
  obtain HCON := HCC.out HSUM.out
  obtain ⟨hcs, hci⟩ := HCON
  have HCS := Lib.hid hcs
  have HCI := Lib.hid hci
  have hT : Hid (tot T0 ≤ 1048576) := Lib.hid (by have := HSUM.out; omega)
  clear hcs hci
  have za00 : w0.cell? ⟨w.heap.size, 0, none⟩ = some (.int .i64 k0) := (rowc Ea0.out).1 0
  have za01 : w0.cell? ⟨w.heap.size, 1, none⟩ = some (.int .i64 n0) := (rowc Ea0.out).1 1
  have za02 : w0.cell? ⟨w.heap.size, 2, none⟩ = some (.string s0) := (rowc Ea0.out).1 2
  have za03 : w0.cell? ⟨w.heap.size, 3, none⟩ = some (.int .i64 x0) := (rowc Ea0.out).1 3
  have za04 : w0.cell? ⟨w.heap.size, 4, none⟩ = some (.slice A0 L0 c0) := (rowc Ea0.out).1 4
  go_wp2_with (fail)
  refine (cps T0 hT.out _ _ _ (HR0.out.below' HB.out)).mono ?_
  rintro e w1 ⟨v, rfl, hv, hb⟩
  have hbx := hb
  obtain ⟨A1, c1, rfl, -, -⟩ := TIn.out (HT0.out ▸ hv)
  have HV1 := Lib.hid (show TIn w1 _ T0 (vV k0 n0 s0 x0 A1 L0 c1) by rw [HL0.out, HT0.out]; exact (HT0.out ▸ hv))
  rw [← HL0.out]
  clear hv
  replace Ea0 := Lib.hid (carry hbx Ea0.out)
  replace HB := Lib.hid (bs HB.out hbx)
  clear hb hbx
  clear za00 za01 za02 za03 za04
  go_wp2_with (fail)
  refine (HCS.out _ _ _ HV1.out).mono ?_
  rintro e w2 ⟨rfl, hb⟩
  have hbx := hb

  replace Ea0 := Lib.hid (carry hbx Ea0.out)
  replace HB := Lib.hid (bs HB.out hbx)
  clear hb hbx
  clear HV1
  have za00 : w2.cell? ⟨w.heap.size, 0, none⟩ = some (.int .i64 k0) := (rowc Ea0.out).1 0
  have za01 : w2.cell? ⟨w.heap.size, 1, none⟩ = some (.int .i64 n0) := (rowc Ea0.out).1 1
  have za02 : w2.cell? ⟨w.heap.size, 2, none⟩ = some (.string s0) := (rowc Ea0.out).1 2
  have za03 : w2.cell? ⟨w.heap.size, 3, none⟩ = some (.int .i64 x0) := (rowc Ea0.out).1 3
  have za04 : w2.cell? ⟨w.heap.size, 4, none⟩ = some (.slice A0 L0 c0) := (rowc Ea0.out).1 4
  have za0x : ∀ o, (w2.alloc o).cell? ⟨w.heap.size, 4, none⟩ = _ := fun o => (rowc (keepAlloc Ea0.out)).1 4
  clear za0x
  have za0a : ∀ o j, (w2.alloc o).cell? ⟨w.heap.size, j, none⟩ = _ := fun o j => (rowc (keepAlloc Ea0.out)).1 j
  go_wp2_with (fail)
  clear za0a
  clear za00 za01 za02 za03 za04
  obtain ⟨Nm, hNm⟩ : ∃ N, N = w2.heap.size := ⟨_, rfl⟩
  generalize hwn : w2.alloc (.cells #[.bool yb, .int .i64 yn, .string ys] IK) = w3
  have en : w3.heap[Nm]? = some (.cells #[.bool yb, .int .i64 yn, .string ys] IK (0, 0)) := by rw [← hwn, hNm]; exact heap_alloc_new _ _
  have hbx : Below w2.heap.size w2 w3 := hwn ▸ b1 _ _
  rw [← hNm]
  have HNm := Lib.hid hNm
  replace Ea0 := Lib.hid (carry hbx Ea0.out)
  replace HB := Lib.hid (bs HB.out hbx)
  have Em := Lib.hid en
  clear en hbx hwn hNm
  refine (cps T0 hT.out _ _ _ (HR0.out.below' HB.out)).mono ?_
  rintro e w4 ⟨v, rfl, hv, hb⟩
  have hbx := hb
  obtain ⟨A4, c4, rfl, -, -⟩ := TIn.out (HT0.out ▸ hv)
  have HV4 := Lib.hid (show TIn w4 _ T0 (vV k0 n0 s0 x0 A4 L0 c4) by rw [HL0.out, HT0.out]; exact (HT0.out ▸ hv))
  rw [← HL0.out]
  clear hv
  replace Ea0 := Lib.hid (carry hbx Ea0.out)
  replace Em := Lib.hid (carry hbx Em.out)
  replace HB := Lib.hid (bs HB.out hbx)
  clear hb hbx
  go_wp2_with (fail)
  obtain ⟨Nb, hNb⟩ : ∃ N, N = w4.heap.size := ⟨_, rfl⟩
  generalize hwn : w4.alloc (.cells #[.int .i64 k0, .int .i64 n0, .string s0, .int .i64 x0, .slice A4 L0 c4] IV) = w5
  have en : w5.heap[Nb]? = some (.cells #[.int .i64 k0, .int .i64 n0, .string s0, .int .i64 x0, .slice A4 L0 c4] IV (0, 0)) := by rw [← hwn, hNb]; exact heap_alloc_new _ _
  have hbx : Below w4.heap.size w4 w5 := hwn ▸ b1 _ _
  rw [← hNb]
  have HNb := Lib.hid hNb
  replace Ea0 := Lib.hid (carry hbx Ea0.out)
  replace Em := Lib.hid (carry hbx Em.out)
  replace HV4 := Lib.hid (HV4.out.below' hbx)
  replace HB := Lib.hid (bs HB.out hbx)
  have Eb := Lib.hid en
  clear en hbx hwn hNb
  refine (HCI.out _ _ _ HV4.out (HE.out.stays HB.out)).mono ?_
  rintro e w6 ⟨rfl, hb⟩
  have hbx := hb
  replace Ea0 := Lib.hid (carry hbx Ea0.out)
  replace Em := Lib.hid (carry hbx Em.out)
  replace Eb := Lib.hid (carry hbx Eb.out)
  replace HV4 := Lib.hid (HV4.out.below' hbx)
  replace HB := Lib.hid (bs HB.out hbx)
  clear hb hbx
  have zma : ∀ o j, (w6.alloc o).cell? ⟨Nm, j, none⟩ = _ := fun o j => (rowc (keepAlloc Em.out)).1 j
  go_wp2_with (fail)
  clear zma
  obtain ⟨Ng, hNg⟩ : ∃ N, N = w6.heap.size := ⟨_, rfl⟩
  generalize hwn : w6.alloc (.cells #[.bool yb, .int .i64 yn, .string ys] IK) = w7
  have en : w7.heap[Ng]? = some (.cells #[.bool yb, .int .i64 yn, .string ys] IK (0, 0)) := by rw [← hwn, hNg]; exact heap_alloc_new _ _
  have hbx : Below w6.heap.size w6 w7 := hwn ▸ b1 _ _
  rw [← hNg]
  have HNg := Lib.hid hNg
  replace Ea0 := Lib.hid (carry hbx Ea0.out)
  replace Em := Lib.hid (carry hbx Em.out)
  replace Eb := Lib.hid (carry hbx Eb.out)
  replace HV4 := Lib.hid (HV4.out.below' hbx)
  replace HB := Lib.hid (bs HB.out hbx)
  have Eg := Lib.hid en
  clear en hbx hwn hNg
  refine (HEQ.out _).mono ?_
  rintro e w8 ⟨rfl, hb⟩
  have hbx := hb
  replace Ea0 := Lib.hid (carry hbx Ea0.out)
  replace Em := Lib.hid (carry hbx Em.out)
  replace Eb := Lib.hid (carry hbx Eb.out)
  replace Eg := Lib.hid (carry hbx Eg.out)
  replace HV4 := Lib.hid (HV4.out.below' hbx)
  replace HB := Lib.hid (bs HB.out hbx)
  clear hb hbx
  have zb0 : w8.cell? ⟨Nb, 0, none⟩ = some (.int .i64 k0) := (rowc Eb.out).1 0
  have zb1 : w8.cell? ⟨Nb, 1, none⟩ = some (.int .i64 n0) := (rowc Eb.out).1 1
  have zb2 : w8.cell? ⟨Nb, 2, none⟩ = some (.string s0) := (rowc Eb.out).1 2
  have zb3 : w8.cell? ⟨Nb, 3, none⟩ = some (.int .i64 x0) := (rowc Eb.out).1 3
  have zb4 : w8.cell? ⟨Nb, 4, none⟩ = some (.slice A4 L0 c4) := (rowc Eb.out).1 4
  have za00 : w8.cell? ⟨w.heap.size, 0, none⟩ = some (.int .i64 k0) := (rowc Ea0.out).1 0
  have za01 : w8.cell? ⟨w.heap.size, 1, none⟩ = some (.int .i64 n0) := (rowc Ea0.out).1 1
  have za02 : w8.cell? ⟨w.heap.size, 2, none⟩ = some (.string s0) := (rowc Ea0.out).1 2
  have za03 : w8.cell? ⟨w.heap.size, 3, none⟩ = some (.int .i64 x0) := (rowc Ea0.out).1 3
  have za04 : w8.cell? ⟨w.heap.size, 4, none⟩ = some (.slice A0 L0 c0) := (rowc Ea0.out).1 4
  go_wp2_with (fail)
  go_region_held3 (fun w' => w'.cell? ⟨Nb, 0, none⟩ = some (.int .i64 k0) ∧ w'.cell? ⟨Nb, 1, none⟩ = some (.int .i64 n0) ∧ w'.cell? ⟨Nb, 2, none⟩ = some (.string s0) ∧ w'.cell? ⟨Nb, 3, none⟩ = some (.int .i64 x0) ∧ w'.cell? ⟨Nb, 4, none⟩ = some (.slice A4 L0 c4) ∧ w'.cell? ⟨w.heap.size, 0, none⟩ = some (.int .i64 k0) ∧ w'.cell? ⟨w.heap.size, 1, none⟩ = some (.int .i64 n0) ∧ w'.cell? ⟨w.heap.size, 2, none⟩ = some (.string s0) ∧ w'.cell? ⟨w.heap.size, 3, none⟩ = some (.int .i64 x0) ∧ w'.cell? ⟨w.heap.size, 4, none⟩ = some (.slice A0 L0 c0)) (go_keep)
    (first
    | (go_at_call 25; refine (cps T0 hT.out _ _ _ (HR0.out.below' (HB.out.trans ((Below.refl _ _).drew)))).mono ?_
       rintro e w9 ⟨v, rfl, hv, hb⟩
       have hbx := (bs ((Below.refl w8.heap.size w8).drew) hb)
       obtain ⟨A9, c9, rfl, -, -⟩ := TIn.out (HT0.out ▸ hv)
       have HV9 := Lib.hid (show TIn w9 _ T0 (vV k0 n0 s0 x0 A9 L0 c9) by rw [HL0.out, HT0.out]; exact (HT0.out ▸ hv))
       rw [← HL0.out]
       clear hv
       replace Ea0 := Lib.hid (carry hbx Ea0.out)
       replace Em := Lib.hid (carry hbx Em.out)
       replace Eb := Lib.hid (carry hbx Eb.out)
       replace Eg := Lib.hid (carry hbx Eg.out)
       replace HV4 := Lib.hid (HV4.out.below' hbx)
       replace HB := Lib.hid (bs HB.out hbx)
       have zb0 : w9.cell? ⟨Nb, 0, none⟩ = some (.int .i64 k0) := (rowc Eb.out).1 0
       have zb1 : w9.cell? ⟨Nb, 1, none⟩ = some (.int .i64 n0) := (rowc Eb.out).1 1
       have zb2 : w9.cell? ⟨Nb, 2, none⟩ = some (.string s0) := (rowc Eb.out).1 2
       have zb3 : w9.cell? ⟨Nb, 3, none⟩ = some (.int .i64 x0) := (rowc Eb.out).1 3
       have zb4 : w9.cell? ⟨Nb, 4, none⟩ = some (.slice A4 L0 c4) := (rowc Eb.out).1 4
       have za00 : w9.cell? ⟨w.heap.size, 0, none⟩ = some (.int .i64 k0) := (rowc Ea0.out).1 0
       have za01 : w9.cell? ⟨w.heap.size, 1, none⟩ = some (.int .i64 n0) := (rowc Ea0.out).1 1
       have za02 : w9.cell? ⟨w.heap.size, 2, none⟩ = some (.string s0) := (rowc Ea0.out).1 2
       have za03 : w9.cell? ⟨w.heap.size, 3, none⟩ = some (.int .i64 x0) := (rowc Ea0.out).1 3
       have za04 : w9.cell? ⟨w.heap.size, 4, none⟩ = some (.slice A0 L0 c0) := (rowc Ea0.out).1 4
       clear hb hbx)
    | (go_at_call 27; refine (eqV T0 _ _ _ _ _ HV4.out HV9.out).mono ?_
       rintro e w10 ⟨rfl, hb⟩
       have hbx := hb
       
       replace Ea0 := Lib.hid (carry hbx Ea0.out)
       replace Em := Lib.hid (carry hbx Em.out)
       replace Eb := Lib.hid (carry hbx Eb.out)
       replace Eg := Lib.hid (carry hbx Eg.out)
       replace HV4 := Lib.hid (HV4.out.below' hbx)
       replace HB := Lib.hid (bs HB.out hbx)
       have zb0 : w10.cell? ⟨Nb, 0, none⟩ = some (.int .i64 k0) := (rowc Eb.out).1 0
       have zb1 : w10.cell? ⟨Nb, 1, none⟩ = some (.int .i64 n0) := (rowc Eb.out).1 1
       have zb2 : w10.cell? ⟨Nb, 2, none⟩ = some (.string s0) := (rowc Eb.out).1 2
       have zb3 : w10.cell? ⟨Nb, 3, none⟩ = some (.int .i64 x0) := (rowc Eb.out).1 3
       have zb4 : w10.cell? ⟨Nb, 4, none⟩ = some (.slice A4 L0 c4) := (rowc Eb.out).1 4
       have za00 : w10.cell? ⟨w.heap.size, 0, none⟩ = some (.int .i64 k0) := (rowc Ea0.out).1 0
       have za01 : w10.cell? ⟨w.heap.size, 1, none⟩ = some (.int .i64 n0) := (rowc Ea0.out).1 1
       have za02 : w10.cell? ⟨w.heap.size, 2, none⟩ = some (.string s0) := (rowc Ea0.out).1 2
       have za03 : w10.cell? ⟨w.heap.size, 3, none⟩ = some (.int .i64 x0) := (rowc Ea0.out).1 3
       have za04 : w10.cell? ⟨w.heap.size, 4, none⟩ = some (.slice A0 L0 c0) := (rowc Ea0.out).1 4
       clear hb hbx))
  go_wp2_with (fail)
  go_ret
  exact ⟨rfl, HB.out⟩

theorem walk (t0 : Tr) (v0 : Value) (w : World) (hr0 : TIn w (fun _ => True) t0 v0) (hE : prs.Env w) : Calls Tryd.prog 5 #[v0] w (TrueQ w) :=
  walk0 t0 v0 w hr0 (koY t0).1 (koY t0).2 hE (fun hT => ⟨fun w S u h => keyOf_s t0 u w S h (by omega), fun w S u h hE => keyOf_i t0 u w S h (by omega) hE⟩)

set_option maxRecDepth 100000 in
theorem lifted (os : Os) (started : os.Started) (H : Type) (enc : TypeId × Value → H) :
    ReturnsInHanded {} Tryd.checked os 5 .any (fun w args => (Rows.fnExactKeyOfSpec.pre enc Tryd.prog Tryd.f5 [] false w args ∧ laidMetH Tryd.prog prs.laidOf w) ∧ sizedMet enc Tryd.prog Tryd.f5 (OpenSpec.ofChange Rows.fnExactKeyOfSpec) false w args)
      (Rows.fnExactKeyOfSpec.post enc Tryd.prog Tryd.f5 false true false false) := by
  refine returnsInHanded_of_change_and (C := Tryd.checked) (X := fun w _ => laidMetH Tryd.prog prs.laidOf w) (fun _ _ _ hh h => h.of_heap hh) own started (by kernel_rfl) Tryd.func5
    (ChangeSpec.witness_shaped (enc := enc) (C := Tryd.checked) (os := os) (X := fun w _ => laidMetH Tryd.prog prs.laidOf w) false (World.doorLaid Tryd.prog 400 os) #[.agg #[.int .i64 0, .int .i64 0, .string ⟨#[]⟩, .int .i64 0, .slice none 0 0]] 8 rfl (World.shaped_of_RefB (by kernel_rfl) (by kernel_rfl)) (by kernel_rfl) (by kernel_rfl) (by kernel_rfl) (prs.door_met os _)) ?_
  intro W base args ds gs before hval0 hW _ hsz0 hL _
  have hval : ∀ (j : Nat) t v, Tryd.f5.params[j]? = some t → args[j]? = some v → Value.okWide Tryd.prog W .any base t v := hval0
  have hW' := hW
  obtain ⟨p, q, hA0, hV, rfl, hfz, hnd⟩ := hW
  have hA : DataW.TrodAll enc Tryd.prog W 0 (fun _ => true) true Tryd.f5.params.toList args.toList ds p := hA0
  have hA2 := hA
  rw [Tryd.params5] at hA hval
  obtain ⟨v0, d0, rfl, rfl, h0⟩ := trodAll_one hA
  obtain ⟨rfl, rfl⟩ := trodVars_none hV
  obtain ⟨t0, hr0⟩ := opt.open_value (hval 0 50 v0 rfl rfl) h0
  clear hA0 hval0
  simp only [List.append_nil] at hW' hA2
  refine (walk t0 v0 W hr0 (prs.env_of hL)).mono fun e W' ⟨he, hb⟩ => ?_
  subst he
  exact ⟨_, rfl, opn.post_true hW' rfl hA2 rfl rfl Tryd.underlying4 (by kernel_rfl) (by kernel_rfl) hb⟩

theorem over : Rows.FnExactKeyOfSaid :=
  OpenClaim.holds_of_wide 5 Tryd.f5 rfl rfl rfl rfl rfl rfl rfl ⟨rfl, rfl, rfl, rfl, rfl⟩ rfl rfl rfl rfl rfl (by kernel_rfl) Tryd.func5 (by kernel_rfl)
    (of_decide_eq_true (by kernel_rfl)) (by unfold Func.isWrapper; first | (rw [if_pos (by decide +kernel)]; kernel_rfl) | (rw [if_neg (by decide +kernel)]; exact ⟨rfl, rfl⟩))
    (fun os started H enc _ => lifted os started H enc)

/-- The statement. -/
theorem proved : Rows.FnExactKeyOfCardSaid :=
  Claim7.holds_tied_plain_at .later [] Rows.fnExactKeyOfCard.laidKinds true Rows.fnExactKeyOfCard.stood.harness Rows.fnExactKeyOfCard.stood.looks
    over (fun _ h => by cases h) (by kernel_rfl) (fun _ h => by cases h) fnExactKeyOf_row_tie rfl ⟨rfl, rfl⟩ (by kernel_rfl) rfl
    (fun f fn hf hfn => by
      obtain rfl : f = 5 := Option.some.inj ((show Tryd.prog.funcNamed "loop.example/g03011/laws.FnExactKeyOf" = some 5 by kernel_rfl).symm.trans hf) |>.symm
      obtain rfl : fn = Tryd.f5 := (Option.some.inj (Tryd.func5.symm.trans hfn)).symm
      exact ⟨by kernel_rfl, fun j t ht => by
        rw [Tryd.params5] at ht
        have hm : t ∈ [50] := by simpa using Array.mem_of_getElem? ht
        have hall : ([50].all fun u => !Tryd.prog.wantsStandIn u) = true := by kernel_rfl
        exact (show Tryd.prog.wantsStandIn t = false by simpa using List.all_eq_true.1 hall t hm)⟩)
    (by kernel_rfl)
#print axioms proved
end Go.Proofs.YtfeoendbfdmkmaaDoor.fnExactKeyOf
