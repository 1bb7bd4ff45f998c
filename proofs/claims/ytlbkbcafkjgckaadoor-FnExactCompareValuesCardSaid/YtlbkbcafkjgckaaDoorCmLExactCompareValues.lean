/-
  CompareValues answers as its model at every two values; it leaves its arguments unmodified.
  Conditions: the package variables that the row lists hold what the program's text lays, and the card ties that to the text.
-/
import Derived.Test.YtlbkbcafkjgckaaDoorRows
import Derived.Test.YtlbkbcafkjgckaaDoorCards
import Derived.Test.YtlbkbcafkjgckaaDoorTie
import Derived.LaidMore
import Derived.LaidHandle
import Derived.Stop.Joined
import Derived.SevenTiedAt
import Derived.Stop.LaidErr
import Derived.SizedLaws
import Derived.Deep.RegionWith
import Derived.Deep.DeepCutAuto
import Derived.WalkKit
import Derived.ProofKit
import Derived.OpenShut
import Derived.Test.YtlbkbcafkjgckaaDoorCmSCmpJ
import Derived.Test.YtlbkbcafkjgckaaDoorCmSCmpV
import Derived.Test.YtlbkbcafkjgckaaDoorCmB2
import Derived.Test.YtlbkbcafkjgckaaDoorCmSEnvCm
namespace Go.Proofs.YtlbkbcafkjgckaaDoor.fnExactCompareValues
open Go.ChangeShapes Go.WideShapes Go.ChangeAt Go.RowKit tree ers
open Go.ChangeMaps (open_string)
set_option linter.unusedVariables false

theorem own : ownKnob Tryd.prog.godebug = none := by kernel_rfl

def CutV (W : World) (u v : Value) (wx : World) : Prop := v = u ∧ Below W.heap.size W wx
def CutB (W : World) (b : Bool) (v : Value) (wx : World) : Prop := v = .bool b ∧ Below W.heap.size W wx
theorem rows2 {W wx : World} {N N' : Nat} {C C' : Array Value} {t t' : TypeId} (hb : Below W.heap.size W wx) (e : W.heap[N]? = some (.cells C t (0, 0))) (e' : W.heap[N']? = some (.cells C' t' (0, 0))) : (∀ j, wx.cell? ⟨N, j, none⟩ = C[j]?) ∧ (∀ j, wx.cell? ⟨N', j, none⟩ = C'[j]?) :=
  ⟨(rowc (carry hb e)).1, (rowc (carry hb e')).1⟩

set_option maxHeartbeats 4000000 in
set_option maxRecDepth 100000 in
theorem walk0 (w : World) (T T' : Tr) (v v' : Value) (W : Int) (hr : TIn w (fun _ => True) T v) (hr' : TIn w (fun _ => True) T' v') (hE : CmE w)
    (hCS : tot T ≤ 1048576 → tot T' ≤ 1048576 → ∀ w S S' v v', TIn w S T v → TIn w S' T' v' → Calls Tryd.prog 47 #[v, v'] w (GivesQ w (.int .i64 W)))
    (hCI : tot T ≤ 1048576 → tot T' ≤ 1048576 → ∀ w lo lo' v v', CmE w → TIn w (Nw lo w) T v → TIn w (Nw lo' w) T' v' → Calls Tryd.prog 24 #[v, v'] w (GivesQ w (.int .i64 W))) :
    Calls Tryd.prog 9 #[v, v'] w (TrueQ w) := by
  obtain ⟨k, n, s, x, A, L, c, rfl⟩ : ∃ k n s x A L c, v = vV k n s x A L c := by
    cases hr with
    | mk k n s x ks vs A cap C => exact ⟨k, n, s, x, A, _, cap, rfl⟩
  obtain ⟨k', n', s', x', A', L', c', rfl⟩ : ∃ k n s x A L c, v' = vV k n s x A L c := by
    cases hr' with
    | mk k n s x ks vs A cap C => exact ⟨k, n, s, x, A, _, cap, rfl⟩
  have HR := Lib.hid hr
  have HR' := Lib.hid hr'
  have HEN := Lib.hid hE
  have HCS := Lib.hid hCS
  have HCI := Lib.hid hCI
  clear hr hr' hE hCS hCI
  go_enter Tryd.func9, Tryd.ntmps9
  go_wp2_with (fail)
  refine (szV T _ _ _ (HR.out.below' (b2 _ _ _)) 1048576 (by omega) (by omega)).mono ?_
  rintro e w1 ⟨r, rfl, ⟨hr1, hr2, hr3⟩, hb1⟩
  have EA := Lib.hid (carry hb1 (heap_alloc2_old w _ _))
  have EB := Lib.hid (carry hb1 (heap_alloc2_new w _ _))
  have HB1 := Lib.hid (bs (b2 w _ _) hb1)
  have HR3 := Lib.hid hr3
  obtain ⟨cA, -⟩ := rowc EA.out
  obtain ⟨cB, -⟩ := rowc EB.out
  clear hb1 hr3
  by_cases hlt : r < 0
  · go_wp2_with (fail)
    go_ret
    exact ⟨rfl, HB1.out⟩
  have hr0 : 0 ≤ r := by omega
  have hT : Hid (tot T ≤ 1048576) := Lib.hid (by have := HR3.out hr0; omega)
  go_wp2_with (fail)
  refine (szV T' _ _ _ (HR'.out.below' HB1.out) r hr0 (by omega)).mono ?_
  rintro e w2 ⟨r2, rfl, ⟨hs1, hs2, hs3⟩, hb2⟩
  have EA2 := Lib.hid (carry hb2 EA.out)
  have EB2 := Lib.hid (carry hb2 EB.out)
  have HB2 := Lib.hid (bs HB1.out hb2)
  have HS3 := Lib.hid hs3
  clear hb2 hs3 cA cB EA EB
  by_cases hlt2 : r2 < 0
  · go_wp2_with (fail)
    go_ret
    exact ⟨rfl, HB2.out⟩
  have hT' : Hid (tot T' ≤ 1048576) := Lib.hid (by have := HS3.out (by omega); omega)
  obtain ⟨NA, hNA⟩ : ∃ N, N = w.heap.size := ⟨_, rfl⟩
  have EA3 := EA2.out
  have EB3 := EB2.out
  rw [← hNA] at EA3 EB3 ⊢
  have EA := Lib.hid EA3
  have EB := Lib.hid EB3
  have HNA := Lib.hid hNA
  obtain ⟨cA, -⟩ := rowc EA3
  obtain ⟨cB, -⟩ := rowc EB3
  clear hNA EA2 EB2 EA3 EB3
  go_wp2_with (fail)
  go_cut [6] (fun v wx => CutV w2 (.int .i64 W) v wx)
  case first =>
    have HC : Hid (Below w2.heap.size w2 w2) := Lib.hid (Below.refl _ _)
    go_region_with (first
      | (go_at_call_of 44 A
         refine (cps T hT.out _ _ _ (HR.out.below' (bs HB2.out (by first | exact HC.out | exact HC.out.drew)))).mono ?_
         rintro e wz ⟨va, rfl, hva, hbz⟩
         have HCX : Hid (Below w2.heap.size w2 wz) := Lib.hid (by first | exact bs HC.out hbz | exact bs (HC.out.drew) hbz)
         try (have HVBX := HVB.out.below' hbz
              clear HVB
              have HVB := Lib.hid HVBX
              clear HVBX)
         have HVA := Lib.hid hva
         clear HC hbz hva cA cB
         have HC := Lib.hid HCX.out
         clear HCX
         obtain ⟨cA, cB⟩ := rows2 HC.out EA.out EB.out)
      | (go_at_call_of 44 A'
         refine (cps T' hT'.out _ _ _ (HR'.out.below' (bs HB2.out (by first | exact HC.out | exact HC.out.drew)))).mono ?_
         rintro e wz ⟨vb, rfl, hvb, hbz⟩
         have HCX : Hid (Below w2.heap.size w2 wz) := Lib.hid (by first | exact bs HC.out hbz | exact bs (HC.out.drew) hbz)
         try (have HVAX := HVA.out.below' hbz
              clear HVA
              have HVA := Lib.hid HVAX
              clear HVAX)
         have HVB := Lib.hid hvb
         clear HC hbz hvb cA cB
         have HC := Lib.hid HCX.out
         clear HCX
         obtain ⟨cA, cB⟩ := rows2 HC.out EA.out EB.out)
      | (go_at_call 47
         refine (HCS.out hT.out hT'.out _ _ _ _ _ HVA.out HVB.out).mono ?_
         rintro e wz ⟨rfl, hbz⟩
         have HCX : Hid (Below w2.heap.size w2 wz) := Lib.hid (bs HC.out hbz)
         clear HC hbz
         have HC := Lib.hid HCX.out
         clear HCX))
    all_goals
      go_wp2_with (fail)
      go_meet
      exact ⟨rfl, HC.out⟩
  case rest =>
    obtain ⟨rfl, hbc⟩ := hcut
    have HB3 := Lib.hid (bs HB2.out hbc)
    have EA3 := Lib.hid (carry hbc EA.out)
    have EB3 := Lib.hid (carry hbc EB.out)
    clear hbc cA cB EA EB
    obtain ⟨cA, -⟩ := rowc EA3.out
    go_wp2_with (fail)
    refine (cps T hT.out _ _ _ (HR.out.below' HB3.out)).mono ?_
    rintro e w4 ⟨v4, rfl, hv4, hb4⟩
    obtain ⟨k4, n4, s4, x4, A4, L4, d4, rfl⟩ : ∃ k n s x A L c, v4 = vV k n s x A L c := by
      cases hv4 with
      | mk k n s x ks vs A cap C => exact ⟨k, n, s, x, A, _, cap, rfl⟩
    have EA4 := Lib.hid (keepAlloc (o' := .cells #[.int .i64 k4, .int .i64 n4, .string s4, .int .i64 x4, .slice A4 L4 d4] IV) (carry hb4 EA3.out))
    have EB4 := Lib.hid (keepAlloc (o' := .cells #[.int .i64 k4, .int .i64 n4, .string s4, .int .i64 x4, .slice A4 L4 d4] IV) (carry hb4 EB3.out))
    have HB4 := Lib.hid (bs (bs HB3.out hb4) (b1 w4 (.cells #[.int .i64 k4, .int .i64 n4, .string s4, .int .i64 x4, .slice A4 L4 d4] IV)))
    have HV4 := Lib.hid (hv4.nwb (b1 w4 (.cells #[.int .i64 k4, .int .i64 n4, .string s4, .int .i64 x4, .slice A4 L4 d4] IV)))
    have eF4 := heap_alloc_new w4 (.cells #[.int .i64 k4, .int .i64 n4, .string s4, .int .i64 x4, .slice A4 L4 d4] IV)
    obtain ⟨NF, hNF⟩ : ∃ N, N = w4.heap.size := ⟨_, rfl⟩
    rw [← hNF] at eF4
    have F4 := Lib.hid eF4
    have HNF := Lib.hid hNF
    have lB4 : NA + 1 < w4.heap.size := Nat.lt_of_lt_of_le (Array.getElem?_eq_some_iff.1 EB3.out).1 hb4.size
    obtain ⟨cB, -⟩ := rowc (carry hb4 EB3.out)
    clear hb4 hv4 cA eF4 hNF
    go_wp2_with (fail)
    rw [← HNF.out]
    refine (cps T' hT'.out _ _ _ (HR'.out.below' HB4.out)).mono ?_
    rintro e w5 ⟨v5, rfl, hv5, hb5⟩
    obtain ⟨k5, n5, s5, x5, A5, L5, d5, rfl⟩ : ∃ k n s x A L c, v5 = vV k n s x A L c := by
      cases hv5 with
      | mk k n s x ks vs A cap C => exact ⟨k, n, s, x, A, _, cap, rfl⟩
    have HB5 := Lib.hid (bs (bs HB4.out hb5) (b1 w5 (.cells #[.int .i64 k5, .int .i64 n5, .string s5, .int .i64 x5, .slice A5 L5 d5] IV)))
    have EA5 := Lib.hid (keepAlloc (o' := .cells #[.int .i64 k5, .int .i64 n5, .string s5, .int .i64 x5, .slice A5 L5 d5] IV) (carry hb5 EA4.out))
    have EB5 := Lib.hid (keepAlloc (o' := .cells #[.int .i64 k5, .int .i64 n5, .string s5, .int .i64 x5, .slice A5 L5 d5] IV) (carry hb5 EB4.out))
    have F5 := Lib.hid (keepAlloc (o' := .cells #[.int .i64 k5, .int .i64 n5, .string s5, .int .i64 x5, .slice A5 L5 d5] IV) (carry hb5 F4.out))
    have HV4' := Lib.hid ((HV4.out.nwb hb5).nwb (b1 w5 (.cells #[.int .i64 k5, .int .i64 n5, .string s5, .int .i64 x5, .slice A5 L5 d5] IV)))
    have HV5 := Lib.hid (hv5.nwb (b1 w5 (.cells #[.int .i64 k5, .int .i64 n5, .string s5, .int .i64 x5, .slice A5 L5 d5] IV)))
    have eG5 := heap_alloc_new w5 (.cells #[.int .i64 k5, .int .i64 n5, .string s5, .int .i64 x5, .slice A5 L5 d5] IV)
    have lF5 : NF < w5.heap.size := (Array.getElem?_eq_some_iff.1 (carry hb5 F4.out)).1
    obtain ⟨cF, -⟩ := rowc (carry hb5 F4.out)
    clear hb5 hv5 cB
    go_wp2_with (fail)
    obtain ⟨NG, hNG⟩ : ∃ N, N = w5.heap.size := ⟨_, rfl⟩
    rw [← hNG] at eG5 ⊢
    have G5 := Lib.hid eG5
    clear eG5 hNG cF
    refine (HCI.out hT.out hT'.out _ _ _ _ _ (HEN.out.stays HB5.out) HV4'.out HV5.out).mono ?_
    rintro e w6 ⟨rfl, hb6⟩
    have EA6 := Lib.hid (carry hb6 EA5.out)
    have EB6 := Lib.hid (carry hb6 EB5.out)
    have F6 := Lib.hid (carry hb6 F5.out)
    have G6 := Lib.hid (carry hb6 G5.out)
    have HB6 := Lib.hid (bs HB5.out hb6)
    have HV4 := Lib.hid (HV4'.out.below' hb6)
    have HV5 := Lib.hid (HV5.out.below' hb6)
    clear hb6 HV4'
    obtain ⟨cA, cF⟩ := rows2 (Below.refl _ _) EA6.out F6.out
    go_upto_region 14 with fail
    go_cut [39] (fun v wx => CutB w6 false v wx)
    case first =>
      have HC : Hid (Below w6.heap.size w6 w6) := Lib.hid (Below.refl _ _)
      go_region_with (first
        | (go_at_call 44
           refine (cps T hT.out _ _ _ (HR.out.below' (bs HB6.out (by first | exact HC.out | exact HC.out.drew)))).mono ?_
           rintro e wz ⟨va, rfl, hva, hbz⟩
           have HCX : Hid (Below w6.heap.size w6 wz) := Lib.hid (by first | exact bs HC.out hbz | exact bs (HC.out.drew) hbz)
           have HVA := Lib.hid hva
           clear HC hbz hva cA cF
           have HC := Lib.hid HCX.out
           clear HCX
           obtain ⟨cA, cF⟩ := rows2 HC.out EA6.out F6.out)
        | (go_at_call 45
           refine (eqV T _ _ _ _ _ (HV4.out.below' HC.out) HVA.out).mono ?_
           rintro e wz ⟨rfl, hbz⟩
           have HCX : Hid (Below w6.heap.size w6 wz) := Lib.hid (bs HC.out hbz)
           clear HC hbz
           have HC := Lib.hid HCX.out
           clear HCX))
      all_goals
        go_wp2_with (fail)
        go_meet
        exact ⟨rfl, HC.out⟩
    case rest =>
      obtain ⟨rfl, hbc⟩ := hcut
      have HB7 := Lib.hid (bs HB6.out hbc)
      have EB7 := Lib.hid (carry hbc EB6.out)
      have G7 := Lib.hid (carry hbc G6.out)
      have HV5 := Lib.hid (HV5.out.below' hbc)
      clear hbc cA cF
      obtain ⟨cB, cG⟩ := rows2 (Below.refl _ _) EB7.out G7.out
      go_upto_region 16 with fail
      go_cut [44] (fun v wx => CutB wc false v wx)
      case first =>
        have HC : Hid (Below wc.heap.size wc wc) := Lib.hid (Below.refl _ _)
        go_region_with (first
          | (go_at_call 44
             refine (cps T' hT'.out _ _ _ (HR'.out.below' (bs HB7.out (by first | exact HC.out | exact HC.out.drew)))).mono ?_
             rintro e wz ⟨va, rfl, hva, hbz⟩
             have HCX : Hid (Below wc.heap.size wc wz) := Lib.hid (by first | exact bs HC.out hbz | exact bs (HC.out.drew) hbz)
             have HVA := Lib.hid hva
             clear HC hbz hva cB cG
             have HC := Lib.hid HCX.out
             clear HCX
             obtain ⟨cB, cG⟩ := rows2 HC.out EB7.out G7.out)
          | (go_at_call 45
             refine (eqV T' _ _ _ _ _ (HV5.out.below' HC.out) HVA.out).mono ?_
             rintro e wz ⟨rfl, hbz⟩
             have HCX : Hid (Below wc.heap.size wc wz) := Lib.hid (bs HC.out hbz)
             clear HC hbz
             have HC := Lib.hid HCX.out
             clear HCX))
        all_goals
          go_wp2_with (fail)
          go_meet
          exact ⟨rfl, HC.out⟩
      case rest =>
        obtain ⟨rfl, hbc⟩ := hcut
        have HB8 := Lib.hid (bs HB7.out hbc)
        clear hbc cB cG
        go_wp2_with (fail)
        go_ret
        exact ⟨rfl, HB8.out⟩

theorem walk (t0 : Tr) (v0 : Value) (t1 : Tr) (v1 : Value) (w : World) (hr0 : TIn w (fun _ => True) t0 v0) (hr1 : TIn w (fun _ => True) t1 v1) (hE : CmE w) : Calls Tryd.prog 9 #[v0, v1] w fun e w' => e = .returned (.bool true) ∧ Below w.heap.size w w' :=
  walk0 w t0 t1 v0 v1 (cmpT t0 t1) hr0 hr1 hE (fun hT hT' w S S' v v' h h' => compare_s t0 t1 (by omega) (by omega) w S S' v v' h h') (fun hT hT' w lo lo' v v' hE h h' => compare_i t0 t1 (by omega) (by omega) w lo lo' v v' hE h h')

set_option maxRecDepth 100000 in
theorem lifted (os : Os) (started : os.Started) (H : Type) (enc : TypeId × Value → H) :
    ReturnsInHanded {} Tryd.checked os 9 .any (fun w args => (Rows.fnExactCompareValuesSpec.pre enc Tryd.prog Tryd.f9 [] false w args ∧ laidMetH Tryd.prog ers.cmp.laidOf w) ∧ sizedMet enc Tryd.prog Tryd.f9 (OpenSpec.ofChange Rows.fnExactCompareValuesSpec) false w args)
      (Rows.fnExactCompareValuesSpec.post enc Tryd.prog Tryd.f9 false true false false) := by
  refine returnsInHanded_of_change_and (C := Tryd.checked) (X := fun w _ => laidMetH Tryd.prog ers.cmp.laidOf w) (fun _ _ _ hh h => h.of_heap hh) own started (by kernel_rfl) Tryd.func9
    (ChangeSpec.witness_shaped (enc := enc) (C := Tryd.checked) (os := os) (X := fun w _ => laidMetH Tryd.prog ers.cmp.laidOf w) false (World.doorLaid Tryd.prog 400 os) #[.agg #[.int .i64 0, .int .i64 0, .string ⟨#[]⟩, .int .i64 0, .slice none 0 0], .agg #[.int .i64 0, .int .i64 0, .string ⟨#[]⟩, .int .i64 0, .slice none 0 0]] 8 rfl (World.shaped_of_RefB (by kernel_rfl) (by kernel_rfl)) (by kernel_rfl) (by kernel_rfl) (by kernel_rfl) (ers.cmp.door_met os _)) ?_
  intro W base args ds gs before hval0 hW _ hsz0 hL _
  have hval : ∀ (j : Nat) t v, Tryd.f9.params[j]? = some t → args[j]? = some v → Value.okWide Tryd.prog W .any base t v := hval0
  have hW' := hW
  obtain ⟨p, q, hA0, hV, rfl, hfz, hnd⟩ := hW
  have hA : DataW.TrodAll enc Tryd.prog W 0 (fun _ => true) true Tryd.f9.params.toList args.toList ds p := hA0
  have hA2 := hA
  rw [Tryd.params9] at hA hval
  obtain ⟨v0, vs0, d0, ds0, p0, q0, hargs, rfl, rfl, h0, r0⟩ := trodAll_cons hA
  obtain ⟨v1, vs1, d1, ds1, p1, q1, rfl, rfl, rfl, h1, r1⟩ := trodAll_cons r0
  obtain ⟨rfl, rfl, rfl⟩ := trodAll_nil r1
  obtain rfl : args = #[v0, v1] := by cases args; simp_all
  have hE := ers.cmp.env_of hL
  obtain ⟨-, ⟨a, hEa⟩, ⟨b, hEb⟩⟩ := id hE
  obtain ⟨rfl, rfl⟩ := hV.unique (readNT enc hEa hEb _)
  obtain ⟨t0, hr0⟩ := opt.open_value (hval 0 66 v0 rfl rfl) h0
  obtain ⟨t1, hr1⟩ := opt.open_value (hval 1 66 v1 rfl rfl) h1
  clear hA0 hval0
  refine (walk t0 v0 t1 v1 W hr0 hr1 hE).mono fun e W' ⟨he, hb⟩ => ?_
  subst he
  exact ⟨_, rfl, opn.post_true_vars2 hW' hA2 rfl rfl Tryd.underlying4 (by kernel_rfl) (by kernel_rfl) hb (readNT enc (hEa.stays hb) (hEb.stays hb) _)⟩

theorem over : Rows.FnExactCompareValuesSaid :=
  OpenClaim.holds_of_wide 9 Tryd.f9 rfl rfl rfl rfl rfl rfl rfl ⟨rfl, rfl, rfl, rfl, rfl⟩ rfl rfl rfl rfl rfl (by kernel_rfl) Tryd.func9 (by kernel_rfl)
    (of_decide_eq_true (by kernel_rfl)) (by unfold Func.isWrapper; first | (rw [if_pos (by decide +kernel)]; kernel_rfl) | (rw [if_neg (by decide +kernel)]; exact ⟨rfl, rfl⟩))
    (fun os started H enc _ => lifted os started H enc)

/-- The statement. -/
theorem proved : Rows.FnExactCompareValuesCardSaid :=
  Claim7.holds_tied_plain_at .later [] Rows.fnExactCompareValuesCard.laidKinds true Rows.fnExactCompareValuesCard.stood.harness Rows.fnExactCompareValuesCard.stood.looks
    over (fun _ h => by cases h) (by kernel_rfl) (fun _ h => by cases h) fnExactCompareValues_row_tie rfl ⟨rfl, rfl⟩ (by kernel_rfl) rfl
    (fun f fn hf hfn => by
      obtain rfl : f = 9 := Option.some.inj ((show Tryd.prog.funcNamed "loop.example/g03011/laws.FnExactCompareValues" = some 9 by kernel_rfl).symm.trans hf) |>.symm
      obtain rfl : fn = Tryd.f9 := (Option.some.inj (Tryd.func9.symm.trans hfn)).symm
      exact ⟨by kernel_rfl, fun j t ht => by
        rw [Tryd.params9] at ht
        have hm : t ∈ [66, 66] := by simpa using Array.mem_of_getElem? ht
        have hall : ([66, 66].all fun u => !Tryd.prog.wantsStandIn u) = true := by kernel_rfl
        exact (show Tryd.prog.wantsStandIn t = false by simpa using List.all_eq_true.1 hall t hm)⟩)
    (by kernel_rfl)
#print axioms proved
end Go.Proofs.YtlbkbcafkjgckaaDoor.fnExactCompareValues

