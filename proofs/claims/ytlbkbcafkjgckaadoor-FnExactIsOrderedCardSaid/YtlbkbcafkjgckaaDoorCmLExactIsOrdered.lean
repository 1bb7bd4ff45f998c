/-
  IsOrdered answers as its model at every list of values; it leaves its argument unmodified.
  Conditions: the package variables that the row lists hold what the program's text lays, and the card ties that to the text.
-/
import Derived.Test.YtlbkbcafkjgckaaDoorRows
import Derived.Test.YtlbkbcafkjgckaaDoorCards
import Derived.Test.YtlbkbcafkjgckaaDoorTie
import Derived.LaidMore
import Derived.LaidHandle
import Derived.Stop.Joined
import Derived.SevenTiedAt
import Derived.Stop.LaidErr
import Derived.SizedLaws
import Derived.WalkKit
import Derived.ProofKit
import Derived.OpenShut
import Derived.Test.YtlbkbcafkjgckaaDoorCmB7
import Derived.Test.YtlbkbcafkjgckaaDoorCmSCmpJ
import Derived.Test.YtlbkbcafkjgckaaDoorCmSCmpV
import Derived.Test.YtlbkbcafkjgckaaDoorCmSListT
import Derived.Test.YtlbkbcafkjgckaaDoorCmB2
import Derived.Test.YtlbkbcafkjgckaaDoorCmSEnvCm
namespace Go.Proofs.YtlbkbcafkjgckaaDoor.fnExactIsOrdered
open Go.ChangeShapes Go.WideShapes Go.ChangeAt Go.RowKit tree ers
open Go.ChangeMaps (open_string)
set_option linter.unusedVariables false

theorem own : ownKnob Tryd.prog.godebug = none := by kernel_rfl

theorem cnt_fits {w : World} {S : Nat → Prop} {t : Tr} {v : Value} (h : TIn w S t v) : cnt t ≤ tot t + 1 := cnt_tot t h.fits

set_option maxHeartbeats 4000000 in
set_option maxRecDepth 100000 in
theorem walk (vs : List Tr) (A : Option Addr) (c : Nat) (w : World) (hr : VIn w (fun _ => True) vs A) (hm : vs.length ≤ maxLen) (hE : CmE w) : Calls Tryd.prog 11 #[.slice A vs.length c] w (TrueQ w) := by
  have SZ := szValueS vs hm A c w _ hr 1048576 (by omega) (by omega)
  have TS0 : Hid ((∀ t ∈ vs, tot t ≤ 1048576) → vs.length ≤ 1048576 → ∀ w', Below w.heap.size w w' → Calls Tryd.prog 51 #[.slice A vs.length c] w' (fun e w2 => ∃ g, e = .returned (.slice (some ⟨g, 0, none⟩) vs.length vs.length) ∧ VIn w2 (Nw g w2) vs (some ⟨g, 0, none⟩) ∧ w'.heap.size ≤ g ∧ Below w'.heap.size w' w2)) := Lib.hid (fun hT hl w' hb => toValueS vs hT hl A c w' _ (hr.below hb))
  have ES0 : Hid (vs.length ≤ 1048576 → ∀ w' S S' A A' c c', VIn w' S vs A → VIn w' S' vs A' → Calls Tryd.prog 52 #[.slice A vs.length c, .slice A' vs.length c'] w' (TrueQ w')) := Lib.hid (fun hl w' S S' A A' c c' h h' => eqValueS vs (by omega) w' S S' A A' c c' h h')
  obtain ⟨W, HW⟩ : ∃ W, Hid (ordB vs = W) := ⟨_, Lib.hid rfl⟩
  have OS0 : Hid ((∀ t ∈ vs, tot t ≤ 1048576) → vs.length ≤ 1048576 → ∀ w' g A' c', VIn w' (Nw g w') vs A' → Calls Tryd.prog 50 #[.slice A' vs.length c'] w' (GivesQ w' (.bool W))) := Lib.hid (fun hT hl w' g A' c' h => by
    rw [← HW.out]
    exact isOrdered_s vs A' c' w' _ h (by omega) (fun w2 t t' v v' ht ht' hb h1 h2 => compare_s t t' (by have := hT t ht; omega) (by have := hT t' ht'; omega) w2 _ _ v v' h1 h2))
  have OI0 : Hid ((∀ t ∈ vs, tot t ≤ 1048576) → vs.length ≤ 1048576 → ∀ w' g A' c', CmE w' → VIn w' (Nw g w') vs A' → Calls Tryd.prog 29 #[.slice A' vs.length c'] w' (GivesQ w' (.bool W))) := Lib.hid (fun hT hl w' g A' c' hE h => by
    rw [← HW.out]
    exact isOrdered_i vs A' c' w' _ h (by omega) (fun w2 t t' v v' ht ht' hb h1 h2 => compare_i t t' (by have := hT t ht; omega) (by have := hT t' ht'; omega) w2 g g v v' (hE.stays hb) (h1.stays (fun b hb2 => ⟨hb2.1, Plain.same hb2.2 (hb.block b hb2.2.lt)⟩) (fun _ _ _ => rfl)) (h2.stays (fun b hb2 => ⟨hb2.1, Plain.same hb2.2 (hb.block b hb2.2.lt)⟩) (fun _ _ _ => rfl))))
  have CON : Hid (vs.length + tll vs ≤ 1048576 → (∀ t ∈ vs, tot t ≤ 1048576) ∧ vs.length ≤ 1048576) := Lib.hid (fun hs => ⟨fun t h => by have := tll_mem h; omega, by omega⟩)
  obtain ⟨L, HL⟩ : ∃ L, Hid (vs.length = L) := ⟨_, Lib.hid rfl⟩
  rw [HL.out] at SZ CON TS0 ES0 OS0 OI0 ⊢
  have HE := Lib.hid hE
  clear hr hm hE
  go_enter Tryd.func11, Tryd.ntmps11
  go_wp2_with (fail)
  refine SZ.mono ?_
  rintro e w0 ⟨r, rfl, ⟨ha, hb, hc⟩, hw0⟩
  have HB := Lib.hid hw0
  clear SZ hw0
  by_cases hlt : r < 0
  · go_wp2_with (fail)
    go_ret
    exact ⟨rfl, HB.out⟩
  obtain ⟨k1, k2⟩ := CON.out (by have := hc (by omega); omega)
  have TS := Lib.hid (TS0.out k1 k2)
  have ES := Lib.hid (ES0.out k2)
  have OS := Lib.hid (OS0.out k1 k2)
  have OI := Lib.hid (OI0.out k1 k2)
  clear k1 k2 TS0 ES0 OS0 OI0 CON hc
  go_wp2_with (fail)
  refine (TS.out _ HB.out).mono ?_
  rintro e w1 ⟨g1, rfl, hv1, hg1, hb⟩
  have HX1 := Lib.hid hv1
  replace HB := Lib.hid (bs HB.out hb)
  clear hv1 hg1 hb
  go_wp2_with (fail)
  refine (OS.out _ _ _ _ HX1.out).mono ?_
  rintro e w2 ⟨rfl, hb⟩
  replace HB := Lib.hid (bs HB.out hb)
  clear hb HX1
  go_wp2_with (fail)
  refine (TS.out _ HB.out).mono ?_
  rintro e w3 ⟨g3, rfl, hv3, hg3, hb⟩
  have HX := Lib.hid hv3
  replace HB := Lib.hid (bs HB.out hb)
  clear hv3 hg3 hb
  go_wp2_with (fail)
  refine (OI.out _ _ _ _ (HE.out.stays HB.out) HX.out).mono ?_
  rintro e w4 ⟨rfl, hb⟩
  replace HX := Lib.hid (HX.out.below hb)
  replace HB := Lib.hid (bs HB.out hb)
  clear hb
  cases W
  all_goals
    go_wp2_with (fail)
    refine (TS.out _ HB.out).mono ?_
    rintro e w5 ⟨g5, rfl, hv5, hg5, hb⟩
    have HX5 := Lib.hid hv5
    replace HX := Lib.hid (HX.out.below hb)
    replace HB := Lib.hid (bs HB.out hb)
    clear hv5 hg5 hb
    go_wp2_with (fail)
    refine (ES.out _ _ _ _ _ _ _ HX.out HX5.out).mono ?_
    rintro e w6 ⟨rfl, hb⟩
    replace HB := Lib.hid (bs HB.out hb)
    clear hb
    go_wp2_with (fail)
    go_ret
    exact ⟨rfl, HB.out⟩


set_option maxRecDepth 100000 in
theorem lifted (os : Os) (started : os.Started) (H : Type) (enc : TypeId × Value → H) :
    ReturnsInHanded {} Tryd.checked os 11 .any (fun w args => (Rows.fnExactIsOrderedSpec.pre enc Tryd.prog Tryd.f11 [] false w args ∧ laidMetH Tryd.prog ers.cmp.laidOf w) ∧ sizedMet enc Tryd.prog Tryd.f11 (OpenSpec.ofChange Rows.fnExactIsOrderedSpec) false w args)
      (Rows.fnExactIsOrderedSpec.post enc Tryd.prog Tryd.f11 false true false false) := by
  refine returnsInHanded_of_change_and (C := Tryd.checked) (X := fun w _ => laidMetH Tryd.prog ers.cmp.laidOf w) (fun _ _ _ hh h => h.of_heap hh) own started (by kernel_rfl) Tryd.func11
    (ChangeSpec.witness_shaped (enc := enc) (C := Tryd.checked) (os := os) (X := fun w _ => laidMetH Tryd.prog ers.cmp.laidOf w) false (World.doorLaid Tryd.prog 400 os) #[.slice none 0 0] 8 rfl (World.shaped_of_RefB (by kernel_rfl) (by kernel_rfl)) (by kernel_rfl) (by kernel_rfl) (by kernel_rfl) (ers.cmp.door_met os _)) ?_
  intro W base args ds gs before hval0 hW _ hsz0 hL _
  have hval : ∀ (j : Nat) t v, Tryd.f11.params[j]? = some t → args[j]? = some v → Value.okWide Tryd.prog W .any base t v := hval0
  have hW' := hW
  obtain ⟨p, q, hA0, hV, rfl, hfz, hnd⟩ := hW
  have hA : DataW.TrodAll enc Tryd.prog W 0 (fun _ => true) true Tryd.f11.params.toList args.toList ds p := hA0
  have hA2 := hA
  rw [Tryd.params11] at hA hval
  obtain ⟨v0, d0, rfl, rfl, h0⟩ := trodAll_one hA
  have hE := ers.cmp.env_of hL
  obtain ⟨-, ⟨a, hEa⟩, ⟨b, hEb⟩⟩ := id hE
  obtain ⟨rfl, rfl⟩ := hV.unique (readNT enc hEa hEb _)
  obtain ⟨A0, c0, vs0, rfl, hc0, hr0⟩ := open_values (hval 0 71 v0 rfl rfl) h0
  clear hA0 hval0
  refine (walk vs0 A0 c0 W hr0 (Nat.le_trans hc0.1 hc0.2) hE).mono fun e W' ⟨he, hb⟩ => ?_
  subst he
  exact ⟨_, rfl, opn.post_true_vars2 hW' hA2 rfl rfl Tryd.underlying4 (by kernel_rfl) (by kernel_rfl) hb (readNT enc (hEa.stays hb) (hEb.stays hb) _)⟩

theorem over : Rows.FnExactIsOrderedSaid :=
  OpenClaim.holds_of_wide 11 Tryd.f11 rfl rfl rfl rfl rfl rfl rfl ⟨rfl, rfl, rfl, rfl, rfl⟩ rfl rfl rfl rfl rfl (by kernel_rfl) Tryd.func11 (by kernel_rfl)
    (of_decide_eq_true (by kernel_rfl)) (by unfold Func.isWrapper; first | (rw [if_pos (by decide +kernel)]; kernel_rfl) | (rw [if_neg (by decide +kernel)]; exact ⟨rfl, rfl⟩))
    (fun os started H enc _ => lifted os started H enc)

/-- The statement. -/
theorem proved : Rows.FnExactIsOrderedCardSaid :=
  Claim7.holds_tied_plain_at .later [] Rows.fnExactIsOrderedCard.laidKinds true Rows.fnExactIsOrderedCard.stood.harness Rows.fnExactIsOrderedCard.stood.looks
    over (fun _ h => by cases h) (by kernel_rfl) (fun _ h => by cases h) fnExactIsOrdered_row_tie rfl ⟨rfl, rfl⟩ (by kernel_rfl) rfl
    (fun f fn hf hfn => by
      obtain rfl : f = 11 := Option.some.inj ((show Tryd.prog.funcNamed "loop.example/g03011/laws.FnExactIsOrdered" = some 11 by kernel_rfl).symm.trans hf) |>.symm
      obtain rfl : fn = Tryd.f11 := (Option.some.inj (Tryd.func11.symm.trans hfn)).symm
      exact ⟨by kernel_rfl, fun j t ht => by
        rw [Tryd.params11] at ht
        have hm : t ∈ [71] := by simpa using Array.mem_of_getElem? ht
        have hall : ([71].all fun u => !Tryd.prog.wantsStandIn u) = true := by kernel_rfl
        exact (show Tryd.prog.wantsStandIn t = false by simpa using List.all_eq_true.1 hall t hm)⟩)
    (by kernel_rfl)
#print axioms proved
end Go.Proofs.YtlbkbcafkjgckaaDoor.fnExactIsOrdered

