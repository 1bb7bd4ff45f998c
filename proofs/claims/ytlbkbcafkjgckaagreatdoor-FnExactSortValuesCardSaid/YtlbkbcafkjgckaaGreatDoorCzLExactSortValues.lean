/-
  SortValues answers as its model at every list of values, every field; it leaves its argument unmodified, and its answer owns its memory.
  Conditions: the package variables that the row lists hold what the program's text lays, and the card ties that to the text.
-/
import Derived.Test.YtlbkbcafkjgckaaGreatDoorRows
import Derived.Test.YtlbkbcafkjgckaaGreatDoorCards
import Derived.Test.YtlbkbcafkjgckaaGreatDoorTie
import Derived.LaidMore
import Derived.LaidHandle
import Derived.Stop.Joined
import Derived.SevenTiedAt
import Derived.Stop.LaidErr
import Derived.SizedLaws
import Derived.WalkKit
import Derived.ProofKit
import Derived.OpenShut
import Derived.Test.YtlbkbcafkjgckaaGreatDoorCzSSortV
import Derived.Test.YtlbkbcafkjgckaaGreatDoorCzSSortS
import Derived.Test.YtlbkbcafkjgckaaGreatDoorCzSListT
import Derived.Test.YtlbkbcafkjgckaaGreatDoorCzB7
import Derived.Test.YtlbkbcafkjgckaaGreatDoorCzB2
import Derived.Test.YtlbkbcafkjgckaaGreatDoorCzSEnvCm
import Derived.Test.YtlbkbcafkjgckaaGreatDoorCzSLawBox
namespace Go.Proofs.YtlbkbcafkjgckaaGreatDoor.fnExactSortValues
open Go.ChangeShapes Go.WideShapes Go.ChangeAt Go.RowKit tree ers
open Go.ChangeMaps (open_string)
set_option linter.unusedVariables false

theorem own : ownKnob Tryz.prog.godebug = none := by kernel_rfl


set_option maxHeartbeats 4000000 in
set_option maxRecDepth 100000 in
theorem walk (vs : List Tr) (A : Option Addr) (c : Nat) (w : World) (hr : VIn w (fun _ => True) vs A) (hm : vs.length ≤ maxLen) (hE : CmE w) : Calls Tryz.prog 3 #[.slice A vs.length c] w (TrueQ w) := by
  have SZ := szValueS vs hm A c w _ hr 1048576 (by omega) (by omega)
  have hft := vfits hr
  have hfit := cnts_tll hft
  have hcl := cnts_len vs
  obtain ⟨rs, HRS⟩ : ∃ T, Hid (isort vs = T) := ⟨_, Lib.hid rfl⟩
  have hrl : rs.length = vs.length := by rw [← HRS.out, isort_len]
  have hrc : cnts rs = cnts vs := by rw [← HRS.out]; exact cnts_perm (isort_perm vs)
  have CON : Hid (vs.length + tll vs ≤ 1048576 → (∀ t ∈ vs, tot t ≤ 1048576) ∧ vs.length ≤ 1048576 ∧ cnts vs ≤ 1048576 ∧ tll vs ≤ 100000000) := Lib.hid (fun hs => ⟨fun t h => by have := tll_mem h; omega, by omega, by omega, by omega⟩)
  have SS0 : Hid ((∀ t ∈ vs, tot t ≤ 1048576) → vs.length ≤ 1048576 → ∀ w' S A' c', VIn w' S vs A' → Calls Tryz.prog 5 #[.slice A' vs.length c'] w' (fun e w2 => ∃ A2 c2, e = .returned (.slice A2 vs.length c2) ∧ VIn w2 (fun b => b < w2.heap.size) rs A2 ∧ Below w'.heap.size w' w2)) := Lib.hid (fun hT hl w' S A' c' h => by
    refine (sortValues_s vs A' c' w' S h (by omega) (fun t ht => by have := hT t ht; omega) (fun t ht => by have := hT t ht; have := cnt_tot t (hft t ht); omega)).mono ?_
    rintro e w2 ⟨A2, c2, he, hT2, hb⟩
    rw [isort_len] at he
    rw [HRS.out] at hT2
    exact ⟨A2, c2, he, hT2, hb⟩)
  have SI0 : Hid (cnts vs ≤ 1048576 → tll vs ≤ 100000000 → ∀ w' A' c', CmE w' → VIn w' (Nw 0 w') vs A' → Calls Tryz.prog 7 #[.slice A' vs.length c'] w' (fun e w2 => ∃ A2 c2 par h hi, e = .returned (.slice A2 vs.length c2) ∧ VRow w2 par h w'.heap.size hi (.slice A2 vs.length c2) rs ∧ hi ≤ w2.heap.size ∧ Below w'.heap.size w' w2)) := Lib.hid (fun hc ht w' A' c' hE h => by
    refine (sortValues_i vs A' c' w' h (by omega) ht hE).mono ?_
    rintro e w2 ⟨v, par, hh, hi, he, hv, hhi, hb⟩
    rw [HRS.out] at hv
    obtain ⟨A2, c2, e2, -⟩ := hv.out
    rw [hrl] at e2
    subst e2
    exact ⟨A2, c2, par, hh, hi, he, hv, hhi, hb⟩)
  have TS0 : Hid ((∀ t ∈ vs, tot t ≤ 1048576) → vs.length ≤ 1048576 → ∀ w', Below w.heap.size w w' → Calls Tryz.prog 6 #[.slice A vs.length c] w' (fun e w2 => ∃ g, e = .returned (.slice (some ⟨g, 0, none⟩) vs.length vs.length) ∧ VIn w2 (Nw g w2) vs (some ⟨g, 0, none⟩) ∧ w'.heap.size ≤ g ∧ Below w'.heap.size w' w2)) := Lib.hid (fun hT hl w' hb => toValueS vs hT hl A c w' _ (hr.below hb))
  have ES0 : Hid (vs.length ≤ 1048576 → ∀ w' S S' A A' c c', VIn w' S vs A → VIn w' S' vs A' → Calls Tryz.prog 8 #[.slice A vs.length c, .slice A' vs.length c'] w' (TrueQ w')) := Lib.hid (fun hl w' S S' A A' c c' h h' => eqValueS vs (by omega) w' S S' A A' c c' h h')
  have ER0 : Hid (vs.length ≤ 1048576 → ∀ w' S S' A A' c c', VIn w' S rs A → VIn w' S' rs A' → Calls Tryz.prog 8 #[.slice A vs.length c, .slice A' vs.length c'] w' (TrueQ w')) := Lib.hid (fun hl w' S S' A A' c c' h h' => by have := eqValueS rs (by omega) w' S S' A A' c c' h h'; rw [hrl] at this; exact this)
  have MS0 : Hid (cnts vs ≤ 1048576 → ∀ w' S A' c', VIn w' S vs A' → (∀ b, S b → Plain w' b) → Calls Tryz.prog 9 #[.slice A' vs.length c', .int .i64 1] w' (fun e w2 => ∃ q, e = .returned (.int .i64 q) ∧ 1 ≤ q ∧ Sims S w' w2)) := Lib.hid (fun hc w' S A' c' h hp => (markValsS vs 1 (by omega) (by omega) w' S A' c' h hm hp).mono (fun e w2 ⟨q, h1, h2, _, h4⟩ => ⟨q, h1, h2, h4⟩))
  obtain ⟨Q, HQ⟩ : ∃ Q : Int, Hid (1 + 7 * (cnts vs : Int) - 3 * (vs.length : Int) = Q) := ⟨_, Lib.hid rfl⟩
  have hQ0 : 1 ≤ Q := by rw [← HQ.out]; omega
  have MK0 : Hid (cnts vs ≤ 1048576 → ∀ w' par h lo hi v, VRow w' par h lo hi v rs → Calls Tryz.prog 9 #[v, .int .i64 1] w' (fun e w2 => e = .returned (.int .i64 Q) ∧ VRow w2 par h lo hi v (mkW 1 rs) ∧ Fr (fun b => v.ownBlock = some b ∨ Rg lo hi b) w' w2)) := Lib.hid (fun hc w' par h lo hi v hv => by
    have := markValueS rs 1 (by omega) (by omega) (by omega) w' par h lo hi v hv
    unfold MvQ at this
    rw [hrl, hrc, HQ.out] at this
    exact this)
  have HE0 : Hid (cnts vs ≤ 1048576 → ∀ w' S A' c', VIn w' S (mkW 1 rs) A' → Calls Tryz.prog 10 #[.slice A' vs.length c', .int .i64 1] w' (GivesQ w' (.int .i64 Q))) := Lib.hid (fun hc w' S A' c' h => by
    have := heldValueS rs 1 (by omega) (by omega) (by omega) w' S A' c' h
    rw [hrl, hrc, HQ.out] at this
    exact this)
  obtain ⟨L, HL⟩ : ∃ L, Hid (vs.length = L) := ⟨_, Lib.hid rfl⟩
  rw [HL.out] at SZ CON SS0 SI0 TS0 ES0 ER0 MS0 HE0 ⊢
  have HEN := Lib.hid hE
  clear hr hm hfit hft hcl hrl hrc hE
  go_enter Tryz.func3, Tryz.ntmps3
  go_wp2_with (fail)
  refine SZ.mono ?_
  rintro e w0 ⟨r, rfl, ⟨ha, hb, hc⟩, hw0⟩
  have HB := Lib.hid hw0
  clear SZ hw0
  by_cases hlt : r < 0
  · go_wp2_with (fail)
    go_ret
    exact ⟨rfl, HB.out⟩
  obtain ⟨k1, k2, k3, k4⟩ := CON.out (by have := hc (by omega); omega)
  have TS := Lib.hid (TS0.out k1 k2)
  have SS := Lib.hid (SS0.out k1 k2)
  have SI := Lib.hid (SI0.out k3 k4)
  have ES := Lib.hid (ES0.out k2)
  have ER := Lib.hid (ER0.out k2)
  have MS := Lib.hid (MS0.out k3)
  have MK := Lib.hid (MK0.out k3)
  have HH := Lib.hid (HE0.out k3)
  clear k1 k2 k3 k4 TS0 SS0 SI0 ES0 ER0 MS0 MK0 HE0 CON hc
  go_wp2_with (fail)
  refine (TS.out _ HB.out).mono ?_
  rintro e w1 ⟨g1, rfl, hv1, hg1, hb⟩
  have HX1 := Lib.hid hv1
  clear hv1 hg1
  replace HB := Lib.hid (bs HB.out hb)
  clear hb
  go_wp2_with (fail)
  refine (SS.out _ _ _ _ HX1.out).mono ?_
  rintro e w2 ⟨A2, c2, rfl, hu, hb⟩
  have HM := Lib.hid hu
  clear hu HX1
  replace HB := Lib.hid (bs HB.out hb)
  clear hb
  go_wp2_with (fail)
  obtain ⟨lo0, hlo0⟩ : ∃ N, Hid (w2.heap.size = N) := ⟨_, Lib.hid rfl⟩
  rw [hlo0.out] at HM
  have HLW : Hid (w.heap.size ≤ lo0) := Lib.hid (by rw [← hlo0.out]; exact HB.out.size)
  refine (TS.out _ HB.out).mono ?_
  rintro e w3 ⟨g3, rfl, hv3, hg3, hb⟩
  rw [hlo0.out] at hg3
  obtain ⟨hi0, hhi0⟩ : ∃ N, Hid (w3.heap.size = N) := ⟨_, Lib.hid rfl⟩
  obtain ⟨S0, HS0⟩ : ∃ S : Nat → Prop, Hid (S = fun b => Rg lo0 hi0 b ∧ Plain w3 b) := ⟨_, Lib.hid rfl⟩
  have HX3 := Lib.hid hv3
  have HX : Hid (VIn w3 S0 vs (some ⟨g3, 0, none⟩)) := Lib.hid (by rw [HS0.out, ← hhi0.out]; exact hv3.stays (fun b hb => ⟨⟨Nat.le_trans hg3 hb.1, hb.2.lt⟩, hb.2⟩) (fun _ _ _ => rfl))
  have HP : Hid (∀ b, S0 b → Plain w3 b) := Lib.hid (fun b hb => by rw [HS0.out] at hb; exact hb.2)
  have HSR : Hid (∀ b, S0 b → Rg lo0 hi0 b) := Lib.hid (fun b hb => by rw [HS0.out] at hb; exact hb.1)
  have HLH : Hid (lo0 ≤ hi0) := Lib.hid (by rw [← hhi0.out, ← hlo0.out]; exact hb.size)
  clear hv3 hg3
  replace HM := Lib.hid (HM.out.below hb)
  replace HB := Lib.hid (bs HB.out hb)
  clear hb
  go_wp2_with (fail)
  refine (SI.out _ _ _ (HEN.out.stays HB.out) (vnw0 HX3.out)).mono ?_
  rintro e w4 ⟨A4, c4, par, hh, hi, rfl, hu, hhi, hb⟩
  rw [hhi0.out] at hu
  have HG := Lib.hid hu
  have HGO := Lib.hid (fun b h => (hu.own b h).1)
  clear hu hhi HX3
  replace HM := Lib.hid (HM.out.below hb)
  replace HX := Lib.hid (HX.out.below hb)
  replace HB := Lib.hid (bs HB.out hb)
  replace HP : Hid (∀ b, S0 b → Plain w4 b) := Lib.hid (fun b h => by obtain ⟨cs, t, e⟩ := HP.out b h; exact ⟨cs, t, carry hb e⟩)
  clear hb
  go_wp2_with (fail)
  refine (ER.out _ _ _ _ _ _ _ HG.out.vin HM.out).mono ?_
  rintro e w5 ⟨rfl, hb⟩
  replace HM := Lib.hid (HM.out.below hb)
  replace HX := Lib.hid (HX.out.below hb)
  replace HG := Lib.hid (HG.out.below hb)
  replace HB := Lib.hid (bs HB.out hb)
  replace HP : Hid (∀ b, S0 b → Plain w5 b) := Lib.hid (fun b h => by obtain ⟨cs, t, e⟩ := HP.out b h; exact ⟨cs, t, carry hb e⟩)
  clear hb
  go_wp2_with (fail)
  refine (TS.out _ HB.out).mono ?_
  rintro e w6 ⟨g6, rfl, hv6, hg6, hb⟩
  have HX6 := Lib.hid hv6
  clear hv6 hg6
  replace HM := Lib.hid (HM.out.below hb)
  replace HX := Lib.hid (HX.out.below hb)
  replace HG := Lib.hid (HG.out.below hb)
  replace HB := Lib.hid (bs HB.out hb)
  replace HP : Hid (∀ b, S0 b → Plain w6 b) := Lib.hid (fun b h => by obtain ⟨cs, t, e⟩ := HP.out b h; exact ⟨cs, t, carry hb e⟩)
  clear hb
  go_wp2_with (fail)
  refine (ES.out _ _ _ _ _ _ _ HX.out HX6.out).mono ?_
  rintro e w7 ⟨rfl, hb⟩
  clear HX6
  replace HM := Lib.hid (HM.out.below hb)
  replace HX := Lib.hid (HX.out.below hb)
  replace HG := Lib.hid (HG.out.below hb)
  replace HB := Lib.hid (bs HB.out hb)
  replace HP : Hid (∀ b, S0 b → Plain w7 b) := Lib.hid (fun b h => by obtain ⟨cs, t, e⟩ := HP.out b h; exact ⟨cs, t, carry hb e⟩)
  clear hb
  go_wp2_with (fail)
  refine (MS.out _ _ _ _ HX.out HP.out).mono ?_
  rintro e w8 ⟨q, rfl, hq, hsm⟩
  have hf := hsm.fr
  clear hsm HP HX
  replace HM := Lib.hid (HM.out.stays (fun _ h => h) (fun b hb hl => hf.block b hl (fun h => by have := HSR.out _ h; unfold Rg at this; have hb' : b < lo0 := hb; omega)))
  replace HG := Lib.hid (HG.out.keep hf.size fun b hb hl => hf.block b hl (fun h => by
    have h1 := HSR.out _ h
    unfold Rg at h1
    rcases hb with e | e
    · have := HGO.out b e; omega
    · unfold Rg at e; omega))
  replace HB := Lib.hid (Below.fr HB.out (Nat.le_refl _) hf (fun b h => by have := HSR.out _ h; unfold Rg at this; have := HLW.out; omega))
  clear hf
  go_wp2_with (fail)
  refine (ER.out _ _ _ _ _ _ _ HG.out.vin HM.out).mono ?_
  rintro e w9 ⟨rfl, hb⟩
  replace HM := Lib.hid (HM.out.below hb)
  replace HG := Lib.hid (HG.out.below hb)
  replace HB := Lib.hid (bs HB.out hb)
  clear hb
  go_wp2_with (fail)
  refine (MK.out _ _ _ _ _ _ HG.out).mono ?_
  rintro e w10 ⟨rfl, hg, hf⟩
  have low : ∀ b, ((Value.slice A4 L c4).ownBlock = some b ∨ Rg hi0 hi b) → hi0 ≤ b := fun b hb => by
    rcases hb with e | e
    · exact HGO.out b e
    · exact e.1
  replace HM := Lib.hid (HM.out.stays (fun _ h => h) fun b hb hl => hf.block b hl (fun e => by have hb' : b < lo0 := hb; have := low _ e; have := HLH.out; omega))
  replace HB := Lib.hid (Below.fr HB.out (Nat.le_refl _) hf (fun b e => by have := low _ e; have := HLH.out; have := HLW.out; omega))
  replace HG := Lib.hid hg
  clear low hg hf
  go_wp2_with (fail)
  refine (HH.out _ _ _ _ HG.out.vin).mono ?_
  rintro e w11 ⟨rfl, hb⟩
  replace HM := Lib.hid (HM.out.below hb)
  replace HG := Lib.hid (HG.out.below hb)
  replace HB := Lib.hid (bs HB.out hb)
  clear hb
  go_wp2_with (fail)
  refine (TS.out _ HB.out).mono ?_
  rintro e w12 ⟨g12, rfl, hv12, hg12, hb⟩
  have HX12 := Lib.hid hv12
  clear hv12 hg12
  replace HM := Lib.hid (HM.out.below hb)
  replace HG := Lib.hid (HG.out.below hb)
  replace HB := Lib.hid (bs HB.out hb)
  clear hb
  go_wp2_with (fail)
  refine (SI.out _ _ _ (HEN.out.stays HB.out) (vnw0 HX12.out)).mono ?_
  rintro e w13 ⟨A13, c13, par2, hh2, hi2, rfl, hu, hhi, hb⟩
  have HK := Lib.hid hu
  clear hu hhi HX12
  replace HM := Lib.hid (HM.out.below hb)
  replace HG := Lib.hid (HG.out.below hb)
  replace HB := Lib.hid (bs HB.out hb)
  clear hb
  go_wp2_with (fail)
  refine (ER.out _ _ _ _ _ _ _ HK.out.vin HM.out).mono ?_
  rintro e w14 ⟨rfl, hb⟩
  clear HK
  replace HM := Lib.hid (HM.out.below hb)
  replace HG := Lib.hid (HG.out.below hb)
  replace HB := Lib.hid (bs HB.out hb)
  clear hb
  go_wp2_with (fail)
  refine (HH.out _ _ _ _ HG.out.vin).mono ?_
  rintro e w15 ⟨rfl, hb⟩
  replace HM := Lib.hid (HM.out.below hb)
  replace HG := Lib.hid (HG.out.below hb)
  replace HB := Lib.hid (bs HB.out hb)
  clear hb
  go_wp2_with (fail)
  go_ret
  exact ⟨rfl, HB.out⟩

set_option maxRecDepth 100000 in
theorem lifted (os : Os) (started : os.Started) (H : Type) (enc : TypeId × Value → H) :
    ReturnsInHanded {} Tryz.checked os 3 .any (fun w args => (Rows.fnExactSortValuesSpec.pre enc Tryz.prog Tryz.f3 [] false w args ∧ laidMetH Tryz.prog ers.cmp.laidOf w) ∧ sizedMet enc Tryz.prog Tryz.f3 (OpenSpec.ofChange Rows.fnExactSortValuesSpec) false w args)
      (Rows.fnExactSortValuesSpec.post enc Tryz.prog Tryz.f3 false true false false) := by
  refine returnsInHanded_of_change_and (C := Tryz.checked) (X := fun w _ => laidMetH Tryz.prog ers.cmp.laidOf w) (fun _ _ _ hh h => h.of_heap hh) own started (by kernel_rfl) Tryz.func3
    (ChangeSpec.witness_shaped (enc := enc) (C := Tryz.checked) (os := os) (X := fun w _ => laidMetH Tryz.prog ers.cmp.laidOf w) false (World.doorLaid Tryz.prog 400 os) #[.slice none 0 0] 8 rfl (World.shaped_of_RefB (by kernel_rfl) (by kernel_rfl)) (by kernel_rfl) (by kernel_rfl) (by kernel_rfl) (ers.cmp.door_met os _)) ?_
  intro W base args ds gs before hval0 hW _ hsz0 hL _
  have hval : ∀ (j : Nat) t v, Tryz.f3.params[j]? = some t → args[j]? = some v → Value.okWide Tryz.prog W .any base t v := hval0
  have hW' := hW
  obtain ⟨p, q, hA0, hV, rfl, hfz, hnd⟩ := hW
  have hA : DataW.TrodAll enc Tryz.prog W 0 (fun _ => true) true Tryz.f3.params.toList args.toList ds p := hA0
  have hA2 := hA
  rw [Tryz.params3] at hA hval
  obtain ⟨v0, d0, rfl, rfl, h0⟩ := trodAll_one hA
  have hE := ers.cmp.env_of hL
  obtain ⟨-, ⟨a, hEa⟩, ⟨b, hEb⟩⟩ := id hE
  obtain ⟨rfl, rfl⟩ := hV.unique (readNT enc hEa hEb _)
  obtain ⟨A0, c0, vs0, rfl, hc0, hr0⟩ := open_values (hval 0 22 v0 rfl rfl) h0
  clear hA0 hval0
  refine (walk vs0 A0 c0 W hr0 (Nat.le_trans hc0.1 hc0.2) hE).mono fun e W' ⟨he, hb⟩ => ?_
  subst he
  exact ⟨_, rfl, opn.post_true_vars2 hW' hA2 rfl rfl Tryz.underlying4 (by kernel_rfl) (by kernel_rfl) hb (readNT enc (hEa.stays hb) (hEb.stays hb) _)⟩

theorem over : Rows.FnExactSortValuesSaid :=
  OpenClaim.holds_of_wide 3 Tryz.f3 rfl rfl rfl rfl rfl rfl rfl ⟨rfl, rfl, rfl, rfl, rfl⟩ rfl rfl rfl rfl rfl (by kernel_rfl) Tryz.func3 (by kernel_rfl)
    (of_decide_eq_true (by kernel_rfl)) (by unfold Func.isWrapper; first | (rw [if_pos (by decide +kernel)]; kernel_rfl) | (rw [if_neg (by decide +kernel)]; exact ⟨rfl, rfl⟩))
    (fun os started H enc _ => lifted os started H enc)

/-- The statement. -/
theorem proved : Rows.FnExactSortValuesCardSaid :=
  Claim7.holds_tied_plain_at .later [] Rows.fnExactSortValuesCard.laidKinds true Rows.fnExactSortValuesCard.stood.harness Rows.fnExactSortValuesCard.stood.looks
    over (fun _ h => by cases h) (by kernel_rfl) (fun _ h => by cases h) fnExactSortValues_row_tie rfl ⟨rfl, rfl⟩ (by kernel_rfl) rfl
    (fun f fn hf hfn => by
      obtain rfl : f = 3 := Option.some.inj ((show Tryz.prog.funcNamed "loop.example/g03011/laws.FnExactSortValues" = some 3 by kernel_rfl).symm.trans hf) |>.symm
      obtain rfl : fn = Tryz.f3 := (Option.some.inj (Tryz.func3.symm.trans hfn)).symm
      exact ⟨by kernel_rfl, fun j t ht => by
        rw [Tryz.params3] at ht
        have hm : t ∈ [22] := by simpa using Array.mem_of_getElem? ht
        have hall : ([22].all fun u => !Tryz.prog.wantsStandIn u) = true := by kernel_rfl
        exact (show Tryz.prog.wantsStandIn t = false by simpa using List.all_eq_true.1 hall t hm)⟩)
    (by kernel_rfl)
#print axioms proved
end Go.Proofs.YtlbkbcafkjgckaaGreatDoor.fnExactSortValues

