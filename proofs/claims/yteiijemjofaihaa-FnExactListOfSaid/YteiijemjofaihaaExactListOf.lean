/-
  ListOf answers as its model at every list of values, every field; it leaves its argument unmodified, and its answer owns its memory.
  Conditions: none.
-/
import Derived.Test.YteiijemjofaihaaRows
import Derived.WalkKit
import Derived.ProofKit
import Derived.OpenShut
import Derived.Test.YteiijemjofaihaaListOf
import Derived.Test.YteiijemjofaihaaListT
import Derived.Test.YteiijemjofaihaaOpenL
import Derived.Test.YteiijemjofaihaaMarkL
import Derived.Test.YteiijemjofaihaaLawKit
import Derived.Test.YteiijemjofaihaaLawBox
namespace Go.Proofs.Yteiijemjofaihaa.fnExactListOf
open Go.ChangeShapes Go.WideShapes Go.ChangeAt Go.RowKit tree
open Go.ChangeMaps (open_string)
set_option linter.unusedVariables false

theorem own : ownKnob Try.prog.godebug = none := by kernel_rfl

theorem cnts_tll : ∀ {vs : List Tr}, (∀ t ∈ vs, fits t) → cnts vs ≤ vs.length + tll vs
  | [], _ => by simp [cnts_nil]
  | t :: vs, h => by
    have h1 := cnt_tot t (h t List.mem_cons_self)
    have h2 := cnts_tll (vs := vs) (fun u hu => h u (List.mem_cons_of_mem _ hu))
    rw [cnts, tll, List.length_cons]
    omega
theorem tots_l : ∀ (ks : List Ky) (vs : List Tr), (∀ y ∈ ks, y.str.size = 0) → tots ks vs ≤ tll vs
  | [], vs, _ => by simp [tots]
  | y :: ks, [], _ => by simp [tots]
  | y :: ks, t :: vs, h => by
    have h1 := h y List.mem_cons_self
    have h2 := tots_l ks vs (fun u hu => h u (List.mem_cons_of_mem _ hu))
    rw [tots_cons, tll]
    omega
theorem lKeys_str {n : Nat} : ∀ y ∈ lKeys n, y.str.size = 0 := fun y hy => by
  obtain ⟨i, -, rfl⟩ := List.mem_map.1 hy
  rfl
theorem vfits {w : World} {S : Nat → Prop} {vs : List Tr} {A : Option Addr} (h : VIn w S vs A) : ∀ t ∈ vs, fits t := fun t ht => by
  obtain ⟨i, hi, rfl⟩ := List.mem_iff_getElem.1 ht
  obtain ⟨_, _, _, _, _, _, _, _, _, _, _, e, hT, -⟩ := h i _ (List.getElem?_eq_getElem hi)
  exact hT.fits
theorem vnw0 {w : World} {g : Nat} {vs : List Tr} {A : Option Addr} (h : VIn w (Nw g w) vs A) : VIn w (Nw 0 w) vs A := h.stays (fun b hb => ⟨Nat.zero_le _, hb.2⟩) (fun _ _ _ => rfl)

set_option maxHeartbeats 4000000 in
set_option maxRecDepth 100000 in
theorem walk (vs : List Tr) (A : Option Addr) (c : Nat) (w : World) (hr : VIn w (fun _ => True) vs A) (hm : vs.length ≤ maxLen) : Calls Try.prog 3 #[.slice A vs.length c] w (TrueQ w) := by
  have SZ := szValueS vs hm A c w _ hr 1048576 (by omega) (by omega)
  have hfit := cnts_tll (vfits hr)
  have htl := tots_l (lKeys vs.length) vs lKeys_str
  obtain ⟨RT, HRT⟩ : ∃ T, Hid (listT vs = T) := ⟨_, Lib.hid rfl⟩
  have CON : Hid (vs.length + tll vs ≤ 1048576 → (∀ t ∈ vs, tot t ≤ 1048576) ∧ cnt RT ≤ 1048578 ∧ tot RT ≤ 1000000000 ∧ vs.length ≤ 1048576 ∧ cnts vs ≤ 1048576 ∧ itm RT ≤ 1048577) := Lib.hid (fun hs => by
    refine ⟨fun t h => by have := tll_mem h; omega, ?_, ?_, by omega, by omega, ?_⟩
    · rw [← HRT.out]; unfold listT; rw [cnt_mk']; omega
    · rw [← HRT.out]; unfold listT; rw [tot_mk]; show 0 + _ ≤ _; omega
    · have h1 := itm_cnt RT
      have h2 : cnt RT ≤ 1048578 := by rw [← HRT.out]; unfold listT; rw [cnt_mk']; omega
      omega)
  have LS0 : Hid (cnt RT ≤ 1048578 → ∀ w' A' c', VIn w' (Nw 0 w') vs A' → Calls Try.prog 10 #[.slice A' vs.length c'] w' (fun e w2 => ∃ A2 c2, e = .returned (vV 4 0 ⟨#[]⟩ vs.length A2 vs.length c2) ∧ TIn w2 (fun b => w'.heap.size ≤ b) RT (vV 4 0 ⟨#[]⟩ vs.length A2 vs.length c2) ∧ Below w'.heap.size w' w2)) := Lib.hid (fun hc w' A' c' h => by
    rw [← HRT.out] at hc ⊢
    refine (listOf_s vs A' c' w' h hc).mono ?_
    rintro e w2 ⟨v, he, hT, hb⟩
    obtain ⟨A2, c2, e2, -⟩ := (show TIn _ _ (.mk 4 0 ⟨#[]⟩ vs.length (lKeys vs.length) vs) v from hT).out
    subst e2
    exact ⟨A2, c2, he, hT, hb⟩)
  have LI0 : Hid (cnt RT ≤ 1048578 → tot RT ≤ 1000000000 → ∀ w' A' c', VIn w' (Nw 0 w') vs A' → Calls Try.prog 12 #[.slice A' vs.length c'] w' (fun e w2 => ∃ A2 c2 par R, e = .returned (vV 4 0 ⟨#[]⟩ vs.length A2 vs.length c2) ∧ TPar w2 par (R, 0) RT (vV 4 0 ⟨#[]⟩ vs.length A2 vs.length c2) ∧ (∀ b, Hang par (R, 0) b → Rg (R + 1) w2.heap.size b) ∧ w'.heap.size ≤ R ∧ Below w'.heap.size w' w2)) := Lib.hid (fun hc ht w' A' c' h => by
    rw [← HRT.out] at hc ht ⊢
    refine (listOf_i vs A' c' w' h hc ht).mono ?_
    rintro e w2 ⟨v, par, R, he, hT, hR, hb⟩
    obtain ⟨par2, hT2, hh⟩ := hT.tight
    obtain ⟨A2, c2, e2, -⟩ := (show TPar _ _ _ (.mk 4 0 ⟨#[]⟩ vs.length (lKeys vs.length) vs) v from hT2).out
    subst e2
    exact ⟨A2, c2, par2, R, he, hT2, hh, hR, hb⟩)
  have TS0 : Hid ((∀ t ∈ vs, tot t ≤ 1048576) → vs.length ≤ 1048576 → ∀ w', Below w.heap.size w w' → Calls Try.prog 11 #[.slice A vs.length c] w' (fun e w2 => ∃ g, e = .returned (.slice (some ⟨g, 0, none⟩) vs.length vs.length) ∧ VIn w2 (Nw g w2) vs (some ⟨g, 0, none⟩) ∧ w'.heap.size ≤ g ∧ Below w'.heap.size w' w2)) := Lib.hid (fun hT hl w' hb => toValueS vs hT hl A c w' _ (hr.below hb))
  have ES0 : Hid (vs.length ≤ 1048576 → ∀ w' S S' A A' c c', VIn w' S vs A → VIn w' S' vs A' → Calls Try.prog 14 #[.slice A vs.length c, .slice A' vs.length c'] w' (TrueQ w')) := Lib.hid (fun hl w' S S' A A' c c' h h' => eqValueS vs (by omega) w' S S' A A' c c' h h')
  have MS0 : Hid (cnts vs ≤ 1048576 → ∀ w' S A' c', VIn w' S vs A' → (∀ b, S b → Plain w' b) → Calls Try.prog 15 #[.slice A' vs.length c', .int .i64 1] w' (fun e w2 => ∃ q, e = .returned (.int .i64 q) ∧ 1 ≤ q ∧ Sims S w' w2)) := Lib.hid (fun hc w' S A' c' h hp => (markValueS vs 1 (by omega) (by omega) w' S A' c' h hm hp).mono (fun e w2 ⟨q, h1, h2, _, h4⟩ => ⟨q, h1, h2, h4⟩))
  have EQ := Lib.hid (eqV RT)
  obtain ⟨Q, HQ⟩ : ∃ Q : Int, Hid (1 + 7 * (itm RT : Int) = Q) := ⟨_, Lib.hid rfl⟩
  have hQ0 : 1 ≤ Q := by rw [← HQ.out]; omega
  have MV0 : Hid (itm RT ≤ 1048577 → ∀ w' par R lo hi v, TPar w' par (R, 0) RT v → (∀ b, Hang par (R, 0) b → Rg lo hi b) → Calls Try.prog 16 #[v, .int .i64 1] w' (fun e w2 => e = .returned (.int .i64 Q) ∧ TPar w2 par (R, 0) (mkI 1 RT) v ∧ Fr (Rg lo hi) w' w2)) := Lib.hid (fun hi w' par R lo hi2 v h1 h2 => by have := markSep RT v 1 (by omega) (by omega) w' par R 0 lo hi2 h1 h2; rw [HQ.out] at this; exact this)
  have HV0 : Hid (itm RT ≤ 1048577 → ∀ w' S v, TIn w' S (mkI 1 RT) v → Calls Try.prog 17 #[v, .int .i64 1] w' (GivesQ w' (.int .i64 Q))) := Lib.hid (fun hi w' S v h => by have := heldSep RT v 1 (by omega) (by omega) w' S h; rw [HQ.out] at this; exact this)
  obtain ⟨L, HL⟩ : ∃ L, Hid (vs.length = L) := ⟨_, Lib.hid rfl⟩
  rw [HL.out] at SZ CON LS0 LI0 TS0 ES0 MS0 ⊢
  unfold vV at LS0 LI0
  clear hr hm hfit htl
  go_enter Try.func3, Try.ntmps3
  go_wp2_with (fail)
  refine SZ.mono ?_
  rintro e w0 ⟨r, rfl, ⟨ha, hb, hc⟩, hw0⟩
  have HB := Lib.hid hw0
  clear SZ hw0
  by_cases hlt : r < 0
  · go_wp2_with (fail)
    go_ret
    exact ⟨rfl, HB.out⟩
  obtain ⟨k1, k2, k3, k4, k5, k6⟩ := CON.out (by have := hc (by omega); omega)
  have TS := Lib.hid (TS0.out k1 k4)
  have LS := Lib.hid (LS0.out k2)
  have LI := Lib.hid (LI0.out k2 k3)
  have ES := Lib.hid (ES0.out k4)
  have MS := Lib.hid (MS0.out k5)
  have MV := Lib.hid (MV0.out k6)
  have HH := Lib.hid (HV0.out k6)
  clear k1 k2 k3 k4 k5 k6 TS0 LS0 LI0 ES0 MS0 MV0 HV0 CON hc
  go_wp2_with (fail)
  refine (TS.out _ HB.out).mono ?_
  rintro e w1 ⟨g1, rfl, hv1, hg1, hb⟩
  have HX1 := Lib.hid hv1
  clear hv1 hg1
  replace HB := Lib.hid (bs HB.out hb)
  clear hb
  go_wp2_with (fail)
  refine (LS.out _ _ _ (vnw0 HX1.out)).mono ?_
  rintro e w2 ⟨A4, c4, rfl, hu, hb⟩
  have HM := Lib.hid hu
  clear hu
  replace HB := Lib.hid (bs HB.out hb)
  clear hb HX1
  go_wp2_with (fail)
  obtain ⟨N4, HN4⟩ : ∃ N, Hid (w2.heap.size = N) := ⟨_, Lib.hid rfl⟩
  generalize hwn : w2.alloc (.cells #[.int .i64 4, .int .i64 0, .string ⟨#[]⟩, .int .i64 L, .slice A4 L c4] 26) = w3
  have hbx : Below w2.heap.size w2 w3 := hwn ▸ b1 _ _
  have E4 : Hid (w3.heap[N4]? = some (.cells #[.int .i64 4, .int .i64 0, .string ⟨#[]⟩, .int .i64 L, .slice A4 L c4] IV (0, 0))) := Lib.hid (by rw [← hwn, ← HN4.out]; exact heap_alloc_new _ _)
  replace HM := Lib.hid (HM.out.below' hbx)
  replace HB := Lib.hid (bs HB.out hbx)
  rw [HN4.out]
  have HN4l : Hid (N4 < w3.heap.size) := Lib.hid (Array.getElem?_eq_some_iff.1 E4.out).1
  clear hwn hbx
  obtain ⟨lo0, hlo0⟩ : ∃ N, Hid (w3.heap.size = N) := ⟨_, Lib.hid rfl⟩
  replace HM : Hid (TIn w3 (fun b => b < lo0) RT (vV 4 0 ⟨#[]⟩ L A4 L c4)) := Lib.hid (by rw [← hlo0.out]; exact HM.out.lt')
  rw [hlo0.out] at HN4l
  refine (TS.out _ HB.out).mono ?_
  rintro e w4 ⟨g5, rfl, hv5, hg5, hb⟩
  rw [hlo0.out] at hg5
  obtain ⟨hi0, hhi0⟩ : ∃ N, Hid (w4.heap.size = N) := ⟨_, Lib.hid rfl⟩
  obtain ⟨S0, HS0⟩ : ∃ S : Nat → Prop, Hid (S = fun b => Rg lo0 hi0 b ∧ Plain w4 b) := ⟨_, Lib.hid rfl⟩
  have HX5 := Lib.hid hv5
  have HLW : Hid (w.heap.size ≤ lo0) := Lib.hid (by rw [← hlo0.out]; exact HB.out.size)
  have HX : Hid (VIn w4 S0 vs (some ⟨g5, 0, none⟩)) := Lib.hid (by rw [HS0.out, ← hhi0.out]; exact hv5.stays (fun b hb => ⟨⟨Nat.le_trans hg5 hb.1, hb.2.lt⟩, hb.2⟩) (fun _ _ _ => rfl))
  have HP : Hid (∀ b, S0 b → Plain w4 b) := Lib.hid (fun b hb => by rw [HS0.out] at hb; exact hb.2)
  have HSR : Hid (∀ b, S0 b → Rg lo0 hi0 b) := Lib.hid (fun b hb => by rw [HS0.out] at hb; exact hb.1)
  have hlh : lo0 ≤ hi0 := by rw [← hhi0.out, ← hlo0.out]; exact hb.size
  clear hv5 hg5
  replace HM := Lib.hid (HM.out.below' hb)
  replace E4 := Lib.hid (carry hb E4.out)
  replace HB := Lib.hid (bs HB.out hb)
  clear hb
  go_wp2_with (fail)
  refine (LI.out _ _ _ (vnw0 HX5.out)).mono ?_
  rintro e w5 ⟨A6, c6, par, R, rfl, hu, hh, hR, hb⟩
  have HG := Lib.hid hu
  have HHG := Lib.hid hh
  rw [hhi0.out] at hR
  have hz5 : hi0 ≤ w5.heap.size := by rw [← hhi0.out]; exact hb.size
  clear hu hh HX5
  replace HM := Lib.hid (HM.out.below' hb)
  replace E4 := Lib.hid (carry hb E4.out)
  replace HX := Lib.hid (HX.out.below hb)
  replace HB := Lib.hid (bs HB.out hb)
  replace HP : Hid (∀ b, S0 b → Plain w5 b) := Lib.hid (fun b h => by obtain ⟨cs, t, e⟩ := HP.out b h; exact ⟨cs, t, carry hb e⟩)
  clear hb
  obtain ⟨zr, -⟩ := rowc (keepAlloc (o' := .cells #[.int .i64 4, .int .i64 0, .string ⟨#[]⟩, .int .i64 L, .slice A6 L c6] 26) E4.out)
  have z40 := zr 0; have z41 := zr 1; have z42 := zr 2; have z43 := zr 3; have z44 := zr 4
  simp only [List.getElem?_toArray, List.getElem?_cons_zero, List.getElem?_cons_succ] at z40 z41 z42 z43 z44
  clear zr
  go_wp2_with (fail)
  clear z40 z41 z42 z43 z44
  obtain ⟨N6, HN6⟩ : ∃ N, Hid (w5.heap.size = N) := ⟨_, Lib.hid rfl⟩
  generalize hwn : w5.alloc (.cells #[.int .i64 4, .int .i64 0, .string ⟨#[]⟩, .int .i64 L, .slice A6 L c6] 26) = w6
  have hbx : Below w5.heap.size w5 w6 := hwn ▸ b1 _ _
  have E6 : Hid (w6.heap[N6]? = some (.cells #[.int .i64 4, .int .i64 0, .string ⟨#[]⟩, .int .i64 L, .slice A6 L c6] IV (0, 0))) := Lib.hid (by rw [← hwn, ← HN6.out]; exact heap_alloc_new _ _)
  replace HM := Lib.hid (HM.out.below' hbx)
  replace E4 := Lib.hid (carry hbx E4.out)
  replace HX := Lib.hid (HX.out.below hbx)
  replace HG := Lib.hid (HG.out.above fun q _ hl => Below.block hbx q hl)
  replace HB := Lib.hid (bs HB.out hbx)
  rw [HN6.out]
  have HN6l : Hid (N6 < w6.heap.size) := Lib.hid (Array.getElem?_eq_some_iff.1 E6.out).1
  replace HP : Hid (∀ b, S0 b → Plain w6 b) := Lib.hid (fun b h => by obtain ⟨cs, t, e⟩ := HP.out b h; exact ⟨cs, t, carry hbx e⟩)
  clear hwn hbx
  have HI6 : Hid (hi0 ≤ N6) := Lib.hid (by rw [← HN6.out]; exact hz5)
  rw [HN6.out] at HHG
  refine (EQ.out _ _ _ _ _ HG.out.tin HM.out).mono ?_
  rintro e w7 ⟨rfl, hb⟩
  skip
  replace HM := Lib.hid (HM.out.below' hb)
  replace E4 := Lib.hid (carry hb E4.out)
  replace HX := Lib.hid (HX.out.below hb)
  replace HG := Lib.hid (HG.out.above fun q _ hl => Below.block hb q hl)
  replace E6 := Lib.hid (carry hb E6.out)
  replace HB := Lib.hid (bs HB.out hb)
  replace HP : Hid (∀ b, S0 b → Plain w7 b) := Lib.hid (fun b h => by obtain ⟨cs, t, e⟩ := HP.out b h; exact ⟨cs, t, carry hb e⟩)
  clear hb
  go_wp2_with (fail)
  refine (TS.out _ HB.out).mono ?_
  rintro e w8 ⟨g8, rfl, hv8, hg8, hb⟩
  have HX8 := Lib.hid hv8
  clear hv8 hg8
  replace HM := Lib.hid (HM.out.below' hb)
  replace E4 := Lib.hid (carry hb E4.out)
  replace HX := Lib.hid (HX.out.below hb)
  replace HG := Lib.hid (HG.out.above fun q _ hl => Below.block hb q hl)
  replace E6 := Lib.hid (carry hb E6.out)
  replace HB := Lib.hid (bs HB.out hb)
  replace HP : Hid (∀ b, S0 b → Plain w8 b) := Lib.hid (fun b h => by obtain ⟨cs, t, e⟩ := HP.out b h; exact ⟨cs, t, carry hb e⟩)
  clear hb
  go_wp2_with (fail)
  refine (ES.out _ _ _ _ _ _ _ HX.out HX8.out).mono ?_
  rintro e w9 ⟨rfl, hb⟩
  skip
  replace HM := Lib.hid (HM.out.below' hb)
  replace E4 := Lib.hid (carry hb E4.out)
  replace HX := Lib.hid (HX.out.below hb)
  replace HG := Lib.hid (HG.out.above fun q _ hl => Below.block hb q hl)
  replace E6 := Lib.hid (carry hb E6.out)
  replace HB := Lib.hid (bs HB.out hb)
  replace HP : Hid (∀ b, S0 b → Plain w9 b) := Lib.hid (fun b h => by obtain ⟨cs, t, e⟩ := HP.out b h; exact ⟨cs, t, carry hb e⟩)
  clear hb HX8
  go_wp2_with (fail)
  refine (MS.out _ _ _ _ HX.out HP.out).mono ?_
  rintro e w10 ⟨q, rfl, hq, hsm⟩
  have hf := hsm.fr
  clear hsm HP HX
  replace E4 := Lib.hid ((hf.block _ (Array.getElem?_eq_some_iff.1 E4.out).1 (fun h => by have := HSR.out _ h; unfold Rg at this; have := HN4l.out; omega)).trans E4.out)
  replace E6 := Lib.hid ((hf.block _ (Array.getElem?_eq_some_iff.1 E6.out).1 (fun h => by have := HSR.out _ h; unfold Rg at this; have := HI6.out; omega)).trans E6.out)
  replace HM := Lib.hid (HM.out.stays (fun _ h => h) (fun b hb hl => hf.block b hl (fun h => by have := HSR.out _ h; unfold Rg at this; have hb' : b < lo0 := hb; omega)))
  replace HG := Lib.hid (HG.out.above fun b hb hl => hf.block b hl (fun h => by have := HSR.out _ h; unfold Rg at this; have hb' : R < b := hb; omega))
  replace HB := Lib.hid (Below.fr HB.out (Nat.le_refl _) hf (fun b h => by have := HSR.out _ h; unfold Rg at this; have := HLW.out; omega))
  clear hf
  obtain ⟨zr, -⟩ := rowc E4.out
  have z40 := zr 0; have z41 := zr 1; have z42 := zr 2; have z43 := zr 3; have z44 := zr 4
  simp at z40 z41 z42 z43 z44
  clear zr
  obtain ⟨zr, -⟩ := rowc E6.out
  have z60 := zr 0; have z61 := zr 1; have z62 := zr 2; have z63 := zr 3; have z64 := zr 4
  simp at z60 z61 z62 z63 z64
  clear zr
  go_wp2_with (fail)
  refine (EQ.out _ _ _ _ _ HG.out.tin HM.out).mono ?_
  rintro e w11 ⟨rfl, hb⟩
  skip
  replace HM := Lib.hid (HM.out.below' hb)
  replace E4 := Lib.hid (carry hb E4.out)
  replace HG := Lib.hid (HG.out.above fun q _ hl => Below.block hb q hl)
  replace E6 := Lib.hid (carry hb E6.out)
  replace HB := Lib.hid (bs HB.out hb)
  clear hb
  clear z40 z41 z42 z43 z44 z60 z61 z62 z63 z64
  obtain ⟨zr, -⟩ := rowc E6.out
  have z60 := zr 0; have z61 := zr 1; have z62 := zr 2; have z63 := zr 3; have z64 := zr 4
  simp at z60 z61 z62 z63 z64
  clear zr
  go_wp2_with (fail)
  refine (MV.out _ _ _ _ _ _ HG.out HHG.out).mono ?_
  rintro e w12 ⟨rfl, hu, hf⟩
  replace E4 := Lib.hid ((hf.block _ (Array.getElem?_eq_some_iff.1 E4.out).1 (by unfold Rg; have := HN4l.out; omega)).trans E4.out)
  replace E6 := Lib.hid ((hf.block _ (Array.getElem?_eq_some_iff.1 E6.out).1 (by unfold Rg; omega)).trans E6.out)
  replace HM := Lib.hid (HM.out.stays (fun _ h => h) (fun b hb hl => hf.block b hl (by unfold Rg; have hb' : b < lo0 := hb; omega)))
  replace HB := Lib.hid (Below.fr HB.out (Nat.le_refl _) hf (fun b hb => by unfold Rg at hb; have := HLW.out; omega))
  replace HG := Lib.hid hu
  clear hu hf
  clear z60 z61 z62 z63 z64
  obtain ⟨zr, -⟩ := rowc E6.out
  have z60 := zr 0; have z61 := zr 1; have z62 := zr 2; have z63 := zr 3; have z64 := zr 4
  simp at z60 z61 z62 z63 z64
  clear zr
  go_wp2_with (fail)
  refine (HH.out _ _ _ HG.out.tin).mono ?_
  rintro e w13 ⟨rfl, hb⟩
  skip
  replace HM := Lib.hid (HM.out.below' hb)
  replace E4 := Lib.hid (carry hb E4.out)
  replace HG := Lib.hid (HG.out.above fun q _ hl => Below.block hb q hl)
  replace E6 := Lib.hid (carry hb E6.out)
  replace HB := Lib.hid (bs HB.out hb)
  clear hb
  clear z60 z61 z62 z63 z64
  go_wp2_with (fail)
  refine (TS.out _ HB.out).mono ?_
  rintro e w14 ⟨g9, rfl, hv9, hg9, hb⟩
  have HX9 := Lib.hid hv9
  clear hv9 hg9
  replace HM := Lib.hid (HM.out.below' hb)
  replace E4 := Lib.hid (carry hb E4.out)
  replace HG := Lib.hid (HG.out.above fun q _ hl => Below.block hb q hl)
  replace E6 := Lib.hid (carry hb E6.out)
  replace HB := Lib.hid (bs HB.out hb)
  clear hb
  go_wp2_with (fail)
  refine (LI.out _ _ _ (vnw0 HX9.out)).mono ?_
  rintro e w15 ⟨A9, c9, par9, R9, rfl, hu, hh, hR9, hb⟩
  have HG2 := Lib.hid hu
  clear hu hh HX9
  replace HM := Lib.hid (HM.out.below' hb)
  replace E4 := Lib.hid (carry hb E4.out)
  replace HG := Lib.hid (HG.out.above fun q _ hl => Below.block hb q hl)
  replace E6 := Lib.hid (carry hb E6.out)
  replace HB := Lib.hid (bs HB.out hb)
  clear hb
  obtain ⟨zr, -⟩ := rowc (keepAlloc (o' := .cells #[.int .i64 4, .int .i64 0, .string ⟨#[]⟩, .int .i64 L, .slice A9 L c9] 26) E4.out)
  have z40 := zr 0; have z41 := zr 1; have z42 := zr 2; have z43 := zr 3; have z44 := zr 4
  simp only [List.getElem?_toArray, List.getElem?_cons_zero, List.getElem?_cons_succ] at z40 z41 z42 z43 z44
  clear zr
  go_wp2_with (fail)
  clear z40 z41 z42 z43 z44
  obtain ⟨N9, HN9⟩ : ∃ N, Hid (w15.heap.size = N) := ⟨_, Lib.hid rfl⟩
  generalize hwn : w15.alloc (.cells #[.int .i64 4, .int .i64 0, .string ⟨#[]⟩, .int .i64 L, .slice A9 L c9] 26) = w16
  have hbx : Below w15.heap.size w15 w16 := hwn ▸ b1 _ _
  have E9 : Hid (w16.heap[N9]? = some (.cells #[.int .i64 4, .int .i64 0, .string ⟨#[]⟩, .int .i64 L, .slice A9 L c9] IV (0, 0))) := Lib.hid (by rw [← hwn, ← HN9.out]; exact heap_alloc_new _ _)
  replace HM := Lib.hid (HM.out.below' hbx)
  replace E4 := Lib.hid (carry hbx E4.out)
  replace HG := Lib.hid (HG.out.above fun q _ hl => Below.block hbx q hl)
  replace E6 := Lib.hid (carry hbx E6.out)
  replace HG2 := Lib.hid (HG2.out.above fun q _ hl => Below.block hbx q hl)
  replace HB := Lib.hid (bs HB.out hbx)
  rw [HN9.out]
  have HN9l : Hid (N9 < w16.heap.size) := Lib.hid (Array.getElem?_eq_some_iff.1 E9.out).1
  clear hwn hbx
  refine (EQ.out _ _ _ _ _ HG2.out.tin HM.out).mono ?_
  rintro e w17 ⟨rfl, hb⟩
  skip
  replace HM := Lib.hid (HM.out.below' hb)
  replace E4 := Lib.hid (carry hb E4.out)
  replace HG := Lib.hid (HG.out.above fun q _ hl => Below.block hb q hl)
  replace E6 := Lib.hid (carry hb E6.out)
  replace HG2 := Lib.hid (HG2.out.above fun q _ hl => Below.block hb q hl)
  replace E9 := Lib.hid (carry hb E9.out)
  replace HB := Lib.hid (bs HB.out hb)
  clear hb
  obtain ⟨zr, -⟩ := rowc E6.out
  have z60 := zr 0; have z61 := zr 1; have z62 := zr 2; have z63 := zr 3; have z64 := zr 4
  simp at z60 z61 z62 z63 z64
  clear zr
  go_wp2_with (fail)
  refine (HH.out _ _ _ HG.out.tin).mono ?_
  rintro e w18 ⟨rfl, hb⟩
  skip
  replace HM := Lib.hid (HM.out.below' hb)
  replace E4 := Lib.hid (carry hb E4.out)
  replace HG := Lib.hid (HG.out.above fun q _ hl => Below.block hb q hl)
  replace E6 := Lib.hid (carry hb E6.out)
  replace HG2 := Lib.hid (HG2.out.above fun q _ hl => Below.block hb q hl)
  replace E9 := Lib.hid (carry hb E9.out)
  replace HB := Lib.hid (bs HB.out hb)
  clear hb
  clear z60 z61 z62 z63 z64
  go_wp2_with (fail)
  go_ret
  exact ⟨rfl, HB.out⟩

set_option maxRecDepth 100000 in
theorem lifted (os : Os) (started : os.Started) (H : Type) (enc : TypeId × Value → H) :
    ReturnsInHanded {} Try.checked os 3 .any (Rows.fnExactListOfSpec.pre6 enc Try.prog Try.f3 Rows.fnExactListOfRow.domain false) (Rows.fnExactListOfSpec.post enc Try.prog Try.f3 false true false false) := by
  refine returnsInHanded_of_change (C := Try.checked) own started (by kernel_rfl) Try.func3
    (ChangeSpec.witness6 (enc := enc) (C := Try.checked) false ⟨#[], #[.slice none 0 0], []⟩ 8 (by kernel_rfl) (by kernel_rfl) (by kernel_rfl) (by kernel_rfl)) ?_
  intro W base args ds gs before hval0 hW hcnd _
  have hval : ∀ (j : Nat) t v, Try.f3.params[j]? = some t → args[j]? = some v → Value.okWide Try.prog W .any base t v := hval0
  have hW' := hW
  obtain ⟨p, q, hA0, hV, rfl, hfz, hnd⟩ := hW
  have hA : DataW.TrodAll enc Try.prog W 0 (fun _ => true) true Try.f3.params.toList args.toList ds p := hA0
  have hA2 := hA
  rw [Try.params3] at hA hval
  obtain ⟨v0, d0, rfl, rfl, h0⟩ := trodAll_one hA
  obtain ⟨rfl, rfl⟩ := trodVars_none hV
  obtain ⟨A0, c0, vs0, rfl, hc0, hr0⟩ := open_values (hval 0 22 v0 rfl rfl) h0
  clear hA0 hval0
  simp only [List.append_nil] at hW' hA2
  refine (walk vs0 A0 c0 W hr0 (Nat.le_trans hc0.1 hc0.2)).mono fun e W' ⟨he, hb⟩ => ?_
  subst he
  exact ⟨_, rfl, opn.post_true hW' rfl hA2 rfl rfl Try.underlying4 (by kernel_rfl) (by kernel_rfl) hb⟩

theorem over : Rows.fnExactListOfRow.holds Try.pinned (OpenSpec.ofChange Rows.fnExactListOfSpec) :=
  OpenClaim.holds_of_wide 3 Try.f3 rfl rfl rfl rfl rfl rfl rfl ⟨rfl, rfl, rfl, rfl, rfl⟩ rfl rfl rfl rfl rfl (by kernel_rfl) Try.func3 (by kernel_rfl)
    (of_decide_eq_true (by kernel_rfl)) (by unfold Func.isWrapper; first | (rw [if_pos (by decide +kernel)]; kernel_rfl) | (rw [if_neg (by decide +kernel)]; exact ⟨rfl, rfl⟩))
    (fun os started H enc _ => lifted os started H enc)

/-- The statement. -/
theorem proved : Rows.FnExactListOfSaid :=
  over
#print axioms proved
end Go.Proofs.Yteiijemjofaihaa.fnExactListOf
