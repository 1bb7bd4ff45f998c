/-
  CountRefs answers as its model at every heap and every list of roots; it leaves its arguments unmodified, and its answer owns its memory.
  Conditions: none.
-/
import Derived.Test.YtbgffmiffmmohaaRows
import Derived.Deep.RegionHeld3
import Derived.WalkKit
import Derived.ProofKit
import Derived.OpenShut
import Derived.Test.YtbgffmiffmmohaaCrB5
import Derived.Test.YtbgffmiffmmohaaCrB2
import Derived.Test.YtbgffmiffmmohaaCrSListT
namespace Go.Proofs.Ytbgffmiffmmohaa.fnExactCountRefs
open Go.ChangeShapes Go.WideShapes Go.ChangeAt Go.RowKit tree
open Go.ChangeMaps (open_string)
set_option linter.unusedVariables false

theorem own : ownKnob Try.prog.godebug = none := by kernel_rfl

/-- Plain blocks between lo and hi. -/
def Sx (lo hi : Nat) (w : World) (b : Nat) : Prop := lo ≤ b ∧ b < hi ∧ Plain w b
theorem vin_sx {w w' : World} {lo hi : Nat} {vs : List Tr} {A : Option Addr} (h : VIn w (Sx lo hi w) vs A) (hk : ∀ b, lo ≤ b → b < hi → b < w.heap.size → w'.heap[b]? = w.heap[b]?) : VIn w' (Sx lo hi w') vs A :=
  h.stays (fun b hb => ⟨hb.1, hb.2.1, hb.2.2.same (hk b hb.1 hb.2.1 hb.2.2.lt)⟩) fun b hb hl => hk b hb.1 hb.2.1 hl
theorem cnts_tll : ∀ (vs : List Tr), (∀ t ∈ vs, fits t) → cnts vs ≤ tll vs + vs.length
  | [], _ => by simp [cnts]
  | t :: vs, h => by
    have h1 := cnts_tll vs fun u hu => h u (by simp [hu])
    have h2 := cnt_tot t (h t (by simp))
    rw [cnts, tll, List.length_cons]
    omega
theorem vin_fits {w : World} {S : Nat → Prop} {vs : List Tr} {A : Option Addr} (h : VIn w S vs A) : ∀ t ∈ vs, fits t := fun t ht => by
  obtain ⟨j, hj, rfl⟩ := List.mem_iff_getElem.1 ht
  obtain ⟨a, k, n, s, x, ks', vs', A', c', -, -, -, hT, -⟩ := h j _ (List.getElem?_eq_getElem hj)
  exact hT.fits

set_option maxHeartbeats 8000000 in
set_option maxRecDepth 100000 in
theorem walk (bl0 : List Bk) (A0 : Option Addr) (c0 : Nat) (vs1 : List Tr) (A1 : Option Addr) (c1 : Nat) (w : World) (hh0 : HIn w (fun _ => True) bl0 A0) (hc0 : bl0.length ≤ c0 ∧ c0 ≤ maxLen) (hr1 : VIn w (fun _ => True) vs1 A1) (hm1 : vs1.length ≤ maxLen) :
    Calls Try.prog 3 #[hpV A0 (List.length bl0) c0, .slice A1 (List.length vs1) c1] w (TrueQ w) := by
  obtain ⟨L0, HL0⟩ : ∃ L, Hid (bl0.length = L) := ⟨_, Lib.hid rfl⟩
  have HH0 := Lib.hid hh0
  have HLI : Hid (∀ i, i < bl0.length → i < L0) := Lib.hid (fun i h => by rw [← HL0.out]; exact h)
  have SZ0 := Lib.hid (fun w' (h : HIn w' (fun _ => True) bl0 A0) l h0 h1 => szHeap bl0 (Nat.le_trans hc0.1 hc0.2) A0 c0 w' (fun _ => True) h l h0 h1)
  have TH : Hid (bl0.length + totB bl0 ≤ 1048576 → ∀ w', HIn w' (fun _ => True) bl0 A0 → Calls Try.prog 7 #[hpV A0 bl0.length c0] w' (HpQ w' bl0)) := Lib.hid (fun hm w' h => toHeap bl0 hm A0 c0 w' _ h)
  have EH := Lib.hid (fun (hh : ∀ k ∈ bl0, k.heads.length ≤ 17592186044416) => eqHeap bl0 (Nat.le_trans hc0.1 hc0.2) hh)
  unfold HpQ at TH
  rw [HL0.out] at SZ0 TH EH ⊢
  have hL0 : L0 ≤ 9223372036854775807 := by have := Nat.le_trans hc0.1 hc0.2; unfold maxLen at this; rw [HL0.out] at this; omega
  have HR1 := Lib.hid hr1
  have HF1 := Lib.hid (vin_fits hr1)
  have HF0 := Lib.hid (cB_sz bl0 hh0.fits)
  have SZ1 := Lib.hid (fun w' (h : VIn w' (fun _ => True) vs1 A1) l h0 h1 => szValueS vs1 hm1 A1 c1 w' _ h l h0 h1)
  have TV : Hid ((∀ t ∈ vs1, tot t ≤ 1048576) → vs1.length ≤ 1048576 → ∀ w', VIn w' (fun _ => True) vs1 A1 → Calls Try.prog 8 #[.slice A1 vs1.length c1] w' (VsQ w' vs1)) := Lib.hid (fun h1 h2 w' h => toValueS vs1 h1 h2 A1 c1 w' _ h)
  have EV : Hid (vs1.length ≤ 1000000000 → ∀ (w' : World) (S S' : Nat → Prop) (A A' : Option Addr) (c c' : Nat), VIn w' S vs1 A → VIn w' S' vs1 A' → Calls Try.prog 12 #[.slice A vs1.length c, .slice A' vs1.length c'] w' (TrueQ w')) := Lib.hid (fun h w' S S' A A' c c' => eqValueS vs1 h w' S S' A A' c c')
  have MV : Hid (∀ (m : Int), 1 ≤ m → m + 7 * cnts vs1 ≤ 100000000000 → ∀ (w' : World) (S : Nat → Prop) (A : Option Addr) (c : Nat), VIn w' S vs1 A → (∀ b, S b → Plain w' b) → Calls Try.prog 14 #[.slice A vs1.length c, .int .i64 m] w' (fun e w2 => ∃ q, e = .returned (.int .i64 q) ∧ m ≤ q ∧ q ≤ m + 7 * cnts vs1 ∧ Sims S w' w2)) := Lib.hid (fun m h0 h1 w' S A c h hp => markValsS vs1 m h0 h1 w' S A c h hm1 hp)
  have MH : Hid (∀ (w' : World) (g hi : Nat) (ow : Nat → Nat), LaidB w' g hi bl0.length (fun i => i < bl0.length) ow bl0 → bl0.length ≤ 1048576 → (1 : Int) + cB bl0 ≤ 900000000 → Calls Try.prog 13 #[hpV (some ⟨g, 0, none⟩) bl0.length bl0.length, .int .i64 1] w' (fun e w2 => e = .returned (.int .i64 (1 + cB bl0)) ∧ Fr (fun b => g ≤ b ∧ b < hi) w' w2)) := Lib.hid (fun w' g hi ow h hm hc => markHeap bl0 1 (by omega) hc w' g hi ow h hm)
  have CS : Hid (bl0.length ≤ 1048576 → vs1.length ≤ 1048576 → (∀ k ∈ bl0, k.slots.length ≤ 1048576) → ∀ (w' : World) (S S' : Nat → Prop) (A B : Option Addr) (c d : Nat), HIn w' S bl0 A → VIn w' S' vs1 B → Calls Try.prog 6 #[hpV A bl0.length c, .slice B vs1.length d] w' (RfQ w' (refsOf bl0 vs1))) := Lib.hid (fun h1 h2 h3 w' S S' A B c d ha hb => countRefs_s bl0 A c vs1 B d w' S S' ha hb h1 h2 h3)
  have CI : Hid (bl0.length ≤ 1048576 → vs1.length ≤ 1048576 → (∀ k ∈ bl0, k.slots.length ≤ 1048576) → ∀ (w' : World) (S S' : Nat → Prop) (A B : Option Addr) (c d : Nat), HIn w' S bl0 A → VIn w' S' vs1 B → Calls Try.prog 9 #[hpV A bl0.length c, .slice B vs1.length d] w' (RfQ w' (refsOf bl0 vs1))) := Lib.hid (fun h1 h2 h3 w' S S' A B c d ha hb => countRefs_i bl0 A c vs1 B d w' S S' ha hb h1 h2 h3)
  have hlr : (refsOf bl0 vs1).length = L0 := by unfold refsOf; rw [refsB_len, addR_len, List.length_replicate]; exact HL0.out
  obtain ⟨L1, HL1⟩ : ∃ L, Hid (vs1.length = L) := ⟨_, Lib.hid rfl⟩
  obtain ⟨RR, HRR⟩ : ∃ R, Hid (refsOf bl0 vs1 = R) := ⟨_, Lib.hid rfl⟩
  rw [HRR.out] at hlr CS CI
  unfold VsQ at TV
  unfold RfQ at CS CI
  rw [hlr, HL0.out, HL1.out] at CS CI
  rw [HL1.out] at SZ1 TV EV MV hm1 ⊢
  rw [HL0.out] at MH
  unfold maxLen at hm1
  have HRL := Lib.hid hlr
  clear hh0 hr1 hc0 hlr
  go_enter Try.func3, Try.ntmps3
  go_wp2_with (fail)
  refine (SZ0.out _ (HH0.out.below (b1 _ _)) 1048576 (by omega) (by omega)).mono ?_
  rintro e w0 ⟨r0, rfl, ⟨ha0, hb0, hc0⟩, hw0⟩
  have Ea0 := Lib.hid (carry hw0 (heap_alloc_new w _))
  have HB := Lib.hid (bs (b1 w _) hw0)
  have HQ0 := Lib.hid hc0
  clear hw0 hc0
  by_cases hlt0 : r0 < 0
  · go_wp2_with (fail)
    go_ret
    exact ⟨rfl, HB.out⟩
  go_wp2_with (fail)
  refine (SZ1.out _ (HR1.out.below HB.out) r0 (by omega) (by omega)).mono ?_
  rintro e w1 ⟨r1, rfl, ⟨ha1, hb1, hc1⟩, hw1⟩
  replace Ea0 := Lib.hid (carry hw1 Ea0.out)
  replace HB := Lib.hid (bs HB.out hw1)
  have HQ1 := Lib.hid hc1
  clear hw1 hc1 SZ0 SZ1
  by_cases hlt1 : r1 < 0
  · go_wp2_with (fail)
    go_ret
    exact ⟨rfl, HB.out⟩
  have HSUM : Hid ((L0 + totB bl0) + (L1 + tll vs1) ≤ 1048576) := Lib.hid (by have q0 := HQ0.out (by omega); have q1 := HQ1.out (by omega); omega)
  have hbT : L0 + totB bl0 ≤ 1048576 := by have := HSUM.out; omega
  have TH := Lib.hid (TH.out (by omega))
  have HKB : Hid (∀ k ∈ bl0, k.heads.length ≤ 1048576 ∧ k.slots.length ≤ 1048576) := Lib.hid (fun k hk => by have := totB_le hk; unfold szB at this; exact ⟨by omega, by omega⟩)
  have EH := Lib.hid (EH.out (fun k hk => by have := (HKB.out k hk).1; omega))
  have TV := Lib.hid (TV.out (fun t ht => by have := tll_mem ht; have := HSUM.out; omega) (by have := HSUM.out; omega))
  have EV := Lib.hid (EV.out (by have := HSUM.out; omega))
  have CS := Lib.hid (CS.out (by omega) (by have := HSUM.out; omega) (fun k hk => (HKB.out k hk).2))
  have CI := Lib.hid (CI.out (by omega) (by have := HSUM.out; omega) (fun k hk => (HKB.out k hk).2))
  have HCB : Hid ((1 : Int) + cB bl0 ≤ 10000000) := Lib.hid (by have h1 := HF0.out; rw [HL0.out] at h1; omega)
  have MH := Lib.hid (fun w' g hi ow h => MH.out w' g hi ow h (by omega) (by have := HCB.out; omega))
  obtain ⟨P0, HP0⟩ : ∃ P : Int, Hid (1 + (cB bl0 : Int) = P) := ⟨_, Lib.hid rfl⟩
  rw [HP0.out] at MH HCB
  have hP0 : 1 ≤ P0 ∧ P0 ≤ 10000000 := ⟨by rw [← HP0.out]; omega, HCB.out⟩
  have HCV : Hid (7 * (cnts vs1 : Int) ≤ 100000000) := Lib.hid (by have h1 := cnts_tll vs1 HF1.out; have := HSUM.out; rw [HL1.out] at h1; omega)
  have MV := Lib.hid (MV.out P0 hP0.1 (by have := HCV.out; omega))
  have hL0 : L0 ≤ 1048576 := by omega
  have hL1 : L1 ≤ 1048576 := by have := HSUM.out; omega
  clear HQ0 HQ1 HF0 HF1 hm1
  have za00 : w1.cell? ⟨w.heap.size, 0, none⟩ = some (.slice A0 L0 c0) := (rowc Ea0.out).1 0
  go_wp2_with (fail)
  refine (TH.out _ (HH0.out.below HB.out)).mono ?_
  rintro e w2 ⟨g2, ow2, hg2, rfl, hl2, hb⟩
  clear za00
  have HX := Lib.hid (hl2.hin HLI.out)
  clear hl2 hg2
  replace Ea0 := Lib.hid (carry hb Ea0.out)
  replace HB := Lib.hid (bs HB.out hb)
  clear hb
  go_wp2_with (fail)
  refine (TV.out _ (HR1.out.below HB.out)).mono ?_
  rintro e w3 ⟨v3, rfl, hv3, hgv3, hb⟩
  have HV := Lib.hid hv3
  clear hv3 hgv3
  replace Ea0 := Lib.hid (carry hb Ea0.out)
  replace HX := Lib.hid (HX.out.below hb)
  replace HB := Lib.hid (bs HB.out hb)
  clear hb
  go_wp2_with (fail)
  refine (CS.out _ _ _ _ _ _ _ HX.out HV.out).mono ?_
  rintro e w4 ⟨Am, cm, rfl, hom, hb⟩
  have HM := Lib.hid hom
  have HMB : Hid (∀ q, (Value.slice Am L0 cm).ownBlock = some q → w.heap.size < q) := Lib.hid (fun q e => Nat.lt_of_lt_of_le (Array.getElem?_eq_some_iff.1 Ea0.out).1 (hom.block q e).1)
  replace Ea0 := Lib.hid (carry hb Ea0.out)
  replace HB := Lib.hid (bs HB.out hb)
  clear hb hom HX HV
  obtain ⟨lo, HLO⟩ : ∃ q, Hid (w4.heap.size = q) := ⟨_, Lib.hid rfl⟩
  have HMQ : Hid (∀ q, (Value.slice Am L0 cm).ownBlock = some q → q < lo) := Lib.hid (fun q e => by rw [← HLO.out]; exact (HM.out.block q e).2)
  have HPa : Hid (w.heap.size < lo) := Lib.hid (by rw [← HLO.out]; exact (Array.getElem?_eq_some_iff.1 Ea0.out).1)
  have za00 : w4.cell? ⟨w.heap.size, 0, none⟩ = some (.slice A0 L0 c0) := (rowc Ea0.out).1 0
  go_wp2_with (fail)
  refine (TH.out _ (HH0.out.below HB.out)).mono ?_
  rintro e w5 ⟨gx, owx, hgx, rfl, hlx, hb⟩
  clear za00
  have HX0 := Lib.hid hlx
  obtain ⟨hi, HHI⟩ : ∃ q, Hid (w5.heap.size = q) := ⟨_, Lib.hid rfl⟩
  rw [HHI.out] at HX0
  have HPx : Hid (lo ≤ gx) := Lib.hid (by rw [← HLO.out]; exact hgx)
  clear hlx hgx
  replace Ea0 := Lib.hid (carry hb Ea0.out)
  replace HM := Lib.hid (HM.out.below hb)
  replace HB := Lib.hid (bs HB.out hb)
  clear hb
  go_upto_region 10 with fail
  obtain ⟨Nb, HNb⟩ : ∃ N, Hid (w5.heap.size = N) := ⟨_, Lib.hid rfl⟩
  generalize hwn : w5.alloc (.cells #[.slice (some ⟨gx, 0, none⟩) L0 L0] IH) = w6
  have hbx : Below w5.heap.size w5 w6 := hwn ▸ b1 _ _
  have Eb : Hid (w6.heap[Nb]? = some (.cells #[.slice (some ⟨gx, 0, none⟩) L0 L0] IH (0, 0))) := Lib.hid (by rw [← hwn, ← HNb.out]; exact heap_alloc_new _ _)
  rw [HNb.out]
  replace Ea0 := Lib.hid (carry hbx Ea0.out)
  replace HM := Lib.hid (HM.out.below hbx)
  replace HX0 := Lib.hid (HX0.out.below hbx)
  replace HB := Lib.hid (bs HB.out hbx)
  have HPh : Hid (hi ≤ Nb) := Lib.hid (by rw [← HNb.out, ← HHI.out]; exact Nat.le_refl _)
  have HPg : Hid (gx < hi) := Lib.hid (by obtain ⟨_, _, _, h, _⟩ := HX0.out; exact h)
  have HPb : Hid (Nb < w6.heap.size) := Lib.hid (Array.getElem?_eq_some_iff.1 Eb.out).1
  clear hwn hbx
  go_wp2_with (fail)
  refine (TV.out _ (HR1.out.below HB.out)).mono ?_
  rintro e w7 ⟨vy, rfl, hvy, hgvy, hb⟩
  obtain ⟨W1, HW1⟩ : ∃ q, Hid (w7.heap.size = q) := ⟨_, Lib.hid rfl⟩
  have HX1 : Hid (VIn w7 (Sx vy W1 w7) vs1 (some ⟨vy, 0, none⟩)) := Lib.hid (hvy.stays (fun b h => ⟨h.1, by rw [← HW1.out]; exact h.2.lt, h.2⟩) fun _ _ _ => rfl)
  have HPy : Hid (Nb < vy) := Lib.hid (Nat.lt_of_lt_of_le HPb.out hgvy)
  have HPw : Hid (Nb < W1) := Lib.hid (by rw [← HW1.out]; exact Nat.lt_of_lt_of_le HPb.out hb.size)
  clear hvy hgvy HPb
  replace Ea0 := Lib.hid (carry hb Ea0.out)
  replace Eb := Lib.hid (carry hb Eb.out)
  replace HM := Lib.hid (HM.out.below hb)
  replace HX0 := Lib.hid (HX0.out.below hb)
  replace HB := Lib.hid (bs HB.out hb)
  clear hb
  have zb0 : w7.cell? ⟨Nb, 0, none⟩ = some (.slice (some ⟨gx, 0, none⟩) L0 L0) := (rowc Eb.out).1 0
  go_wp2_with (fail)
  refine (CI.out _ _ _ _ _ _ _ (HX0.out.hin HLI.out) HX1.out).mono ?_
  rintro e w8 ⟨Ag, cg, rfl, hog, hb⟩
  rw [HW1.out] at hog
  have HG := Lib.hid hog
  clear hog
  clear zb0
  replace Ea0 := Lib.hid (carry hb Ea0.out)
  replace Eb := Lib.hid (carry hb Eb.out)
  replace HM := Lib.hid (HM.out.below hb)
  replace HX0 := Lib.hid (HX0.out.below hb)
  replace HX1 := Lib.hid (vin_sx HX1.out fun b _ _ hl => Below.block hb b hl)
  replace HB := Lib.hid (bs HB.out hb)
  clear hb
  go_wp2_with (fail)
  refine (ints.eqInts _ _ L0 _ _ RR (by omega) _ HG.out.rd HM.out.rd).mono ?_
  rintro e w9 ⟨rfl, hg⟩
  have hb := mem.below_of_none hg
  replace Ea0 := Lib.hid (carry hb Ea0.out)
  replace Eb := Lib.hid (carry hb Eb.out)
  replace HM := Lib.hid (HM.out.below hb)
  replace HX0 := Lib.hid (HX0.out.below hb)
  replace HX1 := Lib.hid (vin_sx HX1.out fun b _ _ hl => Below.block hb b hl)
  replace HG := Lib.hid (HG.out.below hb)
  replace HB := Lib.hid (bs HB.out hb)
  clear hb hg
  have zb0 : w9.cell? ⟨Nb, 0, none⟩ = some (.slice (some ⟨gx, 0, none⟩) L0 L0) := (rowc Eb.out).1 0
  have za00 : w9.cell? ⟨w.heap.size, 0, none⟩ = some (.slice A0 L0 c0) := (rowc Ea0.out).1 0
  go_wp2_with (fail)
  go_region_held3 (fun w' => w'.cell? ⟨Nb, 0, none⟩ = some (.slice (some ⟨gx, 0, none⟩) L0 L0) ∧ w'.cell? ⟨w.heap.size, 0, none⟩ = some (.slice A0 L0 c0)) (first | with_reducible exact ⟨zb0, za00⟩ | with_reducible exact ⟨drc (alc zb0), drc (alc za00)⟩ | with_reducible exact ⟨drc zb0, drc za00⟩ | with_reducible exact ⟨alc zb0, alc za00⟩ | with_reducible exact ⟨alc (drc zb0), alc (drc za00)⟩ | go_keep) (first
    | (go_at_call 7; refine (TH.out _ (HH0.out.below (by first | exact HB.out | exact HB.out.trans ((Below.refl _ _).drew)))).mono ?_
       rintro e w10 ⟨gq, owq, hgq, rfl, hlq, hb⟩
       have hbx : Below w9.heap.size w9 w10 := by first | exact hb | exact bs ((Below.refl _ _).drew) hb
       have HQ := Lib.hid (hlq.hin HLI.out)
       clear hlq hgq
       replace Ea0 := Lib.hid (carry hbx Ea0.out)
       replace Eb := Lib.hid (carry hbx Eb.out)
       replace HM := Lib.hid (HM.out.below hbx)
       replace HX0 := Lib.hid (HX0.out.below hbx)
       replace HX1 := Lib.hid (vin_sx HX1.out fun b _ _ hl => Below.block hbx b hl)
       replace HG := Lib.hid (HG.out.below hbx)
       replace HB := Lib.hid (bs HB.out hbx)
       have zb0 : w10.cell? ⟨Nb, 0, none⟩ = some (.slice (some ⟨gx, 0, none⟩) L0 L0) := (rowc Eb.out).1 0
       have za00 : w10.cell? ⟨w.heap.size, 0, none⟩ = some (.slice A0 L0 c0) := (rowc Ea0.out).1 0
       clear hb hbx)
    | (go_at_call 11; refine (EH.out _ _ _ _ _ _ _ (by first | exact HX0.out.hin HLI.out | exact (HX0.out.hin HLI.out).below ((Below.refl _ _).drew)) (by first | exact HQ.out | exact HQ.out.below ((Below.refl _ _).drew))).mono ?_
       rintro e w11 ⟨rfl, hb⟩
       have hbx : Below w10.heap.size w10 w11 := by first | exact hb | exact bs ((Below.refl _ _).drew) hb
       replace Ea0 := Lib.hid (carry hbx Ea0.out)
       replace Eb := Lib.hid (carry hbx Eb.out)
       replace HM := Lib.hid (HM.out.below hbx)
       replace HX0 := Lib.hid (HX0.out.below hbx)
       replace HX1 := Lib.hid (vin_sx HX1.out fun b _ _ hl => Below.block hbx b hl)
       replace HG := Lib.hid (HG.out.below hbx)
       replace HQ := Lib.hid (HQ.out.below hbx)
       replace HB := Lib.hid (bs HB.out hbx)
       have zb0 : w11.cell? ⟨Nb, 0, none⟩ = some (.slice (some ⟨gx, 0, none⟩) L0 L0) := (rowc Eb.out).1 0
       have za00 : w11.cell? ⟨w.heap.size, 0, none⟩ = some (.slice A0 L0 c0) := (rowc Ea0.out).1 0
       clear hb hbx))
  clear HQ
  clear zb0 za00
  go_wp2_with (fail)
  refine (TV.out _ (HR1.out.below HB.out)).mono ?_
  rintro e w12 ⟨vq, rfl, hvq, hgvq, hb⟩
  have HQ := Lib.hid hvq
  clear hvq hgvq
  replace Ea0 := Lib.hid (carry hb Ea0.out)
  replace Eb := Lib.hid (carry hb Eb.out)
  replace HM := Lib.hid (HM.out.below hb)
  replace HX0 := Lib.hid (HX0.out.below hb)
  replace HX1 := Lib.hid (vin_sx HX1.out fun b _ _ hl => Below.block hb b hl)
  replace HG := Lib.hid (HG.out.below hb)
  replace HB := Lib.hid (bs HB.out hb)
  clear hb
  go_wp2_with (fail)
  refine (EV.out _ _ _ _ _ _ _ HX1.out HQ.out).mono ?_
  rintro e w13 ⟨rfl, hb⟩
  replace Ea0 := Lib.hid (carry hb Ea0.out)
  replace Eb := Lib.hid (carry hb Eb.out)
  replace HM := Lib.hid (HM.out.below hb)
  replace HX0 := Lib.hid (HX0.out.below hb)
  replace HX1 := Lib.hid (vin_sx HX1.out fun b _ _ hl => Below.block hb b hl)
  replace HG := Lib.hid (HG.out.below hb)
  replace HB := Lib.hid (bs HB.out hb)
  clear hb HQ
  have zb0 : w13.cell? ⟨Nb, 0, none⟩ = some (.slice (some ⟨gx, 0, none⟩) L0 L0) := (rowc Eb.out).1 0
  go_wp2_with (fail)
  refine (MH.out _ _ _ _ HX0.out).mono ?_
  rintro e w14 ⟨rfl, hf⟩
  clear zb0
  replace Ea0 := Lib.hid ((hf.block _ (Array.getElem?_eq_some_iff.1 Ea0.out).1 (fun hb => by have hb1 := hb.1; have hb2 := hb.2; have o0 := HPa.out; have o1 := HPx.out; have o2 := HPh.out; have o3 := HPg.out; have o4 := HPy.out; have o5 := HPw.out; omega)).trans Ea0.out)
  replace Eb := Lib.hid ((hf.block _ (Array.getElem?_eq_some_iff.1 Eb.out).1 (fun hb => by have hb1 := hb.1; have hb2 := hb.2; have o0 := HPa.out; have o1 := HPx.out; have o2 := HPh.out; have o3 := HPg.out; have o4 := HPy.out; have o5 := HPw.out; omega)).trans Eb.out)
  replace HM := Lib.hid (owni_own HM.out fun q e hl => hf.block q hl (fun hb => by have m1 := HMQ.out q e; have hb1 := hb.1; have hb2 := hb.2; have o0 := HPa.out; have o1 := HPx.out; have o2 := HPh.out; have o3 := HPg.out; have o4 := HPy.out; have o5 := HPw.out; omega))
  replace HG := Lib.hid (owni_own HG.out fun q e hl => hf.block q hl (fun hb => by have m1 := (HG.out.block q e).1; have hb1 := hb.1; have hb2 := hb.2; have o0 := HPa.out; have o1 := HPx.out; have o2 := HPh.out; have o3 := HPg.out; have o4 := HPy.out; have o5 := HPw.out; omega))
  replace HX1 := Lib.hid (vin_sx HX1.out fun q h1 h2 hl => hf.block q hl (fun hb => by have hb1 := hb.1; have hb2 := hb.2; have o0 := HPa.out; have o1 := HPx.out; have o2 := HPh.out; have o3 := HPg.out; have o4 := HPy.out; have o5 := HPw.out; omega))
  replace HB := Lib.hid (Below.fr HB.out (Nat.le_refl _) hf (fun b hb => by have hb1 := hb.1; have hb2 := hb.2; have o0 := HPa.out; have o1 := HPx.out; have o2 := HPh.out; have o3 := HPg.out; have o4 := HPy.out; have o5 := HPw.out; omega))
  clear hf HX0
  go_wp2_with (fail)
  refine (MV.out _ _ _ _ HX1.out (fun b hb => hb.2.2)).mono ?_
  rintro e w15 ⟨p1, rfl, hp1, hp2, hs⟩
  have hf := hs.fr
  replace hp2 : p1 ≤ 200000000 := by have := HCV.out; omega
  replace Ea0 := Lib.hid ((hf.block _ (Array.getElem?_eq_some_iff.1 Ea0.out).1 (fun hb => by have hb1 := hb.1; have hb2 := hb.2.1; have o0 := HPa.out; have o1 := HPx.out; have o2 := HPh.out; have o3 := HPg.out; have o4 := HPy.out; have o5 := HPw.out; omega)).trans Ea0.out)
  replace Eb := Lib.hid ((hf.block _ (Array.getElem?_eq_some_iff.1 Eb.out).1 (fun hb => by have hb1 := hb.1; have hb2 := hb.2.1; have o0 := HPa.out; have o1 := HPx.out; have o2 := HPh.out; have o3 := HPg.out; have o4 := HPy.out; have o5 := HPw.out; omega)).trans Eb.out)
  replace HM := Lib.hid (owni_own HM.out fun q e hl => hf.block q hl (fun hb => by have m1 := HMQ.out q e; have hb1 := hb.1; have hb2 := hb.2.1; have o0 := HPa.out; have o1 := HPx.out; have o2 := HPh.out; have o3 := HPg.out; have o4 := HPy.out; have o5 := HPw.out; omega))
  replace HG := Lib.hid (owni_own HG.out fun q e hl => hf.block q hl (fun hb => by have m1 := (HG.out.block q e).1; have hb1 := hb.1; have hb2 := hb.2.1; have o0 := HPa.out; have o1 := HPx.out; have o2 := HPh.out; have o3 := HPg.out; have o4 := HPy.out; have o5 := HPw.out; omega))
  replace HB := Lib.hid (Below.fr HB.out (Nat.le_refl _) hf (fun b hb => by have hb1 := hb.1; have hb2 := hb.2.1; have o0 := HPa.out; have o1 := HPx.out; have o2 := HPh.out; have o3 := HPg.out; have o4 := HPy.out; have o5 := HPw.out; omega))
  clear hs hf HX1
  go_wp2_with (fail)
  refine (ints.eqInts _ _ L0 _ _ RR (by omega) _ HG.out.rd HM.out.rd).mono ?_
  rintro e w16 ⟨rfl, hg⟩
  have hb := mem.below_of_none hg
  replace Ea0 := Lib.hid (carry hb Ea0.out)
  replace Eb := Lib.hid (carry hb Eb.out)
  replace HM := Lib.hid (HM.out.below hb)
  replace HG := Lib.hid (HG.out.below hb)
  replace HB := Lib.hid (bs HB.out hb)
  clear hb hg
  go_wp2_with (fail)
  refine (markIntsX Ag L0 cg W1 RR _ HG.out hL0 1 (by omega) (by omega)).mono ?_
  rintro e w17 ⟨rfl, hf, l2, ho2, hfr2⟩
  replace Ea0 := Lib.hid ((hf.block _ (Array.getElem?_eq_some_iff.1 Ea0.out).1 (fun hb => by have m2 := (HG.out.block _ hb).1; have o0 := HPa.out; have o1 := HPx.out; have o2 := HPh.out; have o3 := HPg.out; have o4 := HPy.out; have o5 := HPw.out; omega)).trans Ea0.out)
  replace Eb := Lib.hid ((hf.block _ (Array.getElem?_eq_some_iff.1 Eb.out).1 (fun hb => by have m2 := (HG.out.block _ hb).1; have o0 := HPa.out; have o1 := HPx.out; have o2 := HPh.out; have o3 := HPg.out; have o4 := HPy.out; have o5 := HPw.out; omega)).trans Eb.out)
  replace HM := Lib.hid (owni_own HM.out fun q e hl => hf.block q hl (fun hb => by have m1 := HMQ.out q e; have m2 := (HG.out.block _ hb).1; have o0 := HPa.out; have o1 := HPx.out; have o2 := HPh.out; have o3 := HPg.out; have o4 := HPy.out; have o5 := HPw.out; omega))
  replace HB := Lib.hid (Below.fr HB.out (Nat.le_refl _) hf (fun b hb => by have m2 := (HG.out.block _ hb).1; have o0 := HPa.out; have o1 := HPx.out; have o2 := HPh.out; have o3 := HPg.out; have o4 := HPy.out; have o5 := HPw.out; omega))
  replace HG := Lib.hid ho2
  have HFR := Lib.hid hfr2
  clear hf ho2 hfr2
  go_wp2_with (fail)
  refine (heldInts Ag L0 cg l2 _ HG.out.rd hL0 1 HFR.out (by omega) (by omega)).mono ?_
  rintro e w18 ⟨rfl, hb⟩
  replace Ea0 := Lib.hid (carry hb Ea0.out)
  replace Eb := Lib.hid (carry hb Eb.out)
  replace HM := Lib.hid (HM.out.below hb)
  replace HG := Lib.hid (HG.out.below hb)
  replace HB := Lib.hid (bs HB.out hb)
  clear hb
  have za00 : w18.cell? ⟨w.heap.size, 0, none⟩ = some (.slice A0 L0 c0) := (rowc Ea0.out).1 0
  go_wp2_with (fail)
  refine (TH.out _ (HH0.out.below HB.out)).mono ?_
  rintro e w19 ⟨g3, ow3, hg3, rfl, hl3, hb⟩
  clear za00
  have HX := Lib.hid (hl3.hin HLI.out)
  clear hl3 hg3
  replace Ea0 := Lib.hid (carry hb Ea0.out)
  replace Eb := Lib.hid (carry hb Eb.out)
  replace HM := Lib.hid (HM.out.below hb)
  replace HG := Lib.hid (HG.out.below hb)
  replace HB := Lib.hid (bs HB.out hb)
  clear hb
  go_wp2_with (fail)
  refine (TV.out _ (HR1.out.below HB.out)).mono ?_
  rintro e w20 ⟨v4, rfl, hv4, hgv4, hb⟩
  have HV := Lib.hid hv4
  clear hv4 hgv4
  replace Ea0 := Lib.hid (carry hb Ea0.out)
  replace Eb := Lib.hid (carry hb Eb.out)
  replace HM := Lib.hid (HM.out.below hb)
  replace HG := Lib.hid (HG.out.below hb)
  replace HX := Lib.hid (HX.out.below hb)
  replace HB := Lib.hid (bs HB.out hb)
  clear hb
  go_wp2_with (fail)
  refine (CI.out _ _ _ _ _ _ _ HX.out HV.out).mono ?_
  rintro e w21 ⟨Ah, ch, rfl, hoh, hb⟩
  have HH := Lib.hid hoh
  replace Ea0 := Lib.hid (carry hb Ea0.out)
  replace Eb := Lib.hid (carry hb Eb.out)
  replace HM := Lib.hid (HM.out.below hb)
  replace HG := Lib.hid (HG.out.below hb)
  replace HB := Lib.hid (bs HB.out hb)
  clear hb hoh HX HV
  go_wp2_with (fail)
  refine (ints.eqInts _ _ L0 _ _ RR (by omega) _ HH.out.rd HM.out.rd).mono ?_
  rintro e w22 ⟨rfl, hg⟩
  have hb := mem.below_of_none hg
  replace Ea0 := Lib.hid (carry hb Ea0.out)
  replace Eb := Lib.hid (carry hb Eb.out)
  replace HM := Lib.hid (HM.out.below hb)
  replace HG := Lib.hid (HG.out.below hb)
  replace HH := Lib.hid (HH.out.below hb)
  replace HB := Lib.hid (bs HB.out hb)
  clear hb hg
  go_wp2_with (fail)
  refine (heldInts Ag L0 cg l2 _ HG.out.rd hL0 1 HFR.out (by omega) (by omega)).mono ?_
  rintro e w23 ⟨rfl, hb⟩
  replace Ea0 := Lib.hid (carry hb Ea0.out)
  replace Eb := Lib.hid (carry hb Eb.out)
  replace HM := Lib.hid (HM.out.below hb)
  replace HG := Lib.hid (HG.out.below hb)
  replace HH := Lib.hid (HH.out.below hb)
  replace HB := Lib.hid (bs HB.out hb)
  clear hb
  go_wp2_with (fail)
  go_ret
  exact ⟨rfl, HB.out⟩

set_option maxRecDepth 100000 in
theorem lifted (os : Os) (started : os.Started) (H : Type) (enc : TypeId × Value → H) :
    ReturnsInHanded {} Try.checked os 3 .any (Rows.fnExactCountRefsSpec.pre6 enc Try.prog Try.f3 Rows.fnExactCountRefsRow.domain false) (Rows.fnExactCountRefsSpec.post enc Try.prog Try.f3 false true false false) := by
  refine returnsInHanded_of_change (C := Try.checked) own started (by kernel_rfl) Try.func3
    (ChangeSpec.witness6 (enc := enc) (C := Try.checked) false ⟨#[], #[.agg #[.slice none 0 0], .slice none 0 0], []⟩ 8 (by kernel_rfl) (by kernel_rfl) (by kernel_rfl) (by kernel_rfl)) ?_
  intro W base args ds gs before hval0 hW hcnd _
  have hval : ∀ (j : Nat) t v, Try.f3.params[j]? = some t → args[j]? = some v → Value.okWide Try.prog W .any base t v := hval0
  have hW' := hW
  obtain ⟨p, q, hA0, hV, rfl, hfz, hnd⟩ := hW
  have hA : DataW.TrodAll enc Try.prog W 0 (fun _ => true) true Try.f3.params.toList args.toList ds p := hA0
  have hA2 := hA
  rw [Try.params3] at hA hval
  obtain ⟨v0, vs0, d0, ds0, p0, q0, hargs, rfl, rfl, h0, r0⟩ := trodAll_cons hA
  obtain ⟨v1, vs1, d1, ds1, p1, q1, rfl, rfl, rfl, h1, r1⟩ := trodAll_cons r0
  obtain ⟨rfl, rfl, rfl⟩ := trodAll_nil r1
  obtain rfl : args = #[v0, v1] := by cases args; simp_all
  obtain ⟨rfl, rfl⟩ := trodVars_none hV
  obtain ⟨A0, c0, bl0, rfl, hc0, hh0⟩ := open_heap (hval 0 24 v0 rfl rfl) h0
  obtain ⟨A1, c1, vs1, rfl, hc1, hr1⟩ := open_values (hval 1 25 v1 rfl rfl) h1
  clear hA0 hval0
  simp only [List.append_nil] at hW' hA2
  refine (walk bl0 A0 c0 vs1 A1 c1 W hh0 hc0 hr1 (Nat.le_trans hc1.1 hc1.2)).mono fun e W' ⟨he, hb⟩ => ?_
  subst he
  exact ⟨_, rfl, opn.post_true hW' rfl hA2 rfl rfl Try.underlying4 (by kernel_rfl) (by kernel_rfl) hb⟩

theorem over : Rows.fnExactCountRefsRow.holds Try.pinned (OpenSpec.ofChange Rows.fnExactCountRefsSpec) :=
  OpenClaim.holds_of_wide 3 Try.f3 rfl rfl rfl rfl rfl rfl rfl ⟨rfl, rfl, rfl, rfl, rfl⟩ rfl rfl rfl rfl rfl (by kernel_rfl) Try.func3 (by kernel_rfl)
    (of_decide_eq_true (by kernel_rfl)) (by unfold Func.isWrapper; first | (rw [if_pos (by decide +kernel)]; kernel_rfl) | (rw [if_neg (by decide +kernel)]; exact ⟨rfl, rfl⟩))
    (fun os started H enc _ => lifted os started H enc)

/-- The statement. -/
theorem proved : Rows.FnExactCountRefsSaid :=
  over
#print axioms proved
end Go.Proofs.Ytbgffmiffmmohaa.fnExactCountRefs

