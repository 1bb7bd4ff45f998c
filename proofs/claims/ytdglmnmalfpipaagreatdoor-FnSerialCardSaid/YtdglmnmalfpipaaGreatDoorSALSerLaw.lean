/-
  For all bytes the law FnSerial returns true: plain values are read from their text, and a text that is read is the text of its value.
  Conditions: the argument is of Go's type; the package variables that the row lists hold what the program's text lays, and the card ties that to the text.
-/
import Derived.Test.YtdglmnmalfpipaaGreatDoorRows
import Derived.Test.YtdglmnmalfpipaaGreatDoorCards
import Derived.Test.YtdglmnmalfpipaaGreatDoorTie
import Derived.LaidMore
import Derived.LaidHandle
import Derived.Stop.Joined
import Derived.SevenTiedAt
import Derived.Stop.LaidErr
import Derived.SizedLaws
import Derived.Deep.RegionWith
import Derived.Deep.RegionHeld3
import Derived.Deep.DeepCutAuto
import Derived.BigQuiet
import Derived.Deep.QuietTactic
import Derived.WalkKit
import Derived.ProofKit
import Derived.OpenShut
import Derived.Test.YtdglmnmalfpipaaGreatDoorSAB5
import Derived.Test.YtdglmnmalfpipaaGreatDoorSAB6
import Derived.Test.YtdglmnmalfpipaaGreatDoorSASIsPlain
import Derived.Test.YtdglmnmalfpipaaGreatDoorSASValidS
import Derived.Test.YtdglmnmalfpipaaGreatDoorSASSame
import Derived.Test.YtdglmnmalfpipaaGreatDoorSASDrawSe
import Derived.Test.YtdglmnmalfpipaaGreatDoorSAB1
import Derived.Test.YtdglmnmalfpipaaGreatDoorSAB2
import Derived.Test.YtdglmnmalfpipaaGreatDoorSAB3
namespace Go.Proofs.YtdglmnmalfpipaaGreatDoor.fnSerial
open Go.ChangeShapes Go.WideShapes Go.ChangeAt Go.RowKit mem tree
open Go.ChangeMaps (open_string)
set_option linter.unusedVariables false

theorem own : ownKnob Tryz.prog.godebug = none := by kernel_rfl

theorem bigNo (A : Option Addr) (n c : Nat) (h : (n : Int) ≤ 1048576) (w : World) :
    Calls Tryz.prog 11 #[.slice A n c] w fun e w' => e = .returned (.bool false) ∧ w = w' := by
  have hd : decide ((1048576 : Int) < (n : Int)) = false := by rw [decide_eq_false_iff_not]; omega
  go_enter Tryz.func11, Tryz.ntmps11
  go_wp2
  go_ret
  exact ⟨rfl, rfl⟩
def CutY (W : World) (b : Bool) (v : Value) (wx : World) : Prop := v = .bool b ∧ Below W.heap.size W wx
theorem un_tot (l : List UInt8) : tot (unT l) ≤ l.length := by
  unfold unT
  cases h : unP l with
  | none => exact Nat.zero_le _
  | some t =>
    obtain ⟨⟨u, r, W⟩, h1, h2⟩ := Option.bind_eq_some_iff.1 h
    have := rdP_tot _ _ _ _ _ _ h1
    by_cases hc : r = [] ∧ valB u = true
    · simp only [hc, and_self, if_true] at h2
      injection h2 with h2
      rw [← h2]
      simp only [Option.getD_some]
      omega
    · simp only at h2
      rw [if_neg hc] at h2
      cases h2
/-- What is written of a good value is read as it. -/
theorem un_ser {t : Tr} (h : seB t = true) (hf : fits t) : unB (seL t) = true ∧ unT (seL t) = t := by
  have h' := h
  unfold seB at h'
  rw [Bool.and_eq_true] at h'
  have e : unP (seL t) = some t := unP_iff.2 ⟨by unfold seL; rw [if_pos h], h'.1, h'.2, hf⟩
  unfold unB unT
  rw [e]
  exact ⟨rfl, rfl⟩
/-- What is read is what its value is written as. -/
theorem ser_un {l : List UInt8} (h : unB l = true) : seB (unT l) = true ∧ seL (unT l) = l ∧ valB (unT l) = true ∧ plainB (unT l) = true := by
  unfold unB at h
  cases e : unP l with
  | none => rw [e] at h; cases h
  | some t =>
    have he : unT l = t := by unfold unT; rw [e]; rfl
    obtain ⟨h1, h2, h3, -⟩ := unP_iff.1 e
    have hb : seB t = true := by unfold seB; rw [h2, h3]; rfl
    rw [he]
    exact ⟨hb, by unfold seL; rw [if_pos hb, h1], h2, h3⟩
theorem seL_len {w : World} {S : Nat → Prop} {t : Tr} {v : Value} (h : TIn w S t v) (ht : tot t ≤ 1000) : (seL t).length ≤ 100000 := by
  unfold seL
  split
  · have := ser_len h.wd
    omega
  · exact Nat.zero_le _

set_option maxHeartbeats 8000000 in
set_option maxRecDepth 100000 in
theorem walk (A0 : Option Addr) (n0 c0 : Nat) (l0 : List Int) (w : World) (hn0 : n0 ≤ maxLen) (hr0 : Rd w A0 n0 l0) (hE : prs.Env w) :
    Calls Tryz.prog 5 #[.slice A0 n0 c0] w fun e w' => e = .returned (.bool true) ∧ Below w.heap.size w w' := by
  unfold maxLen at hn0
  by_cases hbig : (1048576 : Int) < (n0 : Int)
  · go_enter Tryz.func5, Tryz.ntmps5
    go_wp2
    go_ret
    exact ⟨rfl, Below.refl _ _⟩
  have HA := Lib.hid hr0
  have HE := Lib.hid hE
  clear hr0 hE
  go_enter Tryz.func5, Tryz.ntmps5
  go_wp2_with (go_at_call 11; refine (bigNo A0 n0 c0 (by omega) _).mono ?_; rintro e w0 ⟨rfl, rfl⟩)
  refine (draw.drawSerialize A0 n0 c0 (by omega) _ (draw.code_of_rd HA.out)).mono ?_
  rintro e w1 ⟨v, t, rfl, hT, ht, hb1⟩
  have hft := hT.fits
  have hll := seL_len hT ht
  have hTN : TIn w1 (Nw 0 w1) t v := hT.stays (fun b hb => ⟨Nat.zero_le _, hb.2⟩) (fun _ _ _ => rfl)
  have SE : Hid (∀ w', Below w1.heap.size w1 w' → Calls Tryz.prog 28 #[v] w' (GivesQ w' (seV t))) := Lib.hid (fun w' hb => serialize_i t (by omega) w' 0 v (HE.out.stays (bs hb1 hb)) (hTN.nwb hb))
  have IVS : Hid (∀ w', Below w1.heap.size w1 w' → Calls Tryz.prog 26 #[v] w' (BoQ w' (valB t))) := Lib.hid (fun w' hb => isValue_s t (by omega) w' _ v (HE.out.stays (bs hb1 hb)) (hTN.below' hb))
  have IP : Hid (∀ w', Below w1.heap.size w1 w' → Calls Tryz.prog 30 #[v] w' (GivesQ w' (.bool (plainB t)))) := Lib.hid (fun w' hb => isPlain_s t w' _ v (hTN.below' hb))
  have SA : Hid (∀ w' S' v', Below w1.heap.size w1 w' → TIn w' S' t v' → Calls Tryz.prog 17 #[v', v] w' (GivesQ w' (.bool true))) := Lib.hid (fun w' S' v' hb h => by
    rw [← sameB_same t hft]
    exact same_l t t w' S' _ v' v h (hTN.below' hb))
  have HUS : Hid (seB t = true → unB (seL t) = true ∧ unT (seL t) = t) := Lib.hid (fun h => un_ser h hft)
  have HB1 := Lib.hid hb1
  obtain ⟨L1, HL1⟩ : ∃ l, Hid (seL t = l) := ⟨_, Lib.hid rfl⟩
  obtain ⟨q1, HQ1⟩ : ∃ q, Hid (valB t = q) := ⟨_, Lib.hid rfl⟩
  obtain ⟨q2, HQ2⟩ : ∃ q, Hid (plainB t = q) := ⟨_, Lib.hid rfl⟩
  obtain ⟨sb, HSB⟩ : ∃ q, Hid (seB t = q) := ⟨_, Lib.hid rfl⟩
  have hsb : sb = (q1 && q2) := by rw [← HSB.out, ← HQ1.out, ← HQ2.out]; rfl
  have HSQ := Lib.hid hsb
  rw [HL1.out] at hll
  unfold seV at SE
  rw [HL1.out, HSB.out] at SE HUS
  rw [HQ1.out] at IVS
  rw [HQ2.out] at IP
  have UI : Hid (∀ w', prs.Env w' → Calls Tryz.prog 29 #[.string (bz L1)] w' (UnQ L1 w')) := Lib.hid (fun w' h => unserialize_i L1 (by omega) w' h)
  obtain ⟨k, n, s, x, ks, vs⟩ := t
  obtain ⟨A, c, rfl, -, -⟩ := hTN.out
  obtain ⟨L, HL⟩ : ∃ L, Hid (vs.length = L) := ⟨_, Lib.hid rfl⟩
  rw [HL.out] at SE IVS IP SA ⊢
  obtain ⟨P, HP⟩ : ∃ P, Hid (w1.heap.size = P) := ⟨_, Lib.hid rfl⟩
  clear hT ht hb1 hft hTN hll hsb HL1 HQ1 HQ2 HSB HL
  go_upto_region 4 with fail
  rw [HP.out]
  generalize hw2 : w1.alloc (.cells #[.int .i64 k, .int .i64 n, .string s, .int .i64 x, .slice A L c] IV) = w2
  have E3 : Hid (w2.heap[P]? = some (.cells #[.int .i64 k, .int .i64 n, .string s, .int .i64 x, .slice A L c] IV (0, 0))) := Lib.hid (by rw [← hw2, ← HP.out]; exact heap_alloc_new w1 _)
  have HB2 : Hid (Below w1.heap.size w1 w2) := Lib.hid (hw2 ▸ b1 w1 _)
  clear hw2
  obtain ⟨r3, f3⟩ := rowc E3.out
  go_wp2_with (fail)
  refine (SE.out _ HB2.out).mono ?_
  rintro e w3 ⟨rfl, hb3⟩
  replace E3 := Lib.hid (carry hb3 E3.out)
  replace HB2 := Lib.hid (bs HB2.out hb3)
  clear r3 f3 hb3 SE
  go_wp2_with (fail)
  refine (UI.out _ (HE.out.stays (bs HB1.out HB2.out))).mono ?_
  rintro e w4 ⟨k2, n2, s2, x2, ks2, vs2, A2, c2, rfl, hf, hu, hb4⟩
  obtain ⟨L2, HL2⟩ : ∃ L, Hid (vs2.length = L) := ⟨_, Lib.hid rfl⟩
  rw [HL2.out] at hf ⊢
  obtain ⟨Q, HQ⟩ : ∃ Q, Hid (w4.heap.size = Q) := ⟨_, Lib.hid rfl⟩
  obtain ⟨ub, HUB⟩ : ∃ q, Hid (unB L1 = q) := ⟨_, Lib.hid rfl⟩
  rw [HUB.out] at HUS ⊢
  have HU : Hid (sb = true → ub = true ∧ Tr.mk k2 n2 s2 x2 ks2 vs2 = Tr.mk k n s x ks vs) := Lib.hid (fun h => ⟨(HUS.out h).1, hu.symm.trans (HUS.out h).2⟩)
  have HF := Lib.hid hf.tin
  replace E3 := Lib.hid (carry hb4 E3.out)
  replace HB2 := Lib.hid (bs HB2.out hb4)
  clear hf hu hb4 HUS HUB
  go_upto_region 6 with fail
  rw [HQ.out]
  generalize hw5 : w4.alloc (.cells #[.int .i64 k2, .int .i64 n2, .string s2, .int .i64 x2, .slice A2 L2 c2] IV) = w5
  have hb5 : Below w4.heap.size w4 w5 := hw5 ▸ b1 w4 _
  have E6 : Hid (w5.heap[Q]? = some (.cells #[.int .i64 k2, .int .i64 n2, .string s2, .int .i64 x2, .slice A2 L2 c2] IV (0, 0))) := Lib.hid (by rw [← hw5, ← HQ.out]; exact heap_alloc_new w4 _)
  replace E3 := Lib.hid (carry hb5 E3.out)
  replace HB2 := Lib.hid (bs HB2.out hb5)
  replace HF := Lib.hid (HF.out.below' hb5)
  clear hw5 hb5
  go_cut [47] (fun v wx => CutY w5 false v wx)
  case first =>
    cases q1 with
    | false =>
      obtain rfl : sb = false := HSQ.out
      obtain ⟨r3, f3⟩ := rowc E3.out
      go_wp2_with (fail)
      refine (IVS.out _ HB2.out).mono ?_
      rintro e w6 ⟨rfl, hb6⟩
      have HBY := Lib.hid hb6
      clear hb6 r3 f3
      go_wp2_with (fail)
      go_meet
      exact ⟨rfl, HBY.out⟩
    | true =>
      cases q2 with
      | false =>
        obtain rfl : sb = false := HSQ.out
        obtain ⟨r3, f3⟩ := rowc E3.out
        go_wp2_with (fail)
        refine (IVS.out _ HB2.out).mono ?_
        rintro e w6 ⟨rfl, hb6⟩
        have HBY := Lib.hid hb6
        clear r3 f3
        obtain ⟨r3, f3⟩ := rowc (carry hb6 E3.out)
        clear hb6
        go_wp2_with (fail)
        refine (IP.out _ (bs HB2.out HBY.out)).mono ?_
        rintro e w7 ⟨rfl, hb7⟩
        replace HBY := Lib.hid (bs HBY.out hb7)
        clear hb7 r3 f3
        go_wp2_with (fail)
        go_meet
        exact ⟨rfl, HBY.out⟩
      | true =>
        obtain rfl : sb = true := HSQ.out
        obtain ⟨rfl, e2⟩ := HU.out rfl
        cases e2
        obtain ⟨r3, f3⟩ := rowc E3.out
        go_wp2_with (fail)
        refine (IVS.out _ HB2.out).mono ?_
        rintro e w6 ⟨rfl, hb6⟩
        have HBY := Lib.hid hb6
        clear r3 f3
        obtain ⟨r3, f3⟩ := rowc (carry hb6 E3.out)
        clear hb6
        go_wp2_with (fail)
        refine (IP.out _ (bs HB2.out HBY.out)).mono ?_
        rintro e w7 ⟨rfl, hb7⟩
        replace HBY := Lib.hid (bs HBY.out hb7)
        clear hb7 r3 f3
        obtain ⟨r3, f3⟩ := rowc (carry HBY.out E3.out)
        obtain ⟨r6, f6⟩ := rowc (carry HBY.out E6.out)
        go_wp2_with (fail)
        refine (SA.out _ _ _ (bs HB2.out HBY.out) (HF.out.below' HBY.out)).mono ?_
        rintro e w8 ⟨rfl, hb8⟩
        replace HBY := Lib.hid (bs HBY.out hb8)
        clear hb8 r3 f3 r6 f6
        go_wp2_with (fail)
        go_meet
        exact ⟨rfl, HBY.out⟩
  case rest =>
    obtain ⟨rfl, hbd⟩ := hcut
    have HBW := Lib.hid (bs HB1.out (bs HB2.out hbd))
    clear hbd HB1 HB2 IVS IP SA HU HF E3 E6 UI
    go_wp2_with (fail)
    refine (draw.drawUnserialize A0 n0 c0 (by omega) _ (draw.code_of_rd (HA.out.below HBW.out))).mono ?_
    rintro e w7 ⟨z, rfl, hz, hb7⟩
    obtain ⟨l, HZL⟩ : ∃ l, Hid (z = bz l) := ⟨z.data.toList, Lib.hid (bz_of z).symm⟩
    have hl : l.length ≤ 100000 := by rw [HZL.out] at hz; exact hz
    have US : Hid (∀ w', prs.Env w' → Calls Tryz.prog 29 #[.string z] w' (UnQ l w')) := Lib.hid (fun w' h => by rw [HZL.out]; exact unserialize_i l (by omega) w' h)
    replace HBW := Lib.hid (bs HBW.out hb7)
    clear hb7
    go_wp2_with (fail)
    refine (US.out _ (HE.out.stays HBW.out)).mono ?_
    rintro e w8 ⟨k, n, s, x, ks, vs, A, c, rfl, hf, hu, hb8⟩
    have htt := un_tot l
    rw [hu] at htt
    have hfit := hf.tin.fits
    have hct := cnt_tot _ hfit
    have HSU : Hid (unB l = true → seB (.mk k n s x ks vs) = true ∧ seL (.mk k n s x ks vs) = l ∧ valB (.mk k n s x ks vs) = true ∧ plainB (.mk k n s x ks vs) = true) := Lib.hid (fun h => hu ▸ ser_un h)
    obtain ⟨ub, HUB⟩ : ∃ q, Hid (unB l = q) := ⟨_, Lib.hid rfl⟩
    obtain ⟨L, HL⟩ : ∃ L, Hid (vs.length = L) := ⟨_, Lib.hid rfl⟩
    obtain ⟨Q, HQ⟩ : ∃ Q, Hid (w8.heap.size = Q) := ⟨_, Lib.hid rfl⟩
    rw [HUB.out] at HSU ⊢
    rw [HL.out] at hf ⊢
    have HF := Lib.hid hf.tin
    have HTT := Lib.hid (And.intro htt hct)
    replace HBW := Lib.hid (bs HBW.out hb8)
    clear hf hu hb8 htt hct hfit US
    go_upto_region 10 with fail
    rw [HQ.out]
    generalize hw9 : w8.alloc (.cells #[.int .i64 k, .int .i64 n, .string s, .int .i64 x, .slice A L c] IV) = w9
    have hb9 : Below w8.heap.size w8 w9 := hw9 ▸ b1 w8 _
    have E9 : Hid (w9.heap[Q]? = some (.cells #[.int .i64 k, .int .i64 n, .string s, .int .i64 x, .slice A L c] IV (0, 0))) := Lib.hid (by rw [← hw9, ← HQ.out]; exact heap_alloc_new w8 _)
    replace HBW := Lib.hid (bs HBW.out hb9)
    replace HF := Lib.hid (HF.out.nwb hb9)
    clear hw9 hb9
    obtain ⟨L1, HL1⟩ : ∃ l, Hid (seL (.mk k n s x ks vs) = l) := ⟨_, Lib.hid rfl⟩
    obtain ⟨sb, HSB⟩ : ∃ q, Hid (seB (.mk k n s x ks vs) = q) := ⟨_, Lib.hid rfl⟩
    have SE : Hid (∀ w', Below w9.heap.size w9 w' → Calls Tryz.prog 28 #[vV k n s x A L c] w' (GivesQ w' (.tuple #[.string (bz L1), .bool sb]))) := Lib.hid (fun w' hb => by
      rw [← HL1.out, ← HSB.out]
      exact serialize_i (.mk k n s x ks vs) (by have := HTT.out; omega) w' 0 _ (HE.out.stays (bs HBW.out hb)) (HF.out.nwb hb))
    have IVS : Hid (∀ w', Below w9.heap.size w9 w' → Calls Tryz.prog 32 #[vV k n s x A L c] w' (BoQ w' (valB (.mk k n s x ks vs)))) := Lib.hid (fun w' hb => isValue_i (.mk k n s x ks vs) (by have := HTT.out; omega) w' _ _ (HE.out.stays (bs HBW.out hb)) (HF.out.below' hb))
    have IP : Hid (∀ w', Below w9.heap.size w9 w' → Calls Tryz.prog 33 #[vV k n s x A L c] w' (GivesQ w' (.bool (plainB (.mk k n s x ks vs))))) := Lib.hid (fun w' hb => isPlain_i (.mk k n s x ks vs) _ w' 0 (HF.out.nwb hb) (by have := HTT.out; omega))
    rw [HL1.out, HSB.out] at HSU
    obtain ⟨r9, f9⟩ := rowc E9.out
    clear hl hz HL1 HSB HTT HF
    go_wp2_with (fail)
    refine (SE.out _ (Below.refl _ _)).mono ?_
    rintro e w10 ⟨rfl, hb10⟩
    have HB10 := Lib.hid hb10
    replace E9 := Lib.hid (carry hb10 E9.out)
    clear r9 f9 hb10
    cases ub with
    | false =>
      have HBF := Lib.hid (bs HBW.out HB10.out)
      go_wp2_with (fail)
      go_ret
      exact ⟨rfl, HBF.out⟩
    | true =>
      obtain ⟨rfl, rfl, hv, hp⟩ := HSU.out rfl
      rw [hv] at IVS
      rw [hp] at IP
      have hz : bz L1 = z := HZL.out.symm
      rw [hz]
      clear hv hp
      obtain ⟨r9, f9⟩ := rowc E9.out
      go_wp2_with (fail)
      refine (IVS.out _ HB10.out).mono ?_
      rintro e w11 ⟨rfl, hb11⟩
      have HB11 := Lib.hid (bs HB10.out hb11)
      replace E9 := Lib.hid (carry hb11 E9.out)
      clear r9 f9 hb11
      obtain ⟨r9, f9⟩ := rowc E9.out
      go_wp2_with (fail)
      refine (IP.out _ HB11.out).mono ?_
      rintro e w12 ⟨rfl, hb12⟩
      have HBF := Lib.hid (bs HBW.out (bs HB11.out hb12))
      clear r9 f9 hb12
      go_wp2_with (fail)
      go_ret
      exact ⟨rfl, HBF.out⟩

set_option maxRecDepth 100000 in
theorem lifted (os : Os) (started : os.Started) (H : Type) (enc : TypeId × Value → H) :
    ReturnsInHanded {} Tryz.checked os 5 .any (fun w args => (Rows.fnSerialSpec.pre enc Tryz.prog Tryz.f5 [] false w args ∧ laidMetH Tryz.prog sern.laidOf w) ∧ sizedMet enc Tryz.prog Tryz.f5 (OpenSpec.ofChange Rows.fnSerialSpec) false w args)
      (Rows.fnSerialSpec.post enc Tryz.prog Tryz.f5 false true false false) := by
  refine returnsInHanded_of_change_and (C := Tryz.checked) (X := fun w _ => laidMetH Tryz.prog sern.laidOf w) (fun _ _ _ hh h => h.of_heap hh) own started (by kernel_rfl) Tryz.func5
    (ChangeSpec.witness_shaped (enc := enc) (C := Tryz.checked) (os := os) (X := fun w _ => laidMetH Tryz.prog sern.laidOf w) false (World.doorLaid Tryz.prog 400 os) #[.slice none 0 0] 8 rfl (World.shaped_of_RefB (by kernel_rfl) (by kernel_rfl)) (by kernel_rfl) (by kernel_rfl) (by kernel_rfl) (sern.door_met os _)) ?_
  intro W base args ds gs before hval0 hW _ hsz0 hL _
  have hval : ∀ (j : Nat) t v, Tryz.f5.params[j]? = some t → args[j]? = some v → Value.okWide Tryz.prog W .any base t v := hval0
  have hW' := hW
  obtain ⟨p, q, hA0, hV, rfl, hfz, hnd⟩ := hW
  have hA : DataW.TrodAll enc Tryz.prog W 0 (fun _ => true) true Tryz.f5.params.toList args.toList ds p := hA0
  have hA2 := hA
  rw [Tryz.params5] at hA hval
  obtain ⟨v0, d0, rfl, rfl, h0⟩ := trodAll_one hA
  obtain ⟨rfl, rfl⟩ := trodVars_none hV
  obtain ⟨A0, n0, c0, l0, rfl, hn0, hr0⟩ := opn.open_bytes Tryz.underlying22 Tryz.underlying5 (by kernel_rfl) (hval 0 22 v0 rfl rfl) h0
  clear hA0 hval0
  simp only [List.append_nil] at hW' hA2
  refine (walk A0 n0 c0 l0 W hn0 hr0 (sern.env_of hL)).mono fun e W' ⟨he, hb⟩ => ?_
  subst he
  exact ⟨_, rfl, opn.post_true hW' rfl hA2 rfl rfl Tryz.underlying4 (by kernel_rfl) (by kernel_rfl) hb⟩

theorem over : Rows.FnSerialSaid :=
  OpenClaim.holds_of_wide 5 Tryz.f5 rfl rfl rfl rfl rfl rfl rfl ⟨rfl, rfl, rfl, rfl, rfl⟩ rfl rfl rfl rfl rfl (by kernel_rfl) Tryz.func5 (by kernel_rfl)
    (of_decide_eq_true (by kernel_rfl)) (by unfold Func.isWrapper; first | (rw [if_pos (by decide +kernel)]; kernel_rfl) | (rw [if_neg (by decide +kernel)]; exact ⟨rfl, rfl⟩))
    (fun os started H enc _ => lifted os started H enc)

/-- The statement. -/
theorem proved : Rows.FnSerialCardSaid :=
  Claim7.holds_tied_plain_at .later [] Rows.fnSerialCard.laidKinds true Rows.fnSerialCard.stood.harness Rows.fnSerialCard.stood.looks
    over (fun _ h => by cases h) (by kernel_rfl) (fun _ h => by cases h) fnSerial_row_tie rfl ⟨rfl, rfl⟩ (by kernel_rfl) rfl
    (fun f fn hf hfn => by
      obtain rfl : f = 5 := Option.some.inj ((show Tryz.prog.funcNamed "loop.example/g03011/laws.FnSerial" = some 5 by kernel_rfl).symm.trans hf) |>.symm
      obtain rfl : fn = Tryz.f5 := (Option.some.inj (Tryz.func5.symm.trans hfn)).symm
      exact ⟨by kernel_rfl, fun j t ht => by
        rw [Tryz.params5] at ht
        have hm : t ∈ [22] := by simpa using Array.mem_of_getElem? ht
        have hall : ([22].all fun u => !Tryz.prog.wantsStandIn u) = true := by kernel_rfl
        exact (show Tryz.prog.wantsStandIn t = false by simpa using List.all_eq_true.1 hall t hm)⟩)
    (by kernel_rfl)
#print axioms proved
end Go.Proofs.YtdglmnmalfpipaaGreatDoor.fnSerial

