/-
  IsHeap answers as its model at every heap; it leaves its argument unmodified.
  Conditions: the package variables that the row lists hold what the program's text lays, and the card ties that to the text.
-/
import Derived.Test.YtbgffmiffmmohaaGreatDoorRows
import Derived.Test.YtbgffmiffmmohaaGreatDoorCards
import Derived.Test.YtbgffmiffmmohaaGreatDoorTie
import Derived.LaidMore
import Derived.LaidHandle
import Derived.Stop.Joined
import Derived.SevenTiedAt
import Derived.Stop.LaidErr
import Derived.SizedLaws
import Derived.Deep.RegionHeld3
import Derived.WalkKit
import Derived.ProofKit
import Derived.OpenShut
import Derived.Test.YtbgffmiffmmohaaGreatDoorHcSHeapJ
import Derived.Test.YtbgffmiffmmohaaGreatDoorHcSHeapS
import Derived.Test.YtbgffmiffmmohaaGreatDoorHcB2
import Derived.Test.YtbgffmiffmmohaaGreatDoorHcB4
import Derived.Test.YtbgffmiffmmohaaGreatDoorHcB1
import Derived.Test.YtbgffmiffmmohaaGreatDoorHcSEnvKey
namespace Go.Proofs.YtbgffmiffmmohaaGreatDoor.fnExactIsHeap
open Go.ChangeShapes Go.WideShapes Go.ChangeAt Go.RowKit tree
open Go.ChangeMaps (open_string)
set_option linter.unusedVariables false

theorem own : ownKnob Tryz.prog.godebug = none := by kernel_rfl

theorem totS_key : ∀ {sl : List Sl} {j : Nat} {t : Sl}, sl[j]? = some t → t.key.str.size ≤ totS sl
  | [], j, _, h => by simp at h
  | t0 :: sl, 0, t, h => by
    obtain rfl : t0 = t := by simpa using h
    rw [totS]; omega
  | t0 :: sl, j + 1, t, h => by
    have := totS_key (sl := sl) (j := j) (t := t) (by simpa using h)
    rw [totS]; omega
theorem bkb {bl : List Bk} (h : bl.length + totB bl ≤ 1048576) : BkB bl := fun k hk => by
  have h1 := totB_le hk
  unfold szB at h1
  refine ⟨by omega, by omega, ⟨fun j t ht => ?_, fun j t ht => ?_⟩, fun t ht => ?_⟩
  · have := totS_key ht; omega
  · have := totS_mem ht; omega
  · unfold livV liv at ht
    obtain ⟨s, hs, rfl⟩ := List.mem_map.1 ht
    obtain ⟨j, hj, rfl⟩ := List.mem_iff_getElem.1 (List.mem_filter.1 hs).1
    have := totS_mem (List.getElem?_eq_getElem hj); omega

set_option maxHeartbeats 8000000 in
set_option maxRecDepth 100000 in
theorem walk0 (bl0 : List Bk) (A0 : Option Addr) (c0 : Nat) (w : World) (hh0 : HIn w (fun _ => True) bl0 A0) (hc0 : bl0.length ≤ c0 ∧ c0 ≤ maxLen) (PP : Prop) (hE : prs.Env w)
    (HC : bl0.length + totB bl0 ≤ 1048576 → (∀ (w : World) (S0 : Nat → Prop) (A : Option Addr) (c : Nat), HIn w S0 bl0 A → prs.Env w → Calls Tryz.prog 45 #[hpV A bl0.length c] w (fun e w' => ∃ q, e = .returned (.bool q) ∧ (q = true ↔ PP) ∧ Below w.heap.size w w')) ∧ (∀ (w : World) (S0 : Nat → Prop) (A : Option Addr) (c : Nat), HIn w S0 bl0 A → prs.Env w → Calls Tryz.prog 47 #[hpV A bl0.length c] w (fun e w' => ∃ q, e = .returned (.bool q) ∧ (q = true ↔ PP) ∧ Below w.heap.size w w'))) :
    Calls Tryz.prog 7 #[hpV A0 (List.length bl0) c0] w (TrueQ w) := by
  have HE := Lib.hid hE
  clear hE
  obtain ⟨L0, HL0⟩ : ∃ L, Hid (bl0.length = L) := ⟨_, Lib.hid rfl⟩
  have HH0 := Lib.hid hh0
  have HLI : Hid (∀ i, i < bl0.length → i < L0) := Lib.hid (fun i h => by rw [← HL0.out]; exact h)
  have SZ0 := Lib.hid (fun w' (h : HIn w' (fun _ => True) bl0 A0) l h0 h1 => szHeap bl0 (Nat.le_trans hc0.1 hc0.2) A0 c0 w' (fun _ => True) h l h0 h1)
  have TH : Hid (bl0.length + totB bl0 ≤ 1048576 → ∀ w', HIn w' (fun _ => True) bl0 A0 → Calls Tryz.prog 46 #[hpV A0 bl0.length c0] w' (HpQ w' bl0)) := Lib.hid (fun hm w' h => toHeap bl0 hm A0 c0 w' _ h)
  have EH := Lib.hid (fun (hh : ∀ k ∈ bl0, k.heads.length ≤ 17592186044416) => eqHeap bl0 (Nat.le_trans hc0.1 hc0.2) hh)
  unfold HpQ at TH
  rw [HL0.out] at SZ0 TH EH ⊢
  have hL0 : L0 ≤ 9223372036854775807 := by have := Nat.le_trans hc0.1 hc0.2; unfold maxLen at this; rw [HL0.out] at this; omega
  rw [HL0.out] at HC
  have HCC := Lib.hid HC
  clear hh0 hc0 HC
  go_enter Tryz.func7, Tryz.ntmps7
  go_wp2_with (fail)
  refine (SZ0.out _ (HH0.out.below (b1 _ _)) 1048576 (by omega) (by omega)).mono ?_
  rintro e w0 ⟨r0, rfl, ⟨ha0, hb0, hc0⟩, hw0⟩
  have Ea0 := Lib.hid (carry hw0 (heap_alloc_new w _))
  have HB := Lib.hid (bs (b1 w _) hw0)
  have HQ0 := Lib.hid hc0
  clear hw0 hc0
  by_cases hlt0 : r0 < 0
  · go_wp2_with (fail)
    go_ret
    exact ⟨rfl, HB.out⟩
  have HSUM : Hid (L0 + totB bl0 ≤ 1048576) := Lib.hid (by have q0 := HQ0.out (by omega); omega)
  have hbT : L0 + totB bl0 ≤ 1048576 := by have := HSUM.out; omega
  have TH := Lib.hid (TH.out (by omega))
  have HKB : Hid (∀ k ∈ bl0, k.heads.length ≤ 1048576 ∧ k.slots.length ≤ 1048576) := Lib.hid (fun k hk => by have := totB_le hk; unfold szB at this; exact ⟨by omega, by omega⟩)
  have EH := Lib.hid (EH.out (fun k hk => by have := (HKB.out k hk).1; omega))
  obtain ⟨hcs, hci⟩ := HCC.out HSUM.out
  have HCS := Lib.hid hcs
  have HCI := Lib.hid hci
  clear hcs hci HCC
  have za00 : w0.cell? ⟨w.heap.size, 0, none⟩ = some (.slice A0 L0 c0) := (rowc Ea0.out).1 0
  go_wp2_with (fail)
  refine (TH.out _ (HH0.out.below HB.out)).mono ?_
  rintro e w1 ⟨g2, ow2, hg2, rfl, hl2, hb⟩
  clear za00
  have HX := Lib.hid (hl2.hin HLI.out)
  clear hl2 hg2
  replace Ea0 := Lib.hid (carry hb Ea0.out)
  replace HB := Lib.hid (bs HB.out hb)
  clear hb
  go_wp2_with (fail)
  refine (HCS.out _ _ _ _ HX.out (HE.out.stays HB.out)).mono ?_
  rintro e w2 ⟨q1, rfl, hq1, hb⟩
  have HQ1 := Lib.hid hq1
  replace Ea0 := Lib.hid (carry hb Ea0.out)
  replace HB := Lib.hid (bs HB.out hb)
  clear hb hq1 HX
  have za00 : w2.cell? ⟨w.heap.size, 0, none⟩ = some (.slice A0 L0 c0) := (rowc Ea0.out).1 0
  go_wp2_with (fail)
  refine (TH.out _ (HH0.out.below HB.out)).mono ?_
  rintro e w3 ⟨gx, owx, hgx, rfl, hlx, hb⟩
  clear za00
  have HX0 := Lib.hid (hlx.hin HLI.out)
  clear hlx hgx
  replace Ea0 := Lib.hid (carry hb Ea0.out)
  replace HB := Lib.hid (bs HB.out hb)
  clear hb
  go_upto_region 7 with fail
  obtain ⟨Nb, HNb⟩ : ∃ N, Hid (w3.heap.size = N) := ⟨_, Lib.hid rfl⟩
  generalize hwn : w3.alloc (.cells #[.slice (some ⟨gx, 0, none⟩) L0 L0] IH) = w4
  have hbx : Below w3.heap.size w3 w4 := hwn ▸ b1 _ _
  have Eb : Hid (w4.heap[Nb]? = some (.cells #[.slice (some ⟨gx, 0, none⟩) L0 L0] IH (0, 0))) := Lib.hid (by rw [← hwn, ← HNb.out]; exact heap_alloc_new _ _)
  rw [HNb.out]
  replace Ea0 := Lib.hid (carry hbx Ea0.out)
  replace HX0 := Lib.hid (HX0.out.below hbx)
  replace HB := Lib.hid (bs HB.out hbx)
  clear hwn hbx
  have zb0 : w4.cell? ⟨Nb, 0, none⟩ = some (.slice (some ⟨gx, 0, none⟩) L0 L0) := (rowc Eb.out).1 0
  go_wp2_with (fail)
  refine (HCI.out _ _ _ _ HX0.out (HE.out.stays HB.out)).mono ?_
  rintro e w5 ⟨q2, rfl, hq2, hb⟩
  obtain rfl : q1 = q2 := by
    have h1 := HQ1.out
    have e : q1 = true ↔ q2 = true := h1.trans hq2.symm
    cases q1 <;> cases q2 <;> simp_all
  clear zb0
  replace Ea0 := Lib.hid (carry hb Ea0.out)
  replace Eb := Lib.hid (carry hb Eb.out)
  replace HX0 := Lib.hid (HX0.out.below hb)
  replace HB := Lib.hid (bs HB.out hb)
  clear hb hq2 HQ1
  have zb0 : w5.cell? ⟨Nb, 0, none⟩ = some (.slice (some ⟨gx, 0, none⟩) L0 L0) := (rowc Eb.out).1 0
  have za00 : w5.cell? ⟨w.heap.size, 0, none⟩ = some (.slice A0 L0 c0) := (rowc Ea0.out).1 0
  cases q1
  all_goals
    go_wp2_with (fail)
    go_region_held3 (fun w' => w'.cell? ⟨Nb, 0, none⟩ = some (.slice (some ⟨gx, 0, none⟩) L0 L0) ∧ w'.cell? ⟨w.heap.size, 0, none⟩ = some (.slice A0 L0 c0)) (first | with_reducible exact ⟨zb0, za00⟩ | with_reducible exact ⟨drc (alc zb0), drc (alc za00)⟩ | with_reducible exact ⟨drc zb0, drc za00⟩ | with_reducible exact ⟨alc zb0, alc za00⟩ | with_reducible exact ⟨alc (drc zb0), alc (drc za00)⟩ | go_keep) (first
      | (go_at_call 46; refine (TH.out _ (HH0.out.below (by first | exact HB.out | exact HB.out.trans ((Below.refl _ _).drew)))).mono ?_
         rintro e w6 ⟨gq, owq, hgq, rfl, hlq, hb⟩
         have hbx : Below w5.heap.size w5 w6 := by first | exact hb | exact bs ((Below.refl _ _).drew) hb
         have HQ := Lib.hid (hlq.hin HLI.out)
         clear hlq hgq
         replace Ea0 := Lib.hid (carry hbx Ea0.out)
         replace Eb := Lib.hid (carry hbx Eb.out)
         replace HX0 := Lib.hid (HX0.out.below hbx)
         replace HB := Lib.hid (bs HB.out hbx)
         have zb0 : w6.cell? ⟨Nb, 0, none⟩ = some (.slice (some ⟨gx, 0, none⟩) L0 L0) := (rowc Eb.out).1 0
         have za00 : w6.cell? ⟨w.heap.size, 0, none⟩ = some (.slice A0 L0 c0) := (rowc Ea0.out).1 0
         clear hb hbx)
      | (go_at_call 48; refine (EH.out _ _ _ _ _ _ _ (by first | with_reducible exact HX0.out | exact HX0.out.below ((Below.refl _ _).drew)) (by first | with_reducible exact HQ.out | exact HQ.out.below ((Below.refl _ _).drew))).mono ?_
         rintro e w7 ⟨rfl, hb⟩
         have hbx : Below w6.heap.size w6 w7 := by first | exact hb | exact bs ((Below.refl _ _).drew) hb
         replace Ea0 := Lib.hid (carry hbx Ea0.out)
         replace Eb := Lib.hid (carry hbx Eb.out)
         replace HX0 := Lib.hid (HX0.out.below hbx)
         replace HQ := Lib.hid (HQ.out.below hbx)
         replace HB := Lib.hid (bs HB.out hbx)
         have zb0 : w7.cell? ⟨Nb, 0, none⟩ = some (.slice (some ⟨gx, 0, none⟩) L0 L0) := (rowc Eb.out).1 0
         have za00 : w7.cell? ⟨w.heap.size, 0, none⟩ = some (.slice A0 L0 c0) := (rowc Ea0.out).1 0
         clear hb hbx))
    clear HQ
    clear zb0 za00
    go_wp2_with (fail)
    go_ret
    exact ⟨rfl, HB.out⟩

theorem walk (bl0 : List Bk) (A0 : Option Addr) (c0 : Nat) (w : World) (hh0 : HIn w (fun _ => True) bl0 A0) (hc0 : bl0.length ≤ c0 ∧ c0 ≤ maxLen) (hE : prs.Env w) : Calls Tryz.prog 7 #[hpV A0 (List.length bl0) c0] w (TrueQ w) :=
  walk0 bl0 A0 c0 w hh0 hc0 (heapP bl0) hE (fun hT => ⟨fun w S A c h hE => isHeap_s bl0 A c w S h (by omega) (bkb hT) hE, fun w S A c h hE => isHeap_i bl0 A c w S h (by omega) (bkb hT) hE⟩)

end Go.Proofs.YtbgffmiffmmohaaGreatDoor.fnExactIsHeap

