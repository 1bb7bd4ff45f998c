/-
  IsCounted of the project and of the model.
  Conditions: at most 2^20 blocks, heads, slots and roots; the values' texts and lists fit in memory; the package variables of the library's reading of numbers hold what the program's text lays.
-/
import Derived.Test.YtbgffmiffmmohaaGreatDoorHcSHeapJ
import Derived.Test.YtbgffmiffmmohaaGreatDoorHcSHeapS
import Derived.Test.YtbgffmiffmmohaaGreatDoorHcB6
namespace Go.Proofs.YtbgffmiffmmohaaGreatDoor.tree
open Go.ChangeShapes Go.WideShapes Go.ChangeAt Go.RowKit
set_option linter.unusedVariables false

def cntE (bl : List Bk) (vs : List Tr) : Prop := ∀ (i : Nat) (k : Bk) (v : Int), bl[i]? = some k → (refsOf bl vs)[i]? = some v → k.refs = v
def cntP (bl : List Bk) (vs : List Tr) : Prop := heapP bl ∧ heldAll bl vs = true ∧ cntE bl vs

set_option maxRecDepth 100000 in
set_option maxHeartbeats 4000000 in
theorem isCounted_i (bl : List Bk) (A : Option Addr) (c : Nat) (vs : List Tr) (B : Option Addr) (d : Nat) (w : World) (S S' : Nat → Prop) (hH : HIn w S bl A) (hV : VIn w S' vs B) (hm : bl.length ≤ 1048576) (hv : vs.length ≤ 1048576) (hK : BkB bl) (hN : ∀ t ∈ vs, tot t ≤ 281474976710656) (hE : prs.Env w) :
    Calls Tryz.prog 60 #[hpV A bl.length c, .slice B vs.length d] w (BoP w (cntP bl vs)) := by
  have HI := Lib.hid (fun w' (hb : Below w.heap.size w w') => isHeap_i bl A c w' S (hH.below hb) hm hK (hE.stays hb))
  have AH := Lib.hid (fun w' (hb : Below w.heap.size w w') => areHeld_i bl A c vs B d w' S S' (hH.below hb) hm (hV.below hb) hv hN (hE.stays hb))
  have CR := Lib.hid (fun w' (hb : Below w.heap.size w w') => countRefs_i bl A c vs B d w' S S' (hH.below hb) (hV.below hb) hm hv (fun k hk => (hK k hk).2.1))
  have HH := Lib.hid hH
  have hlr : (refsOf bl vs).length = bl.length := by unfold refsOf; rw [refsB_len, addR_len, List.length_replicate]
  obtain ⟨L, HL⟩ : ∃ L, Hid (bl.length = L) := ⟨_, Lib.hid rfl⟩
  obtain ⟨M, HM⟩ : ∃ L, Hid (vs.length = L) := ⟨_, Lib.hid rfl⟩
  unfold RfQ at CR
  rw [hlr, HL.out, HM.out] at CR
  rw [HL.out] at hm hlr HI
  rw [HL.out, HM.out] at AH ⊢
  have HLR := Lib.hid hlr
  obtain ⟨RR, HRR⟩ : ∃ R, Hid (refsOf bl vs = R) := ⟨_, Lib.hid rfl⟩
  rw [HRR.out] at CR HLR
  clear hH hV hK hN hE hlr hv
  go_enter Tryz.func60, Tryz.ntmps60
  go_wp2_with (fail)
  refine (HI.out _ (b1 w _)).mono ?_
  rintro e w1 ⟨q1, rfl, hq1, hb1⟩
  have HX1 := Lib.hid (carry hb1 (heap_alloc_new w _))
  have HB1 := Lib.hid (bs (b1 w _) hb1)
  have HQ1 := Lib.hid hq1
  have r0 := (rowc HX1.out).1 0
  simp at r0
  clear hb1 hq1 HI
  cases q1 with
  | false =>
    have HNO : Hid (¬ cntP bl vs) := Lib.hid (fun h => by have := HQ1.out.2 h.1; cases this)
    go_wp2_with (fail)
    go_ret
    exact ⟨false, rfl, ⟨fun h => (by cases h), fun h => absurd h HNO.out⟩, HB1.out⟩
  | true =>
    have HHP : Hid (heapP bl) := Lib.hid (HQ1.out.1 rfl)
    obtain ⟨q2, HQ2⟩ : ∃ q, Hid (heldAll bl vs = q) := ⟨_, Lib.hid rfl⟩
    rw [HQ2.out] at AH
    go_wp2_with (fail)
    refine (AH.out _ HB1.out).mono ?_
    rintro e w2 ⟨rfl, hb2⟩
    have HX2 := Lib.hid (carry hb2 HX1.out)
    have HB2 := Lib.hid (bs HB1.out hb2)
    clear hb2 r0 AH
    have r0 := (rowc HX2.out).1 0
    simp at r0
    cases q2 with
    | false =>
      have HNO : Hid (¬ cntP bl vs) := Lib.hid (fun h => by have := h.2.1; rw [HQ2.out] at this; cases this)
      go_wp2_with (fail)
      go_ret
      exact ⟨false, rfl, ⟨fun h => (by cases h), fun h => absurd h HNO.out⟩, HB2.out⟩
    | true =>
      go_wp2_with (fail)
      refine (CR.out _ HB2.out).mono ?_
      rintro e w3 ⟨C, cc, rfl, hoc, hb3⟩
      have HX3 := Lib.hid (carry hb3 HX2.out)
      have HB3 := Lib.hid (bs HB2.out hb3)
      have HO := Lib.hid hoc
      clear hb3 r0 hoc CR
      go_upto_region 4 with fail
      go_loopg [20] (L + 1) (fun gk i wr => ∃ (j : Nat), i = .int .i64 j ∧ gk + j = L + 1 ∧ j ≤ L ∧ Hid (∀ (i : Nat) (k : Bk) (v : Int), i < j → bl[i]? = some k → RR[i]? = some v → k.refs = v) ∧ wr = w3)
      case atStart => exact ⟨0, rfl, by omega, by omega, Lib.hid (fun i k v h => absurd h (by omega)), rfl⟩
      case round =>
        obtain ⟨j, rfl, hgj, hjL, HT, rfl⟩ := hrel
        have r0 := (rowc HX3.out).1 0
        simp at r0
        by_cases hlt : j < L
        · obtain ⟨k, hk⟩ : ∃ k, bl[j]? = some k := ⟨_, List.getElem?_eq_getElem (by rw [HL.out]; exact hlt)⟩
          obtain ⟨v, hv⟩ : ∃ v, RR[j]? = some v := ⟨_, List.getElem?_eq_getElem (by rw [HLR.out]; exact hlt)⟩
          obtain ⟨g, rfl, -, -, -⟩ := HO.out.head (by omega)
          have hcv : wr.cell? ⟨g, j, none⟩ = some (.int .i64 v) := by rw [HO.out.row.cellAt j (by omega)]; exact imem.ics_get hv
          obtain ⟨a, A1, n1, c1, B1, m1, d1, rfl, -, -, -, hcell⟩ := HH.out.below HB3.out j k hk
          have HKV := Lib.hid (And.intro hk hv)
          obtain ⟨rf, hs, l, sl, x, ct⟩ := k
          simp only at hcell
          have p0 := hcell.c0
          clear hk hv hcell
          by_cases he : rf = v
          · subst he
            have HT2 : Hid (∀ (i : Nat) (k : Bk) (v : Int), i < j + 1 → bl[i]? = some k → RR[i]? = some v → k.refs = v) := Lib.hid (fun i k v hi hk hv => by
              by_cases e : i = j
              · subst e
                rw [HKV.out.1] at hk
                rw [HKV.out.2] at hv
                obtain rfl := Option.some.inj hk
                exact Option.some.inj hv
              · exact HT.out i k v (by omega) hk hv)
            go_wp2_with (fail)
            go_roundg (L - j)
            case rel => exact ⟨j + 1, by go_num, by omega, by omega, HT2, rfl⟩
            case measure => omega
          · have HNO : Hid (¬ cntP bl vs) := Lib.hid (fun h => he (h.2.2 j _ v HKV.out.1 (by rw [HRR.out]; exact HKV.out.2)))
            go_wp2_with (fail)
            go_ret
            exact ⟨false, rfl, ⟨fun h => (by cases h), fun h => absurd h HNO.out⟩, HB3.out⟩
        · obtain rfl : j = L := by omega
          have HYES : Hid (cntP bl vs) := Lib.hid ⟨HHP.out, HQ2.out, fun i k v hk hv => HT.out i k v (by have := (List.getElem?_eq_some_iff.1 hk).1; rw [HL.out] at this; exact this) hk (by rw [← HRR.out]; exact hv)⟩
          go_wp2_with (fail)
          go_ret
          exact ⟨true, rfl, ⟨fun _ => HYES.out, fun _ => rfl⟩, HB3.out⟩

set_option maxRecDepth 100000 in
set_option maxHeartbeats 4000000 in
theorem isCounted_s (bl : List Bk) (A : Option Addr) (c : Nat) (vs : List Tr) (B : Option Addr) (d : Nat) (w : World) (S S' : Nat → Prop) (hH : HIn w S bl A) (hV : VIn w S' vs B) (hm : bl.length ≤ 1048576) (hv : vs.length ≤ 1048576) (hK : BkB bl) (hN : ∀ t ∈ vs, tot t ≤ 281474976710656) (hE : prs.Env w) :
    Calls Tryz.prog 58 #[hpV A bl.length c, .slice B vs.length d] w (BoP w (cntP bl vs)) := by
  have HI := Lib.hid (fun w' (hb : Below w.heap.size w w') => isHeap_s bl A c w' S (hH.below hb) hm hK (hE.stays hb))
  have IH := Lib.hid (fun (t : Tr) (v : Value) w' (hb : Below w.heap.size w w') (S1 : Nat → Prop) (h : TIn w' S1 t v) hN => isHeld_s bl t A c v w' S S1 (hH.below hb) hm h hN (hE.stays hb))
  have CR := Lib.hid (fun w' (hb : Below w.heap.size w w') => counts_s bl A c vs B d w' S S' (hH.below hb) (hV.below hb) hm hv (fun k hk => (hK k hk).2.1))
  have HH := Lib.hid hH
  have HV := Lib.hid hV
  have HVN := Lib.hid hN
  have hlr : (refsOf bl vs).length = bl.length := by unfold refsOf; rw [refsB_len, addR_len, List.length_replicate]
  obtain ⟨L, HL⟩ : ∃ L, Hid (bl.length = L) := ⟨_, Lib.hid rfl⟩
  obtain ⟨M, HM⟩ : ∃ L, Hid (vs.length = L) := ⟨_, Lib.hid rfl⟩
  unfold RfQ at CR
  rw [hlr, HL.out, HM.out] at CR
  rw [HL.out] at hm hlr HI IH
  rw [HM.out] at hv
  rw [HL.out, HM.out]
  have HLR := Lib.hid hlr
  obtain ⟨RR, HRR⟩ : ∃ R, Hid (refsOf bl vs = R) := ⟨_, Lib.hid rfl⟩
  rw [HRR.out] at CR HLR
  clear hH hV hK hN hE hlr
  go_enter Tryz.func58, Tryz.ntmps58
  go_wp2_with (fail)
  refine (CR.out _ (b1 w _)).mono ?_
  rintro e w1 ⟨C, cc, rfl, hoc, hb1⟩
  have HX1 := Lib.hid (carry hb1 (heap_alloc_new w _))
  have HB1 := Lib.hid (bs (b1 w _) hb1)
  have HO1 := Lib.hid (hoc.less (show w.heap.size ≤ _ by simp))
  clear hb1 hoc CR
  go_upto_region 3 with fail
  go_loopg [6] (L + 1) (fun gk i wr => ∃ (j : Nat), i = .int .i64 j ∧ gk + j = L + 1 ∧ j ≤ L ∧ Hid (∀ (i : Nat) (k : Bk) (v : Int), i < j → bl[i]? = some k → RR[i]? = some v → k.refs = v) ∧ Hid (Below w1.heap.size w1 wr))
  case atStart => exact ⟨0, rfl, by omega, by omega, Lib.hid (fun i k v h => absurd h (by omega)), Lib.hid (Below.refl _ _)⟩
  case round =>
    obtain ⟨j, rfl, hgj, hjL, HT, HBW⟩ := hrel
    have HX := Lib.hid (carry HBW.out HX1.out)
    have HB := Lib.hid (bs HB1.out HBW.out)
    have HO := Lib.hid (HO1.out.below HBW.out)
    have r0 := (rowc HX.out).1 0
    simp at r0
    by_cases hlt : j < L
    · obtain ⟨k, hk⟩ : ∃ k, bl[j]? = some k := ⟨_, List.getElem?_eq_getElem (by rw [HL.out]; exact hlt)⟩
      obtain ⟨v, hv'⟩ : ∃ v, RR[j]? = some v := ⟨_, List.getElem?_eq_getElem (by rw [HLR.out]; exact hlt)⟩
      obtain ⟨g, rfl, -, -, -⟩ := HO.out.head (by omega)
      have hcv : wr.cell? ⟨g, j, none⟩ = some (.int .i64 v) := by rw [HO.out.row.cellAt j (by omega)]; exact imem.ics_get hv'
      obtain ⟨a, A1, n1, c1, B1, m1, d1, rfl, -, -, -, hcell⟩ := HH.out.below HB.out j k hk
      have HKV := Lib.hid (And.intro hk hv')
      obtain ⟨rf, hs, l, sl, x, ct⟩ := k
      simp only at hcell
      have p0 := hcell.c0
      clear hk hv' hcell
      by_cases he : rf = v
      · subst he
        have HT2 : Hid (∀ (i : Nat) (k : Bk) (v : Int), i < j + 1 → bl[i]? = some k → RR[i]? = some v → k.refs = v) := Lib.hid (fun i k v hi hk hv => by
          by_cases e : i = j
          · subst e
            rw [HKV.out.1] at hk
            rw [HKV.out.2] at hv
            obtain rfl := Option.some.inj hk
            exact Option.some.inj hv
          · exact HT.out i k v (by omega) hk hv)
        go_wp2_with (fail)
        go_quiet (fail)
        go_wp2_with (fail)
        go_roundg (L - j)
        case rel => exact ⟨j + 1, by go_num, by omega, by omega, HT2, Lib.hid (bs HBW.out ⟨rfl, rfl, rfl, Nat.le_refl _, fun _ _ => rfl⟩)⟩
        case measure => omega
      · have HNO : Hid (¬ cntP bl vs) := Lib.hid (fun h => he (h.2.2 j _ v HKV.out.1 (by rw [HRR.out]; exact HKV.out.2)))
        have hev : (v != rf) = true := by simp; exact fun e => he e.symm
        go_wp2_with (fail)
        go_quiet (fail)
        go_wp2_with (fail)
        go_ret
        exact ⟨false, rfl, ⟨fun h => (by cases h), fun h => absurd h HNO.out⟩, bs HB.out ⟨rfl, rfl, rfl, Nat.le_refl _, fun _ _ => rfl⟩⟩
    · obtain rfl : j = L := by omega
      have HCE : Hid (cntE bl vs) := Lib.hid (fun i k v hk hv => HT.out i k v (by have := (List.getElem?_eq_some_iff.1 hk).1; rw [HL.out] at this; exact this) hk (by rw [← HRR.out]; exact hv))
      clear HT r0 HO1
      go_upto_region 8 with fail
      go_loopg [7] (M + 1) (fun gk i wz => ∃ (jj : Nat), i = .int .i64 jj ∧ gk + jj = M + 1 ∧ jj ≤ M ∧ Hid (heldAll bl (vs.take jj) = true) ∧ Hid (wz.heap[w.heap.size]? = some (.cells #[.slice A j c] IH' (0, 0))) ∧ Hid (Below w.heap.size w wz))
      case atStart => exact ⟨0, rfl, by omega, by omega, Lib.hid (by simp [heldAll]), HX, HB⟩
      case round =>
        clear HX HB HBW HX1 HB1 HO
        obtain ⟨jj, rfl, hgjj, hjj, HA, HX, HB⟩ := hrel
        have x0 := (rowc HX.out).1 0
        simp at x0
        by_cases hlt2 : jj < M
        · obtain ⟨t, ht⟩ : ∃ t, vs[jj]? = some t := ⟨_, List.getElem?_eq_getElem (by rw [HM.out]; exact hlt2)⟩
          have hst := heldAll_take (bl := bl) ht
          have hmt := List.mem_of_getElem? ht
          have htn := HVN.out t hmt
          obtain ⟨a, k2, n2, s2, x2, ks2, vs2, A2, c2, rfl, -, rfl, hT2, hcell⟩ := HV.out.below HB.out jj t ht
          obtain ⟨q3, HQ3⟩ : ∃ q, Hid (heldB bl (.mk k2 n2 s2 x2 ks2 vs2) = q) := ⟨_, Lib.hid rfl⟩
          have IHV := Lib.hid (fun (v : Value) w' (hb : Below w.heap.size w w') (S1 : Nat → Prop) (h : TIn w' S1 (.mk k2 n2 s2 x2 ks2 vs2) v) => IH.out _ v w' hb S1 h htn)
          rw [HQ3.out] at IHV hst
          obtain ⟨L2, HL2⟩ : ∃ L1, Hid (vs2.length = L1) := ⟨_, Lib.hid rfl⟩
          rw [HL2.out] at hcell hT2
          obtain ⟨y3, y4, y5, y6, y7⟩ := hcell
          have HTV := Lib.hid hT2
          have HST := Lib.hid hst
          have HMT := Lib.hid hmt
          clear ht hst hmt htn hT2
          go_wp2_with (fail)
          go_region_held3 (fun w' => w'.cell? (a.add (jj * 5)) = some (.int .i64 k2) ∧ w'.cell? ⟨(a.add (jj * 5)).block, (a.add (jj * 5)).off + 1, none⟩ = some (.int .i64 n2) ∧ w'.cell? ⟨(a.add (jj * 5)).block, (a.add (jj * 5)).off + 2, none⟩ = some (.string s2) ∧ w'.cell? ⟨(a.add (jj * 5)).block, (a.add (jj * 5)).off + 3, none⟩ = some (.int .i64 x2) ∧ w'.cell? ⟨(a.add (jj * 5)).block, (a.add (jj * 5)).off + 4, none⟩ = some (.slice A2 L2 c2) ∧ w'.cell? ⟨w.heap.size, 0, none⟩ = some (.slice A j c)) (first | with_reducible exact ⟨y3, y4, y5, y6, y7, x0⟩ | with_reducible exact ⟨drc y3, drc y4, drc y5, drc y6, drc y7, drc x0⟩ | go_keep) (first
            | (go_at_call 117; refine (IHV.out _ _ (by first | exact HB.out | exact bs HB.out ((Below.refl wr.heap.size wr).drew)) _ (by first | exact HTV.out | exact HTV.out.below' ((Below.refl wr.heap.size wr).drew))).mono ?_
               rintro e w5 ⟨rfl, hb5⟩
               have hbx : Below wr.heap.size wr w5 := by first | exact hb5 | exact bs ((Below.refl wr.heap.size wr).drew) hb5
               have HBN := Lib.hid (bs HB.out hbx)
               have HXN := Lib.hid (carry hbx HX.out)
               have kx : ∀ (p : Addr) (u : Value), wr.cell? p = some u → w5.cell? p = some u := fun p u h => cell_stays (fun hlt => hbx.block _ hlt) h
               replace y3 := kx _ _ y3; replace y4 := kx _ _ y4; replace y5 := kx _ _ y5; replace y6 := kx _ _ y6; replace y7 := kx _ _ y7; replace x0 := kx _ _ x0
               clear hb5 hbx kx))
          clear y3 y4 y5 y6 y7 x0
          cases q3 with
          | false =>
            have HNO : Hid (¬ cntP bl vs) := Lib.hid (fun h => by
              have h1 := h.2.1
              rw [heldAll_no HMT.out HQ3.out] at h1
              cases h1)
            go_wp2_with (fail)
            go_ret
            exact ⟨false, rfl, ⟨fun h => (by cases h), fun h => absurd h HNO.out⟩, HBN.out⟩
          | true =>
            have HA2 : Hid (heldAll bl (vs.take (jj + 1)) = true) := Lib.hid (by rw [HST.out, HA.out]; rfl)
            go_wp2_with (fail)
            go_roundg (M - jj)
            case rel => exact ⟨jj + 1, by go_num, by omega, by omega, HA2, HXN, HBN⟩
            case measure => omega
        · obtain rfl : jj = M := by omega
          have HAL : Hid (heldAll bl vs = true) := Lib.hid (by have h := HA.out; rw [← HM.out, List.take_length] at h; exact h)
          go_wp2_with (fail)
          refine (HI.out _ HB.out).mono ?_
          rintro e w2 ⟨q, rfl, hq, hb2⟩
          have HB2 := Lib.hid (bs HB.out hb2)
          have HQ := Lib.hid hq
          clear hq hb2
          go_wp2_with (fail)
          go_ret
          exact ⟨q, rfl, ⟨fun h => ⟨HQ.out.1 h, HAL.out, HCE.out⟩, fun h => HQ.out.2 h.1⟩, HB2.out⟩

end Go.Proofs.YtbgffmiffmmohaaGreatDoor.tree

