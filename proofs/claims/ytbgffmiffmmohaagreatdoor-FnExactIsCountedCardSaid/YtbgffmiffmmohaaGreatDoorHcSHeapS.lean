/-
  IsHeap of the model.
  Conditions: at most 2^20 blocks, heads and slots; the values' texts and lists fit in memory; the package variables of the library's reading of numbers hold what the program's text lays.
-/
import Derived.Test.YtbgffmiffmmohaaGreatDoorHcSHeapJ
import Derived.Test.YtbgffmiffmmohaaGreatDoorHcSLightS
import Derived.Test.YtbgffmiffmmohaaGreatDoorHcSTabG
namespace Go.Proofs.YtbgffmiffmmohaaGreatDoor.tree
open Go.ChangeShapes Go.WideShapes Go.ChangeAt Go.RowKit
set_option linter.unusedVariables false

theorem free_s (b : Bool) (A : Option Addr) (n c : Nat) (B : Option Addr) (m d : Nat) (x k : Int) (hn : n ≤ maxLen) (hm : m ≤ maxLen) (w : World) :
    Calls Tryz.prog 116 #[bkV 0 b A n c B m d x k] w (BoQ w (zeroB b n m x k)) := by
  unfold maxLen at hn hm
  unfold zeroB
  cases b with
  | true =>
    go_enter Tryz.func116, Tryz.ntmps116
    go_wp2_with (fail)
    go_ret
    exact ⟨rfl, tree.b2 _ _ _⟩
  | false =>
    by_cases hn0 : n = 0
    · subst hn0
      by_cases hm0 : m = 0
      · subst hm0
        by_cases hx : x = 0
        · subst hx
          go_enter Tryz.func116, Tryz.ntmps116
          go_wp2_with (fail)
          go_ret
          exact ⟨by by_cases h : k = 0 <;> simp [h], tree.b2 _ _ _⟩
        · rw [show decide (x = 0) = false from decide_eq_false hx]
          go_enter Tryz.func116, Tryz.ntmps116
          go_wp2_with (fail)
          go_ret
          exact ⟨by simp, tree.b2 _ _ _⟩
      · rw [show decide (m = 0) = false from decide_eq_false hm0]
        have hm' : ((m : Int) == 0) = false := by simp; omega
        go_enter Tryz.func116, Tryz.ntmps116
        go_wp2_with (fail)
        go_ret
        exact ⟨by simp, tree.b2 _ _ _⟩
    · rw [show decide (n = 0) = false from decide_eq_false hn0]
      have hn' : ((n : Int) == 0) = false := by simp; omega
      go_enter Tryz.func116, Tryz.ntmps116
      go_wp2_with (fail)
      go_ret
      exact ⟨by simp, tree.b2 _ _ _⟩
theorem held_live {bl : List Bk} {n : Int} {s : ByteArray} {x : Int} {ks : List Ky} {vs : List Tr} (h : heldB bl (.mk 5 n s x ks vs) = true) : ∃ (c : Nat) (kc : Bk), n = c ∧ bl[c]? = some kc ∧ 0 < kc.refs := by
  have h1 := held_ok h rfl
  obtain ⟨j, rfl⟩ : ∃ j : Nat, n = j := ⟨n.toNat, by omega⟩
  obtain ⟨kc, hk⟩ : ∃ k, bl[j]? = some k := ⟨_, List.getElem?_eq_getElem (by omega)⟩
  refine ⟨j, kc, rfl, hk, ?_⟩
  rw [held_five, live_at hk] at h
  have h2 : decide (0 < kc.refs) = true := by
    cases hq : decide (0 < kc.refs) with
    | true => rfl
    | false => rw [hq] at h; simp at h
  exact of_decide_eq_true h2
theorem zero_slots {b : Bool} {n m : Nat} {x k : Int} (h : zeroB b n m x k = true) : m = 0 := by unfold zeroB at h; simp at h; exact h.2.2.1
theorem blk_live {bl : List Bk} (h : ∀ k ∈ bl, blkP bl k) : okL bl := fun k hk t ht n s x ks vs e => by
  have h1 := h k hk
  unfold blkP at h1
  split at h1
  · have h3 : k.slots = [] := List.length_eq_zero_iff.1 (zero_slots h1)
    rw [h3] at ht
    simp [livV, liv] at ht
  · subst e
    exact held_live (h1.2.2 _ ht)
theorem blk_free {bl : List Bk} (h : ∀ k ∈ bl, blkP bl k) : ∀ k ∈ bl, k.refs ≤ 0 → k.refs = 0 ∧ k.slots = [] := fun k hk hr => by
  have h1 := h k hk
  unfold blkP at h1
  split at h1
  · rename_i h0
    exact ⟨h0, List.length_eq_zero_iff.1 (zero_slots h1)⟩
  · have := h1.1.1; omega

theorem heldAll_liv {bl : List Bk} {sl : List Sl} {j : Nat} {t : Sl} (h : sl[j]? = some t) : heldAll bl (livV (sl.take (j + 1))) = (heldAll bl (livV (sl.take j)) && (if t.live then heldB bl t.val else true)) := by
  unfold livV heldAll
  rw [liv_take h]
  cases t.live <;> simp
theorem in1_s (rf : Int) (q : Bool) (hq : decide (1 ≤ rf ∧ rf ≤ 1000000000000) = q) (w : World) : Calls Tryz.prog 78 #[.int .i64 rf, .int .i64 1, .int .i64 1000000000000] w fun e w' => e = .returned (.bool q) ∧ w = w' := by
  subst hq
  by_cases h1 : 1 ≤ rf
  all_goals
    by_cases h2 : rf ≤ 1000000000000
    all_goals
      go_enter Tryz.func78, Tryz.ntmps78
      go_wp2
      go_ret
      exact ⟨by simp [h1, h2], rfl⟩
set_option maxRecDepth 100000 in
set_option maxHeartbeats 8000000 in
theorem isHeap_s (bl : List Bk) (A : Option Addr) (c : Nat) (w : World) (S : Nat → Prop) (hH : HIn w S bl A) (hm : bl.length ≤ 1048576) (hK : BkB bl) (hE : prs.Env w) :
    Calls Tryz.prog 45 #[hpV A bl.length c] w (BoP w (heapP bl)) := by
  have HH := Lib.hid hH
  have HE := Lib.hid hE
  have HK := Lib.hid hK
  have IH := Lib.hid (fun (t : Tr) (v : Value) w' (hb : Below w.heap.size w w') (S1 : Nat → Prop) (h : TIn w' S1 t v) hN => isHeld_s bl t A c v w' S S1 (hH.below hb) hm h hN (hE.stays hb))
  have LT := Lib.hid (fun h1 h2 w' (hb : Below w.heap.size w w') => light13_s bl A c w' S (hH.below hb) hm (fun k hk => (hK k hk).2.1) h1 h2)
  obtain ⟨L, HL⟩ : ∃ L, Hid (bl.length = L) := ⟨_, Lib.hid rfl⟩
  rw [HL.out] at hm IH LT ⊢
  clear hH hE hK
  go_enter Tryz.func45, Tryz.ntmps45
  go_upto_region 2 with fail
  generalize hw0 : w.alloc (.cells #[.slice A L c] IH') = w0
  have hb0 : Below w.heap.size w w0 := hw0 ▸ b1 w _
  have h0 : w0.heap[w.heap.size]? = some (.cells #[.slice A L c] IH' (0, 0)) := by rw [← hw0]; exact heap_alloc_new w _
  have HB0 := Lib.hid hb0
  have HX0 := Lib.hid h0
  clear hw0 hb0 h0
  go_loopg [3] (L + 1) (fun gk i wr => ∃ (j : Nat), i = .int .i64 j ∧ gk + j = L + 1 ∧ j ≤ L ∧ Hid (∀ i k, i < j → bl[i]? = some k → blkP bl k) ∧ Hid (wr.heap[w.heap.size]? = some (.cells #[.slice A L c] IH' (0, 0))) ∧ Hid (Below w.heap.size w wr))
  case atStart => exact ⟨0, rfl, by omega, by omega, Lib.hid (fun i k h => absurd h (by omega)), HX0, HB0⟩
  case round =>
    clear HB0 HX0
    obtain ⟨j, rfl, hgj, hjL, HT, HX, HB⟩ := hrel
    have r0 := (rowc HX.out).1 0
    simp at r0
    by_cases hlt : j < L
    · obtain ⟨k, hk⟩ : ∃ k, bl[j]? = some k := ⟨_, List.getElem?_eq_getElem (by rw [HL.out]; exact hlt)⟩
      have hmem := List.mem_of_getElem? hk
      obtain ⟨hn1, hm1, hsb, hvt⟩ := HK.out k hmem
      obtain ⟨a, A1, n1, c1, B1, m1, d1, rfl, -, -, hT, hcell⟩ := HH.out.below HB.out j k hk
      have hlh := hT.heads.len
      have hls := hT.len
      have hHP : heapP bl → blkP bl k := fun h => h.1 k hmem
      have hNX : blkP bl k → ∀ i k, i < j + 1 → bl[i]? = some k → blkP bl k := fun h i k2 hi hk2 => by
        by_cases e : i = j
        · subst e
          rw [hk] at hk2
          obtain rfl := Option.some.inj hk2
          exact h
        · exact HT.out i k2 (by omega) hk2
      obtain ⟨rf, hs, l, sl, x, ct⟩ := k
      simp only at hn1 hm1 hsb hvt hT hlh hls hcell
      have HP : Hid (blkP bl ⟨rf, hs, l, sl, x, ct⟩ ↔ if rf = 0 then zeroB hs n1 m1 x ct = true else (1 ≤ rf ∧ rf ≤ 1000000000000) ∧ tabOk hs l sl x ct ∧ heldAll bl (livV sl) = true) := Lib.hid (by
        unfold blkP
        simp only [hlh, hls, heldAll, List.all_eq_true])
      have HHP := Lib.hid hHP
      have HNX := Lib.hid hNX
      have HTB := Lib.hid hT
      have HLS := Lib.hid hls
      have HVT := Lib.hid hvt
      have hn2 : n1 ≤ 1048576 := by omega
      have hm2 : m1 ≤ 1048576 := by omega
      have IT := Lib.hid (fun w' (hb : Below wr.heap.size wr w') => isTable_s (b := hs) w' (hT.below hb) hn2 hm2 hsb (HE.out.stays (bs HB.out hb)))
      have FR := Lib.hid (fun w' => free_s hs A1 n1 c1 B1 m1 d1 x ct (by unfold maxLen; omega) (by unfold maxLen; omega) w')
      obtain ⟨p0, p1, p2, p3, p4, p5⟩ := hcell
      clear hk hmem hn1 hm1 hsb hvt hT hlh hls hHP hNX
      go_upto_region 5 with fail
      generalize hw1 : wr.alloc (.cells #[.int .i64 rf, .bool hs, .slice A1 n1 c1, .slice B1 m1 d1, .int .i64 x, .int .i64 ct] IBk) = w1
      have hb1 : Below wr.heap.size wr w1 := hw1 ▸ b1 wr _
      obtain ⟨N, HN⟩ : ∃ N, Hid (wr.heap.size = N) := ⟨_, Lib.hid rfl⟩
      have h6 : w1.heap[wr.heap.size]? = some (.cells #[.int .i64 rf, .bool hs, .slice A1 n1 c1, .slice B1 m1 d1, .int .i64 x, .int .i64 ct] IBk (0, 0)) := by rw [← hw1]; exact heap_alloc_new wr _
      rw [HN.out] at h6 ⊢
      have HB1 := Lib.hid (bs HB.out hb1)
      have HX1 := Lib.hid (carry hb1 HX.out)
      have HN1 := Lib.hid h6
      have HT1 := Lib.hid (HTB.out.below hb1)
      have HW1 := Lib.hid hb1
      have r6 := (rowc h6).1
      have z0 := r6 0; have z1 := r6 1; have z2 := r6 2; have z3 := r6 3; have z4 := r6 4; have z5 := r6 5
      simp at z0 z1 z2 z3 z4 z5
      clear hw1 hb1 h6 r6 p0 p1 p2 p3 p4 p5 HX HB HTB r0
      by_cases h0 : rf = 0
      · subst h0
        have HPZ := HP.out
        rw [if_pos rfl] at HPZ
        have HQZ := Lib.hid HPZ
        have hzs : zeroB hs n1 m1 x ct = true → m1 = 0 := zero_slots
        obtain ⟨q, HQ⟩ : ∃ q, Hid (zeroB hs n1 m1 x ct = q) := ⟨_, Lib.hid rfl⟩
        rw [HQ.out] at FR HQZ hzs
        have HZS := Lib.hid hzs
        clear HPZ HP IT hzs
        go_wp2_with (fail)
        refine (FR.out _).mono ?_
        rintro e w2 ⟨rfl, hb2⟩
        have HX2 := Lib.hid (carry hb2 HX1.out)
        have HB2 := Lib.hid (bs HB1.out hb2)
        have z3' := (rowc (carry hb2 HN1.out)).1 3
        have z0' := (rowc (carry hb2 HN1.out)).1 0
        simp at z3' z0'
        clear hb2 z0 z1 z2 z3 z4 z5 FR
        cases q with
        | false =>
          have HNO : Hid (¬ heapP bl) := Lib.hid (fun h => by have := HQZ.out.1 (HHP.out h); cases this)
          go_wp2_with (fail)
          go_ret
          exact ⟨false, rfl, ⟨fun h => (by cases h), fun h => absurd h HNO.out⟩, HB2.out⟩
        | true =>
          obtain rfl : m1 = 0 := by first | exact HZS.out rfl | exact HZS.out trivial | exact HZS.out
          have HT2 : Hid (∀ i k, i < j + 1 → bl[i]? = some k → blkP bl k) := Lib.hid (HNX.out (HQZ.out.2 rfl))
          go_upto_region 8 with fail
          go_loopg [5] (1) (fun gk i wz => i = .int .i64 0 ∧ gk = 1 ∧ wz = w2)
          case atStart => exact ⟨rfl, rfl, rfl⟩
          case round =>
            obtain ⟨rfl, rfl, rfl⟩ := hrel
            go_wp2_with (fail)
            go_roundg (L - j)
            case rel => exact ⟨j + 1, by go_num, by omega, by omega, HT2, HX2, HB2⟩
            case measure => omega
      · have HPN := HP.out
        rw [if_neg h0] at HPN
        have HQN := Lib.hid HPN
        have hf : (rf == 0) = false := by simp [h0]
        have hf' : (rf != 0) = true := by simp [h0]
        obtain ⟨q, HQ⟩ : ∃ q, Hid (decide (1 ≤ rf ∧ rf ≤ 1000000000000) = q) := ⟨_, Lib.hid rfl⟩
        have IR := in1_s rf q HQ.out
        clear HPN HP FR
        go_wp2_with (fail)
        refine (IR _).mono ?_
        rintro e w2 ⟨rfl, rfl⟩
        cases q with
        | false =>
          have HNO : Hid (¬ heapP bl) := Lib.hid (fun h => absurd (HQN.out.1 (HHP.out h)).1 (of_decide_eq_false HQ.out))
          go_wp2_with (fail)
          go_ret
          exact ⟨false, rfl, ⟨fun h => (by cases h), fun h => absurd h HNO.out⟩, HB1.out⟩
        | true =>
          go_wp2_with (fail)
          refine (IT.out _ HW1.out).mono ?_
          rintro e w3 ⟨q2, rfl, hq2, hb2⟩
          have HX2 := Lib.hid (carry hb2 HX1.out)
          have HN2 := Lib.hid (carry hb2 HN1.out)
          have HB2 := Lib.hid (bs HB1.out hb2)
          have HT2 := Lib.hid (HT1.out.below hb2)
          have HQ2 := Lib.hid hq2
          have z3' := (rowc HN2.out).1 3
          simp at z3'
          clear hb2 z0 z1 z2 z3 z4 z5 IT hq2
          cases q2 with
          | false =>
            have HNO : Hid (¬ heapP bl) := Lib.hid (fun h => by have := HQ2.out.2 (HQN.out.1 (HHP.out h)).2.1; cases this)
            go_wp2_with (fail)
            go_ret
            exact ⟨false, rfl, ⟨fun h => (by cases h), fun h => absurd h HNO.out⟩, HB2.out⟩
          | true =>
            have HTOK : Hid (tabOk hs l sl x ct) := Lib.hid (HQ2.out.1 rfl)
            go_upto_region 8 with fail
            clear z3'
            go_loopg [5] (m1 + 1) (fun gk i wz => ∃ (kk : Nat), i = .int .i64 kk ∧ gk + kk = m1 + 1 ∧ kk ≤ m1 ∧ Hid (heldAll bl (livV (sl.take kk)) = true) ∧ Hid (Below w3.heap.size w3 wz))
            case atStart => exact ⟨0, rfl, by omega, by omega, Lib.hid (by simp [heldAll, livV, liv]), Lib.hid (Below.refl _ _)⟩
            case round =>
              obtain ⟨kk, rfl, hgk, hkm, HA, HBW⟩ := hrel
              have z3 := (rowc (carry HBW.out HN2.out)).1 3
              simp at z3
              by_cases hlt2 : kk < m1
              · obtain ⟨t, ht⟩ : ∃ t, sl[kk]? = some t := ⟨_, List.getElem?_eq_getElem (by rw [HLS.out]; exact hlt2)⟩
                have hha := heldAll_liv (bl := bl) ht
                have hlo := fun h => livV_of ht h
                obtain ⟨a2, k2, n2, s2, x2, ks2, vs2, A2, c2, rfl, -, -, -, hv2, hT2, hcell⟩ := (HT2.out.slots.below HBW.out) kk t ht
                obtain ⟨y, tv, tb, tl⟩ := t
                simp only at hha hlo hv2 hT2 hcell
                subst hv2
                obtain ⟨L2, HL2⟩ : ∃ L1, Hid (vs2.length = L1) := ⟨_, Lib.hid rfl⟩
                rw [HL2.out] at hcell hT2
                obtain ⟨y0, y1, y2, y3, y4, y5, y6, y7, y8, y9⟩ := hcell
                have HTV := Lib.hid hT2
                have HHA := Lib.hid hha
                have HLO := Lib.hid hlo
                have x0 := (rowc (carry HBW.out HX2.out)).1 0
                simp at x0
                clear ht hha hlo hT2 y0 y1 y2 y9
                cases tb with
                | false =>
                  have HA2 : Hid (heldAll bl (livV (sl.take (kk + 1))) = true) := Lib.hid (by rw [HHA.out, HA.out]; rfl)
                  go_wp2_with (fail)
                  go_quiet (fail)
                  go_wp2_with (fail)
                  go_roundg (m1 - kk)
                  case rel => exact ⟨kk + 1, by go_num, by omega, by omega, HA2, Lib.hid (bs HBW.out ⟨rfl, rfl, rfl, Nat.le_refl _, fun _ _ => rfl⟩)⟩
                  case measure => omega
                | true =>
                  have hmt := HLO.out rfl
                  have htn := HVT.out _ hmt
                  obtain ⟨q3, HQ3⟩ : ∃ q, Hid (heldB bl (.mk k2 n2 s2 x2 ks2 vs2) = q) := ⟨_, Lib.hid rfl⟩
                  have IHV := Lib.hid (fun (v : Value) w' (hb : Below w.heap.size w w') (S1 : Nat → Prop) (h : TIn w' S1 (.mk k2 n2 s2 x2 ks2 vs2) v) => IH.out _ v w' hb S1 h htn)
                  rw [HQ3.out] at IHV HHA
                  have HMT := Lib.hid hmt
                  have HBX3 := Lib.hid (bs HB2.out HBW.out)
                  clear hmt htn
                  go_wp2_with (fail)
                  go_region_held3 (fun w' => w'.cell? ⟨N, 3, none⟩ = some (.slice (some a2) m1 d1) ∧ w'.cell? ⟨(a2.add (kk * 10)).block, (a2.add (kk * 10)).off + 3, none⟩ = some (.int .i64 k2) ∧ w'.cell? ⟨(a2.add (kk * 10)).block, (a2.add (kk * 10)).off + 4, none⟩ = some (.int .i64 n2) ∧ w'.cell? ⟨(a2.add (kk * 10)).block, (a2.add (kk * 10)).off + 5, none⟩ = some (.string s2) ∧ w'.cell? ⟨(a2.add (kk * 10)).block, (a2.add (kk * 10)).off + 6, none⟩ = some (.int .i64 x2) ∧ w'.cell? ⟨(a2.add (kk * 10)).block, (a2.add (kk * 10)).off + 7, none⟩ = some (.slice A2 L2 c2) ∧ w'.cell? ⟨(a2.add (kk * 10)).block, (a2.add (kk * 10)).off + 8, none⟩ = some (.bool true) ∧ w'.cell? ⟨w.heap.size, 0, none⟩ = some (.slice (some a) L c)) (first | with_reducible exact ⟨z3, y3, y4, y5, y6, y7, y8, x0⟩ | with_reducible exact ⟨drc z3, drc y3, drc y4, drc y5, drc y6, drc y7, drc y8, drc x0⟩ | go_keep) (first
                    | (go_at_call 117; refine (IHV.out _ _ (by first | exact HBX3.out | exact bs HBX3.out ((Below.refl wr.heap.size wr).drew)) _ (by first | exact HTV.out | exact HTV.out.below' ((Below.refl wr.heap.size wr).drew))).mono ?_
                       rintro e w5 ⟨rfl, hb5⟩
                       have hbx : Below wr.heap.size wr w5 := by first | exact hb5 | exact bs ((Below.refl wr.heap.size wr).drew) hb5
                       have HBN := Lib.hid (bs HBW.out hbx)
                       have kx : ∀ (p : Addr) (u : Value), wr.cell? p = some u → w5.cell? p = some u := fun p u h => cell_stays (fun hlt => hbx.block _ hlt) h
                       replace z3 := kx _ _ z3; replace y3 := kx _ _ y3; replace y4 := kx _ _ y4; replace y5 := kx _ _ y5; replace y6 := kx _ _ y6; replace y7 := kx _ _ y7; replace y8 := kx _ _ y8; replace x0 := kx _ _ x0
                       clear hb5 hbx kx))
                  clear y3 y4 y5 y6 y7 y8 x0
                  cases q3 with
                  | false =>
                    have HNO : Hid (¬ heapP bl) := Lib.hid (fun h => by
                      have h1 := (HQN.out.1 (HHP.out h)).2.2
                      rw [heldAll_no HMT.out HQ3.out] at h1
                      cases h1)
                    go_wp2_with (fail)
                    go_ret
                    exact ⟨false, rfl, ⟨fun h => (by cases h), fun h => absurd h HNO.out⟩, bs HB2.out HBN.out⟩
                  | true =>
                    have HA2 : Hid (heldAll bl (livV (sl.take (kk + 1))) = true) := Lib.hid (by rw [HHA.out, HA.out]; rfl)
                    go_wp2_with (fail)
                    go_roundg (m1 - kk)
                    case rel => exact ⟨kk + 1, by go_num, by omega, by omega, HA2, HBN⟩
                    case measure => omega
              · obtain rfl : kk = m1 := by omega
                have HT3 : Hid (∀ i k, i < j + 1 → bl[i]? = some k → blkP bl k) := Lib.hid (HNX.out (HQN.out.2 ⟨of_decide_eq_true HQ.out, HTOK.out, by have h := HA.out; rw [← HLS.out, List.take_length] at h; exact h⟩))
                go_wp2_with (fail)
                go_roundg (L - j)
                case rel => exact ⟨j + 1, by go_num, by omega, by omega, HT3, Lib.hid (carry HBW.out HX2.out), Lib.hid (bs HB2.out HBW.out)⟩
                case measure => omega
    · obtain rfl : j = L := by omega
      have HALL : Hid (∀ k ∈ bl, blkP bl k) := Lib.hid (fun k hk => by
        obtain ⟨i, hi, rfl⟩ := List.mem_iff_getElem.1 hk
        exact HT.out i _ (by rw [← HL.out]; exact hi) (List.getElem?_eq_getElem hi))
      have LQ := Lib.hid (LT.out (blk_live HALL.out) (blk_free HALL.out) wr HB.out)
      clear HT LT
      go_wp2_with (fail)
      refine LQ.out.mono ?_
      rintro e w1 ⟨q, rfl, hq, hb⟩
      have HB1 := Lib.hid (bs HB.out hb)
      have HQ := Lib.hid hq
      clear hb hq
      go_wp2_with (fail)
      go_ret
      exact ⟨q, rfl, ⟨fun h => ⟨HALL.out, HQ.out.1 h⟩, fun h => HQ.out.2 h.2⟩, HB1.out⟩

end Go.Proofs.YtbgffmiffmmohaaGreatDoor.tree

