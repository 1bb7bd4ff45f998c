/-
  IsHeap of the project: its two loops.
  Conditions: at most 2^20 blocks, heads and slots; the values' texts and lists fit in memory; the package variables of the library's reading of numbers hold what the program's text lays.
-/
import Derived.Test.YtbgffmiffmmohaaGreatDoorHcSHeapI
import Derived.Test.YtbgffmiffmmohaaGreatDoorHcSSpare
namespace Go.Proofs.YtbgffmiffmmohaaGreatDoor.tree
open Go.ChangeShapes Go.WideShapes Go.ChangeAt Go.RowKit
set_option linter.unusedVariables false

theorem handleOf_i (n : Int) (w : World) : Calls Tryz.prog 122 #[.int .i64 n] w (GivesQ w (vV 5 n ⟨#[]⟩ 0 none 0 0)) := by
  go_enter Tryz.func122, Tryz.ntmps122
  go_wp2
  exact bodyPost_ret (v := vV 5 n ⟨#[]⟩ 0 none 0 0) (by simp [results, Tryz.results122, go_sem]) rfl ⟨rfl, b1 _ _⟩
theorem blk_ok {bl : List Bk} (h : ∀ k ∈ bl, blkP bl k) (hK : BkB bl) : okH bl := fun k hk => by
  refine ⟨(hK k hk).2.1, fun t ht => ?_⟩
  have h1 := h k hk
  unfold blkP at h1
  split at h1
  · have h2 : k.slots.length = 0 := by unfold zeroB at h1; simp at h1; simpa using h1.2.2.1
    have h3 : k.slots = [] := List.length_eq_zero_iff.1 h2
    rw [h3] at ht
    simp [livV, liv] at ht
  · exact held_ok (h1.2.2 t ht)

set_option maxRecDepth 100000 in
set_option maxHeartbeats 1600000 in
theorem isHeap_i (bl : List Bk) (A : Option Addr) (c : Nat) (w : World) (S : Nat → Prop) (hH : HIn w S bl A) (hm : bl.length ≤ 1048576) (hK : BkB bl) (hE : prs.Env w) :
    Calls Tryz.prog 47 #[hpV A bl.length c] w (BoP w (heapP bl)) := by
  have HH := Lib.hid hH
  have HE := Lib.hid hE
  have HK := Lib.hid hK
  have IBK := Lib.hid (fun (b : Bk) (hb : b ∈ bl) (w' : World) (h' : HIn w' S bl A) (hE' : prs.Env w') (A1 : Option Addr) (n1 c1 : Nat) (B1 : Option Addr) (m1 d1 : Nat) (S1 : Nat → Prop) (hT : TbIn w' S1 b.heads b.slots A1 n1 c1 B1 m1 d1 b.next b.count) => isBlock_i bl A c w' S h' hm b hb hK A1 n1 c1 B1 m1 d1 S1 hT hE')
  obtain ⟨L, HL⟩ : ∃ L, Hid (bl.length = L) := ⟨_, Lib.hid rfl⟩
  have SPH := Lib.hid (fun (hok : okH bl) (H : Nat) (t : Tr) (v : Value) (w' : World) (S1 : Nat → Prop) ht hv hB => spareH_i bl hok hm H A L c HL.out S 201 200 t v w' S1 (by omega) (by omega) (by omega) ht hv hB)
  rw [HL.out] at hm IBK ⊢
  clear hH hE hK
  go_enter Tryz.func47, Tryz.ntmps47
  go_upto_region 2 with fail
  generalize hw0 : w.alloc (.cells #[.slice A L c] IH') = w0
  have hb0 : Below w.heap.size w w0 := hw0 ▸ b1 w _
  have h0 : w0.heap[w.heap.size]? = some (.cells #[.slice A L c] IH' (0, 0)) := by rw [← hw0]; exact heap_alloc_new w _
  have HB0 := Lib.hid hb0
  have HX0 := Lib.hid h0
  clear hw0 hb0 h0
  go_loopg [9] (L + 1) (fun gk i wr => ∃ (j : Nat), i = .int .i64 j ∧ gk + j = L + 1 ∧ j ≤ L ∧ Hid (∀ i k, i < j → bl[i]? = some k → blkP bl k) ∧ Hid (wr.heap[w.heap.size]? = some (.cells #[.slice A L c] IH' (0, 0))) ∧ Hid (Below w.heap.size w wr))
  case atStart => exact ⟨0, rfl, by omega, by omega, Lib.hid (fun i k h => absurd h (by omega)), HX0, HB0⟩
  case round =>
    clear HB0 HX0
    obtain ⟨j, rfl, hgj, hjL, HT, HX, HB⟩ := hrel
    by_cases hlt : j < L
    · obtain ⟨k, hk⟩ : ∃ k, bl[j]? = some k := ⟨_, List.getElem?_eq_getElem (by rw [HL.out]; exact hlt)⟩
      have hmem := List.mem_of_getElem? hk
      obtain ⟨a, A1, n1, c1, B1, m1, d1, rfl, -, -, hT, hcell⟩ := HH.out.below HB.out j k hk
      have HKJ := Lib.hid hk
      have HMEM := Lib.hid hmem
      have HTB := Lib.hid hT
      obtain ⟨rf, hs, l, sl, x, ct⟩ := k
      simp only at HTB hcell
      obtain ⟨p0, p1, p2, p3, p4, p5⟩ := hcell
      clear hk hT hmem
      go_upto_region 4 with fail
      generalize hw1 : wr.alloc (.cells #[.int .i64 rf, .bool hs, .slice A1 n1 c1, .slice B1 m1 d1, .int .i64 x, .int .i64 ct] IBk) = w1
      have hb1 : Below wr.heap.size wr w1 := hw1 ▸ b1 wr _
      have h6 : w1.heap[wr.heap.size]? = some (.cells #[.int .i64 rf, .bool hs, .slice A1 n1 c1, .slice B1 m1 d1, .int .i64 x, .int .i64 ct] IBk (0, 0)) := by rw [← hw1]; exact heap_alloc_new wr _
      have HB1 := Lib.hid (bs HB.out hb1)
      have HX1 := Lib.hid (carry hb1 HX.out)
      have IQ := IBK.out _ HMEM.out w1 (HH.out.below HB1.out) (HE.out.stays HB1.out) A1 n1 c1 B1 m1 d1 _ (HTB.out.below hb1)
      have r6 := (rowc h6).1
      have z0 := r6 0; have z1 := r6 1; have z2 := r6 2; have z3 := r6 3; have z4 := r6 4; have z5 := r6 5
      have y0 := (rowc HX1.out).1 0
      simp at z0 z1 z2 z3 z4 z5 y0
      clear hw1 hb1 h6 r6 HB HX p0 p1 p2 p3 p4 p5
      go_wp2_with (fail)
      refine IQ.mono ?_
      rintro e w2 ⟨q, rfl, hq, hb2⟩
      have HX2 := Lib.hid (carry hb2 HX1.out)
      have HB2 := Lib.hid (bs HB1.out hb2)
      have HQ := Lib.hid hq
      clear hb2 IQ z0 z1 z2 z3 z4 z5 y0 hq
      cases q with
      | false =>
        have HNO : Hid (¬ heapP bl) := Lib.hid (fun h => by have := HQ.out.2 (h.1 _ HMEM.out); cases this)
        go_wp2_with (fail)
        go_ret
        exact ⟨false, rfl, ⟨fun h => (by cases h), fun h => absurd h HNO.out⟩, HB2.out⟩
      | true =>
        have HT2 : Hid (∀ i k, i < j + 1 → bl[i]? = some k → blkP bl k) := Lib.hid (fun i k hi hk => by
          by_cases e : i = j
          · subst e
            rw [HKJ.out] at hk
            obtain rfl := Option.some.inj hk
            exact HQ.out.1 rfl
          · exact HT.out i k (by omega) hk)
        go_wp2_with (fail)
        go_roundg (L - j)
        case rel => exact ⟨j + 1, by go_num, by omega, by omega, HT2, HX2, HB2⟩
        case measure => omega
    · obtain rfl : j = L := by omega
      have HALL : Hid (∀ k ∈ bl, blkP bl k) := Lib.hid (fun k hk => by
        obtain ⟨i, hi, rfl⟩ := List.mem_iff_getElem.1 hk
        exact HT.out i _ (by rw [← HL.out]; exact hi) (List.getElem?_eq_getElem hi))
      have SP := Lib.hid (SPH.out (blk_ok HALL.out HK.out) w.heap.size)
      have r0 := (rowc HX.out).1 0
      simp at r0
      clear HT SPH IBK
      go_upto_region 8 with fail
      clear r0
      go_loopg [21] (j + 1) (fun gk i wr => ∃ (j2 : Nat), i = .int .i64 j2 ∧ gk + j2 = j + 1 ∧ j2 ≤ j ∧ Hid (∀ i, i < j2 → 0 ≤ spr bl 201 200 (hdl i)) ∧ Hid (wr.heap[w.heap.size]? = some (.cells #[.slice A j c] IH' (0, 0))) ∧ Hid (Below w.heap.size w wr))
      case atStart => exact ⟨0, rfl, by omega, by omega, Lib.hid (fun i h => absurd h (by omega)), HX, HB⟩
      case round =>
        clear HB HX
        obtain ⟨i, rfl, hgi, hiL, HT, HX, HB⟩ := hrel
        by_cases hlt : i < j
        · have HO := Lib.hid (fun w' => handleOf_i i w')
          obtain ⟨Q, HQ⟩ : ∃ Q, Hid (spr bl 201 200 (hdl i) = Q) := ⟨_, Lib.hid rfl⟩
          go_wp2_with (fail)
          refine (HO.out _).mono ?_
          rintro e w1 ⟨rfl, hb1⟩
          have HX1 := Lib.hid (carry hb1 HX.out)
          have HB1 := Lib.hid (bs HB.out hb1)
          have IQ := SP.out (hdl i) (vV 5 i ⟨#[]⟩ 0 none 0 0) w1 (fun _ => True) (fun _ => ⟨by omega, by rw [HL.out]; omega⟩) (flat ⟨by unfold I64; omega, by unfold I64; omega, by unfold I64; omega, Nat.zero_le _⟩ w1 _ none 0 (Nat.zero_le _)) ⟨HH.out.below HB1.out, HX1.out⟩
          rw [HQ.out] at IQ
          clear hb1
          go_wp2_with (fail)
          refine IQ.mono ?_
          rintro e w2 ⟨rfl, hb2⟩
          have HX2 := Lib.hid (carry hb2 HX1.out)
          have HB2 := Lib.hid (bs HB1.out hb2)
          clear hb2 IQ
          by_cases hneg : Q < 0
          · have HNO : Hid (¬ heapP bl) := Lib.hid (fun h => by have h1 := h.2 i (by rw [HL.out]; omega); rw [HQ.out] at h1; omega)
            go_wp2_with (fail)
            go_ret
            exact ⟨false, rfl, ⟨fun h => (by cases h), fun h => absurd h HNO.out⟩, HB2.out⟩
          · have HT2 : Hid (∀ i2, i2 < i + 1 → 0 ≤ spr bl 201 200 (hdl i2)) := Lib.hid (fun i2 hi => by
              by_cases e : i2 = i
              · subst e; rw [HQ.out]; omega
              · exact HT.out i2 (by omega))
            go_wp2_with (fail)
            go_roundg (j - i)
            case rel => exact ⟨i + 1, by go_num, by omega, by omega, HT2, HX2, HB2⟩
            case measure => omega
        · obtain rfl : i = j := by omega
          have HYES : Hid (heapP bl) := Lib.hid ⟨HALL.out, fun i2 hi => HT.out i2 (by rw [← HL.out]; exact hi)⟩
          go_wp2_with (fail)
          go_ret
          exact ⟨true, rfl, ⟨fun _ => HYES.out, fun _ => rfl⟩, HB.out⟩

end Go.Proofs.YtbgffmiffmmohaaGreatDoor.tree

