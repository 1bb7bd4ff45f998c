/-
  What the texts behind this one use: 4 parts of one proof.
  Conditions: those that each theorem names.
-/
import Derived.Test.YtbgffmiffmmohaaGreatDoorHcSRefs
import Derived.Test.YtbgffmiffmmohaaGreatDoorHcB5
import Derived.Test.YtbgffmiffmmohaaGreatDoorHcB4
import Derived.Test.YtbgffmiffmmohaaGreatDoorHcSInts
import Derived.Deep.RegionWith
import Derived.Deep.RegionHeld3
import Derived.Test.YtbgffmiffmmohaaGreatDoorHcSVals
import Derived.Test.YtbgffmiffmmohaaGreatDoorHcSTreeCp
import Derived.Test.YtbgffmiffmmohaaGreatDoorHcB1
/-
  CountRefs of the project.
  Conditions: at most 2^20 blocks, each with at most 2^20 slots; at most 2^20 roots.
-/
namespace Go.Proofs.YtbgffmiffmmohaaGreatDoor.tree
open Go.ChangeShapes Go.WideShapes Go.ChangeAt Go.RowKit
set_option linter.unusedVariables false

theorem irng_i (n l h : Int) (q : Bool) (hq : decide (l ≤ n ∧ n ≤ h) = q) (w : World) : Calls Tryz.prog 151 #[.int .i64 n, .int .i64 l, .int .i64 h] w fun e w' => e = .returned (.bool q) ∧ w = w' := by
  subst hq
  by_cases h1 : l ≤ n
  all_goals
    by_cases h2 : n ≤ h
    all_goals
      go_enter Tryz.func151, Tryz.ntmps151
      go_wp2
      go_ret
      exact ⟨by simp [h1, h2], rfl⟩
theorem irng_s (n l h : Int) (q : Bool) (hq : decide (l ≤ n ∧ n ≤ h) = q) (w : World) : Calls Tryz.prog 78 #[.int .i64 n, .int .i64 l, .int .i64 h] w fun e w' => e = .returned (.bool q) ∧ w = w' := by
  subst hq
  by_cases h1 : l ≤ n
  all_goals
    by_cases h2 : n ≤ h
    all_goals
      go_enter Tryz.func78, Tryz.ntmps78
      go_wp2
      go_ret
      exact ⟨by simp [h1, h2], rfl⟩
theorem isIndex_n (n : Int) (A : Option Addr) (L c : Nat) (hL : L ≤ 1048576) (q : Bool) (hq : decide (0 ≤ n ∧ n < L) = q) (w : World) : Calls Tryz.prog 224 #[.slice A L c, .int .i64 n] w fun e w' => e = .returned (.bool q) ∧ w = w' := by
  have IR := irng_i n 0 ((L : Int) - 1) q (by rw [← hq]; exact decide_eq_decide.2 (by omega))
  clear hq
  go_enter Tryz.func224, Tryz.ntmps224
  go_wp2_with (fail)
  refine (IR _).mono ?_
  rintro e w1 ⟨rfl, rfl⟩
  go_wp2_with (fail)
  go_ret
  exact ⟨rfl, rfl⟩

set_option maxRecDepth 100000 in
set_option maxHeartbeats 1600000 in
theorem addRefs_i (vs : List Tr) (A : Option Addr) (c : Nat) (w : World) (S : Nat → Prop) (h : VIn w S vs A) (hm : vs.length ≤ 1048576) (C : Option Addr) (N d lo : Nat) (cs : List Int) (hC : imem.OwnI w lo C N d cs) (hN : N ≤ 1048576) (hno : ∀ q, (Value.slice C N d).ownBlock = some q → ¬ S q) (M : Int) (hM : Upto cs M) (hM1 : M ≤ 1000000000000000) :
    Calls Tryz.prog 196 #[.slice C N d, .slice A vs.length c] w (fun e w' => e = .returned (.tuple #[]) ∧ imem.OwnI w' lo C N d (addR cs vs) ∧ Fr (fun b => (Value.slice C N d).ownBlock = some b) w w') := by
  obtain ⟨L, HL⟩ : ∃ L, Hid (vs.length = L) := ⟨_, Lib.hid rfl⟩
  rw [HL.out] at hm ⊢
  have HV := Lib.hid h
  have HC := Lib.hid hC
  have HNO := Lib.hid hno
  have HM := Lib.hid hM
  have HCL := Lib.hid hC.len
  clear h hC hno hM
  go_enter Tryz.func196, Tryz.ntmps196
  go_upto_region 1 with fail
  go_loopg [8] (L + 1) (fun gk i wr => ∃ (j : Nat), i = .int .i64 j ∧ gk + j = L + 1 ∧ j ≤ L ∧ Hid (imem.OwnI wr lo C N d (addR cs (vs.take j))) ∧ Hid (Fr (fun b => (Value.slice C N d).ownBlock = some b) w wr))
  case atStart => exact ⟨0, rfl, by omega, by omega, HC, Lib.hid (Fr.refl _ _)⟩
  case round =>
    clear HC
    obtain ⟨j, rfl, hgj, hjL, HO, HF⟩ := hrel
    by_cases hlt : j < L
    · obtain ⟨t, ht⟩ : ∃ t, vs[j]? = some t := ⟨_, List.getElem?_eq_getElem (by rw [HL.out]; exact hlt)⟩
      have hstep := addR_take (cs := cs) ht
      have hup := (Upto.addR (vs.take j) HM.out).mono (M' := M + L) (by rw [List.length_take]; omega)
      have HW : VIn wr S vs A := HV.out.stays (fun _ h => h) fun b hb hl => HF.out.block b hl (fun e => HNO.out b e hb)
      obtain ⟨a, k, n, s, x, ks', vs', A1, c1, rfl, -, rfl, hT, hcell⟩ := HW j t ht
      obtain ⟨L1, HL1⟩ : ∃ L1, Hid (vs'.length = L1) := ⟨_, Lib.hid rfl⟩
      rw [HL1.out] at hcell
      obtain ⟨p0, p1, p2, p3, p4⟩ := hcell
      have HUP := Lib.hid hup
      have hlen : (addR cs (vs.take j)).length = N := (addR_len _ cs).trans HCL.out
      have HLEN := Lib.hid hlen
      have HST := Lib.hid hstep
      clear hT ht HW hstep hup hlen
      go_upto_region 3 with fail
      generalize hw1 : wr.alloc (.cells #[.int .i64 k, .int .i64 n, .string s, .int .i64 x, .slice A1 L1 c1] IV) = w1
      have hb1 : Below wr.heap.size wr w1 := hw1 ▸ b1 wr _
      have h5 : w1.heap[wr.heap.size]? = some (.cells #[.int .i64 k, .int .i64 n, .string s, .int .i64 x, .slice A1 L1 c1] IV (0, 0)) := by rw [← hw1]; exact heap_alloc_new wr _
      have HO1 := Lib.hid (HO.out.below hb1)
      have HF1 := Lib.hid (HF.out.trans (Fr.of hb1))
      have r5 := (rowc h5).1
      have z0 := r5 0; have z1 := r5 1
      simp at z0 z1
      clear hw1 hb1 h5 r5 HO HF p0 p1 p2 p3 p4
      by_cases h5 : k = 5
      · subst h5
        obtain ⟨q, HQ⟩ : ∃ q, Hid (decide (0 ≤ n ∧ n < N) = q) := ⟨_, Lib.hid rfl⟩
        have IX := isIndex_n n C N d hN q HQ.out
        go_wp2_with (fail)
        refine (IX _).mono ?_
        rintro e w2 ⟨rfl, rfl⟩
        cases q with
        | false =>
          have HST2 : Hid (addR cs (vs.take (j + 1)) = addR cs (vs.take j)) := Lib.hid (by rw [HST.out, addO_five, bump_out (by rw [HLEN.out]; exact of_decide_eq_false HQ.out)])
          go_wp2_with (fail)
          go_roundg (L - j)
          case rel => exact ⟨j + 1, by go_num, by omega, by omega, Lib.hid (by rw [HST2.out]; exact HO1.out), HF1⟩
          case measure => omega
        | true =>
          obtain ⟨h0, h1⟩ := of_decide_eq_true HQ.out
          obtain ⟨i, rfl⟩ : ∃ i : Nat, n = i := ⟨n.toNat, by omega⟩
          have hi : i < N := by omega
          obtain ⟨g, rfl, -, -, hob⟩ := HO1.out.head (by omega)
          obtain ⟨v, hv⟩ : ∃ v, (addR cs (vs.take j))[i]? = some v := ⟨_, List.getElem?_eq_getElem (by rw [HLEN.out]; exact hi)⟩
          have hvb := HUP.out i v hv
          have hcv : w1.cell? ⟨g, i, none⟩ = some (.int .i64 v) := by rw [HO1.out.row.cellAt i (by omega)]; exact imem.ics_get hv
          have hfz : w1.frozen? ⟨g, i, none⟩ = false := HO1.out.row.frozenAt i
          have HST2 : Hid (addR cs (vs.take (j + 1)) = (addR cs (vs.take j)).set i (v + 1)) := Lib.hid (by rw [HST.out, addO_five, bump_in hv])
          clear hv HQ IX
          go_wp2_with (fail)
          go_roundg (L - j)
          case rel => exact ⟨j + 1, by go_num, by omega, by omega, Lib.hid (by rw [HST2.out]; exact (HO1.out.set i (v + 1)).1), Lib.hid (HF1.out.trans (Fr.set (S := fun b => (Value.slice (some ⟨g, 0, none⟩) N d).ownBlock = some b) hob _ _))⟩
          case measure => omega
      · have HST2 : Hid (addR cs (vs.take (j + 1)) = addR cs (vs.take j)) := Lib.hid (by rw [HST.out, addO_not h5])
        go_wp2_with (fail)
        go_roundg (L - j)
        case rel => exact ⟨j + 1, by go_num, by omega, by omega, Lib.hid (by rw [HST2.out]; exact HO1.out), HF1⟩
        case measure => omega
    · obtain rfl : j = L := by omega
      have e : vs.take j = vs := by rw [← HL.out, List.take_length]
      have HO3 := Lib.hid (e ▸ HO.out)
      clear e HO
      go_wp2_with (fail)
      go_end0
      exact ⟨rfl, HO3.out, HF.out⟩

/-- A new row of counts. -/
def RfQ (w : World) (cs : List Int) (e : Ending) (w' : World) : Prop := ∃ A c, e = .returned (.slice A cs.length c) ∧ imem.OwnI w' w.heap.size A cs.length c cs ∧ Below w.heap.size w w'

set_option maxRecDepth 100000 in
set_option maxHeartbeats 1600000 in
theorem countRefs_i (bl : List Bk) (A : Option Addr) (c : Nat) (vs : List Tr) (B : Option Addr) (d : Nat) (w : World) (S S' : Nat → Prop) (h : HIn w S bl A) (h' : VIn w S' vs B) (hm : bl.length ≤ 1048576) (hv : vs.length ≤ 1048576) (hs : ∀ k ∈ bl, k.slots.length ≤ 1048576) :
    Calls Tryz.prog 139 #[hpV A bl.length c, .slice B vs.length d] w (RfQ w (refsOf bl vs)) := by
  obtain ⟨L, HL⟩ : ∃ L, Hid (bl.length = L) := ⟨_, Lib.hid rfl⟩
  rw [HL.out] at hm ⊢
  have HH := Lib.hid h
  have HS := Lib.hid hs
  have HV0 := Lib.hid h'.lt'
  obtain ⟨LV, HLV⟩ : ∃ L, Hid (vs.length = L) := ⟨_, Lib.hid rfl⟩
  rw [HLV.out] at hv ⊢
  have AR := Lib.hid (fun (w' : World) (S : Nat → Prop) (h : VIn w' S vs B) => addRefs_i vs B d w' S h (by rw [HLV.out]; exact hv))
  rw [HLV.out] at AR
  have hLR : (refsOf bl vs).length = L := by unfold refsOf; rw [refsB_len, addR_len, List.length_replicate]; exact HL.out
  unfold RfQ
  rw [hLR]
  obtain ⟨i0, hi, hz0, hz1, hz2⟩ := info_parts imem.i64row
  have HZ := Lib.hid hz2
  obtain ⟨P, HP⟩ : ∃ P, Hid (w.heap.size = P) := ⟨_, Lib.hid rfl⟩
  clear h h' hs hLR hz2
  go_enter Tryz.func139, Tryz.ntmps139
  go_wp2_with (first | (at_make; refine wpList_make_full _ rfl _ _ 24 rfl P 3 i0 (.int .i64 0) 1 Tryz.underlying24 hi hz0 hz1 _ _ _ _ L rfl rfl rfl rfl (by have := HZ.out; rw [this]; omega) (by unfold maxLen; omega) (by rw [← HP.out]; simp) ?_; intro w1 hown hg; have HOW := Lib.hid hown; have HG := Lib.hid hg; clear hown hg) | fail)
  have HO1 : Hid (imem.OwnI w1 P (some ⟨w.heap.size + 1, 0, none⟩) L L (List.replicate L 0)) := Lib.hid ⟨List.length_replicate, by have h := HOW.out; rw [show (Value.int IntKind.i64 0).cells = #[Value.int .i64 0] from rfl] at h; rw [imem.ics_zero, ← toList_madeCells_one, ← Nat.mul_one L]; simpa using h⟩
  have HB1 : Hid (Below w.heap.size w w1) := Lib.hid (bs (b1 w _) (mem.below_of_none HG.out))
  have hbx : w1.heap[w.heap.size]? = some (.cells #[.slice A L c] IH (0, 0)) := (HG.out.block w.heap.size (by simp) (by simp)).trans (heap_alloc_new w _)
  have HBX := Lib.hid hbx
  have HW1 : Hid (w.heap.size + 1 < w1.heap.size) := Lib.hid (HO1.out.block _ rfl).2
  refine (AR.out w1 _ (HV0.out.below HB1.out) _ L L P _ HO1.out hm (fun q e hq => by have e1 : w.heap.size + 1 = q := (by simpa [Value.ownBlock] using e); have hq' : q < w.heap.size := hq; omega) 0 (Upto.zero L) (by omega)).mono ?_
  rintro e w2 ⟨rfl, ho2, hf2⟩
  have HO2 := Lib.hid ho2
  have HB2 : Hid (Below w.heap.size w w2) := Lib.hid (HB1.out.trans (hf2.below (by have := HW1.out; omega) (fun b e => by have e1 : w.heap.size + 1 = b := (by simpa [Value.ownBlock] using e); omega)))
  have hbx2 : w2.heap[w.heap.size]? = some (.cells #[.slice A L c] IH (0, 0)) := (hf2.block w.heap.size (by have := HW1.out; omega) (fun e => by simp [Value.ownBlock] at e)).trans hbx
  have r0 := (rowc hbx2).1 0
  simp at r0
  have HUP0 : Hid (Upto (addR (List.replicate L 0) vs) 1048576) := Lib.hid ((Upto.addR vs (Upto.zero L)).mono (by rw [HLV.out]; omega))
  obtain ⟨cs0, HC0⟩ : ∃ cs0, Hid (addR (List.replicate L 0) vs = cs0) := ⟨_, Lib.hid rfl⟩
  have HR0 : Hid (refsOf bl vs = refsB cs0 bl) := Lib.hid (by unfold refsOf; rw [HL.out, HC0.out])
  rw [HC0.out] at HO2 HUP0
  clear hbx hbx2 ho2 hf2 HO1 HB1 HOW HG HBX hi hz0 hz1 AR HV0
  go_upto_region 4 with fail
  go_loopg [18] (L + 1) (fun gk i wr => ∃ (j : Nat), i = .int .i64 j ∧ gk + j = L + 1 ∧ j ≤ L ∧ Hid (imem.OwnI wr P (some ⟨w.heap.size + 1, 0, none⟩) L L (refsB cs0 (bl.take j))) ∧ Hid (Upto (refsB cs0 (bl.take j)) (1048576 + 1048576 * j)) ∧ Hid (Below w.heap.size w wr))
  case atStart => exact ⟨0, rfl, by omega, by omega, HO2, Lib.hid (HUP0.out.mono (by omega)), HB2⟩
  case round =>
    clear HO2 HB2 HUP0 r0
    obtain ⟨j, rfl, hgj, hjL, HO, HUP, HB⟩ := hrel
    by_cases hlt : j < L
    · obtain ⟨k, hk⟩ : ∃ k, bl[j]? = some k := ⟨_, List.getElem?_eq_getElem (by rw [HL.out]; exact hlt)⟩
      have hms := HS.out k (List.mem_of_getElem? hk)
      obtain ⟨a, A1, n1, c1, B1, m1, d1, rfl, -, -, hT, hcell⟩ := HH.out j k hk
      have hsl : SIn w (fun b => b < w.heap.size) k.slots B1 := by
        intro i t ht
        obtain ⟨a, k, n, s, x, ks, vs, A', c', e, hSa, hk, hl, hv, hT, hc⟩ := hT.slots i t ht
        refine ⟨a, k, n, s, x, ks, vs, A', c', e, ?_, hk, hl, hv, hT.lt', hc⟩
        have := World.block_lt_of_cell? _ _ hc.c0
        rwa [mem.add_block] at this
      have hst := refsB_take (cs := cs0) hk
      have hlm := hT.len
      have hc6 := hcell.stays (w' := wr) (fun hl => HB.out.block _ hl)
      have hlv := livV_len k.slots
      have hlen : (refsB cs0 (bl.take j)).length = L := HO.out.len
      obtain ⟨rf, hh, l, sl, x, ct⟩ := k
      simp only at hms hsl hst hlm hc6 hlv
      have HST := Lib.hid hst
      have HUP2 : Hid (Upto (refsB cs0 (bl.take (j + 1))) (1048576 + 1048576 * (j + 1 : Nat))) := Lib.hid (by rw [HST.out]; exact (Upto.addR (livV sl) HUP.out).mono (by push_cast; omega))
      have LV := Lib.hid (fun w' (hb : Below w.heap.size w w') => liveValues_i (b := hh) (A := A1) (n := n1) (c := c1) (d := d1) (x := x) (k := ct) w' (hsl.below hb) hlm (by omega))
      have HM1 : Hid ((livV sl).length ≤ 1048576) := Lib.hid (by omega)
      obtain ⟨p0, p1, p2, p3, p4, p5⟩ := hc6
      clear hms hsl hst hlm hT hcell hk hlv hlen
      go_upto_region 6 with fail
      generalize hw3 : wr.alloc (.cells #[.int .i64 rf, .bool hh, .slice A1 n1 c1, .slice B1 m1 d1, .int .i64 x, .int .i64 ct] IB) = w3
      have hb3 : Below wr.heap.size wr w3 := hw3 ▸ b1 wr _
      have h6 : w3.heap[wr.heap.size]? = some (.cells #[.int .i64 rf, .bool hh, .slice A1 n1 c1, .slice B1 m1 d1, .int .i64 x, .int .i64 ct] IB (0, 0)) := by rw [← hw3]; exact heap_alloc_new wr _
      have HO3 := Lib.hid (HO.out.below hb3)
      have HB3 := Lib.hid (bs HB.out hb3)
      have r6 := (rowc h6).1
      have z1 := r6 1; have z2 := r6 2; have z3 := r6 3; have z4 := r6 4; have z5 := r6 5
      simp at z1 z2 z3 z4 z5
      have HG1 : Hid (w.heap.size + 1 < w3.heap.size) := Lib.hid (HO3.out.block _ rfl).2
      clear hw3 hb3 h6 r6 HO HB p0 p1 p2 p3 p4 p5
      go_wp2_with (fail)
      refine (LV.out _ HB3.out).mono ?_
      rintro e w4 ⟨A4, c4, rfl, hl4, hv4, hb4⟩
      have HO4 := Lib.hid (HO3.out.below hb4)
      have HB4 := Lib.hid (bs HB3.out hb4)
      have HG4 : Hid (w.heap.size + 1 < w4.heap.size) := Lib.hid (HO4.out.block _ rfl).2
      have AR := Lib.hid (addRefs_i (livV sl) A4 c4 w4 _ hv4 HM1.out (some ⟨w.heap.size + 1, 0, none⟩) L L P _ HO4.out hm (fun q e hq => by
        have e1 : w.heap.size + 1 = q := (by simpa [Value.ownBlock] using e)
        have := HG1.out
        rcases hq with hq | hq
        · have hq' : q < w.heap.size := hq; omega
        · omega) _ HUP.out (by have : (j : Int) ≤ 1048576 := by omega
                               omega))
      rw [← HST.out] at AR
      obtain ⟨LL, HLL⟩ : ∃ L, Hid ((livV sl).length = L) := ⟨_, Lib.hid rfl⟩
      rw [HLL.out] at AR ⊢
      clear hl4 hv4 hb4 z1 z2 z3 z4 z5
      go_wp2_with (fail)
      refine AR.out.mono ?_
      rintro e w5 ⟨rfl, ho5, hf5⟩
      have HO5 := Lib.hid ho5
      have HB5 : Hid (Below w.heap.size w w5) := Lib.hid (HB4.out.trans (hf5.below (by have := HG4.out; omega) (fun b e => by have e1 : w.heap.size + 1 = b := (by simpa [Value.ownBlock] using e); omega)))
      clear ho5 hf5
      go_wp2_with (fail)
      go_roundg (L - j)
      case rel => exact ⟨j + 1, by go_num, by omega, by omega, HO5, HUP2, HB5⟩
      case measure => omega
    · obtain rfl : j = L := by omega
      have e : bl.take j = bl := by rw [← HL.out, List.take_length]
      have HO3 := Lib.hid (e ▸ HO.out)
      clear e HO
      go_wp2_with (fail)
      go_ret
      exact ⟨_, _, rfl, by rw [HR0.out]; have h := HO3.out; rw [← HP.out] at h; exact h, HB.out⟩

end Go.Proofs.YtbgffmiffmmohaaGreatDoor.tree

/-
  CountRefs of the model.
  Conditions: at most 2^20 blocks, each with at most 2^20 slots; at most 2^20 roots.
-/
namespace Go.Proofs.YtbgffmiffmmohaaGreatDoor.tree
open Go.ChangeShapes Go.WideShapes Go.ChangeAt Go.RowKit
set_option linter.unusedVariables false

set_option maxRecDepth 100000 in
set_option maxHeartbeats 4000000 in
theorem counts_s (bl : List Bk) (A : Option Addr) (c : Nat) (vs : List Tr) (B : Option Addr) (d : Nat) (w : World) (S S' : Nat → Prop) (h : HIn w S bl A) (h' : VIn w S' vs B) (hm : bl.length ≤ 1048576) (hv : vs.length ≤ 1048576) (hs : ∀ k ∈ bl, k.slots.length ≤ 1048576) :
    Calls Tryz.prog 137 #[hpV A bl.length c, .slice B vs.length d] w (RfQ w (refsOf bl vs)) := by
  obtain ⟨L, HL⟩ : ∃ L, Hid (bl.length = L) := ⟨_, Lib.hid rfl⟩
  rw [HL.out] at hm ⊢
  have HH := Lib.hid h
  have HS := Lib.hid hs
  have HV0 := Lib.hid h'.lt'
  obtain ⟨LV, HLV⟩ : ∃ L, Hid (vs.length = L) := ⟨_, Lib.hid rfl⟩
  rw [HLV.out] at hv ⊢
  have hLR : (refsOf bl vs).length = L := by unfold refsOf; rw [refsB_len, addR_len, List.length_replicate]; exact HL.out
  unfold RfQ
  rw [hLR]
  obtain ⟨i0, hi, hz0, hz1, hz2⟩ := info_parts imem.i64row
  have HZ := Lib.hid hz2
  obtain ⟨P, HP⟩ : ∃ P, Hid (w.heap.size = P) := ⟨_, Lib.hid rfl⟩
  clear h h' hs hLR hz2
  go_enter Tryz.func137, Tryz.ntmps137
  go_wp2_with (first | (at_make; refine wpList_make_full _ rfl _ _ 24 rfl P 3 i0 (.int .i64 0) 1 Tryz.underlying24 hi hz0 hz1 _ _ _ _ L rfl rfl rfl rfl (by have := HZ.out; rw [this]; omega) (by unfold maxLen; omega) (by rw [← HP.out]; simp) ?_; intro w1 hown hg; have HOW := Lib.hid hown; have HG := Lib.hid hg; clear hown hg) | fail)
  have HO1 : Hid (imem.OwnI w1 P (some ⟨w.heap.size + 1, 0, none⟩) L L (List.replicate L 0)) := Lib.hid ⟨List.length_replicate, by have h := HOW.out; rw [show (Value.int IntKind.i64 0).cells = #[Value.int .i64 0] from rfl] at h; rw [imem.ics_zero, ← toList_madeCells_one, ← Nat.mul_one L]; simpa using h⟩
  have HB1 : Hid (Below w.heap.size w w1) := Lib.hid (bs (b1 w _) (mem.below_of_none HG.out))
  have HBX : Hid (w1.heap[w.heap.size]? = some (.cells #[.slice A L c] IH (0, 0))) := Lib.hid ((HG.out.block w.heap.size (by simp) (by simp)).trans (heap_alloc_new w _))
  clear HOW HG hi hz0 hz1
  go_loopg [6] (LV + 1) (fun gk i wr => ∃ (j : Nat), i = .int .i64 j ∧ gk + j = LV + 1 ∧ j ≤ LV ∧ Hid (imem.OwnI wr P (some ⟨w.heap.size + 1, 0, none⟩) L L (addR (List.replicate L 0) (vs.take j))) ∧ Hid (wr.heap[w.heap.size]? = some (.cells #[.slice A L c] IH (0, 0))) ∧ Hid (Below w.heap.size w wr))
  case atStart => exact ⟨0, rfl, by omega, by omega, HO1, HBX, HB1⟩
  case round =>
    clear HO1 HBX HB1
    obtain ⟨j, rfl, hgj, hjL, HO, HBX, HB⟩ := hrel
    by_cases hlt : j < LV
    · obtain ⟨t, ht⟩ : ∃ t, vs[j]? = some t := ⟨_, List.getElem?_eq_getElem (by rw [HLV.out]; exact hlt)⟩
      have hstep := addR_take (cs := List.replicate L 0) ht
      have hup := (Upto.addR (vs.take j) (Upto.zero L)).mono (M' := LV) (by rw [List.length_take]; omega)
      obtain ⟨a, k, n, s, x, ks', vs', A1, c1, rfl, -, rfl, hT, hcell⟩ := HV0.out.below HB.out j t ht
      obtain ⟨L1, HL1⟩ : ∃ L1, Hid (vs'.length = L1) := ⟨_, Lib.hid rfl⟩
      rw [HL1.out] at hcell
      obtain ⟨p0, p1, p2, p3, p4⟩ := hcell
      have HUP := Lib.hid hup
      have hlen := HO.out.len
      have HLEN := Lib.hid hlen
      have HST := Lib.hid hstep
      clear hT ht hstep hup hlen p2 p3 p4
      by_cases h5 : k = 5
      · subst h5
        obtain ⟨q, HQ⟩ : ∃ q, Hid (decide (0 ≤ n ∧ n ≤ (L : Int) - 1) = q) := ⟨_, Lib.hid rfl⟩
        have IX := irng_s n 0 ((L : Int) - 1) q HQ.out
        go_wp2_with (fail)
        refine (IX _).mono ?_
        rintro e w2 ⟨rfl, rfl⟩
        cases q with
        | false =>
          have HST2 : Hid (addR (List.replicate L 0) (vs.take (j + 1)) = addR (List.replicate L 0) (vs.take j)) := Lib.hid (by rw [HST.out, addO_five, bump_out (by rw [HLEN.out]; have := of_decide_eq_false HQ.out; omega)])
          go_wp2_with (fail)
          go_roundg (LV - j)
          case rel => exact ⟨j + 1, by go_num, by omega, by omega, Lib.hid (by rw [HST2.out]; exact HO.out), HBX, HB⟩
          case measure => omega
        | true =>
          obtain ⟨h0, h1⟩ := of_decide_eq_true HQ.out
          obtain ⟨i, rfl⟩ : ∃ i : Nat, n = i := ⟨n.toNat, by omega⟩
          have hi : i < L := by omega
          obtain ⟨v, hv'⟩ : ∃ v, (addR (List.replicate L 0) (vs.take j))[i]? = some v := ⟨_, List.getElem?_eq_getElem (by rw [HLEN.out]; exact hi)⟩
          have hvb := HUP.out i v hv'
          have hcv : wr.cell? ⟨w.heap.size + 1, i, none⟩ = some (.int .i64 v) := by rw [HO.out.row.cellAt i (by omega)]; exact imem.ics_get hv'
          have hfz : wr.frozen? ⟨w.heap.size + 1, i, none⟩ = false := HO.out.row.frozenAt i
          have HST2 : Hid (addR (List.replicate L 0) (vs.take (j + 1)) = (addR (List.replicate L 0) (vs.take j)).set i (v + 1)) := Lib.hid (by rw [HST.out, addO_five, bump_in hv'])
          have HON : Hid (imem.OwnI (wr.setCell ⟨w.heap.size + 1, i, none⟩ (.int .i64 (v + 1))) P (some ⟨w.heap.size + 1, 0, none⟩) L L (addR (List.replicate L 0) (vs.take (j + 1)))) := Lib.hid (by rw [HST2.out]; exact (HO.out.set i (v + 1)).1)
          have HBN : Hid (Below w.heap.size w (wr.setCell ⟨w.heap.size + 1, i, none⟩ (.int .i64 (v + 1)))) := Lib.hid (HB.out.setCell (by simp) _)
          have HBXN : Hid ((wr.setCell ⟨w.heap.size + 1, i, none⟩ (.int .i64 (v + 1))).heap[w.heap.size]? = some (.cells #[.slice A L c] IH (0, 0))) := Lib.hid (by rw [set_other (by omega)]; exact HBX.out)
          clear hv' HQ IX HST2
          go_wp2_with (fail)
          go_region
          have HOD : Hid (imem.OwnI (wr.setCell ⟨w.heap.size + 1, i, none⟩ (.int .i64 (v + 1))).drew P (some ⟨w.heap.size + 1, 0, none⟩) L L (addR (List.replicate L 0) (vs.take (j + 1)))) := Lib.hid HON.out
          have HBD := Lib.hid (HBN.out.trans ((Below.refl _ _).drew))
          have HBXD : Hid ((wr.setCell ⟨w.heap.size + 1, i, none⟩ (.int .i64 (v + 1))).drew.heap[w.heap.size]? = some (.cells #[.slice A L c] IH (0, 0))) := Lib.hid HBXN.out
          generalize (wr.setCell ⟨w.heap.size + 1, i, none⟩ (.int .i64 (v + 1))).drew = wz at *
          clear hcv hfz p0 p1
          go_wp2_with (fail)
          go_roundg (LV - j)
          case rel => exact ⟨j + 1, by go_num, by omega, by omega, HOD, HBXD, HBD⟩
          case measure => omega
      · have HST2 : Hid (addR (List.replicate L 0) (vs.take (j + 1)) = addR (List.replicate L 0) (vs.take j)) := Lib.hid (by rw [HST.out, addO_not h5])
        go_wp2_with (fail)
        go_roundg (LV - j)
        case rel => exact ⟨j + 1, by go_num, by omega, by omega, Lib.hid (by rw [HST2.out]; exact HO.out), HBX, HB⟩
        case measure => omega
    · obtain rfl : j = LV := by omega
      have HO2 : Hid (imem.OwnI wr P (some ⟨w.heap.size + 1, 0, none⟩) L L (addR (List.replicate L 0) vs)) := Lib.hid (by have h := HO.out; rw [← HLV.out, List.take_length] at h; exact h)
      have HUP0 : Hid (Upto (addR (List.replicate L 0) vs) 1048576) := Lib.hid ((Upto.addR vs (Upto.zero L)).mono (by rw [HLV.out]; omega))
      obtain ⟨cs0, HC0⟩ : ∃ cs0, Hid (addR (List.replicate L 0) vs = cs0) := ⟨_, Lib.hid rfl⟩
      have HR0 : Hid (refsOf bl vs = refsB cs0 bl) := Lib.hid (by unfold refsOf; rw [HL.out, HC0.out])
      rw [HC0.out] at HO2 HUP0
      have r0 := (rowc HBX.out).1 0
      simp at r0
      clear HO HV0
      go_wp2_with (fail)
      clear r0
      go_loopg [7] (L + 1) (fun gk i wr => ∃ (j : Nat), i = .int .i64 j ∧ gk + j = L + 1 ∧ j ≤ L ∧ Hid (imem.OwnI wr P (some ⟨w.heap.size + 1, 0, none⟩) L L (refsB cs0 (bl.take j))) ∧ Hid (Upto (refsB cs0 (bl.take j)) (1048576 + 1048576 * j)) ∧ Hid (wr.heap[w.heap.size]? = some (.cells #[.slice A L c] IH (0, 0))) ∧ Hid (Below w.heap.size w wr))
      case atStart => exact ⟨0, rfl, by omega, by omega, HO2, Lib.hid (HUP0.out.mono (by omega)), HBX, HB⟩
      case round =>
        clear HO2 HBX HB HUP0
        rename_i j0 _ _ _ _ _ _ _ _
        obtain ⟨i, rfl, hgi, hiL, HO, HUP, HBX, HB⟩ := hrel
        have r0 := (rowc HBX.out).1 0
        simp at r0
        by_cases hlt2 : i < L
        · obtain ⟨k, hk⟩ : ∃ k, bl[i]? = some k := ⟨_, List.getElem?_eq_getElem (by rw [HL.out]; exact hlt2)⟩
          have hms := HS.out k (List.mem_of_getElem? hk)
          obtain ⟨a, A1, n1, c1, B1, m1, d1, rfl, -, -, hT, hcell⟩ := HH.out i k hk
          have hsl : SIn w (fun b => b < w.heap.size) k.slots B1 := by
            intro i t ht
            obtain ⟨a, k, n, s, x, ks, vs, A', c', e, hSa, hk, hl, hv, hT, hc⟩ := hT.slots i t ht
            refine ⟨a, k, n, s, x, ks, vs, A', c', e, ?_, hk, hl, hv, hT.lt', hc⟩
            have := World.block_lt_of_cell? _ _ hc.c0
            rwa [mem.add_block] at this
          have hst := refsB_take (cs := cs0) hk
          have hlm := hT.len
          have hc6 := hcell.stays (w' := wr) (fun hl => HB.out.block _ hl)
          obtain ⟨rf, hh, l, sl, x, ct⟩ := k
          simp only at hms hsl hst hlm hc6
          have HST := Lib.hid hst
          have HSL := Lib.hid hsl
          have HLM := Lib.hid hlm
          obtain ⟨cs1, HC1⟩ : ∃ cs1, Hid (refsB cs0 (bl.take i) = cs1) := ⟨_, Lib.hid rfl⟩
          rw [HC1.out] at HO HUP HST
          have hM : 1048576 + 1048576 * (i : Int) ≤ 1000000000000000 := by omega
          obtain ⟨M, HMM⟩ : ∃ M : Int, Hid (1048576 + 1048576 * (i : Int) = M) := ⟨_, Lib.hid rfl⟩
          rw [HMM.out] at HUP hM
          have hm1 : m1 ≤ 1048576 := by omega
          obtain ⟨p0, p1, p2, p3, p4, p5⟩ := hc6
          clear hms hsl hst hlm hT hcell hk p0 p1 p2 p4 p5
          go_wp2_with (fail)
          clear r0 p3
          go_loopg [9] (m1 + 1) (fun gk i2 wr => ∃ (jj : Nat), i2 = .int .i64 jj ∧ gk + jj = m1 + 1 ∧ jj ≤ m1 ∧ Hid (imem.OwnI wr P (some ⟨w.heap.size + 1, 0, none⟩) L L (addR cs1 (livV (sl.take jj)))) ∧ Hid (wr.heap[w.heap.size]? = some (.cells #[.slice (some a) L c] IH (0, 0))) ∧ Hid (Below w.heap.size w wr))
          case atStart => exact ⟨0, rfl, by omega, by omega, HO, HBX, HB⟩
          case round =>
            clear HO HBX HB
            obtain ⟨jj, rfl, hgjj, hjj, HO, HBX, HB⟩ := hrel
            by_cases hlt3 : jj < m1
            · obtain ⟨t, ht⟩ : ∃ t, sl[jj]? = some t := ⟨_, List.getElem?_eq_getElem (by rw [HLM.out]; exact hlt3)⟩
              have hstep := addS_take (cs := cs1) ht
              have hup := (Upto.addR (livV (sl.take jj)) HUP.out).mono (M' := M + 1048576) (by have h1 := livV_len (sl.take jj); rw [List.length_take] at h1; omega)
              obtain ⟨a2, k, n, s, x2, ks', vs', A2, c2, rfl, -, hyb, hlb, hv2, hT, hcell⟩ := HSL.out.below HB.out jj t ht
              obtain ⟨⟨yb, yn, ys⟩, tv, tb, tl⟩ := t
              simp only at hstep hyb hlb hv2 hT hcell
              subst hv2
              obtain ⟨L1, HL1⟩ : ∃ L1, Hid (vs'.length = L1) := ⟨_, Lib.hid rfl⟩
              rw [HL1.out] at hcell
              obtain ⟨p0, p1, p2, p3, p4, p5, p6, p7, p8, p9⟩ := hcell
              have HUP2 := Lib.hid hup
              have hlen := HO.out.len
              have HLEN := Lib.hid hlen
              have HST2 := Lib.hid hstep
              clear hT ht hstep hup hlen hyb hlb p0 p1 p2 p5 p6 p7 p9
              cases tb with
              | false =>
                have HST3 : Hid (addR cs1 (livV (sl.take (jj + 1))) = addR cs1 (livV (sl.take jj))) := Lib.hid (by rw [HST2.out]; rfl)
                go_wp2_with (fail)
                go_roundg (m1 - jj)
                case rel => exact ⟨jj + 1, by go_num, by omega, by omega, Lib.hid (by rw [HST3.out]; exact HO.out), HBX, HB⟩
                case measure => omega
              | true =>
                by_cases h5 : k = 5
                · subst h5
                  obtain ⟨q, HQ⟩ : ∃ q, Hid (decide (0 ≤ n ∧ n ≤ (L : Int) - 1) = q) := ⟨_, Lib.hid rfl⟩
                  have IX := irng_s n 0 ((L : Int) - 1) q HQ.out
                  go_wp2_with (fail)
                  refine (IX _).mono ?_
                  rintro e w2 ⟨rfl, rfl⟩
                  cases q with
                  | false =>
                    have HST3 : Hid (addR cs1 (livV (sl.take (jj + 1))) = addR cs1 (livV (sl.take jj))) := Lib.hid (by
                      rw [HST2.out]
                      simp only [addS, if_true]
                      rw [addO_five, bump_out (by rw [HLEN.out]; have := of_decide_eq_false HQ.out; omega)])
                    go_wp2_with (fail)
                    go_roundg (m1 - jj)
                    case rel => exact ⟨jj + 1, by go_num, by omega, by omega, Lib.hid (by rw [HST3.out]; exact HO.out), HBX, HB⟩
                    case measure => omega
                  | true =>
                    obtain ⟨h0, h1⟩ := of_decide_eq_true HQ.out
                    obtain ⟨z, rfl⟩ : ∃ i : Nat, n = i := ⟨n.toNat, by omega⟩
                    have hi : z < L := by omega
                    obtain ⟨v, hv'⟩ : ∃ v, (addR cs1 (livV (sl.take jj)))[z]? = some v := ⟨_, List.getElem?_eq_getElem (by rw [HLEN.out]; exact hi)⟩
                    have hvb := HUP2.out z v hv'
                    have hcv : wr.cell? ⟨w.heap.size + 1, z, none⟩ = some (.int .i64 v) := by rw [HO.out.row.cellAt z (by omega)]; exact imem.ics_get hv'
                    have hfz : wr.frozen? ⟨w.heap.size + 1, z, none⟩ = false := HO.out.row.frozenAt z
                    have HST3 : Hid (addR cs1 (livV (sl.take (jj + 1))) = (addR cs1 (livV (sl.take jj))).set z (v + 1)) := Lib.hid (by
                      rw [HST2.out]
                      simp only [addS, if_true]
                      rw [addO_five, bump_in hv'])
                    have HOD : Hid (imem.OwnI (wr.setCell ⟨w.heap.size + 1, z, none⟩ (.int .i64 (v + 1))).drew P (some ⟨w.heap.size + 1, 0, none⟩) L L (addR cs1 (livV (sl.take (jj + 1))))) := Lib.hid (by rw [HST3.out]; exact (HO.out.set z (v + 1)).1)
                    have HBD : Hid (Below w.heap.size w (wr.setCell ⟨w.heap.size + 1, z, none⟩ (.int .i64 (v + 1))).drew) := Lib.hid ((HB.out.setCell (by simp) _).trans ((Below.refl _ _).drew))
                    have HBXD : Hid ((wr.setCell ⟨w.heap.size + 1, z, none⟩ (.int .i64 (v + 1))).drew.heap[w.heap.size]? = some (.cells #[.slice (some a) L c] IH (0, 0))) := Lib.hid (by
                      show (wr.setCell ⟨w.heap.size + 1, z, none⟩ (.int .i64 (v + 1))).heap[w.heap.size]? = _
                      rw [set_other (by omega)]; exact HBX.out)
                    clear hv' HQ IX HST3
                    go_wp2_with (fail)
                    go_region
                    generalize (wr.setCell ⟨w.heap.size + 1, z, none⟩ (.int .i64 (v + 1))).drew = wz at *
                    clear hcv hfz p3 p4 p8
                    go_wp2_with (fail)
                    go_roundg (m1 - jj)
                    case rel => exact ⟨jj + 1, by go_num, by omega, by omega, HOD, HBXD, HBD⟩
                    case measure => omega
                · have HST3 : Hid (addR cs1 (livV (sl.take (jj + 1))) = addR cs1 (livV (sl.take jj))) := Lib.hid (by
                    rw [HST2.out]
                    simp only [addS, if_true]
                    rw [addO_not h5])
                  go_wp2_with (fail)
                  go_roundg (m1 - jj)
                  case rel => exact ⟨jj + 1, by go_num, by omega, by omega, Lib.hid (by rw [HST3.out]; exact HO.out), HBX, HB⟩
                  case measure => omega
            · obtain rfl : jj = m1 := by omega
              have HON : Hid (imem.OwnI wr P (some ⟨w.heap.size + 1, 0, none⟩) L L (refsB cs0 (bl.take (i + 1)))) := Lib.hid (by rw [HST.out]; have h := HO.out; rw [← HLM.out, List.take_length] at h; exact h)
              have HUPN : Hid (Upto (refsB cs0 (bl.take (i + 1))) (1048576 + 1048576 * (i + 1 : Nat))) := Lib.hid (by
                rw [HST.out]
                refine (Upto.addR (livV sl) HUP.out).mono ?_
                have h1 := livV_len sl
                have h2 := HLM.out
                have h3 := HMM.out
                push_cast
                omega)
              go_wp2_with (fail)
              go_roundg (L - i)
              case rel => exact ⟨i + 1, by go_num, by omega, by omega, HON, HUPN, HBX, HB⟩
              case measure => omega
        · obtain rfl : i = L := by omega
          have e : bl.take i = bl := by rw [← HL.out, List.take_length]
          have HO3 := Lib.hid (e ▸ HO.out)
          clear e HO
          go_wp2_with (fail)
          go_ret
          exact ⟨_, _, rfl, by rw [HR0.out]; have h := HO3.out; rw [← HP.out] at h; exact h, HB.out⟩


end Go.Proofs.YtbgffmiffmmohaaGreatDoor.tree

/-
  Rows of values: five cells written at once; the first j values of a row.
  Conditions: those that each theorem names.
-/
namespace Go.Proofs.YtbgffmiffmmohaaGreatDoor.tree
open Go.ChangeShapes Go.WideShapes Go.ChangeAt Go.RowKit
set_option linter.unusedVariables false

def set5 (arr : Array Value) (o : Nat) (c0 c1 c2 c3 c4 : Value) : Array Value := ((((arr.setIfInBounds o c0).setIfInBounds (o + 1) c1).setIfInBounds (o + 2) c2).setIfInBounds (o + 3) c3).setIfInBounds (o + 4) c4
theorem set5_size (arr : Array Value) (o : Nat) (c0 c1 c2 c3 c4 : Value) : (set5 arr o c0 c1 c2 c3 c4).size = arr.size := by simp [set5]
theorem set5_out (arr : Array Value) (o : Nat) (c0 c1 c2 c3 c4 : Value) (p : Nat) (h : p < o ∨ o + 5 ≤ p) : (set5 arr o c0 c1 c2 c3 c4)[p]? = arr[p]? := by
  unfold set5
  rw [Array.getElem?_setIfInBounds_ne (by omega), Array.getElem?_setIfInBounds_ne (by omega), Array.getElem?_setIfInBounds_ne (by omega), Array.getElem?_setIfInBounds_ne (by omega), Array.getElem?_setIfInBounds_ne (by omega)]
theorem set5_in (arr : Array Value) (o : Nat) (c0 c1 c2 c3 c4 : Value) (h : o + 5 ≤ arr.size) (q : Nat) (hq : q < 5) : (set5 arr o c0 c1 c2 c3 c4)[o + q]? = (#[c0, c1, c2, c3, c4] : Array Value)[q]? := by
  unfold set5
  have hq' : q = 0 ∨ q = 1 ∨ q = 2 ∨ q = 3 ∨ q = 4 := by omega
  rcases hq' with rfl | rfl | rfl | rfl | rfl <;> simp [Array.getElem?_setIfInBounds] <;> omega
theorem set5_heap {W : World} {g : Nat} {arr : Array Value} {t : TypeId} (h : W.heap[g]? = some (.cells arr t (0, 0))) (o : Nat) (c0 c1 c2 c3 c4 : Value) :
    (((((W.setCell ⟨g, o, none⟩ c0).setCell ⟨g, o + 1, none⟩ c1).setCell ⟨g, o + 2, none⟩ c2).setCell ⟨g, o + 3, none⟩ c3).setCell ⟨g, o + 4, none⟩ c4).heap[g]? = some (.cells (set5 arr o c0 c1 c2 c3 c4) t (0, 0)) :=
  set_heap (set_heap (set_heap (set_heap (set_heap h _ _) _ _) _ _) _ _) _ _
theorem set5_other {W : World} {g k : Nat} (h : k ≠ g) (o : Nat) (c0 c1 c2 c3 c4 : Value) :
    (((((W.setCell ⟨g, o, none⟩ c0).setCell ⟨g, o + 1, none⟩ c1).setCell ⟨g, o + 2, none⟩ c2).setCell ⟨g, o + 3, none⟩ c3).setCell ⟨g, o + 4, none⟩ c4).heap[k]? = W.heap[k]? := by
  iterate 5 refine (set_other h).trans ?_
  rfl
theorem iv_info' : ∃ i, Tryz.prog.info? IV = some i ∧ (i.zero = some (.agg #[.int .i64 0, .int .i64 0, .string ⟨#[]⟩, .int .i64 0, .slice none 0 0]) ∧ i.size = 5 ∧ i.bytes = 64) := by
  have : (Tryz.prog.info? IV).map (fun i => (i.zero, i.size, i.bytes)) = some (some (.agg #[.int .i64 0, .int .i64 0, .string ⟨#[]⟩, .int .i64 0, .slice none 0 0]), 5, 64) := by kernel_rfl
  cases hq : Tryz.prog.info? IV with
  | none => rw [hq] at this; cases this
  | some i => rw [hq] at this; simp at this; exact ⟨i, rfl, this⟩
/-- The first j values of a row. -/
def V5 (w : World) (lo : Nat) (vs : List Tr) (arr : Array Value) (j : Nat) : Prop :=
  ∀ i, i < j → ∃ k n s x ks' vs' A' c', vs[i]? = some (.mk k n s x ks' vs') ∧ TIn w (Nw lo w) (.mk k n s x ks' vs') (vV k n s x A' vs'.length c') ∧ ∀ q, q < 5 → arr[i * 5 + q]? = (#[.int .i64 k, .int .i64 n, .string s, .int .i64 x, .slice A' vs'.length c'] : Array Value)[q]?
theorem V5.keep {w w' : World} {lo : Nat} {vs : List Tr} {arr : Array Value} {j : Nat} (h : V5 w lo vs arr j) (hb : ∀ b, lo ≤ b → b < w.heap.size → w'.heap[b]? = w.heap[b]?) : V5 w' lo vs arr j := fun i hi => by
  obtain ⟨k, n, s, x, ks', vs', A', c', e1, e2, e3⟩ := h i hi
  exact ⟨k, n, s, x, ks', vs', A', c', e1, e2.nw (Nat.le_refl _) fun b hb' hlt => hb b hb' hlt, e3⟩
theorem V5.more {w : World} {lo : Nat} {vs : List Tr} {arr : Array Value} {j : Nat} (h : V5 w lo vs arr j) (hs : j * 5 + 5 ≤ arr.size) {k n x : Int} {s : ByteArray} {ks' : List Ky} {vs' : List Tr} {A' : Option Addr} {c' : Nat} (hv : vs[j]? = some (.mk k n s x ks' vs')) (hT : TIn w (Nw lo w) (.mk k n s x ks' vs') (vV k n s x A' vs'.length c')) :
    V5 w lo vs (set5 arr (j * 5) (.int .i64 k) (.int .i64 n) (.string s) (.int .i64 x) (.slice A' vs'.length c')) (j + 1) := by
  intro i hi
  by_cases e : i = j
  · subst e
    exact ⟨k, n, s, x, ks', vs', A', c', hv, hT, fun q hq => set5_in _ _ _ _ _ _ _ hs q hq⟩
  · obtain ⟨k2, n2, s2, x2, ks2, vs2, A2, c2, e1, e2, e3⟩ := h i (by omega)
    exact ⟨k2, n2, s2, x2, ks2, vs2, A2, c2, e1, e2, fun q hq => by rw [set5_out _ _ _ _ _ _ _ _ (by omega)]; exact e3 q hq⟩
theorem V5.vin {w : World} {lo g : Nat} {vs : List Tr} {arr : Array Value} (h : V5 w lo vs arr vs.length) (hg : w.heap[g]? = some (.cells arr IV (0, 0))) (hlo : g ≤ lo) : VIn w (Nw g w) vs (some ⟨g, 0, none⟩) := fun i t ht => by
  obtain ⟨k, n, s, x, ks', vs', A', c', e1, e2, e3⟩ := h i (List.getElem?_eq_some_iff.1 ht).1
  rw [ht] at e1
  obtain rfl := Option.some.inj e1
  have at_ : ∀ q, q < 5 → w.cell? ⟨g, i * 5 + q, none⟩ = (#[.int .i64 k, .int .i64 n, .string s, .int .i64 x, .slice A' vs'.length c'] : Array Value)[q]? := fun q hq => by rw [cell_of_row w g _ arr IV _ hg]; exact e3 q hq
  refine ⟨_, k, n, s, x, ks', vs', A', c', rfl, ⟨Nat.le_refl _, _, _, hg⟩, rfl, e2.stays (fun b hb => ⟨Nat.le_trans hlo hb.1, hb.2⟩) (fun _ _ _ => rfl), ?_⟩
  rw [Addr.add_lit, Nat.zero_add]
  exact ⟨at_ 0 (by omega), at_ 1 (by omega), at_ 2 (by omega), at_ 3 (by omega), at_ 4 (by omega)⟩
end Go.Proofs.YtbgffmiffmmohaaGreatDoor.tree

/-
  How a list of values that came in is opened.
  Conditions: those that each theorem names.
-/
namespace Go.Proofs.YtbgffmiffmmohaaGreatDoor.tree
open Go.ChangeShapes Go.WideShapes Go.ChangeAt Go.RowKit mem
set_option linter.unusedVariables false

section
variable {H : Type} {enc : TypeId × Value → H} {P : Program} {w : World} {base : Nat} {spare : Nat → Bool} {held : Bool}
theorem open_valS {tV tE tK tS tSS : TypeId} (T : Types P tV tE tK tS) (hSS : P.underlying tSS = some (.slice tV)) {fuel : Nat} {c0 : Value} {x : DataW H × List MemPlace} (h : DataW.trod enc P w base spare held fuel tSS [c0] = some x) :
    ∃ A c vs, c0 = .slice A (List.length vs) c ∧ (vs.length ≤ c ∧ c ≤ maxLen) ∧ VIn w (fun _ => True) vs A := by
  rcases DataW.trod_slice hSS h with ⟨hc4, _⟩ | ⟨a, len, cap, elems, rest, m, hfm, hc4, _, hbs, hlc, hcm, hel, hat, _⟩
  · simp at hc4
    subst hc4
    exact ⟨none, 0, [], rfl, ⟨Nat.le_refl _, Nat.zero_le _⟩, fun i t ht => by simp at ht⟩
  · simp at hc4
    subst hc4
    have each : ∀ i, i < len → ∃ t : Tr, ∃ k n s x ks vs A' c', t = .mk k n s x ks vs ∧ TIn w (fun _ => True) t (vV k n s x A' vs.length c') ∧ At5 w (a.add (i * 5)) k n s x A' vs.length c' := by
      intro i hi
      have hi2 := hat i hi
      rw [List.getElem?_eq_getElem (by omega)] at hi2
      obtain ⟨cs', hcs, htr⟩ := Option.bind_eq_some_iff.1 hi2
      rw [T.cV] at hcs
      obtain ⟨_, hcl, hcat⟩ := World.cells?_some hcs
      match cs', hcl with
      | [d3, d4, d5, d6, d7], _ =>
        obtain ⟨t, ht⟩ := open_tree T _ _ _ htr
        obtain ⟨k, n, s, x, ks, vs⟩ := t
        obtain ⟨A', c', e, -, -⟩ := ht.out
        have e' : d3 = .int .i64 k ∧ d4 = .int .i64 n ∧ d5 = .string s ∧ d6 = .int .i64 x ∧ d7 = .slice A' vs.length c' := by simpa using e
        obtain ⟨rfl, rfl, rfl, rfl, rfl⟩ := e'
        have at' : ∀ j, j < 5 → w.cell? (a.add (i * 5 + j)) = ([.int .i64 k, .int .i64 n, .string s, .int .i64 x, .slice A' vs.length c'] : List Value)[j]? := fun j hj => by
          have := hcat j hj
          rwa [add_add'] at this
        have sp : ∀ j, j ≠ 0 → a.add (i * 5 + j) = ⟨(a.add (i * 5)).block, (a.add (i * 5)).off + j, none⟩ := fun j hj => by rw [← add_add', add_pos _ _ hj]
        have at2 : ∀ j, j ≠ 0 → j < 5 → w.cell? ⟨(a.add (i * 5)).block, (a.add (i * 5)).off + j, none⟩ = _ := fun j h0 hj => (congrArg w.cell? (sp j h0)).symm.trans (at' j hj)
        exact ⟨.mk k n s x ks vs, k, n, s, x, ks, vs, A', c', rfl, ht, ⟨at' 0 (by omega), at2 1 (by omega) (by omega), at2 2 (by omega) (by omega), at2 3 (by omega) (by omega), at2 4 (by omega) (by omega)⟩⟩
    have hl : ((List.range len).map (fun i => if hi : i < len then (each i hi).choose else Tr.mk 0 0 ⟨#[]⟩ 0 [] [])).length = len := by simp
    refine ⟨some a, cap, (List.range len).map (fun i => if hi : i < len then (each i hi).choose else Tr.mk 0 0 ⟨#[]⟩ 0 [] []), by rw [hl], ⟨by rw [hl]; exact hlc, hcm⟩, fun i t ht => ?_⟩
    rw [List.getElem?_map] at ht
    obtain ⟨i', hi', rfl⟩ := Option.map_eq_some_iff.1 ht
    have hil : i < len := by
      have := (List.getElem?_eq_some_iff.1 hi').1
      simpa using this
    rw [List.getElem?_range hil] at hi'
    obtain rfl := Option.some.inj hi'
    simp only [dif_pos hil]
    obtain ⟨k, n, s, x, ks, vs, A', c', h1, h2, h3⟩ := (each i hil).choose_spec
    exact ⟨a, k, n, s, x, ks, vs, A', c', rfl, trivial, h1, h1 ▸ h2, h3⟩
end

set_option maxRecDepth 100000 in
theorem open_values {H : Type} {enc : TypeId × Value → H} {W : World} {base : Nat} {v : Value} {d : DataW H} {ps : List MemPlace} (hval : Value.okWide Tryz.prog W .any base 89 v) (h : DataW.Trod enc Tryz.prog W 0 (fun _ => true) true 89 v d ps) :
    ∃ A c vs, v = .slice A (List.length vs) c ∧ (vs.length ≤ c ∧ c ≤ maxLen) ∧ VIn W (fun _ => True) vs A := by
  obtain ⟨A, n, c, rfl⟩ := okWide_slice Tryz.underlying89 hval
  obtain ⟨fuel, hf⟩ := h
  exact open_valS opt.types Tryz.underlying89 hf

end Go.Proofs.YtbgffmiffmmohaaGreatDoor.tree

