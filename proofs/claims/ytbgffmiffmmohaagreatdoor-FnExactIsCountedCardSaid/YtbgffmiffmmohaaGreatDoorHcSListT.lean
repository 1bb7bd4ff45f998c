/-
  The laws' copy of a list of values.
  Conditions: at most 2^20 values, each holds at most 2^20 items and letters.
-/
import Derived.Test.YtbgffmiffmmohaaGreatDoorHcSVals
import Derived.Test.YtbgffmiffmmohaaGreatDoorHcB6
import Derived.Test.YtbgffmiffmmohaaGreatDoorHcSTreeCp
import Derived.Test.YtbgffmiffmmohaaGreatDoorHcB2
namespace Go.Proofs.YtbgffmiffmmohaaGreatDoor.tree
open Go.ChangeShapes Go.WideShapes Go.ChangeAt Go.RowKit
set_option linter.unusedVariables false

def VsQ (w : World) (vs : List Tr) (e : Ending) (w' : World) : Prop := ∃ g, e = .returned (.slice (some ⟨g, 0, none⟩) vs.length vs.length) ∧ VIn w' (Nw g w') vs (some ⟨g, 0, none⟩) ∧ w.heap.size ≤ g ∧ Below w.heap.size w w'

set_option maxRecDepth 100000 in
set_option maxHeartbeats 2000000 in
theorem toValueS (vs : List Tr) (hT : ∀ t ∈ vs, tot t ≤ 1048576) (hm : vs.length ≤ 1048576) (A : Option Addr) (c : Nat) (w : World) (S : Nat → Prop) (h : VIn w S vs A) : Calls Tryz.prog 59 #[.slice A vs.length c] w (VsQ w vs) := by
  obtain ⟨L, HL⟩ : ∃ L, Hid (vs.length = L) := ⟨_, Lib.hid rfl⟩
  rw [HL.out] at hm ⊢
  obtain ⟨i0, hi, hz⟩ := iv_info'
  have hmk := run_make (P := Tryz.prog) w 92 IV i0 _ Tryz.underlying92 hi hz.1 .i64 .i64 L L (by omega) (Int.le_refl _) (by rw [hz.2.2]; omega) (by omega)
  rw [hz.2.1] at hmk
  simp only [Int.toNat_natCast] at hmk
  obtain ⟨arr0, HA⟩ : ∃ a, Hid (a = madeCells (Value.agg #[.int .i64 0, .int .i64 0, .string ⟨#[]⟩, .int .i64 0, .slice none 0 0]).cells (L * 5)) := ⟨_, Lib.hid rfl⟩
  rw [← HA.out] at hmk
  have HSZ0 : Hid (arr0.size = L * 5) := Lib.hid (by rw [HA.out, madeSize])
  have HV := Lib.hid h
  have HTT := Lib.hid hT
  clear h hT hi hz
  go_enter Tryz.func59, Tryz.ntmps59
  go_wp2_with (fail)
  obtain ⟨N, HN⟩ : ∃ N, Hid (N = w.heap.size) := ⟨_, Lib.hid rfl⟩
  go_loopg [4] (L + 1) (fun gk i wr => ∃ (j : Nat) (arr : Array Value), i = .int .i64 j ∧ gk + j = L + 1 ∧ j ≤ L ∧ Hid (wr.heap[w.heap.size]? = some (.cells arr IV (0, 0))) ∧ Hid (arr.size = L * 5) ∧ Hid (V5 wr (w.heap.size + 1) vs arr j) ∧ Hid (Below w.heap.size w wr))
  case atStart => exact ⟨0, arr0, rfl, by omega, by omega, Lib.hid (heap_alloc_new w _), HSZ0, Lib.hid (fun i hi => absurd hi (by omega)), Lib.hid (b1 w _)⟩
  case round =>
    obtain ⟨j, arr, rfl, hgj, hjL, HG, HSZ, HLI, HB⟩ := hrel
    by_cases hlt : j < L
    · obtain ⟨t, ht⟩ : ∃ t, vs[j]? = some t := ⟨_, List.getElem?_eq_getElem (by rw [HL.out]; exact hlt)⟩
      have htt := HTT.out t (List.mem_of_getElem? ht)
      obtain ⟨a, k, n, s, x, ks', vs', A1, c1, rfl, -, rfl, hT, hcell⟩ := HV.out.below HB.out j t ht
      have CT : Hid (Calls Tryz.prog 31 #[vV k n s x A1 vs'.length c1] wr (CpQ wr (.mk k n s x ks' vs'))) := Lib.hid (cps _ htt wr S _ hT)
      have HVS := Lib.hid ht
      obtain ⟨L1, HL1⟩ : ∃ L1, Hid (vs'.length = L1) := ⟨_, Lib.hid rfl⟩
      rw [HL1.out] at hcell CT
      obtain ⟨p0, p1, p2, p3, p4⟩ := hcell
      have hz := HSZ.out
      unfold vV at CT
      clear hT ht htt
      go_wp2_with (fail)
      refine CT.out.mono ?_
      rintro e w1 ⟨v, rfl, hv, hb1⟩
      have HTV := Lib.hid hv
      obtain ⟨A2, c2, rfl, -⟩ := hv.out
      have hsm : w.heap.size < wr.heap.size := (Array.getElem?_eq_some_iff.1 HG.out).1
      have HG1 := Lib.hid (carry hb1 HG.out)
      have HB1 := Lib.hid (bs HB.out hb1)
      have HLM := Lib.hid ((HLI.out.keep (w' := w1) (fun b _ hlt => hb1.block b hlt)).more (by omega) HVS.out (HTV.out.stays (fun b hb => ⟨Nat.le_trans hsm hb.1, hb.2⟩) (fun _ _ _ => rfl)))
      rw [HL1.out] at HLM ⊢
      obtain ⟨rg, fg⟩ := rowc HG1.out
      have gx : ∀ q, q < 5 → ∃ u, w1.cell? ⟨w.heap.size, j * 5 + q, none⟩ = some u := fun q hq => ⟨_, (rg _).trans (Array.getElem?_eq_getElem (by omega))⟩
      obtain ⟨y0, z0⟩ := gx 0 (by omega)
      obtain ⟨y1, z1⟩ := gx 1 (by omega)
      obtain ⟨y2, z2⟩ := gx 2 (by omega)
      obtain ⟨y3, z3⟩ := gx 3 (by omega)
      obtain ⟨y4, z4⟩ := gx 4 (by omega)
      simp only [Nat.add_zero] at z0
      clear hv hb1 rg gx p0 p1 p2 p3 p4
      go_wp2_with (fail)
      go_roundg (L - j)
      case rel =>
        refine ⟨j + 1, _, by go_num, by omega, by omega, Lib.hid (set5_heap HG1.out _ _ _ _ _ _), Lib.hid (by rw [set5_size]; exact HSZ.out), Lib.hid (HLM.out.keep fun b hb _ => set5_other (by omega) _ _ _ _ _ _), Lib.hid ?_⟩
        iterate 5 refine Below.setCell ?_ (show w.heap.size ≤ w.heap.size by omega) _
        exact HB1.out
      case measure => omega
    · obtain rfl : j = L := by omega
      have hL := HLI.out
      rw [← HL.out] at hL
      have hv := hL.vin HG.out (Nat.le_succ _)
      go_wp2_with (fail)
      go_ret
      refine ⟨w.heap.size, ?_, hv, Nat.le_refl _, HB.out⟩
      rw [HL.out]
      rfl

/-- What the values of a list hold. -/
def tll : List Tr → Nat
  | [] => 0
  | t :: vs => tot t + tll vs
theorem tll_drop {vs : List Tr} {j : Nat} {t : Tr} (hv : vs[j]? = some t) : tll (vs.drop j) = tot t + tll (vs.drop (j + 1)) := by
  obtain ⟨hj, rfl⟩ := List.getElem?_eq_some_iff.1 hv
  rw [List.drop_eq_getElem_cons hj, tll]
theorem tll_mem : ∀ {vs : List Tr} {t : Tr}, t ∈ vs → tot t ≤ tll vs
  | t :: vs, u, h => by
    rw [tll]
    rcases List.mem_cons.1 h with rfl | h
    · omega
    · have := tll_mem h
      omega

set_option maxRecDepth 100000 in
set_option maxHeartbeats 2000000 in
theorem szValueS (vs : List Tr) (hm : vs.length ≤ maxLen) (A : Option Addr) (c : Nat) (w : World) (S : Nat → Prop) (h : VIn w S vs A) (left : Int) (h0 : 0 ≤ left) (h1 : left ≤ 1048576) :
    Calls Tryz.prog 57 #[.slice A vs.length c, .int .i64 left] w (SzQ left (vs.length + tll vs) w) := by
  obtain ⟨L, HL⟩ : ∃ L, Hid (L = vs.length) := ⟨_, Lib.hid rfl⟩
  rw [← HL.out] at hm ⊢
  unfold maxLen at hm
  by_cases hlt : left - L < 0
  · go_enter Tryz.func57, Tryz.ntmps57
    go_wp2_with (fail)
    go_ret
    exact ⟨-1, rfl, ⟨by omega, by omega, fun h => by omega⟩, Below.refl _ _⟩
  have hge : ¬ (left < L) := by omega
  clear hlt
  go_enter Tryz.func57, Tryz.ntmps57
  go_wp2_with (fail)
  go_loopg [1, 5] (L + 1) (fun gk l i wr => ∃ (j : Nat) (r : Int), l = .int .i64 r ∧ i = .int .i64 j ∧ gk + j = L + 1 ∧ j ≤ L ∧ 0 ≤ r ∧ r ≤ left ∧ Hid (r + tll vs = left - L + tll (vs.drop j)) ∧ Below w.heap.size w wr)
  case atStart => exact ⟨0, left - L, rfl, rfl, by omega, by omega, by omega, by omega, Lib.hid (by simp), Below.refl _ _⟩
  case round =>
    obtain ⟨j, r, rfl, rfl, hgj, hjL, hr0, hr1, HR, hb⟩ := hrel
    have HB := Lib.hid hb
    clear hb
    by_cases hlt : j < L
    · obtain ⟨t, ht⟩ : ∃ t, vs[j]? = some t := ⟨_, List.getElem?_eq_getElem (by rw [← HL.out]; exact hlt)⟩
      have HT := Lib.hid (tll_drop ht)
      obtain ⟨a, k, n, s, x, ks', vs', A1, c1, rfl, -, rfl, hT, hcell⟩ := h.below HB.out j t ht
      have CS : Hid (Calls Tryz.prog 29 #[vV k n s x A1 vs'.length c1, .int .i64 r] wr (SzQ r (tot (.mk k n s x ks' vs')) wr)) := Lib.hid (szV _ wr S _ hT r hr0 (by omega))
      obtain ⟨L1, HL1⟩ : ∃ L1, Hid (vs'.length = L1) := ⟨_, Lib.hid rfl⟩
      rw [HL1.out] at hcell CS
      obtain ⟨p0, p1, p2, p3, p4⟩ := hcell
      unfold vV at CS
      clear hT ht
      go_wp2_with (fail)
      refine CS.out.mono ?_
      rintro e w1 ⟨r2, rfl, ⟨hs1, hs2, hs3⟩, hb1⟩
      have HB1 := Lib.hid hb1
      have HR2 := Lib.hid hs3
      clear hb1 hs3 p0 p1 p2 p3 p4
      by_cases hq : r2 < 0
      · go_wp2_with (fail)
        go_ret
        exact ⟨-1, rfl, ⟨by omega, by omega, fun h => by omega⟩, bs HB.out HB1.out⟩
      · have hq0 : 0 ≤ r2 := by omega
        go_wp2_with (fail)
        go_roundg (L - j)
        case rel =>
          refine ⟨j + 1, r2, rfl, by go_num, by omega, by omega, hq0, by omega, Lib.hid ?_, bs HB.out HB1.out⟩
          have a1 := HR.out
          have a2 := HR2.out hq0
          have a3 := HT.out
          omega
        case measure => omega
    · obtain rfl : j = L := by omega
      have a1 := HR.out
      have a2 : tll (vs.drop j) = 0 := by rw [HL.out, List.drop_length]; rfl
      go_wp2_with (fail)
      go_ret
      exact ⟨r, rfl, ⟨by omega, hr1, fun _ => by omega⟩, HB.out⟩

end Go.Proofs.YtbgffmiffmmohaaGreatDoor.tree

