/-
  What the weight of a value leaves of a limit (spareHeld of the project).
  Conditions: handles lead to blocks; at most 2^20 blocks and slots of each.
-/
import Derived.Test.YtbgffmiffmmohaaGreatDoorHcB4
import Derived.Test.YtbgffmiffmmohaaGreatDoorHcB2
import Derived.Test.YtbgffmiffmmohaaGreatDoorHcB5
import Derived.BigQuiet
import Derived.Deep.RegionHeld3
namespace Go.Proofs.YtbgffmiffmmohaaGreatDoor.tree
open Go.ChangeShapes Go.WideShapes Go.ChangeAt Go.RowKit
set_option linter.unusedVariables false

/-- A value that is no handle, or one of a block. -/
def okT (bl : List Bk) : Tr → Prop
  | .mk k n _ _ _ _ => k = 5 → 0 ≤ n ∧ n < bl.length
def okH (bl : List Bk) : Prop := ∀ k ∈ bl, k.slots.length ≤ 1048576 ∧ ∀ t ∈ livV k.slots, okT bl t
theorem held_ok {bl : List Bk} {t : Tr} (h : heldB bl t = true) : okT bl t := by
  obtain ⟨k, n, s, x, ks, vs⟩ := t
  intro h5
  subst h5
  rw [held_five] at h
  have h2 : liveH bl n = true := by
    cases hq : liveH bl n with
    | true => rfl
    | false => rw [hq] at h; simp at h
  by_cases hn : n < 0
  · rw [live_neg hn] at h2; cases h2
  · obtain ⟨j, rfl⟩ : ∃ j : Nat, n = j := ⟨n.toNat, by omega⟩
    by_cases hj : j < bl.length
    · omega
    · rw [live_far (by omega)] at h2; cases h2
/-- A heap in a variable of the call's own. -/
def HBox (w : World) (H : Nat) (bl : List Bk) (S : Nat → Prop) (A : Option Addr) (L c : Nat) : Prop := HIn w S bl A ∧ w.heap[H]? = some (.cells #[.slice A L c] IH' (0, 0))
theorem HBox.below {w w' : World} {H : Nat} {bl : List Bk} {S : Nat → Prop} {A : Option Addr} {L c : Nat} (h : HBox w H bl S A L c) (hb : Below w.heap.size w w') : HBox w' H bl S A L c := ⟨h.1.below hb, carry hb h.2⟩

theorem blockOf_i (H : Nat) (a : Addr) (L c j : Nat) (hj : j < L) (hL : L ≤ 1048576) (s : ByteArray) (x : Int) (A1 : Option Addr) (L1 c1 : Nat) (w : World) (hb : w.heap[H]? = some (.cells #[.slice (some a) L c] IH' (0, 0))) :
    Calls Tryz.prog 135 #[.pointer (some ⟨H, 0, none⟩), vV 5 j s x A1 L1 c1] w (fun e w' => e = .returned (.pointer (some (a.add (j * 6)))) ∧ Below w.heap.size w w') := by
  have hb1 := carry (b1 w (.cells #[.int .i64 5, .int .i64 j, .string s, .int .i64 x, .slice A1 L1 c1] IV)) hb
  have z0 := (rowc hb1).1 0
  simp at z0
  clear hb hb1
  go_enter Tryz.func135, Tryz.ntmps135
  go_wp2_with (fail)
  go_quiet (fail)
  go_wp2_with (fail)
  go_ret
  exact ⟨rfl, ⟨rfl, rfl, rfl, by simp, fun b hb => (b1 w _).block b hb⟩⟩

set_option maxRecDepth 100000 in
set_option maxHeartbeats 1600000 in
theorem spareH_i (bl : List Bk) (hok : okH bl) (hm : bl.length ≤ 1048576) (H : Nat) (A : Option Addr) (L c : Nat) (hl : bl.length = L) (S' : Nat → Prop) : ∀ (f : Nat) (l : Int) (t : Tr) (v : Value) (w : World) (S : Nat → Prop), 0 ≤ l → l < f → f ≤ 202 → okT bl t → TIn w S t v → HBox w H bl S' A L c →
    Calls Tryz.prog 121 #[.pointer (some ⟨H, 0, none⟩), .int .i64 l, v] w (LtQ w (spr bl f l t))
  | 0, l, t, v, w, S, h0, hf, _, _, _, _ => absurd hf (by simp; omega)
  | f + 1, l, t, v, w, S, h0, hf, hf2, ht, hv, hB => by
    obtain ⟨k, n, s, x, ks, vs⟩ := t
    obtain ⟨A1, c1, rfl, -, -⟩ := hv.out
    obtain ⟨L1, HL1⟩ : ∃ L, Hid (vs.length = L) := ⟨_, Lib.hid rfl⟩
    rw [HL1.out]
    by_cases h5 : k = 5
    · subst h5
      obtain ⟨n0, n1⟩ := ht rfl
      obtain ⟨j, rfl⟩ : ∃ j : Nat, n = j := ⟨n.toNat, by omega⟩
      have hj : j < L := by omega
      obtain ⟨b, hb⟩ : ∃ b, bl[j]? = some b := ⟨_, List.getElem?_eq_getElem (by omega)⟩
      obtain ⟨hsl, hvo⟩ := hok b (List.mem_of_getElem? hb)
      rw [spr_five, valsAt_at hb]
      obtain ⟨a, A', n', c', B', m', d', rfl, -, -, hT, hc⟩ := hB.1 j b hb
      obtain ⟨rf, hs', hl', sl, x', ct⟩ := b
      simp only at hT hc hsl hvo
      have BO := Lib.hid (fun w' (hb : Below w.heap.size w w') => blockOf_i H a L c j hj (by omega) s x A1 L1 c1 w' (hB.below hb).2)
      have LV := Lib.hid (fun w' (hb : Below w.heap.size w w') => liveValues_i (b := hs') (A := A') (n := n') (c := c') (d := d') (x := x') (k := ct) w' (hT.slots.below hb) hT.len (by have := hT.len; omega))
      have IH := Lib.hid (fun (l : Int) (t : Tr) (v : Value) w' (hb : Below w.heap.size w w') (S1 : Nat → Prop) h0 h1 ht (hv : TIn w' S1 t v) => spareH_i bl hok hm H (some a) L c hl S' f l t v w' S1 h0 h1 (by omega) ht hv (hB.below hb))
      have HC := Lib.hid (fun w' (hb : Below w.heap.size w w') => hc.stays (w' := w') (fun hl => hb.block _ hl))
      obtain ⟨M, HM⟩ : ∃ L, Hid ((livV sl).length = L) := ⟨_, Lib.hid rfl⟩
      have hM1 : (livV sl).length ≤ sl.length := by unfold livV; rw [List.length_map]; exact liv_len sl
      have hM : M ≤ 1048576 := by rw [← HM.out]; omega
      have HVO := Lib.hid hvo
      unfold LvQ at LV
      rw [HM.out] at LV
      clear hB hT hc hb hv ht hsl hvo n0 n1 hM1
      go_enter Tryz.func121, Tryz.ntmps121
      go_wp2_with (fail)
      refine (BO.out _ (b1 w _)).mono ?_
      rintro e w1 ⟨rfl, hb1⟩
      have HB1 := Lib.hid (bs (b1 w _) hb1)
      obtain ⟨q0, q1, q2, q3, q4, q5⟩ := HC.out _ HB1.out
      clear hb1 BO
      go_wp2_with (fail)
      refine (LV.out _ HB1.out).mono ?_
      rintro e w2 ⟨A4, c4, rfl, hl4, hv4, hb4⟩
      have HB2 := Lib.hid (bs HB1.out hb4)
      have HV := Lib.hid hv4
      clear hb4 hv4 hl4 q0 q1 q2 q3 q4 q5 LV HC HB1
      go_upto_region 5 with fail
      go_loopg [1, 23] (M + 1) (fun gk r i wr => ∃ (j2 : Nat) (q : Int), i = .int .i64 j2 ∧ r = .int .i64 q ∧ gk + j2 = M + 1 ∧ j2 ≤ M ∧ q ≤ l - 1 ∧ -1000000 ≤ q ∧ Hid (q = sprs bl f ((livV sl).take j2) (l - 1)) ∧ Hid (Below w2.heap.size w2 wr))
      case atStart => exact ⟨0, l - 1, rfl, rfl, by omega, by omega, by omega, by omega, Lib.hid rfl, Lib.hid (Below.refl _ _)⟩
      case round =>
        obtain ⟨j2, q, rfl, rfl, hgj, hjM, hql, hqm, HQ, HB⟩ := hrel
        by_cases hlt : j2 < M
        · obtain ⟨t, ht⟩ : ∃ t, (livV sl)[j2]? = some t := ⟨_, List.getElem?_eq_getElem (by rw [HM.out]; exact hlt)⟩
          have hst := sprs_take (bl := bl) (f := f) (a := l - 1) ht
          have hot := HVO.out t (List.mem_of_getElem? ht)
          obtain ⟨a2, k2, n2, s2, x2, ks2, vs2, A2, c2, rfl, -, rfl, hT2, hcell⟩ := HV.out.below HB.out j2 t ht
          obtain ⟨L2, HL2⟩ : ∃ L1, Hid (vs2.length = L1) := ⟨_, Lib.hid rfl⟩
          rw [HL2.out] at hcell hT2
          have HT2 := Lib.hid hT2
          have HST := Lib.hid hst
          have HOT := Lib.hid hot
          obtain ⟨p0, p1, p2, p3, p4⟩ := hcell
          clear hT2 ht hst hot
          go_upto_region 7 with fail
          generalize hw1 : wr.alloc (.cells #[.int .i64 k2, .int .i64 n2, .string s2, .int .i64 x2, .slice A2 L2 c2] IV) = w3
          have hb3 : Below wr.heap.size wr w3 := hw1 ▸ b1 wr _
          have h5 : w3.heap[wr.heap.size]? = some (.cells #[.int .i64 k2, .int .i64 n2, .string s2, .int .i64 x2, .slice A2 L2 c2] IV (0, 0)) := by rw [← hw1]; exact heap_alloc_new wr _
          have HB3 := Lib.hid (bs HB.out hb3)
          have HT3 := Lib.hid (HT2.out.below' hb3)
          have r5 := (rowc h5).1
          have z0 := r5 0; have z1 := r5 1; have z2 := r5 2; have z3 := r5 3; have z4 := r5 4
          simp at z0 z1 z2 z3 z4
          clear hw1 hb3 h5 r5 HB HT2 p0 p1 p2 p3 p4
          by_cases hq0 : q < 0
          · have HE : Hid (sprs bl f (livV sl) (l - 1) = q) := Lib.hid (by rw [HQ.out]; exact sprs_stop (j := j2) (by rw [← HQ.out]; exact hq0))
            go_wp2_with (fail)
            go_ret
            exact ⟨by rw [HE.out]; rfl, bs HB2.out HB3.out⟩
          · have hst2 : sprs bl f ((livV sl).take (j2 + 1)) (l - 1) = spr bl f q (.mk k2 n2 s2 x2 ks2 vs2) := by rw [HST.out, ← HQ.out, if_neg hq0]
            have hle := spr_le bl f q (.mk k2 n2 s2 x2 ks2 vs2)
            have hge := spr_ge bl f q (.mk k2 n2 s2 x2 ks2 vs2) (by omega)
            have IQ := IH.out q _ _ w3 (bs HB2.out HB3.out) _ (by omega) (by omega) HOT.out HT3.out
            obtain ⟨Q, HQ2⟩ : ∃ Q, Hid (spr bl f q (.mk k2 n2 s2 x2 ks2 vs2) = Q) := ⟨_, Lib.hid rfl⟩
            rw [HQ2.out] at hst2 hle hge IQ
            have HST2 := Lib.hid hst2
            clear hst2
            go_wp2_with (fail)
            refine IQ.mono ?_
            rintro e w4 ⟨rfl, hb4⟩
            have HB4 := Lib.hid (bs HB3.out hb4)
            clear hb4 IQ z0 z1 z2 z3 z4
            go_wp2_with (fail)
            go_roundg (M - j2)
            case rel => exact ⟨j2 + 1, Q, by go_num, rfl, by omega, by omega, by omega, by omega, Lib.hid (by rw [HST2.out]), HB4⟩
            case measure => omega
        · obtain rfl : j2 = M := by omega
          have HE : Hid (sprs bl f (livV sl) (l - 1) = q) := Lib.hid (by have h := HQ.out; rw [← HM.out, List.take_length] at h; exact h.symm)
          go_wp2_with (fail)
          go_ret
          exact ⟨by rw [HE.out]; rfl, bs HB2.out HB.out⟩
    · rw [spr_not bl f l h5]
      have h5' : (k != 5) = true := by simp [h5]
      clear hv hB ht
      go_enter Tryz.func121, Tryz.ntmps121
      go_wp2_with (fail)
      go_ret
      exact ⟨rfl, b1 _ _⟩

end Go.Proofs.YtbgffmiffmmohaaGreatDoor.tree

