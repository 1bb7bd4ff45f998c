/-
  The marks of a table's slots, found again.
  Conditions: those that each theorem names.
-/
import Derived.Test.YtdgfpfkhcojgaaaGreatDoorTBB6
import Derived.Deep.RegionWith
namespace Go.Proofs.YtdgfpfkhcojgaaaGreatDoor.tree
open Go.ChangeShapes Go.WideShapes Go.ChangeAt Go.RowKit
set_option linter.unusedVariables false

set_option maxHeartbeats 8000000 in
set_option maxRecDepth 100000 in
theorem heldSlots (sl : List Sl) (m : Int) (hm0 : 1 ≤ m) (hm1 : m + cS sl ≤ 100000000000) (w : World) (S : Nat → Prop) (A : Option Addr) (c : Nat) (h : SIn w S (mkSls m sl) A) (hm : sl.length ≤ maxLen) :
    Calls Tryz.prog 87 #[.slice A sl.length c, .int .i64 m] w (GivesQ w (.int .i64 (m + cS sl))) := by
  obtain ⟨L, HL⟩ : ∃ L, Hid (L = sl.length) := ⟨_, Lib.hid rfl⟩
  rw [← HL.out] at hm ⊢
  unfold maxLen at hm
  have HM1 := Lib.hid hm1
  have HI := Lib.hid h
  obtain ⟨W, HW⟩ : ∃ W : Int, Hid (m + cS sl = W) := ⟨_, Lib.hid rfl⟩
  rw [HW.out]
  clear hm1 h
  go_enter Tryz.func87, Tryz.ntmps87
  go_wp2_with (fail)
  go_loopg [1, 5] (L + 1) (fun gk l i wr => ∃ (j : Nat) (q : Int), i = .int .i64 j ∧ l = .int .i64 q ∧ gk + j = L + 1 ∧ j ≤ L ∧ 1 ≤ q ∧ q ≤ 100000000000 ∧ Hid (q = m + cS (sl.take j)) ∧ Below w.heap.size w wr)
  case atStart => exact ⟨0, m, rfl, rfl, by omega, by omega, hm0, by have := HM1.out; omega, Lib.hid (by simp [cS]), Below.refl _ _⟩
  case round =>
    obtain ⟨j, q, rfl, rfl, hgj, hjL, hq0, hq1, HQ, hb⟩ := hrel
    have HB := Lib.hid hb
    clear hb
    by_cases hlt : j < L
    · obtain ⟨t, ht⟩ : ∃ t, sl[j]? = some t := ⟨_, List.getElem?_eq_getElem (by rw [← HL.out]; exact hlt)⟩
      have gS := mkSls_get m sl j t ht
      rw [← HQ.out] at gS
      have hle := cS_le sl (j + 1)
      rw [cS_take ht] at hle
      have HCT := Lib.hid (cS_take ht)
      obtain ⟨y0, ⟨k1, n1, s1, x1, ks1, vs1⟩, b0, l0⟩ := t
      simp only at hle
      obtain ⟨a, k', n', s', x', ks', vs', A1, c1, rfl, hS, -, -, hv, hT, hcell⟩ := (HI.out.below HB.out) j _ gS
      simp only [mkSl] at hv hT hcell
      rw [mkT_mk] at hv hT
      obtain ⟨rfl, rfl, rfl, rfl, rfl, rfl⟩ : q + 3 = k' ∧ q + 4 = n' ∧ mtx (q + 5) = s' ∧ q + 6 = x' ∧ mkK (q + 7) vs1 = ks' ∧ mkV (q + 7) vs1 = vs' := by simpa using hv
      obtain ⟨A9, c9, e9, -, hin⟩ := hT.out
      obtain ⟨rfl, -, rfl⟩ : A1 = A9 ∧ (mkV (q + 7) vs1).length = (mkV (q + 7) vs1).length ∧ c1 = c9 := by simpa using e9
      rw [cnt_mk'] at hle hcell
      have hq7 : q + 7 + 7 * cnts vs1 + 2 ≤ 100000000000 := by have h1 := HQ.out; have h2 := HM1.out; omega
      obtain ⟨Q, HQ2⟩ : ∃ Q : Int, Hid (q + 7 + 7 * cnts vs1 = Q) := ⟨_, Lib.hid rfl⟩
      obtain ⟨L1, HL1⟩ : ∃ L1, Hid (L1 = vs1.length) := ⟨_, Lib.hid rfl⟩
      rw [HQ2.out] at hq7
      have hQ0 : 1 ≤ Q := by rw [← HQ2.out]; omega
      have ihj : ∀ w', Below wr.heap.size wr w' → Calls Tryz.prog 95 #[.slice A1 L1 c1, .int .i64 (q + 7)] w' (GivesQ w' (.int .i64 Q)) := fun w' hb' => by
        have := heldItems (.mk k1 n1 s1 x1 ks1 vs1) k1 n1 s1 x1 ks1 vs1 rfl (q + 7) (by omega) (by rw [HQ2.out]; omega) w' S A1 c1 (hin.below hb')
        rw [HQ2.out] at this
        rw [HL1.out]
        exact this
      have HQ3 : Hid (Q + 1 + 1 = m + cS (sl.take (j + 1))) := Lib.hid (by rw [HCT.out, ← HQ2.out, HQ.out]; simp only [cnt_mk']; push_cast; omega)
      have MT2 := markText (q + 2) (by omega) (by omega)
      have MT5 := markText (q + 5) (by omega) (by omega)
      have z2 := mtx_size (q + 2)
      have z5 := mtx_size (q + 5)
      obtain ⟨u2, HU2⟩ : ∃ u, Hid (mtx (q + 2) = u) := ⟨_, Lib.hid rfl⟩
      obtain ⟨u5, HU5⟩ : ∃ u, Hid (mtx (q + 5) = u) := ⟨_, Lib.hid rfl⟩
      unfold MtQ at MT2 MT5
      rw [HU2.out] at MT2 z2
      rw [HU5.out] at MT5 z5
      rw [show q + 2 = q + 1 + 1 by omega] at MT2
      rw [show q + 5 = q + 1 + 1 + 1 + 1 + 1 by omega] at MT5
      rw [show q + 7 = q + 1 + 1 + 1 + 1 + 1 + 1 + 1 by omega] at ihj
      obtain ⟨bb, HBB⟩ : ∃ bb, Hid (decide (q % 3 = 0) = bb) := ⟨_, Lib.hid rfl⟩
      obtain ⟨b2, HB2B⟩ : ∃ bb, Hid (decide (Q % 3 = 0) = bb) := ⟨_, Lib.hid rfl⟩
      have cell : Hid (At10 wr (a.add (j * 10)) ⟨bb, q + 1, u2⟩ (q + 3) (q + 4) u5 (q + 6) A1 L1 c1 b2 (Q + 1)) := Lib.hid (by
        have := hcell
        rw [mkV_len, ← HL1.out, HU5.out] at this
        unfold mkY at this
        rw [HBB.out, HU2.out, show q + 7 * ((1 + cnts vs1 : Nat) : Int) = Q by rw [← HQ2.out]; push_cast; omega, HB2B.out] at this
        exact this)
      obtain ⟨p0, p1, p2, p3, p4, p5, p6, p7, p8, p9⟩ := cell.out
      simp only at p0 p1 p2
      clear gS hv hT hin hcell hS ht hle e9
      have hbb : (bb = true → q % 3 = 0) ∧ (bb = false → ¬ q % 3 = 0) := ⟨fun e => of_decide_eq_true (HBB.out.trans e), fun e => of_decide_eq_false (HBB.out.trans e)⟩
      have hb2 : (b2 = true → Q % 3 = 0) ∧ (b2 = false → ¬ Q % 3 = 0) := ⟨fun e => of_decide_eq_true (HB2B.out.trans e), fun e => of_decide_eq_false (HB2B.out.trans e)⟩
      cases bb with
      | true =>
        cases b2 with
        | true =>
          have hmod := hbb.1 rfl
          have hmod2 := hb2.1 rfl
          clear hbb hb2
          go_wp2_with (fail)
          go_region_with ((go_at_call 94; refine (MT2 _).mono ?_; rintro e w1 ⟨rfl, hb1⟩; have HB1 := Lib.hid (bs ((Below.refl wr.heap.size wr).drew) hb1); have cell1 := Lib.hid (cell.out.stays (w' := w1) (fun hl => HB1.out.block _ hl)); obtain ⟨r0, r1, r2, r3, r4, r5, r6, r7, r8, r9⟩ := cell1.out; simp only at r2; clear hb1))
          all_goals
            clear p0 p1 p2 p3 p4 p5 p6 p7 p8 p9
            go_wp2_with (fail)
            go_region_with ((go_at_call 94; refine (MT5 _).mono ?_; rintro e w2 ⟨rfl, hb2⟩; have HB2 := Lib.hid (bs HB1.out (bs ((Below.refl w1.heap.size w1).drew) hb2)); have cell2 := Lib.hid (cell.out.stays (w' := w2) (fun hl => HB2.out.block _ hl)); obtain ⟨t0, t1, t2, t3, t4, t5, t6, t7, t8, t9⟩ := cell2.out; clear hb2))
            all_goals
              clear r0 r1 r2 r3 r4 r5 r6 r7 r8 r9
              go_wp2_with (fail)
              refine (ihj _ HB2.out).mono ?_
              rintro e w3 ⟨rfl, hb3⟩
              have HB3 := Lib.hid (bs HB2.out hb3)
              have cell3 := Lib.hid (cell.out.stays (w' := w3) (fun hl => HB3.out.block _ hl))
              have v8 := cell3.out.c8
              have v9 := cell3.out.c9
              clear hb3 t0 t1 t2 t3 t4 t5 t6 t7 t8 t9
              go_wp2_with (fail)
              go_roundg (L - j)
              case rel => exact ⟨j + 1, Q + 1 + 1, by go_num, rfl, by omega, by omega, by omega, by omega, HQ3, bs HB.out HB3.out⟩
              case measure => omega
        | false =>
          have hmod := hbb.1 rfl
          have hmod2 := hb2.2 rfl
          clear hbb hb2
          go_wp2_with (fail)
          go_region_with ((go_at_call 94; refine (MT2 _).mono ?_; rintro e w1 ⟨rfl, hb1⟩; have HB1 := Lib.hid (bs ((Below.refl wr.heap.size wr).drew) hb1); have cell1 := Lib.hid (cell.out.stays (w' := w1) (fun hl => HB1.out.block _ hl)); obtain ⟨r0, r1, r2, r3, r4, r5, r6, r7, r8, r9⟩ := cell1.out; simp only at r2; clear hb1))
          all_goals
            clear p0 p1 p2 p3 p4 p5 p6 p7 p8 p9
            go_wp2_with (fail)
            go_region_with ((go_at_call 94; refine (MT5 _).mono ?_; rintro e w2 ⟨rfl, hb2⟩; have HB2 := Lib.hid (bs HB1.out (bs ((Below.refl w1.heap.size w1).drew) hb2)); have cell2 := Lib.hid (cell.out.stays (w' := w2) (fun hl => HB2.out.block _ hl)); obtain ⟨t0, t1, t2, t3, t4, t5, t6, t7, t8, t9⟩ := cell2.out; clear hb2))
            all_goals
              clear r0 r1 r2 r3 r4 r5 r6 r7 r8 r9
              go_wp2_with (fail)
              refine (ihj _ HB2.out).mono ?_
              rintro e w3 ⟨rfl, hb3⟩
              have HB3 := Lib.hid (bs HB2.out hb3)
              have cell3 := Lib.hid (cell.out.stays (w' := w3) (fun hl => HB3.out.block _ hl))
              have v8 := cell3.out.c8
              have v9 := cell3.out.c9
              clear hb3 t0 t1 t2 t3 t4 t5 t6 t7 t8 t9
              go_wp2_with (fail)
              go_roundg (L - j)
              case rel => exact ⟨j + 1, Q + 1 + 1, by go_num, rfl, by omega, by omega, by omega, by omega, HQ3, bs HB.out HB3.out⟩
              case measure => omega
      | false =>
        cases b2 with
        | true =>
          have hmod := hbb.2 rfl
          have hmod2 := hb2.1 rfl
          clear hbb hb2
          go_wp2_with (fail)
          go_region_with ((go_at_call 94; refine (MT2 _).mono ?_; rintro e w1 ⟨rfl, hb1⟩; have HB1 := Lib.hid (bs ((Below.refl wr.heap.size wr).drew) hb1); have cell1 := Lib.hid (cell.out.stays (w' := w1) (fun hl => HB1.out.block _ hl)); obtain ⟨r0, r1, r2, r3, r4, r5, r6, r7, r8, r9⟩ := cell1.out; simp only at r2; clear hb1))
          all_goals
            clear p0 p1 p2 p3 p4 p5 p6 p7 p8 p9
            go_wp2_with (fail)
            go_region_with ((go_at_call 94; refine (MT5 _).mono ?_; rintro e w2 ⟨rfl, hb2⟩; have HB2 := Lib.hid (bs HB1.out (bs ((Below.refl w1.heap.size w1).drew) hb2)); have cell2 := Lib.hid (cell.out.stays (w' := w2) (fun hl => HB2.out.block _ hl)); obtain ⟨t0, t1, t2, t3, t4, t5, t6, t7, t8, t9⟩ := cell2.out; clear hb2))
            all_goals
              clear r0 r1 r2 r3 r4 r5 r6 r7 r8 r9
              go_wp2_with (fail)
              refine (ihj _ HB2.out).mono ?_
              rintro e w3 ⟨rfl, hb3⟩
              have HB3 := Lib.hid (bs HB2.out hb3)
              have cell3 := Lib.hid (cell.out.stays (w' := w3) (fun hl => HB3.out.block _ hl))
              have v8 := cell3.out.c8
              have v9 := cell3.out.c9
              clear hb3 t0 t1 t2 t3 t4 t5 t6 t7 t8 t9
              go_wp2_with (fail)
              go_roundg (L - j)
              case rel => exact ⟨j + 1, Q + 1 + 1, by go_num, rfl, by omega, by omega, by omega, by omega, HQ3, bs HB.out HB3.out⟩
              case measure => omega
        | false =>
          have hmod := hbb.2 rfl
          have hmod2 := hb2.2 rfl
          clear hbb hb2
          go_wp2_with (fail)
          go_region_with ((go_at_call 94; refine (MT2 _).mono ?_; rintro e w1 ⟨rfl, hb1⟩; have HB1 := Lib.hid (bs ((Below.refl wr.heap.size wr).drew) hb1); have cell1 := Lib.hid (cell.out.stays (w' := w1) (fun hl => HB1.out.block _ hl)); obtain ⟨r0, r1, r2, r3, r4, r5, r6, r7, r8, r9⟩ := cell1.out; simp only at r2; clear hb1))
          all_goals
            clear p0 p1 p2 p3 p4 p5 p6 p7 p8 p9
            go_wp2_with (fail)
            go_region_with ((go_at_call 94; refine (MT5 _).mono ?_; rintro e w2 ⟨rfl, hb2⟩; have HB2 := Lib.hid (bs HB1.out (bs ((Below.refl w1.heap.size w1).drew) hb2)); have cell2 := Lib.hid (cell.out.stays (w' := w2) (fun hl => HB2.out.block _ hl)); obtain ⟨t0, t1, t2, t3, t4, t5, t6, t7, t8, t9⟩ := cell2.out; clear hb2))
            all_goals
              clear r0 r1 r2 r3 r4 r5 r6 r7 r8 r9
              go_wp2_with (fail)
              refine (ihj _ HB2.out).mono ?_
              rintro e w3 ⟨rfl, hb3⟩
              have HB3 := Lib.hid (bs HB2.out hb3)
              have cell3 := Lib.hid (cell.out.stays (w' := w3) (fun hl => HB3.out.block _ hl))
              have v8 := cell3.out.c8
              have v9 := cell3.out.c9
              clear hb3 t0 t1 t2 t3 t4 t5 t6 t7 t8 t9
              go_wp2_with (fail)
              go_roundg (L - j)
              case rel => exact ⟨j + 1, Q + 1 + 1, by go_num, rfl, by omega, by omega, by omega, by omega, HQ3, bs HB.out HB3.out⟩
              case measure => omega
    · obtain rfl : j = L := by omega
      have e : q = W := by rw [HQ.out, ← HW.out, HL.out, List.take_length]
      subst e
      go_wp2_with (fail)
      go_ret
      exact ⟨rfl, HB.out⟩

end Go.Proofs.YtdgfpfkhcojgaaaGreatDoor.tree

