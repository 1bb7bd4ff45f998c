/-
  The laws' marks, found again.
  Conditions: those that each theorem names.
-/
import Derived.Test.YtbgffmiffmmohaaGreatDoorHcB4
namespace Go.Proofs.YtbgffmiffmmohaaGreatDoor.tree
open Go.ChangeShapes Go.WideShapes Go.ChangeAt Go.RowKit
set_option linter.unusedVariables false

theorem At8.below {w w' : World} (hb : Below w.heap.size w w') {q : Addr} {y : Ky} {k n : Int} {s : ByteArray} {x : Int} {A : Option Addr} {L c : Nat} (h : At8 w q y k n s x A L c) : At8 w' q y k n s x A L c := by
  have e : ∀ (a : Addr) (u : Value), w.cell? a = some u → w'.cell? a = some u := fun a u hu => cell_stays (fun hlt => hb.block _ hlt) hu
  exact ⟨e _ _ h.c0, e _ _ h.c1, e _ _ h.c2, e _ _ h.c3, e _ _ h.c4, e _ _ h.c5, e _ _ h.c6, e _ _ h.c7⟩

/-- The marks are found again. -/
def HeS (t : Tr) : Prop := ∀ (k n : Int) (s : ByteArray) (x : Int) (ks : List Ky) (vs : List Tr), t = .mk k n s x ks vs → ∀ (m : Int), 1 ≤ m → m + 7 * cnts vs ≤ 100000000000 → ∀ (w : World) (S : Nat → Prop) (A : Option Addr) (c : Nat), IsIn w S (mkK m vs) (mkV m vs) A →
  Calls Tryz.prog 114 #[.slice A vs.length c, .int .i64 m] w (GivesQ w (.int .i64 (m + 7 * cnts vs)))

set_option maxHeartbeats 2000000 in
set_option maxRecDepth 100000 in
theorem heldItems : ∀ t, HeS t := Tr.ind fun k0 n0 s0 x0 ks0 vs ih => by
  intro k n s x ks vs' he
  obtain ⟨-, -, -, -, -, rfl⟩ : k0 = k ∧ n0 = n ∧ s0 = s ∧ x0 = x ∧ ks0 = ks ∧ vs = vs' := by simpa using he
  clear he
  intro m hm0 hm1 w S A c h
  obtain ⟨L, HL⟩ : ∃ L, Hid (L = vs.length) := ⟨_, Lib.hid rfl⟩
  have hlv : (mkV m vs).length = L := by rw [mkV_len, HL.out]
  have hm : L ≤ maxLen := by rw [← hlv]; exact h.2.1
  have HLV := Lib.hid hlv
  clear hlv
  unfold maxLen at hm
  rw [← HL.out]
  have HM1 := Lib.hid hm1
  obtain ⟨W, HW⟩ : ∃ W : Int, Hid (m + 7 * cnts vs = W) := ⟨_, Lib.hid rfl⟩
  rw [HW.out]
  clear hm1
  go_enter Tryz.func114, Tryz.ntmps114
  go_wp2_with (fail)
  go_loopg [1, 5] (L + 1) (fun gk l i wr => ∃ (j : Nat) (q : Int), i = .int .i64 j ∧ l = .int .i64 q ∧ gk + j = L + 1 ∧ j ≤ L ∧ 1 ≤ q ∧ q ≤ 100000000000 ∧ Hid (q = m + 7 * cnts (vs.take j)) ∧ Below w.heap.size w wr)
  case atStart => exact ⟨0, m, rfl, rfl, by omega, by omega, hm0, by have := HM1.out; omega, Lib.hid (by simp [cnts_nil]), Below.refl _ _⟩
  case round =>
    obtain ⟨j, q, rfl, rfl, hgj, hjL, hq0, hq1, HQ, hb⟩ := hrel
    have HB := Lib.hid hb
    clear hb
    by_cases hlt : j < L
    · obtain ⟨t, ht⟩ : ∃ t, vs[j]? = some t := ⟨_, List.getElem?_eq_getElem (by rw [← HL.out]; exact hlt)⟩
      have gK := mkK_get m vs j t ht
      have gV := mkV_get m vs j t ht
      rw [← HQ.out] at gK gV
      obtain ⟨k1, n1, s1, x1, ks1, vs1⟩ := t
      rw [mkT_mk] at gV
      obtain ⟨a, y, k', n', s', x', ks', vs', A1, c1, rfl, hS, hky, hvs, htin, hyb, hkb, hin, hcell⟩ := (h.below HB.out).item (i := j) (by rw [HLV.out]; exact hlt)
      rw [gK] at hky
      rw [gV] at hvs
      obtain rfl := Option.some.inj hky
      obtain ⟨rfl, rfl, rfl, rfl, rfl, rfl⟩ : q + 3 = k' ∧ q + 4 = n' ∧ mtx (q + 5) = s' ∧ q + 6 = x' ∧ mkK (q + 7) vs1 = ks' ∧ mkV (q + 7) vs1 = vs' := by simpa using hvs
      have hcl := cnts_lt ht
      rw [cnt_mk'] at hcl
      have hq7 : q + 7 + 7 * cnts vs1 ≤ 100000000000 := by have h1 := HQ.out; have h2 := HM1.out; omega
      obtain ⟨Q, HQ2⟩ : ∃ Q : Int, Hid (q + 7 + 7 * cnts vs1 = Q) := ⟨_, Lib.hid rfl⟩
      obtain ⟨L1, HL1⟩ : ∃ L1, Hid (L1 = vs1.length) := ⟨_, Lib.hid rfl⟩
      rw [HQ2.out] at hq7
      have hQ0 : 1 ≤ Q := by rw [← HQ2.out]; omega
      have ihj : ∀ w', Below wr.heap.size wr w' → Calls Tryz.prog 114 #[.slice A1 L1 c1, .int .i64 (q + 7)] w' (GivesQ w' (.int .i64 Q)) := fun w' hb' => by
        have := ih _ (List.mem_of_getElem? ht) k1 n1 s1 x1 ks1 vs1 rfl (q + 7) (by omega) (by rw [HQ2.out]; exact hq7) w' S A1 c1 (hin.below hb')
        rw [HQ2.out] at this
        rw [HL1.out]
        exact this
      have HQ3 : Hid (Q = m + 7 * cnts (vs.take (j + 1))) := Lib.hid (by rw [cnts_take ht, cnt_mk', ← HQ2.out, HQ.out]; push_cast; omega)
      have MT2 := markText (q + 2) (by omega) (by omega)
      have MT5 := markText (q + 5) (by omega) (by omega)
      have z2 := mtx_size (q + 2)
      have z5 := mtx_size (q + 5)
      obtain ⟨u2, HU2⟩ : ∃ u, Hid (mtx (q + 2) = u) := ⟨_, Lib.hid rfl⟩
      obtain ⟨u5, HU5⟩ : ∃ u, Hid (mtx (q + 5) = u) := ⟨_, Lib.hid rfl⟩
      unfold MtQ at MT2 MT5
      rw [HU2.out] at MT2 z2
      rw [HU5.out] at MT5 z5
      rw [show q + 2 = q + 1 + 1 by omega] at MT2
      rw [show q + 5 = q + 1 + 1 + 1 + 1 + 1 by omega] at MT5
      rw [show q + 7 = q + 1 + 1 + 1 + 1 + 1 + 1 + 1 by omega] at ihj
      obtain ⟨bb, HBB⟩ : ∃ bb, Hid (decide (q % 3 = 0) = bb) := ⟨_, Lib.hid rfl⟩
      have cell : Hid (At8 wr (a.add (j * 8)) ⟨bb, q + 1, u2⟩ (q + 3) (q + 4) u5 (q + 6) A1 L1 c1) := Lib.hid (by
        have := hcell
        rw [mkV_len, ← HL1.out, HU5.out] at this
        unfold mkY at this
        rwa [HBB.out, HU2.out] at this)
      obtain ⟨p0, p1, p2, p3, p4, p5, p6, p7⟩ := cell.out
      simp only at p0 p1 p2
      clear gK gV hky hvs htin hyb hkb hin hcell hS hcl ht
      have hbb : (bb = true → q % 3 = 0) ∧ (bb = false → ¬ q % 3 = 0) := ⟨fun e => of_decide_eq_true (HBB.out.trans e), fun e => of_decide_eq_false (HBB.out.trans e)⟩
      cases bb with
      | true =>
        have hmod := hbb.1 rfl
        clear hbb
        go_wp2_with (fail)
        go_region_with ((go_at_call 113; refine (MT2 _).mono ?_; rintro e w1 ⟨rfl, hb1⟩; have HB1 := Lib.hid (bs ((Below.refl wr.heap.size wr).drew) hb1); have cell1 := Lib.hid (At8.below HB1.out cell.out); obtain ⟨r0, r1, r2, r3, r4, r5, r6, r7⟩ := cell1.out; simp only at r2; clear hb1))
        all_goals
          clear p0 p1 p2 p3 p4 p5 p6 p7
          go_wp2_with (fail)
          go_region_with ((go_at_call 113; refine (MT5 _).mono ?_; rintro e w2 ⟨rfl, hb2⟩; have HB2 := Lib.hid (bs HB1.out (bs ((Below.refl w1.heap.size w1).drew) hb2)); have cell2 := Lib.hid (At8.below HB2.out cell.out); obtain ⟨t0, t1, t2, t3, t4, t5, t6, t7⟩ := cell2.out; clear hb2))
          all_goals
            clear r0 r1 r2 r3 r4 r5 r6 r7
            go_wp2_with (fail)
            refine (ihj _ HB2.out).mono ?_
            rintro e w3 ⟨rfl, hb3⟩
            have HB3 := Lib.hid (bs HB2.out hb3)
            clear hb3 t0 t1 t2 t3 t4 t5 t6 t7
            go_wp2_with (fail)
            go_roundg (L - j)
            case rel => exact ⟨j + 1, Q, by go_num, rfl, by omega, by omega, hQ0, hq7, HQ3, bs HB.out HB3.out⟩
            case measure => omega
      | false =>
        have hmod := hbb.2 rfl
        clear hbb
        go_wp2_with (fail)
        go_region_with ((go_at_call 113; refine (MT2 _).mono ?_; rintro e w1 ⟨rfl, hb1⟩; have HB1 := Lib.hid (bs ((Below.refl wr.heap.size wr).drew) hb1); have cell1 := Lib.hid (At8.below HB1.out cell.out); obtain ⟨r0, r1, r2, r3, r4, r5, r6, r7⟩ := cell1.out; simp only at r2; clear hb1))
        all_goals
          clear p0 p1 p2 p3 p4 p5 p6 p7
          go_wp2_with (fail)
          go_region_with ((go_at_call 113; refine (MT5 _).mono ?_; rintro e w2 ⟨rfl, hb2⟩; have HB2 := Lib.hid (bs HB1.out (bs ((Below.refl w1.heap.size w1).drew) hb2)); have cell2 := Lib.hid (At8.below HB2.out cell.out); obtain ⟨t0, t1, t2, t3, t4, t5, t6, t7⟩ := cell2.out; clear hb2))
          all_goals
            clear r0 r1 r2 r3 r4 r5 r6 r7
            go_wp2_with (fail)
            refine (ihj _ HB2.out).mono ?_
            rintro e w3 ⟨rfl, hb3⟩
            have HB3 := Lib.hid (bs HB2.out hb3)
            clear hb3 t0 t1 t2 t3 t4 t5 t6 t7
            go_wp2_with (fail)
            go_roundg (L - j)
            case rel => exact ⟨j + 1, Q, by go_num, rfl, by omega, by omega, hQ0, hq7, HQ3, bs HB.out HB3.out⟩
            case measure => omega
    · obtain rfl : j = L := by omega
      have e : q = W := by rw [HQ.out, ← HW.out, HL.out, List.take_length]
      subst e
      go_wp2_with (fail)
      go_ret
      exact ⟨rfl, HB.out⟩

end Go.Proofs.YtbgffmiffmmohaaGreatDoor.tree

