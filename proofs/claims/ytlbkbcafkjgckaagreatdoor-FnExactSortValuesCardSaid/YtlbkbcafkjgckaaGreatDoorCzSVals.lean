/-
  Values in a row of five cells each: how they read; the laws' comparison of two rows, the laws' marks found again.
  Conditions: those that each theorem names.
-/
import Derived.Test.YtlbkbcafkjgckaaGreatDoorCzSHeld
import Derived.Test.YtlbkbcafkjgckaaGreatDoorCzB6
import Derived.Test.YtlbkbcafkjgckaaGreatDoorCzSCopyS
namespace Go.Proofs.YtlbkbcafkjgckaaGreatDoor.tree
open Go.ChangeShapes Go.WideShapes Go.ChangeAt Go.RowKit
set_option linter.unusedVariables false

/-- The five cells of a value at q. -/
structure At5 (w : World) (q : Addr) (k n : Int) (s : ByteArray) (x : Int) (A : Option Addr) (L c : Nat) : Prop where
  c0 : w.cell? q = some (.int .i64 k)
  c1 : w.cell? ⟨q.block, q.off + 1, none⟩ = some (.int .i64 n)
  c2 : w.cell? ⟨q.block, q.off + 2, none⟩ = some (.string s)
  c3 : w.cell? ⟨q.block, q.off + 3, none⟩ = some (.int .i64 x)
  c4 : w.cell? ⟨q.block, q.off + 4, none⟩ = some (.slice A L c)
theorem At5.stays {w w' : World} {q : Addr} {k n x : Int} {s : ByteArray} {A : Option Addr} {L c : Nat} (hb : q.block < w.heap.size → w'.heap[q.block]? = w.heap[q.block]?) (h : At5 w q k n s x A L c) : At5 w' q k n s x A L c :=
  ⟨cell_stays hb h.c0, cell_stays hb h.c1, cell_stays hb h.c2, cell_stays hb h.c3, cell_stays hb h.c4⟩
theorem At5.below {w w' : World} (hb : Below w.heap.size w w') {q : Addr} {k n x : Int} {s : ByteArray} {A : Option Addr} {L c : Nat} (h : At5 w q k n s x A L c) : At5 w' q k n s x A L c := h.stays fun hlt => hb.block _ hlt

/-- The values at A. -/
def VIn (w : World) (S : Nat → Prop) (vs : List Tr) (A : Option Addr) : Prop :=
  ∀ i t, vs[i]? = some t → ∃ a k n s x ks' vs' A' c', A = some a ∧ S a.block ∧ t = .mk k n s x ks' vs' ∧ TIn w S t (vV k n s x A' vs'.length c') ∧ At5 w (a.add (i * 5)) k n s x A' vs'.length c'
theorem VIn.stays {w w' : World} {S S' : Nat → Prop} (hS : ∀ b, S b → S' b) (hb : ∀ b, S b → b < w.heap.size → w'.heap[b]? = w.heap[b]?) {vs : List Tr} {A : Option Addr} (h : VIn w S vs A) : VIn w' S' vs A := fun i t ht => by
  obtain ⟨a, k, n, s, x, ks', vs', A', c', e, hSa, rfl, hT, hc⟩ := h i t ht
  exact ⟨a, k, n, s, x, ks', vs', A', c', e, hS _ hSa, rfl, hT.stays hS hb, hc.stays (fun hlt => hb _ (by rw [mem.add_block]; exact hSa) hlt)⟩
theorem VIn.below {w w' : World} (hb : Below w.heap.size w w') {S : Nat → Prop} {vs : List Tr} {A : Option Addr} (h : VIn w S vs A) : VIn w' S vs A := h.stays (fun _ h => h) (fun b _ hlt => hb.block b hlt)

set_option maxRecDepth 100000 in
set_option maxHeartbeats 1600000 in
theorem eqValueS (vs : List Tr) (hm : vs.length ≤ 1000000000) (w : World) (S S' : Nat → Prop) (A A' : Option Addr) (c c' : Nat) (h : VIn w S vs A) (h' : VIn w S' vs A') : Calls Tryz.prog 8 #[.slice A vs.length c, .slice A' vs.length c'] w (TrueQ w) := by
  obtain ⟨L, HL⟩ : ∃ L, Hid (L = vs.length) := ⟨_, Lib.hid rfl⟩
  have HA := Lib.hid h
  have HA' := Lib.hid h'
  rw [← HL.out] at hm ⊢
  clear h h'
  go_enter Tryz.func8, Tryz.ntmps8
  go_wp2_with (fail)
  go_loopg [5] (L + 1) (fun gk i wr => ∃ j : Nat, i = .int .i64 j ∧ gk + j = L + 1 ∧ j ≤ L ∧ Below w.heap.size w wr)
  case atStart => exact ⟨0, rfl, by omega, by omega, Below.refl _ _⟩
  case round =>
    obtain ⟨j, rfl, hgj, hjL, hb⟩ := hrel
    have HB := Lib.hid hb
    clear hb
    by_cases hlt : j < L
    · obtain ⟨t, ht⟩ : ∃ t, vs[j]? = some t := ⟨_, List.getElem?_eq_getElem (by rw [← HL.out]; exact hlt)⟩
      obtain ⟨a, k, n, s, x, ks', vs', A1, c1, rfl, -, rfl, hT, hcell⟩ := HA.out.below HB.out j t ht
      obtain ⟨a', k', n', s', x', ks2, vs2, A2, c2, rfl, -, e, hT', hcell'⟩ := HA'.out.below HB.out j _ ht
      obtain ⟨rfl, rfl, rfl, rfl, rfl, rfl⟩ : k = k' ∧ n = n' ∧ s = s' ∧ x = x' ∧ ks' = ks2 ∧ vs' = vs2 := by simpa using e
      have EQ := fun w' (hb : Below wr.heap.size wr w') => eqV _ w' S S' _ _ (hT.below' hb) (hT'.below' hb)
      obtain ⟨L1, HL1⟩ : ∃ L1, Hid (L1 = vs'.length) := ⟨_, Lib.hid rfl⟩
      rw [← HL1.out] at EQ hcell hcell'
      obtain ⟨p0, p1, p2, p3, p4⟩ := hcell
      obtain ⟨q0, q1, q2, q3, q4⟩ := hcell'
      have HEQ := Lib.hid EQ
      clear hT hT' e EQ ht
      go_wp2_with (fail)
      go_region_with ((go_at_call 19; refine (HEQ.out _ ?_).mono ?_; exact ((Below.refl wr.heap.size wr).drew); rintro e w1 ⟨rfl, hb1⟩; have HB1 := Lib.hid hb1; clear hb1))
      all_goals
        go_wp2_with (fail)
        go_roundg (L - j)
        case rel => exact ⟨j + 1, by go_num, by omega, by omega, bs (bs HB.out ((Below.refl _ _).drew)) HB1.out⟩
        case measure => omega
    · go_wp2_with (fail)
      go_ret
      exact ⟨rfl, HB.out⟩

/-- A value with marks, its own words too. -/
def mkT4 (q : Int) : Tr → Tr
  | .mk _ _ _ _ _ vs => .mk q (q + 1) (mtx (q + 2)) (q + 3) (mkK (q + 4) vs) (mkV (q + 4) vs)
/-- Values with marks. -/
def mkW (m : Int) : List Tr → List Tr
  | [] => []
  | t :: vs => mkT4 m t :: mkW (m + (7 * cnt t - 3)) vs
theorem mkW_len : ∀ (m : Int) (vs : List Tr), (mkW m vs).length = vs.length
  | _, [] => rfl
  | m, t :: vs => by rw [mkW, List.length_cons, List.length_cons, mkW_len]
theorem mkW_get : ∀ (m : Int) (vs : List Tr) (j : Nat) (t : Tr), vs[j]? = some t → (mkW m vs)[j]? = some (mkT4 (m + 7 * cnts (vs.take j) - 3 * j) t)
  | _, [], j, t, h => by simp at h
  | m, t0 :: vs, 0, t, h => by
    obtain rfl : t0 = t := by simpa using h
    rw [mkW]
    simp [cnts]
  | m, t0 :: vs, j + 1, t, h => by
    have := mkW_get (m + (7 * cnt t0 - 3)) vs j t (by simpa using h)
    rw [mkW, List.getElem?_cons_succ, this, List.take_succ_cons, cnts_cons']
    congr 2
    push_cast
    omega

set_option maxHeartbeats 2000000 in
set_option maxRecDepth 100000 in
theorem heldValueS (vs : List Tr) (m : Int) (hm0 : 1 ≤ m) (hm1 : m + 7 * cnts vs ≤ 100000000000) (hm : vs.length ≤ 1000000000) (w : World) (S : Nat → Prop) (A : Option Addr) (c : Nat) (h : VIn w S (mkW m vs) A) :
    Calls Tryz.prog 10 #[.slice A vs.length c, .int .i64 m] w (GivesQ w (.int .i64 (m + 7 * cnts vs - 3 * vs.length))) := by
  obtain ⟨L, HL⟩ : ∃ L, Hid (L = vs.length) := ⟨_, Lib.hid rfl⟩
  have HA := Lib.hid h
  have HM1 := Lib.hid hm1
  obtain ⟨W, HW⟩ : ∃ W : Int, Hid (m + 7 * cnts vs - 3 * (L : Int) = W) := ⟨_, Lib.hid rfl⟩
  rw [← HL.out] at hm ⊢
  rw [HW.out]
  clear h hm1
  go_enter Tryz.func10, Tryz.ntmps10
  go_wp2_with (fail)
  go_loopg [1, 5] (L + 1) (fun gk l i wr => ∃ (j : Nat) (q : Int), i = .int .i64 j ∧ l = .int .i64 q ∧ gk + j = L + 1 ∧ j ≤ L ∧ 1 ≤ q ∧ q ≤ 100000000000 ∧ Hid (q = m + 7 * cnts (vs.take j) - 3 * j) ∧ Below w.heap.size w wr)
  case atStart => exact ⟨0, m, rfl, rfl, by omega, by omega, hm0, by have := HM1.out; omega, Lib.hid (by simp [cnts_nil]), Below.refl _ _⟩
  case round =>
    obtain ⟨j, q, rfl, rfl, hgj, hjL, hq0, hq1, HQ, hb⟩ := hrel
    have HB := Lib.hid hb
    clear hb
    by_cases hlt : j < L
    · obtain ⟨t, ht⟩ : ∃ t, vs[j]? = some t := ⟨_, List.getElem?_eq_getElem (by rw [← HL.out]; exact hlt)⟩
      have gW := mkW_get m vs j t ht
      rw [← HQ.out] at gW
      obtain ⟨k1, n1, s1, x1, ks1, vs1⟩ := t
      obtain ⟨a, k', n', s', x', ks', vs', A1, c1, rfl, -, e, hT, hcell⟩ := HA.out.below HB.out j _ gW
      rw [mkT4] at e
      obtain ⟨rfl, rfl, rfl, rfl, rfl, rfl⟩ : q = k' ∧ q + 1 = n' ∧ mtx (q + 2) = s' ∧ q + 3 = x' ∧ mkK (q + 4) vs1 = ks' ∧ mkV (q + 4) vs1 = vs' := by simpa using e
      obtain ⟨_, _, -, -, hin⟩ := hT.out
      have hin' := hT
      have hcl := cnts_lt ht
      rw [cnt_mk'] at hcl
      have hjj : j ≤ cnts (vs.take j) := by
        have := cnts_len (vs.take j)
        rw [List.length_take] at this
        have h2 := HL.out
        omega
      have hq4 : q + 4 + 7 * cnts vs1 ≤ 100000000000 := by have h1 := HQ.out; have h2 := HM1.out; omega
      obtain ⟨Q, HQ2⟩ : ∃ Q : Int, Hid (q + 4 + 7 * cnts vs1 = Q) := ⟨_, Lib.hid rfl⟩
      obtain ⟨L1, HL1⟩ : ∃ L1, Hid (L1 = vs1.length) := ⟨_, Lib.hid rfl⟩
      rw [HQ2.out] at hq4
      have hQ0 : 1 ≤ Q := by rw [← HQ2.out]; omega
      have ihj : ∀ w', Below wr.heap.size wr w' → Calls Tryz.prog 22 #[.slice A1 L1 c1, .int .i64 (q + 4)] w' (GivesQ w' (.int .i64 Q)) := fun w' hb' => by
        obtain ⟨A9, c9, e9, -, hin9⟩ := hT.out
        simp at e9
        obtain ⟨rfl, rfl⟩ := e9
        have := heldItems (.mk k1 n1 s1 x1 ks1 vs1) k1 n1 s1 x1 ks1 vs1 rfl (q + 4) (by omega) (by rw [HQ2.out]; exact hq4) w' S A1 c1 (hin9.below hb')
        rw [HQ2.out] at this
        rw [HL1.out]
        exact this
      have HQ3 : Hid (Q = m + 7 * cnts (vs.take (j + 1)) - 3 * ((j + 1 : Nat) : Int)) := Lib.hid (by rw [cnts_take ht, cnt_mk', ← HQ2.out, HQ.out]; push_cast; omega)
      have MT2 := markText (q + 2) (by omega) (by omega)
      have z2 := mtx_size (q + 2)
      obtain ⟨u2, HU2⟩ : ∃ u, Hid (mtx (q + 2) = u) := ⟨_, Lib.hid rfl⟩
      unfold MtQ at MT2
      rw [HU2.out] at MT2 z2
      rw [show q + 2 = q + 1 + 1 by omega] at MT2
      rw [show q + 4 = q + 1 + 1 + 1 + 1 by omega] at ihj
      have cell : Hid (At5 wr (a.add (j * 5)) q (q + 1) u2 (q + 3) A1 L1 c1) := Lib.hid (by
        have := hcell
        rwa [mkV_len, ← HL1.out, HU2.out] at this)
      obtain ⟨p0, p1, p2, p3, p4⟩ := cell.out
      clear gW e hT hin hin' hcell hcl hjj ht
      go_wp2_with (fail)
      go_region_with ((go_at_call 20; refine (MT2 _).mono ?_; rintro e w1 ⟨rfl, hb1⟩; have HB1 := Lib.hid (bs ((Below.refl wr.heap.size wr).drew) hb1); have cell1 := Lib.hid (At5.below HB1.out cell.out); obtain ⟨r0, r1, r2, r3, r4⟩ := cell1.out; clear hb1))
      all_goals
        clear p0 p1 p2 p3 p4
        go_wp2_with (fail)
        refine (ihj _ HB1.out).mono ?_
        rintro e w3 ⟨rfl, hb3⟩
        have HB3 := Lib.hid (bs HB1.out hb3)
        clear hb3 r0 r1 r2 r3 r4
        go_wp2_with (fail)
        go_roundg (L - j)
        case rel => exact ⟨j + 1, Q, by go_num, rfl, by omega, by omega, hQ0, hq4, HQ3, bs HB.out HB3.out⟩
        case measure => omega
    · obtain rfl : j = L := by omega
      have e : q = W := by rw [HQ.out, ← HW.out, HL.out, List.take_length]
      subst e
      go_wp2_with (fail)
      go_ret
      exact ⟨rfl, HB.out⟩

end Go.Proofs.YtlbkbcafkjgckaaGreatDoor.tree

