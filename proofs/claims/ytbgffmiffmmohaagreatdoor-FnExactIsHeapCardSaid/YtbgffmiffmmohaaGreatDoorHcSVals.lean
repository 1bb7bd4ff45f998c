/-
  Values in a row of five cells each: how they read; the laws' comparison of two rows, the laws' marks found again.
  Conditions: those that each theorem names.
-/
import Derived.Test.YtbgffmiffmmohaaGreatDoorHcSHeld
import Derived.Test.YtbgffmiffmmohaaGreatDoorHcSLawKit
import Derived.Test.YtbgffmiffmmohaaGreatDoorHcSCopyS
namespace Go.Proofs.YtbgffmiffmmohaaGreatDoor.tree
open Go.ChangeShapes Go.WideShapes Go.ChangeAt Go.RowKit
set_option linter.unusedVariables false

/-- The five cells of a value at q. -/
structure At5 (w : World) (q : Addr) (k n : Int) (s : ByteArray) (x : Int) (A : Option Addr) (L c : Nat) : Prop where
  c0 : w.cell? q = some (.int .i64 k)
  c1 : w.cell? ⟨q.block, q.off + 1, none⟩ = some (.int .i64 n)
  c2 : w.cell? ⟨q.block, q.off + 2, none⟩ = some (.string s)
  c3 : w.cell? ⟨q.block, q.off + 3, none⟩ = some (.int .i64 x)
  c4 : w.cell? ⟨q.block, q.off + 4, none⟩ = some (.slice A L c)
theorem At5.stays {w w' : World} {q : Addr} {k n x : Int} {s : ByteArray} {A : Option Addr} {L c : Nat} (hb : q.block < w.heap.size → w'.heap[q.block]? = w.heap[q.block]?) (h : At5 w q k n s x A L c) : At5 w' q k n s x A L c :=
  ⟨cell_stays hb h.c0, cell_stays hb h.c1, cell_stays hb h.c2, cell_stays hb h.c3, cell_stays hb h.c4⟩
theorem At5.below {w w' : World} (hb : Below w.heap.size w w') {q : Addr} {k n x : Int} {s : ByteArray} {A : Option Addr} {L c : Nat} (h : At5 w q k n s x A L c) : At5 w' q k n s x A L c := h.stays fun hlt => hb.block _ hlt

/-- The values at A. -/
def VIn (w : World) (S : Nat → Prop) (vs : List Tr) (A : Option Addr) : Prop :=
  ∀ i t, vs[i]? = some t → ∃ a k n s x ks' vs' A' c', A = some a ∧ S a.block ∧ t = .mk k n s x ks' vs' ∧ TIn w S t (vV k n s x A' vs'.length c') ∧ At5 w (a.add (i * 5)) k n s x A' vs'.length c'
theorem VIn.stays {w w' : World} {S S' : Nat → Prop} (hS : ∀ b, S b → S' b) (hb : ∀ b, S b → b < w.heap.size → w'.heap[b]? = w.heap[b]?) {vs : List Tr} {A : Option Addr} (h : VIn w S vs A) : VIn w' S' vs A := fun i t ht => by
  obtain ⟨a, k, n, s, x, ks', vs', A', c', e, hSa, rfl, hT, hc⟩ := h i t ht
  exact ⟨a, k, n, s, x, ks', vs', A', c', e, hS _ hSa, rfl, hT.stays hS hb, hc.stays (fun hlt => hb _ (by rw [mem.add_block]; exact hSa) hlt)⟩
theorem VIn.below {w w' : World} (hb : Below w.heap.size w w') {S : Nat → Prop} {vs : List Tr} {A : Option Addr} (h : VIn w S vs A) : VIn w' S vs A := h.stays (fun _ h => h) (fun b _ hlt => hb.block b hlt)

set_option maxRecDepth 100000 in
set_option maxHeartbeats 1600000 in
theorem eqValueS (vs : List Tr) (hm : vs.length ≤ 1000000000) (w : World) (S S' : Nat → Prop) (A A' : Option Addr) (c c' : Nat) (h : VIn w S vs A) (h' : VIn w S' vs A') : Calls Tryz.prog 61 #[.slice A vs.length c, .slice A' vs.length c'] w (TrueQ w) := by
  obtain ⟨L, HL⟩ : ∃ L, Hid (L = vs.length) := ⟨_, Lib.hid rfl⟩
  have HA := Lib.hid h
  have HA' := Lib.hid h'
  rw [← HL.out] at hm ⊢
  clear h h'
  go_enter Tryz.func61, Tryz.ntmps61
  go_wp2_with (fail)
  go_loopg [5] (L + 1) (fun gk i wr => ∃ j : Nat, i = .int .i64 j ∧ gk + j = L + 1 ∧ j ≤ L ∧ Below w.heap.size w wr)
  case atStart => exact ⟨0, rfl, by omega, by omega, Below.refl _ _⟩
  case round =>
    obtain ⟨j, rfl, hgj, hjL, hb⟩ := hrel
    have HB := Lib.hid hb
    clear hb
    by_cases hlt : j < L
    · obtain ⟨t, ht⟩ : ∃ t, vs[j]? = some t := ⟨_, List.getElem?_eq_getElem (by rw [← HL.out]; exact hlt)⟩
      obtain ⟨a, k, n, s, x, ks', vs', A1, c1, rfl, -, rfl, hT, hcell⟩ := HA.out.below HB.out j t ht
      obtain ⟨a', k', n', s', x', ks2, vs2, A2, c2, rfl, -, e, hT', hcell'⟩ := HA'.out.below HB.out j _ ht
      obtain ⟨rfl, rfl, rfl, rfl, rfl, rfl⟩ : k = k' ∧ n = n' ∧ s = s' ∧ x = x' ∧ ks' = ks2 ∧ vs' = vs2 := by simpa using e
      have EQ := fun w' (hb : Below wr.heap.size wr w') => eqV _ w' S S' _ _ (hT.below' hb) (hT'.below' hb)
      obtain ⟨L1, HL1⟩ : ∃ L1, Hid (L1 = vs'.length) := ⟨_, Lib.hid rfl⟩
      rw [← HL1.out] at EQ hcell hcell'
      obtain ⟨p0, p1, p2, p3, p4⟩ := hcell
      obtain ⟨q0, q1, q2, q3, q4⟩ := hcell'
      have HEQ := Lib.hid EQ
      clear hT hT' e EQ ht
      go_wp2_with (fail)
      go_region_with ((go_at_call 33; refine (HEQ.out _ ?_).mono ?_; exact ((Below.refl wr.heap.size wr).drew); rintro e w1 ⟨rfl, hb1⟩; have HB1 := Lib.hid hb1; clear hb1))
      all_goals
        go_wp2_with (fail)
        go_roundg (L - j)
        case rel => exact ⟨j + 1, by go_num, by omega, by omega, bs (bs HB.out ((Below.refl _ _).drew)) HB1.out⟩
        case measure => omega
    · go_wp2_with (fail)
      go_ret
      exact ⟨rfl, HB.out⟩

/-- A value with marks, its own words too. -/
def mkT4 (q : Int) : Tr → Tr
  | .mk _ _ _ _ _ vs => .mk q (q + 1) (mtx (q + 2)) (q + 3) (mkK (q + 4) vs) (mkV (q + 4) vs)
/-- Values with marks. -/
def mkW (m : Int) : List Tr → List Tr
  | [] => []
  | t :: vs => mkT4 m t :: mkW (m + (7 * cnt t - 3)) vs
theorem mkW_len : ∀ (m : Int) (vs : List Tr), (mkW m vs).length = vs.length
  | _, [] => rfl
  | m, t :: vs => by rw [mkW, List.length_cons, List.length_cons, mkW_len]
theorem mkW_get : ∀ (m : Int) (vs : List Tr) (j : Nat) (t : Tr), vs[j]? = some t → (mkW m vs)[j]? = some (mkT4 (m + 7 * cnts (vs.take j) - 3 * j) t)
  | _, [], j, t, h => by simp at h
  | m, t0 :: vs, 0, t, h => by
    obtain rfl : t0 = t := by simpa using h
    rw [mkW]
    simp [cnts]
  | m, t0 :: vs, j + 1, t, h => by
    have := mkW_get (m + (7 * cnt t0 - 3)) vs j t (by simpa using h)
    rw [mkW, List.getElem?_cons_succ, this, List.take_succ_cons, cnts_cons']
    congr 2
    push_cast
    omega


end Go.Proofs.YtbgffmiffmmohaaGreatDoor.tree

