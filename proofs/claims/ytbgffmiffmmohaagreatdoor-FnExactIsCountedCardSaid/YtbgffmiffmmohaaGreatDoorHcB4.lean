/-
  What the texts behind this one use: 10 parts of one proof.
  Conditions: those that each theorem names.
-/
import Derived.Test.YtbgffmiffmmohaaGreatDoorHcB2
import Derived.Test.YtbgffmiffmmohaaGreatDoorHcSValidS
import Derived.Test.YtbgffmiffmmohaaGreatDoorHcSPar
import Derived.Test.YtbgffmiffmmohaaGreatDoorHcSTreeCp
import Derived.Maps.AppendAt
/-
  IsHeld of the project and of the model.
  Conditions: the value's texts and lists fit in memory; the package variables of the library's reading of numbers hold what the program's text lays.
-/
namespace Go.Proofs.YtbgffmiffmmohaaGreatDoor.tree
open Go.ChangeShapes Go.WideShapes Go.ChangeAt Go.RowKit
set_option linter.unusedVariables false

/-- Whether a number is the index of a live block. -/
def liveH (bl : List Bk) (n : Int) : Bool := match bl[n.toNat]? with
  | some k => decide (0 ≤ n) && decide (0 < k.refs)
  | none => false
def heldB (bl : List Bk) : Tr → Bool
  | .mk k n s x ks vs => if k = 5 then (decide (s.size = 0) && (decide (x = 0) && decide (vs.length = 0))) && liveH bl n else !decide (k = 4) && sndB (.mk k n s x ks vs)
theorem held_five (bl : List Bk) (n : Int) (s : ByteArray) (x : Int) (ks : List Ky) (vs : List Tr) : heldB bl (.mk 5 n s x ks vs) = ((decide (s.size = 0) && (decide (x = 0) && decide (vs.length = 0))) && liveH bl n) := by rw [heldB, if_pos rfl]
theorem held_not {bl : List Bk} {k n : Int} {s : ByteArray} {x : Int} {ks : List Ky} {vs : List Tr} (h : k ≠ 5) : heldB bl (.mk k n s x ks vs) = (!decide (k = 4) && sndB (.mk k n s x ks vs)) := by rw [heldB, if_neg h]
theorem live_neg {bl : List Bk} {n : Int} (h : n < 0) : liveH bl n = false := by
  unfold liveH
  split
  · rw [show decide (0 ≤ n) = false from decide_eq_false (by omega)]; rfl
  · rfl
theorem live_far {bl : List Bk} {j : Nat} (h : bl.length ≤ j) : liveH bl (j : Int) = false := by
  unfold liveH
  rw [Int.toNat_natCast, List.getElem?_eq_none h]
theorem live_at {bl : List Bk} {j : Nat} {k : Bk} (h : bl[j]? = some k) : liveH bl (j : Int) = decide (0 < k.refs) := by
  unfold liveH
  rw [Int.toNat_natCast, h]
  simp
theorem inr_j (n : Int) (L : Nat) : nums.inr n 0 ((L : Int) - 1) = decide (0 ≤ n ∧ n < L) := by
  unfold nums.inr
  by_cases h1 : 0 ≤ n <;> by_cases h2 : n < L <;> simp [h1, h2] <;> omega
theorem snd_light {k n : Int} {s : ByteArray} {x : Int} {ks : List Ky} {vs : List Tr} (h4 : k ≠ 4) : valB (.mk k n s x ks vs) = sndB (.mk k n s x ks vs) := by
  unfold valB
  cases hs : sndB (.mk k n s x ks vs) with
  | false => simp
  | true =>
    rw [snd_not h4] at hs
    unfold restB at hs
    have hv : vs.length = 0 := by simp at hs; simpa using hs.1.2.2
    obtain rfl : vs = [] := List.length_eq_zero_iff.1 hv
    simp [lightB, wgt, wgts]

abbrev IH' : TypeId := 78
theorem isIndex_b (n : Int) (A : Option Addr) (L c : Nat) (hL : L ≤ maxLen) (q : Bool) (hq : decide (0 ≤ n ∧ n < L) = q) (w : World) : Calls Tryz.prog 195 #[.slice A L c, .int .i64 n] w fun e w' => e = .returned (.bool q) ∧ w = w' := by
  have IR := inRange_i n 0 ((L : Int) - 1) q (by rw [inr_j]; exact hq)
  unfold maxLen at hL
  clear hq
  go_enter Tryz.func195, Tryz.ntmps195
  go_wp2_with (fail)
  refine (IR _).mono ?_
  rintro e w1 ⟨rfl, rfl⟩
  go_wp2_with (fail)
  go_ret
  exact ⟨rfl, rfl⟩

set_option maxHeartbeats 1600000 in
set_option maxRecDepth 100000 in
theorem isHeld_i (bl : List Bk) (t : Tr) (A : Option Addr) (c : Nat) (v : Value) (w : World) (S S' : Nat → Prop) (hH : HIn w S bl A) (hm : bl.length ≤ 1048576) (h : TIn w S' t v) (hN : tot t ≤ 281474976710656) (hE : prs.Env w) :
    Calls Tryz.prog 132 #[hpV A bl.length c, v] w (BoQ w (heldB bl t)) := by
  have IV := Lib.hid (fun w' (hb : Below w.heap.size w w') => isValue_i t hN w' _ v (hE.stays hb) (h.below' hb))
  have HH := Lib.hid (fun w' (hb : Below w.heap.size w w') => hH.below hb)
  obtain ⟨L, HL⟩ : ∃ L, Hid (bl.length = L) := ⟨_, Lib.hid rfl⟩
  obtain ⟨k, n, s, x, ks, vs⟩ := t
  obtain ⟨A1, c1, rfl, ⟨-, -, -, hs⟩, -⟩ := h.out
  obtain ⟨L1, HL1⟩ : ∃ L, Hid (vs.length = L) := ⟨_, Lib.hid rfl⟩
  have hl1 : L1 ≤ 9223372036854775807 := by rw [← HL1.out]; have := h.cap; unfold maxLen at this; omega
  rw [HL.out] at hm ⊢
  rw [HL1.out] at IV ⊢
  clear h hN hE hH
  by_cases h5 : k = 5
  · subst h5
    rw [held_five, HL1.out]
    clear IV
    by_cases h0 : s.size = 0
    · obtain rfl := empty_of h0
      rw [decide_eq_true h0]
      by_cases hx : x = 0
      · subst hx
        by_cases hl : L1 = 0
        · subst hl
          obtain ⟨q, HQ⟩ : ∃ q, Hid (decide (0 ≤ n ∧ n < L) = q) := ⟨_, Lib.hid rfl⟩
          have IX := isIndex_b n A L c (by unfold maxLen; omega) q HQ.out
          cases q with
          | false =>
            have e : liveH bl n = false := by
              have h1 := of_decide_eq_false HQ.out
              by_cases hn : n < 0
              · exact live_neg hn
              · obtain ⟨j, rfl⟩ : ∃ j : Nat, n = j := ⟨n.toNat, by omega⟩
                exact live_far (by rw [HL.out]; omega)
            rw [e]
            clear HQ e
            go_enter Tryz.func132, Tryz.ntmps132
            go_wp2_with (fail)
            refine (IX _).mono ?_
            rintro e w1 ⟨rfl, rfl⟩
            go_wp2_with (fail)
            go_ret
            exact ⟨rfl, tree.b2 _ _ _⟩
          | true =>
            obtain ⟨h1, h2⟩ := of_decide_eq_true HQ.out
            obtain ⟨j, rfl⟩ : ∃ j : Nat, n = j := ⟨n.toNat, by omega⟩
            have hj : j < L := by omega
            obtain ⟨b, hb⟩ : ∃ b, bl[j]? = some b := ⟨_, List.getElem?_eq_getElem (by rw [HL.out]; exact hj)⟩
            rw [live_at hb]
            obtain ⟨a, A', n', c', B, m', d, rfl, -, -, -, hc⟩ := HH.out _ (tree.b2 w (.cells #[.slice A L c] IH') (.cells #[.int .i64 5, .int .i64 j, .string ⟨#[]⟩, .int .i64 0, .slice A1 0 c1] IV)) j b hb
            obtain ⟨rf, hs', l, sl, x', ct⟩ := b
            have p0 := hc.c0
            simp only at p0
            clear hc hb HH HQ h1 h2
            go_enter Tryz.func132, Tryz.ntmps132
            go_wp2_with (fail)
            refine (IX _).mono ?_
            rintro e w1 ⟨rfl, rfl⟩
            go_wp2_with (fail)
            go_ret
            exact ⟨by simp, tree.b2 _ _ _⟩
        · rw [show decide (L1 = 0) = false from decide_eq_false hl]
          have hl' : ((L1 : Int) == 0) = false := by simp; omega
          go_enter Tryz.func132, Tryz.ntmps132
          go_wp2_with (fail)
          go_ret
          exact ⟨rfl, tree.b2 _ _ _⟩
      · rw [show decide (x = 0) = false from decide_eq_false hx]
        go_enter Tryz.func132, Tryz.ntmps132
        go_wp2_with (fail)
        go_ret
        exact ⟨rfl, tree.b2 _ _ _⟩
    · obtain ⟨l1, l2⟩ := list_of h0
      rw [show decide (s.size = 0) = false from decide_eq_false h0]
      clear h0
      go_enter Tryz.func132, Tryz.ntmps132
      go_wp2_with (fail)
      go_ret
      exact ⟨rfl, tree.b2 _ _ _⟩
  · rw [held_not h5]
    by_cases h4 : k = 4
    · subst h4
      rw [show (!decide ((4 : Int) = 4) && sndB (.mk 4 n s x ks vs)) = false by simp]
      go_enter Tryz.func132, Tryz.ntmps132
      go_wp2_with (fail)
      go_ret
      exact ⟨rfl, tree.b2 _ _ _⟩
    · rw [show (!decide (k = 4)) = true by simp [h4], Bool.true_and, ← snd_light h4]
      obtain ⟨q, HQ⟩ : ∃ q, Hid (valB (.mk k n s x ks vs) = q) := ⟨_, Lib.hid rfl⟩
      rw [HQ.out] at IV ⊢
      have h4' : (k != 4) = true := by simp [h4]
      clear HQ
      cases q
      all_goals
        go_enter Tryz.func132, Tryz.ntmps132
        go_wp2_with (fail)
        refine (IV.out _ (tree.b2 _ _ _)).mono ?_
        rintro e w1 ⟨rfl, hb1⟩
        have HB := Lib.hid (bs (tree.b2 w _ _) hb1)
        clear hb1
        go_wp2_with (fail)
        go_ret
        exact ⟨rfl, HB.out⟩

theorem two_old (w : World) (o0 o1 : Array Value) {t0 t1 : TypeId} {w1 : World} (hb : Below ((w.alloc (.cells o0 t0)).alloc (.cells o1 t1)).heap.size ((w.alloc (.cells o0 t0)).alloc (.cells o1 t1)) w1) : w1.heap[w.heap.size]? = some (.cells o0 t0 (0, 0)) ∧ w1.heap[w.heap.size + 1]? = some (.cells o1 t1 (0, 0)) :=
  ⟨carry hb (heap_alloc2_old w _ _), carry hb (heap_alloc2_new w _ _)⟩
/-- Whether a value of the kind of handles has nothing but its number. -/
def bareB (s : ByteArray) (x : Int) (L : Nat) : Bool := decide (s.size = 0) && (decide (x = 0) && decide (L = 0))
theorem handle_s (n : Int) (s : ByteArray) (x : Int) (A : Option Addr) (L c : Nat) (hs : s.size ≤ maxLen) (hl : L ≤ maxLen) (w : World) :
    Calls Tryz.prog 185 #[vV 5 n s x A L c] w (BoQ w (bareB s x L)) := by
  unfold maxLen at hs hl
  unfold bareB
  by_cases h0 : s.size = 0
  · obtain rfl := empty_of h0
    rw [decide_eq_true h0]
    by_cases hx : x = 0
    · subst hx
      by_cases hl : L = 0
      · subst hl
        go_enter Tryz.func185, Tryz.ntmps185
        go_wp2_with (fail)
        go_ret
        exact ⟨rfl, b1 _ _⟩
      · rw [show decide (L = 0) = false from decide_eq_false hl]
        have hl' : ((L : Int) == 0) = false := by simp; omega
        go_enter Tryz.func185, Tryz.ntmps185
        go_wp2_with (fail)
        go_ret
        exact ⟨rfl, b1 _ _⟩
    · rw [show decide (x = 0) = false from decide_eq_false hx]
      go_enter Tryz.func185, Tryz.ntmps185
      go_wp2_with (fail)
      go_ret
      exact ⟨rfl, b1 _ _⟩
  · obtain ⟨l1, l2⟩ := list_of h0
    rw [show decide (s.size = 0) = false from decide_eq_false h0]
    clear h0
    go_enter Tryz.func185, Tryz.ntmps185
    go_wp2_with (fail)
    go_ret
    exact ⟨rfl, b1 _ _⟩
theorem inL_s (n : Int) (L : Nat) (q : Bool) (hq : decide (0 ≤ n ∧ n < L) = q) (w : World) : Calls Tryz.prog 78 #[.int .i64 n, .int .i64 0, .int .i64 ((L : Int) - 1)] w fun e w' => e = .returned (.bool q) ∧ w = w' := by
  subst hq
  by_cases h1 : 0 ≤ n
  all_goals
    by_cases h2 : n ≤ (L : Int) - 1
    all_goals
      go_enter Tryz.func78, Tryz.ntmps78
      go_wp2
      go_ret
      refine ⟨?_, rfl⟩
      congr 2
      simp [h1]
      try omega

set_option maxHeartbeats 1600000 in
set_option maxRecDepth 100000 in
theorem isHeld_s (bl : List Bk) (t : Tr) (A : Option Addr) (c : Nat) (v : Value) (w : World) (S S' : Nat → Prop) (hH : HIn w S bl A) (hm : bl.length ≤ 1048576) (h : TIn w S' t v) (hN : tot t ≤ 281474976710656) (hE : prs.Env w) :
    Calls Tryz.prog 117 #[hpV A bl.length c, v] w (BoQ w (heldB bl t)) := by
  have IV := Lib.hid (fun w' (hb : Below w.heap.size w w') => valid_s t hN w' _ v (hE.stays hb) (h.below' hb))
  have HH := Lib.hid (fun w' (hb : Below w.heap.size w w') => hH.below hb)
  obtain ⟨L, HL⟩ : ∃ L, Hid (bl.length = L) := ⟨_, Lib.hid rfl⟩
  obtain ⟨k, n, s, x, ks, vs⟩ := t
  obtain ⟨A1, c1, rfl, ⟨-, -, -, hs⟩, -⟩ := h.out
  obtain ⟨L1, HL1⟩ : ∃ L, Hid (vs.length = L) := ⟨_, Lib.hid rfl⟩
  have hl1 : L1 ≤ maxLen := by rw [← HL1.out]; have := h.cap; omega
  rw [HL.out] at hm ⊢
  rw [HL1.out] at IV ⊢
  clear h hN hE hH
  by_cases h5 : k = 5
  · subst h5
    rw [held_five, HL1.out]
    clear IV
    have HA := fun w => handle_s n s x A1 L1 c1 hs hl1 w
    obtain ⟨p, HP⟩ : ∃ p, Hid (bareB s x L1 = p) := ⟨_, Lib.hid rfl⟩
    have HPP := HP.out
    unfold bareB at HPP
    rw [HPP]
    rw [HP.out] at HA
    clear hs hl1 HPP
    cases p with
    | false =>
      rw [Bool.false_and]
      go_enter Tryz.func117, Tryz.ntmps117
      go_wp2_with (fail)
      refine (HA _).mono ?_
      rintro e w1 ⟨rfl, hb1⟩
      have HB := Lib.hid (bs (tree.b2 w _ _) hb1)
      clear hb1
      go_wp2_with (fail)
      go_ret
      exact ⟨rfl, HB.out⟩
    | true =>
      rw [Bool.true_and]
      obtain ⟨q, HQ⟩ : ∃ q, Hid (decide (0 ≤ n ∧ n < L) = q) := ⟨_, Lib.hid rfl⟩
      have IX := inL_s n L q HQ.out
      cases q with
      | false =>
        have e : liveH bl n = false := by
          have h1 := of_decide_eq_false HQ.out
          by_cases hn : n < 0
          · exact live_neg hn
          · obtain ⟨j, rfl⟩ : ∃ j : Nat, n = j := ⟨n.toNat, by omega⟩
            exact live_far (by rw [HL.out]; omega)
        rw [e]
        clear HQ e
        go_enter Tryz.func117, Tryz.ntmps117
        go_wp2_with (fail)
        refine (HA _).mono ?_
        rintro e w1 ⟨rfl, hb1⟩
        have HB := Lib.hid (bs (tree.b2 w _ _) hb1)
        obtain ⟨y0, y1⟩ := two_old w _ _ hb1
        have q0 := (rowc y0).1 0
        have q1 := (rowc y1).1 1
        simp at q0 q1
        clear hb1 y0 y1
        go_wp2_with (fail)
        refine (IX _).mono ?_
        rintro e w2 ⟨rfl, rfl⟩
        go_wp2_with (fail)
        go_ret
        exact ⟨rfl, HB.out⟩
      | true =>
        obtain ⟨h1, h2⟩ := of_decide_eq_true HQ.out
        obtain ⟨j, rfl⟩ : ∃ j : Nat, n = j := ⟨n.toNat, by omega⟩
        have hj : j < L := by omega
        obtain ⟨b, hb⟩ : ∃ b, bl[j]? = some b := ⟨_, List.getElem?_eq_getElem (by rw [HL.out]; exact hj)⟩
        rw [live_at hb]
        have HBB := Lib.hid hb
        clear HQ h1 h2 hb
        go_enter Tryz.func117, Tryz.ntmps117
        go_wp2_with (fail)
        refine (HA _).mono ?_
        rintro e w1 ⟨rfl, hb1⟩
        have HB := Lib.hid (bs (tree.b2 w _ _) hb1)
        obtain ⟨y0, y1⟩ := two_old w _ _ hb1
        have q0 := (rowc y0).1 0
        have q1 := (rowc y1).1 1
        simp at q0 q1
        obtain ⟨a, A', n', c', B, m', d, rfl, -, -, -, hc⟩ := HH.out _ HB.out j b HBB.out
        obtain ⟨rf, hs', l, sl, x', ct⟩ := b
        have p0 := hc.c0
        simp only at p0
        clear hb1 y0 y1 hc HH
        go_wp2_with (fail)
        refine (IX _).mono ?_
        rintro e w2 ⟨rfl, rfl⟩
        go_wp2_with (fail)
        go_ret
        exact ⟨by simp, HB.out⟩
  · rw [held_not h5]
    by_cases h4 : k = 4
    · subst h4
      rw [show (!decide ((4 : Int) = 4) && sndB (.mk 4 n s x ks vs)) = false by simp]
      go_enter Tryz.func117, Tryz.ntmps117
      go_wp2_with (fail)
      go_ret
      exact ⟨rfl, tree.b2 _ _ _⟩
    · rw [show (!decide (k = 4)) = true by simp [h4], Bool.true_and]
      obtain ⟨q, HQ⟩ : ∃ q, Hid (sndB (.mk k n s x ks vs) = q) := ⟨_, Lib.hid rfl⟩
      rw [HQ.out] at IV ⊢
      have h4' : (k != 4) = true := by simp [h4]
      clear HQ
      cases q
      all_goals
        go_enter Tryz.func117, Tryz.ntmps117
        go_wp2_with (fail)
        refine (IV.out _ (tree.b2 _ _ _)).mono ?_
        rintro e w1 ⟨rfl, hb1⟩
        have HB := Lib.hid (bs (tree.b2 w _ _) hb1)
        clear hb1
        go_wp2_with (fail)
        go_ret
        exact ⟨rfl, HB.out⟩

end Go.Proofs.YtbgffmiffmmohaaGreatDoor.tree

/-
  The laws' marks: what they leave in a value.
  Conditions: those that each theorem names.
-/
namespace Go.Proofs.YtbgffmiffmmohaaGreatDoor.tree
open Go.ChangeShapes Go.WideShapes Go.ChangeAt Go.RowKit
set_option linter.unusedVariables false

theorem cnts_nil : cnts [] = 0 := by rw [cnts]
theorem cnts_cons' (t : Tr) (vs : List Tr) : cnts (t :: vs) = cnt t + cnts vs := by rw [cnts]
theorem cnt_mk' (k n : Int) (s : ByteArray) (x : Int) (ks : List Ky) (vs : List Tr) : cnt (.mk k n s x ks vs) = 1 + cnts vs := by rw [cnt]
theorem cnts_app : ∀ (a b : List Tr), cnts (a ++ b) = cnts a + cnts b
  | [], b => by rw [cnts_nil]; simp
  | t :: a, b => by rw [List.cons_append, cnts_cons', cnts_cons', cnts_app a b]; omega
theorem cnts_take {vs : List Tr} {j : Nat} {t : Tr} (h : vs[j]? = some t) : cnts (vs.take (j + 1)) = cnts (vs.take j) + cnt t := by
  obtain ⟨hj, rfl⟩ := List.getElem?_eq_some_iff.1 h
  rw [List.take_succ_eq_append_getElem hj, cnts_app, cnts_cons', cnts_nil]
  omega
theorem cnts_le (vs : List Tr) (j : Nat) : cnts (vs.take j) ≤ cnts vs := by
  have := cnts_app (vs.take j) (vs.drop j)
  rw [List.take_append_drop] at this
  omega
theorem cnts_lt {vs : List Tr} {j : Nat} {t : Tr} (h : vs[j]? = some t) : cnts (vs.take j) + cnt t ≤ cnts vs := by
  rw [← cnts_take h]
  exact cnts_le vs (j + 1)

/-- The digits of a number, before a text. -/
def digOf (k : Nat) : ByteArray := ⟨#[UInt8.ofNat (48 + k % 10)]⟩
def mgo : Nat → Nat → ByteArray → ByteArray
  | 0, _, out => out
  | f + 1, k, out => if k = 0 then out else mgo f (k / 10) (digOf k ++ out)
def mtx (k : Int) : ByteArray := "m".toUTF8 ++ mgo 30 k.toNat ⟨#[]⟩

/-- The key and the value that the marks from m on leave. -/
def mkY (m : Int) : Ky := ⟨decide (m % 3 = 0), m + 1, mtx (m + 2)⟩
def mkK (m : Int) : List Tr → List Ky
  | [] => []
  | t :: vs => mkY m :: mkK (m + 7 * cnt t) vs
mutual
def mkT (m : Int) : Tr → Tr
  | .mk _ _ _ _ _ vs => .mk (m + 3) (m + 4) (mtx (m + 5)) (m + 6) (mkK (m + 7) vs) (mkV (m + 7) vs)
def mkV (m : Int) : List Tr → List Tr
  | [] => []
  | t :: vs => mkT m t :: mkV (m + 7 * cnt t) vs
end
theorem mkT_mk (m k n : Int) (s : ByteArray) (x : Int) (ks : List Ky) (vs : List Tr) : mkT m (.mk k n s x ks vs) = .mk (m + 3) (m + 4) (mtx (m + 5)) (m + 6) (mkK (m + 7) vs) (mkV (m + 7) vs) := by rw [mkT]
theorem mkK_len : ∀ (m : Int) (vs : List Tr), (mkK m vs).length = vs.length
  | _, [] => rfl
  | m, t :: vs => by rw [mkK, List.length_cons, mkK_len, List.length_cons]
theorem mkV_len : ∀ (m : Int) (vs : List Tr), (mkV m vs).length = vs.length
  | _, [] => by rw [mkV]
  | m, t :: vs => by rw [mkV, List.length_cons, mkV_len, List.length_cons]
theorem mkK_get : ∀ (m : Int) (vs : List Tr) (j : Nat) (t : Tr), vs[j]? = some t → (mkK m vs)[j]? = some (mkY (m + 7 * cnts (vs.take j)))
  | _, [], j, t, h => by simp at h
  | m, u :: vs, 0, t, h => by simp [mkK, cnts_nil]
  | m, u :: vs, j + 1, t, h => by
    rw [mkK, List.getElem?_cons_succ, mkK_get (m + 7 * cnt u) vs j t (by simpa using h), List.take_succ_cons, cnts_cons']
    congr 2
    push_cast
    omega
theorem mkV_get : ∀ (m : Int) (vs : List Tr) (j : Nat) (t : Tr), vs[j]? = some t → (mkV m vs)[j]? = some (mkT (m + 7 * cnts (vs.take j)) t)
  | _, [], j, t, h => by simp at h
  | m, u :: vs, 0, t, h => by
    simp at h
    subst h
    simp [mkV, cnts_nil]
  | m, u :: vs, j + 1, t, h => by
    rw [mkV, List.getElem?_cons_succ, mkV_get (m + 7 * cnt u) vs j t (by simpa using h), List.take_succ_cons, cnts_cons']
    congr 2
    push_cast
    omega

/-- The first j of one list, then the other. -/
def mix {α : Type} (a b : List α) (j : Nat) : List α := a.take j ++ b.drop j
theorem mix_len {α : Type} {a b : List α} (h : a.length = b.length) (j : Nat) : (mix a b j).length = b.length := by
  unfold mix
  rw [List.length_append, List.length_take, List.length_drop]
  omega
theorem mix_lt {α : Type} {a b : List α} (h : a.length = b.length) {i j : Nat} (hi : i < j) (hj : j ≤ a.length) : (mix a b j)[i]? = a[i]? := by
  unfold mix
  rw [List.getElem?_append_left (by rw [List.length_take]; omega), List.getElem?_take_of_lt hi]
theorem mix_ge {α : Type} {a b : List α} (h : a.length = b.length) {i j : Nat} (hi : j ≤ i) (hj : j ≤ a.length) : (mix a b j)[i]? = b[i]? := by
  unfold mix
  rw [List.getElem?_append_right (by rw [List.length_take]; omega), List.length_take, List.getElem?_drop]
  congr 1
  omega
theorem mix_zero {α : Type} (a b : List α) : mix a b 0 = b := by simp [mix]
theorem mix_all {α : Type} {a b : List α} (h : a.length = b.length) : mix a b b.length = a := by simp [mix, ← h]

def MtQ (w : World) (k : Int) (e : Ending) (w' : World) : Prop := e = .returned (.string (mtx k)) ∧ Below w.heap.size w w'
theorem mgo_size : ∀ (f k : Nat) (out : ByteArray), (mgo f k out).size ≤ f + out.size
  | 0, _, out => by simp [mgo]
  | f + 1, k, out => by
    rw [mgo]
    split
    · omega
    · have := mgo_size f (k / 10) (digOf k ++ out)
      rw [ByteArray.size_append] at this
      have e : (digOf k).size = 1 := rfl
      omega
theorem mtx_size (k : Int) : (mtx k).size ≤ 31 := by
  unfold mtx
  rw [ByteArray.size_append]
  have := mgo_size 30 k.toNat ⟨#[]⟩
  have e : ("m".toUTF8 : ByteArray).size = 1 := by decide
  have e0 : (⟨#[]⟩ : ByteArray).size = 0 := rfl
  omega

end Go.Proofs.YtbgffmiffmmohaaGreatDoor.tree

/-
  The laws' marks: the text of a mark.
  Conditions: the number is above 0 and at most 10^15.
-/
namespace Go.Proofs.YtbgffmiffmmohaaGreatDoor.tree
open Go.ChangeShapes Go.WideShapes Go.ChangeAt Go.RowKit mem
set_option linter.unusedVariables false

theorem mgo_step {f q : Nat} (hq : q ≠ 0) (o : ByteArray) : mgo (f + 1) q o = mgo f (q / 10) (digOf q ++ o) := by rw [mgo, if_neg hq]
theorem mgo_zero (f : Nat) (o : ByteArray) : mgo f 0 o = o := by cases f <;> simp [mgo]

set_option maxHeartbeats 800000 in
theorem markText (k : Int) (h0 : 1 ≤ k) (h1 : k ≤ 1000000000000000) (w : World) : Calls Tryz.prog 113 #[.int .i64 k] w (MtQ w k) := by
  obtain ⟨K, rfl⟩ : ∃ K : Nat, k = (K : Int) := ⟨k.toNat, by omega⟩
  unfold MtQ mtx
  rw [Int.toNat_natCast]
  obtain ⟨T, HT⟩ : ∃ T, Hid (mgo 30 K ⟨#[]⟩ = T) := ⟨_, Lib.hid rfl⟩
  rw [HT.out]
  go_enter Tryz.func113, Tryz.ntmps113
  go_wp2_with (fail)
  go_loopg [0, 3] 30 (fun gk kv ov wr => ∃ (q : Nat) (o : ByteArray), kv = .int .i64 q ∧ ov = .string o ∧ q ≤ 1000000000000000 ∧ q < 10 ^ gk ∧ o.size + gk = 30 ∧ Hid (mgo gk q o = T) ∧ Below w.heap.size w wr)
  case atStart => exact ⟨K, ⟨#[]⟩, rfl, rfl, by omega, by omega, rfl, HT, Below.refl _ _⟩
  case round =>
    obtain ⟨q, o, rfl, rfl, hq, hp, ho, HQ, hb⟩ := hrel
    have HB := Lib.hid hb
    have HP := Lib.hid hp
    clear hb hp
    by_cases hq0 : q = 0
    · subst hq0
      have e : T = o := by rw [← HQ.out, mgo_zero]
      subst e
      have ho' : T.size ≤ 30 := by omega
      go_wp2_with (fail)
      go_ret
      exact ⟨rfl, HB.out⟩
    · have hpos : 0 < q := by omega
      have hgk : gk ≠ 0 := fun e => by have := HP.out; rw [e] at this; simp at this; omega
      obtain ⟨f, HF⟩ : ∃ f, Hid (gk = f + 1) := ⟨gk - 1, Lib.hid (by omega)⟩
      have hd0 : (0 : Int) ≤ (q : Int) % 10 := by omega
      have hd1 : (q : Int) % 10 ≤ 9 := by omega
      have hcv := conv_rd (P := Tryz.prog) _ 22 9 5 Tryz.underlying22 Tryz.underlying5 Tryz.underlying9 (rd_one wr (48 + (q : Int) % 10) (by omega) (by omega) 5) 1
      rw [show strOfNums [48 + (q : Int) % 10] = digOf q by
        have e : (48 + (q : Int) % 10).toNat = 48 + q % 10 := by omega
        simp [strOfNums, digOf, e]] at hcv
      have hd2 : (digOf q).size ≤ 1 := Nat.le_refl 1
      have ho2 : o.size ≤ 30 := by omega
      obtain ⟨D, HD⟩ : ∃ D, Hid (digOf q = D) := ⟨_, Lib.hid rfl⟩
      rw [HD.out] at hcv hd2
      go_wp2_with (fail)
      clear hcv
      go_roundg f
      case rel =>
        refine ⟨q / 10, D ++ o, rfl, rfl, by omega, ?_, ?_, Lib.hid ?_, bs HB.out (b1 _ _)⟩
        · exact Nat.div_lt_of_lt_mul (by have := HP.out; rw [HF.out, Nat.pow_succ] at this; omega)
        · have e1 : (digOf q).size = 1 := rfl
          rw [HD.out] at e1
          have := HF.out
          rw [ByteArray.size_append]
          omega
        · rw [← HD.out, ← mgo_step hq0, ← HF.out]
          exact HQ.out
      case measure => have := HF.out; omega

end Go.Proofs.YtbgffmiffmmohaaGreatDoor.tree

/-
  What a call leaves as it was, but for some blocks.
  Conditions: none.
-/
namespace Go.Proofs.YtbgffmiffmmohaaGreatDoor.tree
open Go.ChangeShapes Go.WideShapes Go.ChangeAt Go.RowKit
set_option linter.unusedVariables false

/-- Nothing but blocks of S has changed. -/
structure Fr (S : Nat → Prop) (w w' : World) : Prop where
  os : w'.os = w.os
  tape : w'.tape = w.tape
  output : w'.output = w.output
  size : w.heap.size ≤ w'.heap.size
  block : ∀ b, b < w.heap.size → ¬ S b → w'.heap[b]? = w.heap[b]?
section
variable {S S' : Nat → Prop} {w w' w2 : World}
theorem Fr.refl (S : Nat → Prop) (w : World) : Fr S w w := ⟨rfl, rfl, rfl, Nat.le_refl _, fun _ _ _ => rfl⟩
theorem Fr.of (h : Below w.heap.size w w') : Fr S w w' := ⟨h.os, h.tape, h.output, h.size, fun b hb _ => h.block b hb⟩
theorem Fr.trans (h : Fr S w w') (k : Fr S w' w2) : Fr S w w2 := ⟨k.os.trans h.os, k.tape.trans h.tape, k.output.trans h.output, Nat.le_trans h.size k.size, fun b hb hs => (k.block b (Nat.lt_of_lt_of_le hb h.size) hs).trans (h.block b hb hs)⟩
theorem Fr.mono (h : Fr S w w') (hs : ∀ b, S b → S' b) : Fr S' w w' := ⟨h.os, h.tape, h.output, h.size, fun b hb hn => h.block b hb fun hh => hn (hs b hh)⟩
theorem Fr.below (h : Fr S w w') {lo : Nat} (hl : lo ≤ w.heap.size) (hs : ∀ b, S b → lo ≤ b) : Below lo w w' := ⟨h.os, h.tape, h.output, h.size, fun b hb => h.block b (Nat.lt_of_lt_of_le hb hl) fun hh => by have := hs b hh; omega⟩
theorem Fr.set {g : Nat} (hg : S g) (j : Nat) (v : Value) : Fr S w (w.setCell ⟨g, j, none⟩ v) := ⟨rfl, rfl, rfl, by rw [set_size]; exact Nat.le_refl _, fun b _ hn => set_other (fun e => hn (e ▸ hg))⟩
end

theorem TIn.lt' {w : World} {S : Nat → Prop} {t : Tr} {v : Value} (h : TIn w S t v) : TIn w (fun b => b < w.heap.size) t v := by
  induction h with
  | mk k n s x ks vs A cap C hk hl hm hcap hc ht ih =>
    refine TIn.mk k n s x ks vs A _ C hk hl hm hcap (fun i hi => ?_) ih
    obtain ⟨a, ha, hS, hky, hs, hj⟩ := hc i hi
    refine ⟨a, ha, ?_, hky, hs, hj⟩
    have := World.block_lt_of_cell? _ _ hky.1
    rwa [mem.add_block] at this

end Go.Proofs.YtbgffmiffmmohaaGreatDoor.tree

/-
  Items that a call appends one by one: a row of its own.
  Conditions: those that each theorem names.
-/
namespace Go.Proofs.YtbgffmiffmmohaaGreatDoor.tree
open Go.ChangeShapes Go.WideShapes Go.ChangeAt Go.RowKit
set_option linter.unusedVariables false

/-- lo or above, and not the row's own block. -/
def SX (lo : Nat) (v : Value) (b : Nat) : Prop := lo ≤ b ∧ v.ownBlock ≠ some b
def xAt8 (xs : List Value) (i : Nat) (y : Ky) (k n : Int) (s : ByteArray) (x : Int) (A : Option Addr) (L c : Nat) : Prop := ∀ q, q < 8 → xs[i * 8 + q]? = (eV y k n s x A L c).cells[q]?
def ORowX (w : World) (lo : Nat) (v : Value) (xs : List Value) (ks : List Ky) (vs : List Tr) : Prop :=
  w.ownsRow lo IE 8 v vs.length xs ∧ ks.length = vs.length ∧ ∀ i, i < vs.length → ∃ y k n s x ks' vs' A c, ks[i]? = some y ∧ vs[i]? = some (.mk k n s x ks' vs') ∧ (I64 y.num ∧ y.str.size ≤ maxLen) ∧
    xAt8 xs i y k n s x A vs'.length c ∧ TIn w (SX lo v) (.mk k n s x ks' vs') (vV k n s x A vs'.length c)
def ORow (w : World) (lo : Nat) (v : Value) (ks : List Ky) (vs : List Tr) : Prop := ∃ xs, ORowX w lo v xs ks vs

section
variable {w w' : World} {lo : Nat} {v : Value} {ks : List Ky} {vs : List Tr}
theorem ORow.nil (w : World) (lo : Nat) : ORow w lo (.slice none 0 0) [] [] := ⟨[], World.ownsRow_nil w lo _ 8, rfl, fun i hi => absurd hi (by simp)⟩
theorem ownBlock_keep {v : Value} : v.ownBlock = none ∨ v.ownBlock ≠ (none : Option Nat) := by
  cases e : v.ownBlock with
  | none => exact .inl rfl
  | some k => exact .inr (by simp)
theorem ORowX.below {xs : List Value} (h : ORowX w lo v xs ks vs) (hb : Below w.heap.size w w') : ORowX w' lo v xs ks vs := by
  obtain ⟨h1, h2, h3⟩ := h
  refine ⟨World.ownsRow.kept h1 (mem.none_of_below hb) ownBlock_keep, h2, fun i hi => ?_⟩
  obtain ⟨y, k, n, s, x, ks', vs', A, c, a1, a2, a3, a4, a5⟩ := h3 i hi
  exact ⟨y, k, n, s, x, ks', vs', A, c, a1, a2, a3, a4, a5.below' hb⟩
theorem ORow.below (h : ORow w lo v ks vs) (hb : Below w.heap.size w w') : ORow w' lo v ks vs := by
  obtain ⟨xs, h⟩ := h
  exact ⟨xs, h.below hb⟩
theorem ORowX.above {xs : List Value} (h : ORowX w lo v xs ks vs) (hs : ∀ b, lo ≤ b → b < w.heap.size → w'.heap[b]? = w.heap[b]?) : ORowX w' lo v xs ks vs := by
  obtain ⟨h1, h2, h3⟩ := h
  refine ⟨⟨h1.1, ?_⟩, h2, fun i hi => ?_⟩
  · rcases h1.2 with h | ⟨g, cap, cur, e, hlo, hg, hr⟩
    · exact .inl h
    · exact .inr ⟨g, cap, cur, e, hlo, (hs g hlo (Array.getElem?_eq_some_iff.1 hg).1).trans hg, hr⟩
  · obtain ⟨y, k, n, s, x, ks', vs', A, c, a1, a2, a3, a4, a5⟩ := h3 i hi
    exact ⟨y, k, n, s, x, ks', vs', A, c, a1, a2, a3, a4, a5.stays (fun _ h => h) fun b hb hlt => hs b hb.1 hlt⟩
theorem ORow.above (h : ORow w lo v ks vs) (hs : ∀ b, lo ≤ b → b < w.heap.size → w'.heap[b]? = w.heap[b]?) : ORow w' lo v ks vs := by
  obtain ⟨xs, h⟩ := h
  exact ⟨xs, h.above hs⟩
theorem ORow.block (h : ORow w lo v ks vs) : ∀ k, v.ownBlock = some k → lo ≤ k ∧ k < w.heap.size := by
  obtain ⟨xs, h1, -⟩ := h
  exact h1.lt

/-- One more. -/
theorem ORowX.more {xs : List Value} (h : ORowX w lo v xs ks vs)
    {y : Ky} {k n x : Int} {s : ByteArray} {ks' : List Ky} {vs' : List Tr} {A : Option Addr} {c : Nat} (hy : I64 y.num ∧ y.str.size ≤ maxLen) (ht : TIn w (SX lo v) (.mk k n s x ks' vs') (vV k n s x A vs'.length c))
    {v' : Value} (ho : w'.ownsRow lo IE 8 v' (vs.length + 1) (xs ++ [.bool y.text, .int .i64 y.num, .string y.str, .int .i64 k, .int .i64 n, .string s, .int .i64 x, .slice A vs'.length c])) (hg : w.grownBy w' v.ownBlock) (hat : v'.ownBlock = v.ownBlock ∨ v'.ownBlock = some w.heap.size) :
    ORow w' lo v' (ks ++ [y]) (vs ++ [.mk k n s x ks' vs']) := by
  obtain ⟨h1, h2, h3⟩ := h
  have hxl : xs.length = vs.length * 8 := h1.1
  have st : ∀ {t : Tr} {u : Value}, TIn w (SX lo v) t u → TIn w' (SX lo v') t u := fun {t u} h => by
    have h' : TIn w (fun b => SX lo v b ∧ b < w.heap.size) t u := by
      induction h with
      | mk k n s x ks vs A cap C hk hl hm hcap hc ht ih =>
        refine .mk k n s x ks vs A cap C hk hl hm hcap (fun i hi => ?_) ih
        obtain ⟨a, ha, hS, hky, hs, hj⟩ := hc i hi
        refine ⟨a, ha, ⟨hS, ?_⟩, hky, hs, hj⟩
        have := World.block_lt_of_cell? _ _ hky.1
        rwa [mem.add_block] at this
    exact h'.stays (fun b ⟨⟨hb1, hb2⟩, hb3⟩ => ⟨hb1, fun e => by
      rcases hat with h | h
      · exact hb2 (h ▸ e)
      · rw [h] at e; injection e with e; omega⟩) (fun b ⟨⟨hb1, hb2⟩, hb3⟩ hlt => hg.block b hlt (fun e => hb2 e.symm))
  refine ⟨_, by rw [List.length_append]; exact ho, by rw [List.length_append, List.length_append, h2]; rfl, fun i hi => ?_⟩
  rw [List.length_append] at hi
  simp only [List.length_cons, List.length_nil] at hi
  by_cases e : i = vs.length
  · subst e
    refine ⟨y, k, n, s, x, ks', vs', A, c, by rw [List.getElem?_append_right (by omega), h2]; simp, by rw [List.getElem?_append_right (by omega)]; simp, hy, fun q hq => ?_, st ht⟩
    rw [List.getElem?_append_right (by omega), hxl, Nat.add_sub_cancel_left]
    match q, hq with
    | 0, _ => rfl
    | 1, _ => rfl
    | 2, _ => rfl
    | 3, _ => rfl
    | 4, _ => rfl
    | 5, _ => rfl
    | 6, _ => rfl
    | 7, _ => rfl
  · obtain ⟨y1, k1, n1, s1, x1, ks1, vs1, A1, c1, a1, a2, a3, a4, a5⟩ := h3 i (by omega)
    refine ⟨y1, k1, n1, s1, x1, ks1, vs1, A1, c1, by rw [List.getElem?_append_left (by omega)]; exact a1, by rw [List.getElem?_append_left (by omega)]; exact a2, a3, fun q hq => ?_, st a5⟩
    rw [List.getElem?_append_left (by omega)]
    exact a4 q hq

theorem ORow.isin (h : ORow w lo v ks vs) (hm : vs.length ≤ maxLen) : ∃ A c, v = .slice A vs.length c ∧ (vs.length ≤ c ∧ c ≤ maxLen) ∧ IsIn w (fun b => lo ≤ b) ks vs A := by
  obtain ⟨xs, h1, h2, h3⟩ := h
  rcases h1.2 with ⟨rfl, h0⟩ | ⟨g, cap, cur, rfl, hlo, hg, hnc, hcm, hsz, htk⟩
  · obtain rfl : vs = [] := List.length_eq_zero_iff.1 h0
    obtain rfl : ks = [] := List.length_eq_zero_iff.1 h2
    exact ⟨none, 0, rfl, ⟨by simp, by simp⟩, IsIn.nil _ _ _⟩
  · refine ⟨some ⟨g, 0, none⟩, cap, rfl, ⟨hnc, hcm⟩, h2, hm, ?_⟩
    have each : ∀ i, ∃ C : Array Value, ∀ (hi : i < vs.length), KyAt w ⟨g, 0, none⟩ i (ks[i]'(h2 ▸ hi)) ∧ C.size = 5 ∧ (∀ j, j < 5 → w.cell? ((⟨g, 0, none⟩ : Addr).add (8 * i + (3 + j))) = C[j]?) ∧ TIn w (fun b => lo ≤ b) (vs[i]) (.agg C) := by
      intro i
      by_cases hi : i < vs.length
      · obtain ⟨y, k, n, s, x, ks', vs', A, c, hy, ht, hyb, hat, hT⟩ := h3 i hi
        have ey : ks[i]'(h2 ▸ hi) = y := by rw [List.getElem?_eq_getElem (h2 ▸ hi)] at hy; exact Option.some.inj hy
        have et : vs[i] = .mk k n s x ks' vs' := by rw [List.getElem?_eq_getElem hi] at ht; exact Option.some.inj ht
        have at_ : ∀ q, q < 8 → w.cell? ((⟨g, 0, none⟩ : Addr).add (8 * i + q)) = (eV y k n s x A vs'.length c).cells[q]? := fun q hq => by
          rw [Addr.add_lit, Nat.zero_add, cell_of_row w g _ cur IE _ hg, ← hat q hq, ← htk, List.getElem?_take_of_lt (by omega), Nat.mul_comm]
          simp
        refine ⟨#[.int .i64 k, .int .i64 n, .string s, .int .i64 x, .slice A vs'.length c], fun _ => ?_⟩
        rw [ey, et]
        refine ⟨⟨at_ 0 (by omega), at_ 1 (by omega), at_ 2 (by omega), hyb⟩, rfl, fun j hj => ?_, hT.stays (fun b hb => hb.1) (fun b _ _ => rfl)⟩
        rw [at_ (3 + j) (by omega)]
        match j, hj with
        | 0, _ => rfl
        | 1, _ => rfl
        | 2, _ => rfl
        | 3, _ => rfl
        | 4, _ => rfl
      · exact ⟨#[], fun h => absurd h hi⟩
    exact ⟨fun i => (each i).choose, fun i hi => ⟨_, rfl, hlo, ((each i).choose_spec hi).1, ((each i).choose_spec hi).2.1, ((each i).choose_spec hi).2.2.1⟩, fun i hi => ((each i).choose_spec hi).2.2.2⟩
end

theorem addr_far {N j : Nat} (h : N < j) (o : Nat) : ∀ p : Addr, p.block < N + 1 → (⟨j, o, none⟩ : Addr) ≠ p := fun p hp e => by
  rw [← e] at hp
  simp only at hp
  omega
theorem ie_info : ∃ i, Tryz.prog.info? IE = some i ∧ (i.zero = some (.agg #[.bool false, .int .i64 0, .string ⟨#[]⟩, .int .i64 0, .int .i64 0, .string ⟨#[]⟩, .int .i64 0, .slice none 0 0]) ∧ i.size = 8 ∧ i.bytes = 96) := by
  have := ieRow
  cases hq : Tryz.prog.info? IE with
  | none => rw [hq] at this; cases this
  | some i => rw [hq] at this; simp at this; exact ⟨i, rfl, this⟩
theorem eight_one (b : Bool) (n : Int) (s : ByteArray) (k m : Int) (z : ByteArray) (x : Int) (A : Option Addr) (L c : Nat) : ∀ u ∈ [Value.bool b, .int .i64 n, .string s, .int .i64 k, .int .i64 m, .string z, .int .i64 x, .slice A L c], u.oneCell' = true := by simp [Value.oneCell']
theorem eight_new (w : World) (c0 c1 c2 c3 c4 c5 c6 c7 : Value) (t : TypeId) : ∀ j u, [c0, c1, c2, c3, c4, c5, c6, c7][j]? = some u → (w.alloc (.cells #[c0, c1, c2, c3, c4, c5, c6, c7] t)).cell? ((⟨w.heap.size, 0, none⟩ : Addr).add j) = some u := by
  intro j u hj
  rw [Addr.add_lit, Nat.zero_add, cell_of_row _ _ j _ t _ (heap_alloc_new w _)]
  simpa using hj

end Go.Proofs.YtbgffmiffmmohaaGreatDoor.tree

/-
  The laws' copies of a slot: in new memory.
  Conditions: those that each theorem names.
-/
namespace Go.Proofs.YtbgffmiffmmohaaGreatDoor.tree
open Go.ChangeShapes Go.WideShapes Go.ChangeAt Go.RowKit
set_option linter.unusedVariables false

def slV (y : Ky) (v : Value) (b : Bool) (l : Int) : Value := .agg (#[.bool y.text, .int .i64 y.num, .string y.str] ++ v.cells ++ #[.bool b, .int .i64 l])
def SlCpQ (w : World) (y : Ky) (t : Tr) (b : Bool) (l : Int) (e : Ending) (w' : World) : Prop := ∃ v, e = .returned (slV y v b l) ∧ TIn w' (Nw w.heap.size w') t v ∧ Below w.heap.size w w'

set_option maxRecDepth 100000 in
set_option maxHeartbeats 1600000 in
theorem cpSlot (y : Ky) (t : Tr) (k n : Int) (s : ByteArray) (x : Int) (A : Option Addr) (L c : Nat) (b : Bool) (l : Int) (w : World)
    (ih : ∀ w' : World, Below w.heap.size w w' → Calls Tryz.prog 31 #[vV k n s x A L c] w' (CpQ w' t)) :
    Calls Tryz.prog 246 #[sV y k n s x A L c b l] w (SlCpQ w y t b l) := by
  obtain ⟨yb, m, ys⟩ := y
  have K := toKey ⟨yb, m, ys⟩
  unfold sV
  go_enter Tryz.func246, Tryz.ntmps246
  go_wp2_with (fail)
  refine (K _).mono ?_
  rintro e w1 ⟨rfl, hb1⟩
  obtain ⟨a0, a1, a2, az, ab⟩ := al3 w _ _ _ _ _ _
  have e0 := (hb1.block _ (by rw [az]; omega)).trans a0
  have e1 := (hb1.block _ (by rw [az]; omega)).trans a1
  have e2 := (hb1.block _ (by rw [az]; omega)).trans a2
  have hz : w.heap.size + 2 < w1.heap.size := by have := hb1.size; rw [az] at this; omega
  have E0 := Lib.hid e0
  have E1 := Lib.hid e1
  have E2 := Lib.hid e2
  have HB := Lib.hid (bs ab hb1)
  obtain ⟨r0, _⟩ := rowc e0
  obtain ⟨r2, f2⟩ := rowc e2
  clear hb1 a0 a1 a2 az ab e0 e1 e2
  unfold kyV
  go_wp2_with (fail)
  refine (ih _ ?_).mono ?_
  · exact ((HB.out.setCell (by simp; omega) _).setCell (by simp; omega) _).setCell (by simp; omega) _
  rintro e w2 ⟨v, rfl, hv, hb2⟩
  obtain ⟨k', n', s', x', ks', vs'⟩ := t
  obtain ⟨A', c', rfl, -, -⟩ := hv.out
  have s0 := (hb2.block w.heap.size (by simp []; omega)).trans ((set_other (by omega)).trans ((set_other (by omega)).trans ((set_other (by omega)).trans E0.out)))
  have s1 := (hb2.block (w.heap.size + 1) (by simp []; omega)).trans ((set_other (by omega)).trans ((set_other (by omega)).trans ((set_other (by omega)).trans E1.out)))
  have s2 := (hb2.block (w.heap.size + 1 + 1) (by simp []; omega)).trans (set_heap (set_heap (set_heap E2.out 0 _) 1 _) 2 _)
  have hz2 : w.heap.size + 2 < w2.heap.size := by have := hb2.size; simp [] at this; omega
  have HB2 := Lib.hid hb2
  have HV := Lib.hid hv
  obtain ⟨q0, g0⟩ := rowc s0
  obtain ⟨r3, f3⟩ := rowc s1
  obtain ⟨r4, f4⟩ := rowc s2
  clear hb2 hv r0 r2 f2 s0 s1 s2
  go_wp2_with (fail)
  refine bodyPost_ret (v := sV ⟨yb, m, ys⟩ k' n' s' x' A' vs'.length c' b l) (by simp [results, Tryz.results246, go_sem, r3]) rfl ⟨vV k' n' s' x' A' vs'.length c', rfl, ?_, ?_⟩
  · refine HV.out.nw (by simp []; omega) fun q hq hlt => ?_
    have q1 : q ≠ w.heap.size + 1 := by simp [] at hq; omega
    have q2 : q ≠ w.heap.size + 1 + 1 := by simp [] at hq; omega
    simp only [set_other q1, set_other q2]
  · have hB := bs (((HB.out.setCell (p := ⟨w.heap.size + 1 + 1, 0, none⟩) (by simp; omega) (.bool yb)).setCell (p := ⟨w.heap.size + 1 + 1, 1, none⟩) (by simp; omega) (.int .i64 m)).setCell (p := ⟨w.heap.size + 1 + 1, 2, none⟩) (by simp; omega) (.string ys)) HB2.out
    iterate 17 refine Below.setCell ?_ (by first | (simp; done) | (simp; omega)) _
    exact hB

abbrev IS : TypeId := 112
/-- Ten cells in a row. -/
def set10 (arr : Array Value) (o : Nat) (c0 c1 c2 c3 c4 c5 c6 c7 c8 c9 : Value) : Array Value := ((set8 arr o c0 c1 c2 c3 c4 c5 c6 c7).setIfInBounds (o + 8) c8).setIfInBounds (o + 9) c9
theorem set10_size (arr : Array Value) (o : Nat) (c0 c1 c2 c3 c4 c5 c6 c7 c8 c9 : Value) : (set10 arr o c0 c1 c2 c3 c4 c5 c6 c7 c8 c9).size = arr.size := by simp [set10, set8_size]
theorem set10_out (arr : Array Value) (o : Nat) (c0 c1 c2 c3 c4 c5 c6 c7 c8 c9 : Value) (p : Nat) (h : p < o ∨ o + 10 ≤ p) : (set10 arr o c0 c1 c2 c3 c4 c5 c6 c7 c8 c9)[p]? = arr[p]? := by
  unfold set10
  rw [Array.getElem?_setIfInBounds_ne (by omega), Array.getElem?_setIfInBounds_ne (by omega), set8_out _ _ _ _ _ _ _ _ _ _ _ (by omega)]
theorem set10_in (arr : Array Value) (o : Nat) (c0 c1 c2 c3 c4 c5 c6 c7 c8 c9 : Value) (h : o + 10 ≤ arr.size) (q : Nat) (hq : q < 10) : (set10 arr o c0 c1 c2 c3 c4 c5 c6 c7 c8 c9)[o + q]? = (#[c0, c1, c2, c3, c4, c5, c6, c7, c8, c9] : Array Value)[q]? := by
  unfold set10
  by_cases h8 : q < 8
  · rw [Array.getElem?_setIfInBounds_ne (by omega), Array.getElem?_setIfInBounds_ne (by omega), set8_in _ _ _ _ _ _ _ _ _ _ (by omega) q h8]
    match q, h8 with
    | 0, _ => rfl
    | 1, _ => rfl
    | 2, _ => rfl
    | 3, _ => rfl
    | 4, _ => rfl
    | 5, _ => rfl
    | 6, _ => rfl
    | 7, _ => rfl
  · by_cases h9 : q = 8
    · subst h9
      rw [Array.getElem?_setIfInBounds_ne (by omega), Array.getElem?_setIfInBounds_self_of_lt (by rw [set8_size]; omega)]; rfl
    · obtain rfl : q = 9 := by omega
      rw [Array.getElem?_setIfInBounds_self_of_lt (by rw [Array.size_setIfInBounds, set8_size]; omega)]; rfl

/-- The first j slots of a row of L are laid. -/
def LaidS (w : World) (g L j : Nat) (sl : List Sl) : Prop :=
  ∃ arr, w.heap[g]? = some (.cells arr IS (0, 0)) ∧ arr.size = L * 10 ∧ ∀ i t, sl[i]? = some t → i < j → ∃ k n s x ks vs A c, t.val = .mk k n s x ks vs ∧ TIn w (Nw (g + 1) w) t.val (vV k n s x A vs.length c) ∧
    (I64 t.key.num ∧ t.key.str.size ≤ maxLen) ∧ I64 t.link ∧ ∀ q, q < 10 → arr[i * 10 + q]? = (#[.bool t.key.text, .int .i64 t.key.num, .string t.key.str, .int .i64 k, .int .i64 n, .string s, .int .i64 x, .slice A vs.length c, .bool t.live, .int .i64 t.link] : Array Value)[q]?

theorem LaidS.done {w : World} {g L : Nat} {sl : List Sl} (h : LaidS w g L L sl) (hL : sl.length = L) : SIn w (Nw g w) sl (some ⟨g, 0, none⟩) := fun i t ht => by
  obtain ⟨arr, hg, hs, hi'⟩ := h
  have hil := (List.getElem?_eq_some_iff.1 ht).1
  obtain ⟨k, n, s, x, ks, vs, A, c, e, hT, hk, hl, hc⟩ := hi' i t ht (by omega)
  have at_ : ∀ q, q < 10 → w.cell? ⟨g, i * 10 + q, none⟩ = _ := fun q hq => (cell_of_row w g _ arr IS _ hg).trans (hc q hq)
  refine ⟨⟨g, 0, none⟩, k, n, s, x, ks, vs, A, c, rfl, ⟨Nat.le_refl _, arr, IS, hg⟩, hk, hl, e, hT.stays (fun b hb => ⟨by have := hb.1; omega, hb.2⟩) (fun _ _ _ => rfl), ?_⟩
  rw [Addr.add_lit, Nat.zero_add]
  exact ⟨at_ 0 (by omega), at_ 1 (by omega), at_ 2 (by omega), at_ 3 (by omega), at_ 4 (by omega), at_ 5 (by omega), at_ 6 (by omega), at_ 7 (by omega), at_ 8 (by omega), at_ 9 (by omega)⟩

theorem LaidS.step {w w1 w2 : World} {g L j : Nat} {sl : List Sl} (h : LaidS w g L j sl) (hb : Below w.heap.size w w1) {y : Ky} {tv : Tr} {lb : Bool} {ll : Int} {k n x : Int} {s : ByteArray} {ks' : List Ky} {vs' : List Tr} {A : Option Addr} {c : Nat}
    (ht : sl[j]? = some ⟨y, tv, lb, ll⟩) (hv : tv = .mk k n s x ks' vs') (hti : TIn w1 (Nw w.heap.size w1) tv (vV k n s x A vs'.length c)) (hyb : I64 y.num ∧ y.str.size ≤ maxLen) (hl : I64 ll) (hj : j < L)
    (hg : ∀ arr, w1.heap[g]? = some (.cells arr IS (0, 0)) → w2.heap[g]? = some (.cells (set10 arr (j * 10) (.bool y.text) (.int .i64 y.num) (.string y.str) (.int .i64 k) (.int .i64 n) (.string s) (.int .i64 x) (.slice A vs'.length c) (.bool lb) (.int .i64 ll)) IS (0, 0)))
    (ho : ∀ b, b ≠ g → w2.heap[b]? = w1.heap[b]?) : LaidS w2 g L (j + 1) sl := by
  obtain ⟨arr, hg0, hs, h⟩ := h
  have glt : g < w.heap.size := (Array.getElem?_eq_some_iff.1 hg0).1
  have hg1 := (hb.block g glt).trans hg0
  refine ⟨_, hg arr hg1, by rw [set10_size, hs], fun i t hit hij => ?_⟩
  by_cases e : i = j
  · subst e
    rw [ht] at hit
    obtain rfl := Option.some.inj hit
    refine ⟨k, n, s, x, ks', vs', A, c, hv, hti.nw (by omega) (fun b hb1 _ => ho b (by omega)), hyb, hl, fun q hq => ?_⟩
    rw [set10_in _ _ _ _ _ _ _ _ _ _ _ _ (by omega) q hq]
  · obtain ⟨k', n', s', x', ks2, vs2, A', c', hv', hti', hyb', hl', hc'⟩ := h i t hit (by omega)
    refine ⟨k', n', s', x', ks2, vs2, A', c', hv', hti'.nw (Nat.le_refl _) (fun b hb1 hlt => (ho b (by omega)).trans (hb.block b hlt)), hyb', hl', fun q hq => ?_⟩
    rw [set10_out _ _ _ _ _ _ _ _ _ _ _ _ _ (by omega)]
    exact hc' q hq

theorem is_info : ∃ i, Tryz.prog.info? IS = some i ∧ (i.zero = some (.agg #[.bool false, .int .i64 0, .string ⟨#[]⟩, .int .i64 0, .int .i64 0, .string ⟨#[]⟩, .int .i64 0, .slice none 0 0, .bool false, .int .i64 0]) ∧ i.size = 10 ∧ i.bytes = 112) := by
  have : (Tryz.prog.info? IS).map (fun i => (i.zero, i.size, i.bytes)) = some (some (.agg #[.bool false, .int .i64 0, .string ⟨#[]⟩, .int .i64 0, .int .i64 0, .string ⟨#[]⟩, .int .i64 0, .slice none 0 0, .bool false, .int .i64 0]), 10, 112) := by kernel_rfl
  cases hq : Tryz.prog.info? IS with
  | none => rw [hq] at this; cases this
  | some i => rw [hq] at this; simp at this; exact ⟨i, rfl, this⟩
/-- Copies of slots: in a new block. -/
def SlsQ (w : World) (sl : List Sl) (e : Ending) (w' : World) : Prop := ∃ g, w.heap.size = g ∧ e = .returned (.slice (some ⟨g, 0, none⟩) sl.length sl.length) ∧ SIn w' (Nw w.heap.size w') sl (some ⟨g, 0, none⟩) ∧ Below w.heap.size w w'
theorem totS_mem : ∀ {sl : List Sl} {j : Nat} {t : Sl}, sl[j]? = some t → tot t.val ≤ totS sl
  | [], j, _, h => by simp at h
  | t0 :: sl, 0, t, h => by
    obtain rfl : t0 = t := by simpa using h
    rw [totS]; omega
  | t0 :: sl, j + 1, t, h => by
    have := totS_mem (sl := sl) (j := j) (t := t) (by simpa using h)
    rw [totS]; omega

set_option maxRecDepth 100000 in
set_option maxHeartbeats 1600000 in
theorem cpSlots (sl : List Sl) (hT : sl.length + totS sl ≤ 1048576) (A : Option Addr) (c : Nat) (w : World) (S : Nat → Prop) (h : SIn w S sl A) :
    Calls Tryz.prog 238 #[.slice A sl.length c] w (SlsQ w sl) := by
  obtain ⟨L, HL⟩ : ∃ L, Hid (L = sl.length) := ⟨_, Lib.hid rfl⟩
  have hm : L ≤ 1048576 := by rw [HL.out]; omega
  obtain ⟨i0, hi, hz⟩ := is_info
  have hmk := run_make (P := Tryz.prog) w 25 IS i0 _ Tryz.underlying25 hi hz.1 .i64 .i64 L L (by omega) (Int.le_refl _) (by rw [hz.2.2]; omega) (by omega)
  rw [hz.2.1] at hmk
  simp only [Int.toNat_natCast] at hmk
  have HA0 := Lib.hid h
  have HTT := Lib.hid hT
  clear hi hz h hT
  unfold SlsQ
  rw [← HL.out]
  obtain ⟨arr0, HA⟩ : ∃ a, Hid (a = madeCells (Value.agg #[.bool false, .int .i64 0, .string ⟨#[]⟩, .int .i64 0, .int .i64 0, .string ⟨#[]⟩, .int .i64 0, .slice none 0 0, .bool false, .int .i64 0]).cells (L * 10)) := ⟨_, Lib.hid rfl⟩
  rw [← HA.out] at hmk
  go_enter Tryz.func238, Tryz.ntmps238
  go_wp2_with (fail)
  clear hmk
  go_loopg [4] (L + 1) (fun gk i wr => ∃ j : Nat, i = .int .i64 j ∧ gk + j = L + 1 ∧ j ≤ L ∧ LaidS wr w.heap.size L j sl ∧ Below w.heap.size w wr)
  case atStart => exact ⟨0, rfl, by omega, by omega, ⟨arr0, heap_alloc_new _ _, by rw [HA.out, madeSize], fun i t _ hi => absurd hi (by omega)⟩, b1 _ _⟩
  case round =>
    obtain ⟨j, rfl, hgj, hjL, hla, hb⟩ := hrel
    have HB := Lib.hid hb
    have HLa := Lib.hid hla
    clear hb hla
    by_cases hlt : j < L
    · obtain ⟨t, ht⟩ : ∃ t, sl[j]? = some t := ⟨_, List.getElem?_eq_getElem (by rw [← HL.out]; exact hlt)⟩
      obtain ⟨a, k, n, s, x, ks', vs', A1, c1, rfl, -, hk, hl, hv, hT, hcell⟩ := HA0.out.below HB.out j t ht
      have htj := totS_mem ht
      obtain ⟨y, tv, lb, ll⟩ := t
      simp only at hk hl hv hT hcell htj
      have ihj : ∀ w', Below wr.heap.size wr w' → Calls Tryz.prog 31 #[vV k n s x A1 vs'.length c1] w' (CpQ w' tv) := fun w' hb' => cps tv (by have := HTT.out; omega) w' S _ (hT.below' hb')
      subst hv
      have HTJ := Lib.hid ht
      have HKK := Lib.hid hk
      have HLL := Lib.hid hl
      clear ht hT htj hk hl
      obtain ⟨p0, p1, p2, p3, p4, p5, p6, p7, p8, p9⟩ := hcell
      go_wp2_with (fail)
      refine (cpSlot y _ k n s x A1 vs'.length c1 lb ll _ ihj).mono ?_
      rintro e w1 ⟨v, rfl, hv, hb1⟩
      obtain ⟨A2, c2, rfl, -, -⟩ := hv.out
      have HV := Lib.hid hv
      have HB1 := Lib.hid hb1
      obtain ⟨arr, hg0, hs, -⟩ := HLa.out
      have glt : w.heap.size < wr.heap.size := (Array.getElem?_eq_some_iff.1 hg0).1
      have hg1 := (hb1.block _ glt).trans hg0
      obtain ⟨r1, f1⟩ := rowc hg1
      have z : ∀ q, q < 10 → ∃ u, w1.cell? ⟨w.heap.size, j * 10 + q, none⟩ = some u := fun q hq => ⟨_, (r1 _).trans (Array.getElem?_eq_getElem (by omega))⟩
      obtain ⟨u0, z0⟩ := z 0 (by omega)
      obtain ⟨u1, z1⟩ := z 1 (by omega)
      obtain ⟨u2, z2⟩ := z 2 (by omega)
      obtain ⟨u3, z3⟩ := z 3 (by omega)
      obtain ⟨u4, z4⟩ := z 4 (by omega)
      obtain ⟨u5, z5⟩ := z 5 (by omega)
      obtain ⟨u6, z6⟩ := z 6 (by omega)
      obtain ⟨u7, z7⟩ := z 7 (by omega)
      obtain ⟨u8, z8⟩ := z 8 (by omega)
      obtain ⟨u9, z9⟩ := z 9 (by omega)
      rw [Nat.add_zero] at z0
      clear hv hb1 hg0 hg1 hs r1 z
      have eS : slV y (vV k n s x A2 vs'.length c2) lb ll = .agg #[.bool y.text, .int .i64 y.num, .string y.str, .int .i64 k, .int .i64 n, .string s, .int .i64 x, .slice A2 vs'.length c2, .bool lb, .int .i64 ll] := rfl
      rw [eS]
      clear eS
      go_wp2_with (fail)
      go_roundg (L - j)
      case rel =>
        refine ⟨j + 1, by go_num, by omega, by omega, HLa.out.step HB1.out HTJ.out rfl HV.out HKK.out HLL.out hlt (fun arr hg => ?_) (fun b hb => ?_), ?_⟩
        · exact set_heap (set_heap (set_heap (set_heap (set_heap (set_heap (set_heap (set_heap (set_heap (set_heap hg _ _) _ _) _ _) _ _) _ _) _ _) _ _) _ _) _ _) _ _
        · simp only [set_other hb]
        · have hB := bs HB.out HB1.out
          iterate 10 refine Below.setCell ?_ (by first | (simp; done) | (simp; omega)) _
          exact hB
      case measure => omega
    · obtain rfl : j = L := by omega
      go_wp2_with (fail)
      go_ret
      exact ⟨_, rfl, rfl, HLa.out.done HL.out.symm, HB.out⟩

end Go.Proofs.YtbgffmiffmmohaaGreatDoor.tree

/-
  Items in a row of the call's own, all of whose blocks satisfy P.
  Conditions: those that each theorem names.
-/
namespace Go.Proofs.YtbgffmiffmmohaaGreatDoor.tree
open Go.ChangeShapes Go.WideShapes Go.ChangeAt Go.RowKit
set_option linter.unusedVariables false

def OwR (w : World) (P : Nat → Prop) (v : Value) (xs : List Value) (ks : List Ky) (vs : List Tr) : Prop :=
  w.ownsRow 0 IE 8 v vs.length xs ∧ (∀ b, v.ownBlock = some b → P b) ∧ ks.length = vs.length ∧ ∀ i, i < vs.length → ∃ y k n s x ks' vs' A c, ks[i]? = some y ∧ vs[i]? = some (.mk k n s x ks' vs') ∧ (I64 y.num ∧ y.str.size ≤ maxLen) ∧
    xAt8 xs i y k n s x A vs'.length c ∧ TIn w (fun b => P b ∧ v.ownBlock ≠ some b) (.mk k n s x ks' vs') (vV k n s x A vs'.length c)

section
variable {w w' : World} {P P' : Nat → Prop} {v : Value} {xs : List Value} {ks : List Ky} {vs : List Tr}
theorem OwR.of {lo : Nat} (h : ORowX w lo v xs ks vs) : OwR w (fun b => lo ≤ b ∧ b < w.heap.size) v xs ks vs := by
  have hb := ORow.block (lo := lo) (ks := ks) (vs := vs) ⟨xs, h⟩
  obtain ⟨h1, h2, h3⟩ := h
  refine ⟨⟨h1.1, h1.2.imp id fun ⟨g, cap, cur, e, hlo, r⟩ => ⟨g, cap, cur, e, Nat.zero_le _, r⟩⟩, hb, h2, fun i hi => ?_⟩
  obtain ⟨y, k, n, s, x, ks', vs', A, c, a1, a2, a3, a4, a5⟩ := h3 i hi
  refine ⟨y, k, n, s, x, ks', vs', A, c, a1, a2, a3, a4, ?_⟩
  have h' : TIn w (fun b => SX lo v b ∧ b < w.heap.size) (.mk k n s x ks' vs') (vV k n s x A vs'.length c) := by
    generalize (Tr.mk k n s x ks' vs') = t at a5
    generalize (vV k n s x A vs'.length c) = u at a5
    clear a1 a2 a4
    induction a5 with
    | mk k n s x ks vs A cap C hk hl hm hcap hc ht ih =>
      refine .mk k n s x ks vs A cap C hk hl hm hcap (fun i hi => ?_) ih
      obtain ⟨a, ha, hS, hky, hs, hj⟩ := hc i hi
      refine ⟨a, ha, ⟨hS, ?_⟩, hky, hs, hj⟩
      have := World.block_lt_of_cell? _ _ hky.1
      rwa [mem.add_block] at this
  exact h'.stays (fun b hb => ⟨⟨hb.1.1, hb.2⟩, hb.1.2⟩) (fun _ _ _ => rfl)
theorem OwR.mono (h : OwR w P v xs ks vs) (hP : ∀ b, P b → P' b) : OwR w P' v xs ks vs := by
  obtain ⟨h1, h0, h2, h3⟩ := h
  refine ⟨h1, fun b e => hP b (h0 b e), h2, fun i hi => ?_⟩
  obtain ⟨y, k, n, s, x, ks', vs', A, c, a1, a2, a3, a4, a5⟩ := h3 i hi
  exact ⟨y, k, n, s, x, ks', vs', A, c, a1, a2, a3, a4, a5.stays (fun b hb => ⟨hP b hb.1, hb.2⟩) (fun _ _ _ => rfl)⟩
theorem OwR.keep (h : OwR w P v xs ks vs) (hs : ∀ b, P b → b < w.heap.size → w'.heap[b]? = w.heap[b]?) : OwR w' P v xs ks vs := by
  obtain ⟨h1, h0, h2, h3⟩ := h
  refine ⟨⟨h1.1, ?_⟩, h0, h2, fun i hi => ?_⟩
  · rcases h1.2 with h | ⟨g, cap, cur, e, hlo, hg, hr⟩
    · exact .inl h
    · exact .inr ⟨g, cap, cur, e, hlo, (hs g (h0 g (by rw [e]; rfl)) (Array.getElem?_eq_some_iff.1 hg).1).trans hg, hr⟩
  · obtain ⟨y, k, n, s, x, ks', vs', A, c, a1, a2, a3, a4, a5⟩ := h3 i hi
    exact ⟨y, k, n, s, x, ks', vs', A, c, a1, a2, a3, a4, a5.stays (fun _ h => h) fun b hb hlt => hs b hb.1 hlt⟩
theorem OwR.below (h : OwR w P v xs ks vs) (hb : Below w.heap.size w w') : OwR w' P v xs ks vs := h.keep fun b _ hl => hb.block b hl
theorem OwR.row (h : OwR w P v xs ks vs) : ORow w 0 v ks vs := by
  obtain ⟨h1, h0, h2, h3⟩ := h
  refine ⟨xs, h1, h2, fun i hi => ?_⟩
  obtain ⟨y, k, n, s, x, ks', vs', A, c, a1, a2, a3, a4, a5⟩ := h3 i hi
  exact ⟨y, k, n, s, x, ks', vs', A, c, a1, a2, a3, a4, a5.stays (fun b hb => ⟨Nat.zero_le _, hb.2⟩) (fun _ _ _ => rfl)⟩
theorem OwR.isin (h : OwR w P v xs ks vs) (hm : vs.length ≤ maxLen) : ∃ A c, v = .slice A vs.length c ∧ (vs.length ≤ c ∧ c ≤ maxLen) ∧ IsIn w (fun b => 0 ≤ b) ks vs A := h.row.isin hm

/-- One more. -/
theorem OwR.more {Q : Nat → Prop} (h : OwR w P v xs ks vs)
    {y : Ky} {k n x : Int} {s : ByteArray} {ks' : List Ky} {vs' : List Tr} {A : Option Addr} {c : Nat} (hy : I64 y.num ∧ y.str.size ≤ maxLen) (ht : TIn w Q (.mk k n s x ks' vs') (vV k n s x A vs'.length c)) (hQ : ∀ b, Q b → v.ownBlock ≠ some b)
    {v' : Value} (ho : w'.ownsRow 0 IE 8 v' (vs.length + 1) (xs ++ [.bool y.text, .int .i64 y.num, .string y.str, .int .i64 k, .int .i64 n, .string s, .int .i64 x, .slice A vs'.length c])) (hg : w.grownBy w' v.ownBlock) (hat : v'.ownBlock = v.ownBlock ∨ v'.ownBlock = some w.heap.size) :
    OwR w' (fun b => ((P b ∧ v.ownBlock ≠ some b) ∨ Q b) ∨ v'.ownBlock = some b) v' (xs ++ [.bool y.text, .int .i64 y.num, .string y.str, .int .i64 k, .int .i64 n, .string s, .int .i64 x, .slice A vs'.length c]) (ks ++ [y]) (vs ++ [.mk k n s x ks' vs']) := by
  obtain ⟨h1, h0, h2, h3⟩ := h
  have hxl : xs.length = vs.length * 8 := h1.1
  have st : ∀ {t : Tr} {u : Value} {R : Nat → Prop}, (∀ b, R b → v.ownBlock ≠ some b) → (∀ b, R b → (P b ∧ v.ownBlock ≠ some b) ∨ Q b) → TIn w R t u → TIn w' (fun b => (((P b ∧ v.ownBlock ≠ some b) ∨ Q b) ∨ v'.ownBlock = some b) ∧ v'.ownBlock ≠ some b) t u := fun {t u R} hR1 hR2 h => by
    have h' : TIn w (fun b => R b ∧ b < w.heap.size) t u := by
      induction h with
      | mk k n s x ks vs A cap C hk hl hm hcap hc ht ih =>
        refine .mk k n s x ks vs A cap C hk hl hm hcap (fun i hi => ?_) ih
        obtain ⟨a, ha, hS, hky, hs, hj⟩ := hc i hi
        refine ⟨a, ha, ⟨hS, ?_⟩, hky, hs, hj⟩
        have := World.block_lt_of_cell? _ _ hky.1
        rwa [mem.add_block] at this
    exact h'.stays (fun b ⟨hb1, hb3⟩ => ⟨.inl (hR2 b hb1), fun e => by
      rcases hat with h | h
      · exact hR1 b hb1 (h ▸ e)
      · rw [h] at e; injection e with e; omega⟩) (fun b ⟨hb1, hb3⟩ hlt => hg.block b hlt (fun e => hR1 b hb1 e.symm))
  refine ⟨by rw [List.length_append]; exact ho, fun b e => .inr e, by rw [List.length_append, List.length_append, h2]; rfl, fun i hi => ?_⟩
  rw [List.length_append] at hi
  simp only [List.length_cons, List.length_nil] at hi
  by_cases e : i = vs.length
  · subst e
    refine ⟨y, k, n, s, x, ks', vs', A, c, by rw [List.getElem?_append_right (by omega), h2]; simp, by rw [List.getElem?_append_right (by omega)]; simp, hy, fun q hq => ?_, st hQ (fun b hb => .inr hb) ht⟩
    rw [List.getElem?_append_right (by omega), hxl, Nat.add_sub_cancel_left]
    match q, hq with
    | 0, _ => rfl
    | 1, _ => rfl
    | 2, _ => rfl
    | 3, _ => rfl
    | 4, _ => rfl
    | 5, _ => rfl
    | 6, _ => rfl
    | 7, _ => rfl
  · obtain ⟨y1, k1, n1, s1, x1, ks1, vs1, A1, c1, a1, a2, a3, a4, a5⟩ := h3 i (by omega)
    refine ⟨y1, k1, n1, s1, x1, ks1, vs1, A1, c1, by rw [List.getElem?_append_left (by omega)]; exact a1, by rw [List.getElem?_append_left (by omega)]; exact a2, a3, fun q hq => ?_, st (fun b hb => hb.2) (fun b hb => .inl hb) a5⟩
    rw [List.getElem?_append_left (by omega)]
    exact a4 q hq

theorem OwR.isinP (h : OwR w P v xs ks vs) (hm : vs.length ≤ maxLen) : ∃ A c, v = .slice A vs.length c ∧ (vs.length ≤ c ∧ c ≤ maxLen) ∧ IsIn w P ks vs A := by
  obtain ⟨h1, h0, h2, h3⟩ := h
  rcases h1.2 with ⟨rfl, h0'⟩ | ⟨g, cap, cur, rfl, hlo, hg, hnc, hcm, hsz, htk⟩
  · obtain rfl : vs = [] := List.length_eq_zero_iff.1 h0'
    obtain rfl : ks = [] := List.length_eq_zero_iff.1 h2
    exact ⟨none, 0, rfl, ⟨by simp, by simp⟩, IsIn.nil _ _ _⟩
  · refine ⟨some ⟨g, 0, none⟩, cap, rfl, ⟨hnc, hcm⟩, h2, hm, ?_⟩
    have each : ∀ i, ∃ C : Array Value, ∀ (hi : i < vs.length), KyAt w ⟨g, 0, none⟩ i (ks[i]'(h2 ▸ hi)) ∧ C.size = 5 ∧ (∀ j, j < 5 → w.cell? ((⟨g, 0, none⟩ : Addr).add (8 * i + (3 + j))) = C[j]?) ∧ TIn w P (vs[i]) (.agg C) := by
      intro i
      by_cases hi : i < vs.length
      · obtain ⟨y, k, n, s, x, ks', vs', A, c, hy, ht, hyb, hat, hT⟩ := h3 i hi
        have ey : ks[i]'(h2 ▸ hi) = y := by rw [List.getElem?_eq_getElem (h2 ▸ hi)] at hy; exact Option.some.inj hy
        have et : vs[i] = .mk k n s x ks' vs' := by rw [List.getElem?_eq_getElem hi] at ht; exact Option.some.inj ht
        have at_ : ∀ q, q < 8 → w.cell? ((⟨g, 0, none⟩ : Addr).add (8 * i + q)) = (eV y k n s x A vs'.length c).cells[q]? := fun q hq => by
          rw [Addr.add_lit, Nat.zero_add, cell_of_row w g _ cur IE _ hg, ← hat q hq, ← htk, List.getElem?_take_of_lt (by omega), Nat.mul_comm]
          simp
        refine ⟨#[.int .i64 k, .int .i64 n, .string s, .int .i64 x, .slice A vs'.length c], fun _ => ?_⟩
        rw [ey, et]
        refine ⟨⟨at_ 0 (by omega), at_ 1 (by omega), at_ 2 (by omega), hyb⟩, rfl, fun j hj => ?_, hT.stays (fun b hb => hb.1) (fun b _ _ => rfl)⟩
        rw [at_ (3 + j) (by omega)]
        match j, hj with
        | 0, _ => rfl
        | 1, _ => rfl
        | 2, _ => rfl
        | 3, _ => rfl
        | 4, _ => rfl
      · exact ⟨#[], fun h => absurd h hi⟩
    exact ⟨fun i => (each i).choose, fun i hi => ⟨_, rfl, h0 g rfl, ((each i).choose_spec hi).1, ((each i).choose_spec hi).2.1, ((each i).choose_spec hi).2.2.1⟩, fun i hi => ((each i).choose_spec hi).2.2.2⟩

/-- Items in a row of the call's own, all of whose blocks are plain and lie at lo or above. -/
def OwP (w : World) (lo : Nat) (v : Value) (xs : List Value) (ks : List Ky) (vs : List Tr) : Prop := OwR w (Nw lo w) v xs ks vs
theorem OwP.nil (w : World) (lo : Nat) : OwP w lo (.slice none 0 0) [] [] [] := ⟨World.ownsRow_nil w 0 _ 8, fun b e => by simp [Value.ownBlock] at e, rfl, fun i hi => absurd hi (by simp)⟩
theorem Plain.same {b : Nat} (h : Plain w b) (hs : w'.heap[b]? = w.heap[b]?) : Plain w' b := by
  obtain ⟨cs, t, hc⟩ := h
  exact ⟨cs, t, hs.trans hc⟩
theorem OwP.above {lo : Nat} (h : OwP w lo v xs ks vs) (hs : ∀ b, lo ≤ b → b < w.heap.size → w'.heap[b]? = w.heap[b]?) : OwP w' lo v xs ks vs :=
  (OwR.keep h fun b hb hl => hs b hb.1 hl).mono fun b hb => ⟨hb.1, hb.2.same (hs b hb.1 hb.2.lt)⟩
theorem OwP.below {lo : Nat} (h : OwP w lo v xs ks vs) (hb : Below w.heap.size w w') : OwP w' lo v xs ks vs := h.above fun b _ hl => hb.block b hl
theorem OwP.mono {lo lo' : Nat} (h : OwP w lo v xs ks vs) (hl : lo' ≤ lo) : OwP w lo' v xs ks vs := OwR.mono h fun b hb => ⟨Nat.le_trans hl hb.1, hb.2⟩
theorem OwP.block {lo : Nat} (h : OwP w lo v xs ks vs) : ∀ k, v.ownBlock = some k → lo ≤ k ∧ k < w.heap.size := fun k e => ⟨(h.2.1 k e).1, (h.2.1 k e).2.lt⟩
theorem OwP.len {lo : Nat} (h : OwP w lo v xs ks vs) : ks.length = vs.length := h.2.2.1
theorem OwP.isin {lo : Nat} (h : OwP w lo v xs ks vs) (hm : vs.length ≤ maxLen) : ∃ A c, v = .slice A vs.length c ∧ (vs.length ≤ c ∧ c ≤ maxLen) ∧ IsIn w (Nw lo w) ks vs A := OwR.isinP h hm
/-- One more, whose blocks are new. -/
theorem OwP.more {lo lq : Nat} (h : OwP w lo v xs ks vs) (hlq : lo ≤ lq) (hvq : ∀ b, v.ownBlock = some b → b < lq)
    {y : Ky} {k n x : Int} {s : ByteArray} {ks' : List Ky} {vs' : List Tr} {A : Option Addr} {c : Nat} (hy : I64 y.num ∧ y.str.size ≤ maxLen) (ht : TIn w (Nw lq w) (.mk k n s x ks' vs') (vV k n s x A vs'.length c))
    {v' : Value} (ho : w'.ownsRow 0 IE 8 v' (vs.length + 1) (xs ++ [.bool y.text, .int .i64 y.num, .string y.str, .int .i64 k, .int .i64 n, .string s, .int .i64 x, .slice A vs'.length c])) (hg : w.grownBy w' v.ownBlock) (hat : v'.ownBlock = v.ownBlock ∨ v'.ownBlock = some w.heap.size) (hlw : lo ≤ w.heap.size) :
    OwP w' lo v' (xs ++ [.bool y.text, .int .i64 y.num, .string y.str, .int .i64 k, .int .i64 n, .string s, .int .i64 x, .slice A vs'.length c]) (ks ++ [y]) (vs ++ [.mk k n s x ks' vs']) := by
  have hm := OwR.more (Q := Nw lq w) h hy ht (fun b hb e => by have := hvq b e; have := hb.1; omega) ho hg hat
  have hown : ∀ b, v'.ownBlock = some b → lo ≤ b ∧ Plain w' b := fun b e => by
    refine ⟨?_, ?_⟩
    · rcases hat with h' | h'
      · exact (OwP.block h b (h' ▸ e)).1
      · rw [h'] at e; injection e with e; omega
    · rcases ho.2 with ⟨rfl, h'⟩ | ⟨g, cap, cur, rfl, hlo, hgc, hr⟩
      · simp [Value.ownBlock] at e
      · simp [Value.ownBlock] at e
        subst e
        exact ⟨cur, IE, hgc⟩
  refine OwR.mono hm fun b hb => ?_
  rcases hb with (⟨hb, hne⟩ | hb) | hb
  · exact ⟨hb.1, hb.2.same (hg.block b hb.2.lt (fun e => hne e.symm))⟩
  · exact ⟨Nat.le_trans hlq hb.1, hb.2.same (hg.block b hb.2.lt (fun e => by have := hvq b e.symm; have := hb.1; omega))⟩
  · exact hown b hb
end

end Go.Proofs.YtbgffmiffmmohaaGreatDoor.tree

/-
  The laws' copy of a table.
  Conditions: at most 2^20 heads, slots and letters.
-/
namespace Go.Proofs.YtbgffmiffmmohaaGreatDoor.tree
open Go.ChangeShapes Go.WideShapes Go.ChangeAt Go.RowKit
set_option linter.unusedVariables false

/-- A copied table: its heads are the call's own, its slots lie in a new plain block. -/
def TtQ (w : World) (l : List Int) (sl : List Sl) (b : Bool) (n m : Nat) (x k : Int) (e : Ending) (w' : World) : Prop := ∃ (A : Option Addr) (c g mid : Nat), e = .returned (tbV b A n c (some ⟨g, 0, none⟩) m m x k) ∧ imem.OwnI w' w.heap.size A n c l ∧ (∀ q, (Value.slice A n c).ownBlock = some q → q < mid) ∧ w.heap.size ≤ mid ∧ mid ≤ g ∧ SIn w' (Nw mid w') sl (some ⟨g, 0, none⟩) ∧ Below w.heap.size w w'

theorem owni_up {w w' : World} {lo n c : Nat} {A : Option Addr} {l : List Int} (h : imem.OwnI w lo A n c l) (hs : ∀ b, lo ≤ b → b < w.heap.size → w'.heap[b]? = w.heap[b]?) : imem.OwnI w' lo A n c l := by
  refine ⟨h.1, h.2.1, ?_⟩
  rcases h.2.2 with h | ⟨g, cap, cur, e, hlo, hg, hr⟩
  · exact .inl h
  · exact .inr ⟨g, cap, cur, e, hlo, (hs g hlo (Array.getElem?_eq_some_iff.1 hg).1).trans hg, hr⟩
theorem al3t (w : World) (c0 c1 c2 : Array Value) (t0 t1 t2 : TypeId) (W : World) (hW : ((w.alloc (.cells c0 t0)).alloc (.cells c1 t1)).alloc (.cells c2 t2) = W) :
    W.heap[w.heap.size]? = some (.cells c0 t0 (0, 0)) ∧ W.heap[w.heap.size + 1]? = some (.cells c1 t1 (0, 0)) ∧ W.heap[w.heap.size + 2]? = some (.cells c2 t2 (0, 0)) ∧ W.heap.size = w.heap.size + 3 ∧ Below w.heap.size w W := by
  subst hW
  refine ⟨keepAlloc (keepAlloc (heap_alloc_new w _)), keepAlloc ?_, ?_, by simp, b3 w _ _ _⟩
  · have := heap_alloc_new (w.alloc (.cells c0 t0)) (.cells c1 t1)
    rwa [show (w.alloc (.cells c0 t0)).heap.size = w.heap.size + 1 by simp] at this
  · have := heap_alloc_new ((w.alloc (.cells c0 t0)).alloc (.cells c1 t1)) (.cells c2 t2)
    rwa [show ((w.alloc (.cells c0 t0)).alloc (.cells c1 t1)).heap.size = w.heap.size + 2 by simp] at this

set_option maxHeartbeats 1600000 in
set_option maxRecDepth 100000 in
theorem toTable {l : List Int} {sl : List Sl} {b : Bool} {A : Option Addr} {n c : Nat} {B : Option Addr} {m d : Nat} {x k : Int} {w : World} {S : Nat → Prop} (h : TbIn w S l sl A n c B m d x k) (hn : n ≤ 1048576) (hT : m + totS sl ≤ 1048576) :
    Calls Tryz.prog 222 #[tbV b A n c B m d x k] w (TtQ w l sl b n m x k) := by
  obtain ⟨hh, -, rfl, hcap, hS, -, -⟩ := h
  have Z1 := fun w' (hb : Below w.heap.size w w') => ints.toInts A n c l (by omega) w' (hh.below hb)
  have Z2 := fun w' (hb : Below w.heap.size w w') => cpSlots sl hT B d w' S (hS.below hb)
  have hlen : l.length = n := hh.len
  obtain ⟨m, HM⟩ : ∃ m, Hid (sl.length = m) := ⟨_, Lib.hid rfl⟩
  have HZ1 := Lib.hid Z1
  have HZ2 := Lib.hid Z2
  unfold SlsQ at HZ2
  rw [HM.out] at HZ2 ⊢
  clear Z1 Z2 hh hcap hS
  go_enter Tryz.func222, Tryz.ntmps222
  go_wp2_with (fail)
  obtain ⟨P, HP⟩ : ∃ P, Hid (w.heap.size = P) := ⟨_, Lib.hid rfl⟩
  rw [HP.out]
  generalize hw0 : ((w.alloc (.cells #[.bool b, .slice A n c, .slice B m d, .int .i64 x, .int .i64 k] 199)).alloc (.cells #[.bool false, .slice none 0 0, .slice none 0 0, .int .i64 0, .int .i64 0] IT)).alloc (.cells #[.bool b, .slice none 0 0, .slice none 0 0, .int .i64 0, .int .i64 0] IT) = w0
  obtain ⟨a0, a1, a2, az, ab⟩ := al3t w _ _ _ _ _ _ w0 hw0
  rw [HP.out] at a0 a1 a2 az
  have HB0 := Lib.hid ab
  refine (HZ1.out _ ab).mono ?_
  rintro e w1 ⟨A1, n1, c1, rfl, hown, hg1⟩
  obtain rfl : n1 = n := by rw [← hown.len, hlen]
  have hb1 := mem.below_of_none hg1
  have H0 := Lib.hid (carry hb1 a0)
  have H1 := Lib.hid (carry hb1 a1)
  have H2 := Lib.hid (carry hb1 a2)
  have HB1 := Lib.hid (bs HB0.out hb1)
  have HO1 := Lib.hid (hown.less (show P + 3 ≤ w0.heap.size by rw [az]; exact Nat.le_refl _))
  have HOB : Hid (∀ q, (Value.slice A1 n1 c1).ownBlock = some q → q < w1.heap.size) := Lib.hid (fun q e => (hown.block q e).2)
  have HS1 : Hid (P + 3 ≤ w1.heap.size) := Lib.hid (by rw [← az]; exact hb1.size)
  have r0 := rowc H0.out
  have x0 := r0.1 2; have x1 := r0.1 3; have x2 := r0.1 4
  simp at x0 x1 x2
  obtain ⟨r2, f2⟩ := rowc H2.out
  clear hw0 a0 a1 a2 az ab hown hg1 hb1 HZ1 r0 hlen
  go_wp2_with (fail)
  generalize hw2 : w1.setCell ⟨P + 2, 1, none⟩ (.slice A1 n1 c1) = w2
  have hoth : ∀ q, q ≠ P + 2 → w2.heap[q]? = w1.heap[q]? := fun q h => by rw [← hw2, set_other h]
  have HB2 : Hid (Below w.heap.size w w2) := Lib.hid (by rw [← hw2]; exact HB1.out.setCell (show w.heap.size ≤ P + 2 by rw [HP.out]; omega) _)
  have H02 := Lib.hid ((hoth P (by omega)).trans H0.out)
  have H12 := Lib.hid ((hoth (P + 1) (by omega)).trans H1.out)
  have H22 : Hid (w2.heap[P + 2]? = some (.cells #[.bool b, .slice A1 n1 c1, .slice none 0 0, .int .i64 0, .int .i64 0] IT (0, 0))) := Lib.hid (by rw [← hw2]; have := set_heap H2.out 1 (.slice A1 n1 c1); simpa using this)
  have HO2 := Lib.hid (owni_up HO1.out (w' := w2) fun q hq _ => hoth q (by omega))
  have hz2 : w2.heap.size = w1.heap.size := by rw [← hw2, set_size]
  have HS2 : Hid (P + 3 ≤ w2.heap.size) := Lib.hid (by rw [hz2]; exact HS1.out)
  rw [← hz2] at HOB
  clear hw2 hoth hz2 r2 f2 x0 x1 x2 H0 H1 H2 HB1 HO1 HS1
  refine (HZ2.out _ HB2.out).mono ?_
  rintro e w3 ⟨g, hg, rfl, hs, hb⟩
  have H0 := Lib.hid (carry hb H02.out)
  have H1 := Lib.hid (carry hb H12.out)
  have H2 := Lib.hid (carry hb H22.out)
  have HO3 := Lib.hid (HO2.out.below hb)
  have HB3 := Lib.hid (bs HB2.out hb)
  have hgP : P + 3 ≤ g := by rw [← hg]; exact HS2.out
  rw [hg] at HOB hs
  have HSl : Hid (SIn w3 (Nw g w3) sl (some ⟨g, 0, none⟩)) := Lib.hid hs
  have r0 := rowc H0.out
  have x1 := r0.1 3; have x2 := r0.1 4
  simp at x1 x2
  obtain ⟨r2, f2⟩ := rowc H2.out
  obtain ⟨r1, f1⟩ := rowc H1.out
  clear hs hb r0 hg H02 H12 H22 HO2 HB2 HZ2 HS2
  go_wp2_with (fail)
  generalize hwF : World.setCell (World.setCell (World.setCell (World.setCell (World.setCell (World.setCell (World.setCell (World.setCell w3 _ _) _ _) _ _) _ _) _ _) _ _) _ _) _ _ = wF
  have hoth : ∀ q, q ≠ P + 1 → q ≠ P + 1 + 1 → wF.heap[q]? = w3.heap[q]? := fun q h1 h2 => by rw [← hwF, set_other h1, set_other h1, set_other h1, set_other h1, set_other h1, set_other h2, set_other h2, set_other h2]
  have e1 : wF.heap[P + 1]? = some (.cells #[.bool b, .slice A1 n1 c1, .slice (some ⟨g, 0, none⟩) m m, .int .i64 x, .int .i64 k] IT (0, 0)) := by
    have hne : P + 1 ≠ P + 1 + 1 := by omega
    have h0 : (((w3.setCell ⟨P + 1 + 1, 2, none⟩ (.slice (some ⟨g, 0, none⟩) m m)).setCell ⟨P + 1 + 1, 3, none⟩ (.int .i64 x)).setCell ⟨P + 1 + 1, 4, none⟩ (.int .i64 k)).heap[P + 1]? = some (.cells #[.bool false, .slice none 0 0, .slice none 0 0, .int .i64 0, .int .i64 0] IT (0, 0)) := by rw [set_other hne, set_other hne, set_other hne]; exact H1.out
    have := set_heap (set_heap (set_heap (set_heap (set_heap h0 0 (.bool b)) 1 (.slice A1 n1 c1)) 2 (.slice (some ⟨g, 0, none⟩) m m)) 3 (.int .i64 x)) 4 (.int .i64 k)
    rw [← hwF]
    simpa using this
  have hBF : Below w.heap.size w wF := by
    rw [← hwF]
    iterate 5 refine Below.setCell ?_ (show w.heap.size ≤ P + 1 by rw [HP.out]; omega) _
    iterate 3 refine Below.setCell ?_ (show w.heap.size ≤ P + 1 + 1 by rw [HP.out]; omega) _
    exact HB3.out
  have rF := (rowc e1).1
  clear hwF r1 f1 r2 f2 x1 x2
  refine bodyPost_ret (v := tbV b A1 n1 c1 (some ⟨g, 0, none⟩) m m x k) (by simp [results, Tryz.results222, go_sem, rF]) rfl ⟨A1, c1, g, g, rfl, ?_, HOB.out, by rw [HP.out]; omega, Nat.le_refl _, ?_, hBF⟩
  · exact (owni_up HO3.out (w' := wF) fun q hq _ => hoth q (by omega) (by omega)).less (by rw [HP.out]; omega)
  · exact HSl.out.stays (fun q hq => ⟨hq.1, hq.2.same (hoth q (by have := hq.1; omega) (by have := hq.1; omega))⟩) (fun q hq _ => hoth q (by have := hq.1; omega) (by have := hq.1; omega))

end Go.Proofs.YtbgffmiffmmohaaGreatDoor.tree

/-
  The rounds in which the weights of a heap's blocks are found, as lists.
  Conditions: none.
-/
namespace Go.Proofs.YtbgffmiffmmohaaGreatDoor.tree
open Go.ChangeShapes Go.WideShapes Go.ChangeAt Go.RowKit
set_option linter.unusedVariables false

/-- Handles among the live values lead to live blocks. -/
def okL (bl : List Bk) : Prop := ∀ k ∈ bl, ∀ (t : Tr), t ∈ livV k.slots → ∀ n s x ks vs, t = .mk 5 n s x ks vs → ∃ (c : Nat) (kc : Bk), n = c ∧ bl[c]? = some kc ∧ 0 < kc.refs
/-- How many live blocks have no weight yet. -/
def unset : List Bk → List Int → Nat
  | k :: bl, v :: ws => (if 0 < k.refs ∧ v = 0 then 1 else 0) + unset bl ws
  | _, _ => 0
theorem unset_le : ∀ (bl : List Bk) (ws : List Int), unset bl ws ≤ bl.length
  | [], ws => by simp [unset]
  | k :: bl, [] => by simp [unset]
  | k :: bl, v :: ws => by
    have := unset_le bl ws
    rw [unset, List.length_cons]
    split <;> omega
theorem unset_set : ∀ {bl : List Bk} {ws : List Int} {i : Nat} {k : Bk} {n : Int}, bl[i]? = some k → ws[i]? = some 0 → 0 < k.refs → n ≠ 0 → unset bl (ws.set i n) + 1 = unset bl ws
  | [], ws, i, k, n, h, _, _, _ => by simp at h
  | k0 :: bl, [], i, k, n, _, h, _, _ => by simp at h
  | k0 :: bl, v :: ws, 0, k, n, h, h', hk, hn => by
    obtain rfl : k0 = k := by simpa using h
    obtain rfl : v = 0 := by simpa using h'
    rw [List.set_cons_zero, unset, unset, if_neg (fun hh => hn hh.2), if_pos ⟨hk, rfl⟩]
    omega
  | k0 :: bl, v :: ws, i + 1, k, n, h, h', hk, hn => by
    have := unset_set (bl := bl) (ws := ws) (i := i) (k := k) (n := n) (by simpa using h) (by simpa using h') hk hn
    rw [List.set_cons_succ, unset, unset]
    omega
theorem unset_zero : ∀ {bl : List Bk} {ws : List Int}, unset bl ws = 0 → ∀ {i : Nat} {k : Bk} {v : Int}, bl[i]? = some k → ws[i]? = some v → 0 < k.refs → v ≠ 0
  | [], ws, _, i, k, v, h, _, _ => by simp at h
  | k0 :: bl, [], _, i, k, v, _, h, _ => by simp at h
  | k0 :: bl, v0 :: ws, hu, 0, k, v, h, h', hk => by
    obtain rfl : k0 = k := by simpa using h
    obtain rfl : v0 = v := by simpa using h'
    intro e
    rw [unset, if_pos ⟨hk, e⟩] at hu
    omega
  | k0 :: bl, v0 :: ws, hu, i + 1, k, v, h, h', hk => by
    rw [unset] at hu
    exact unset_zero (bl := bl) (ws := ws) (by omega) (i := i) (by simpa using h) (by simpa using h') hk
theorem unset_pos : ∀ {bl : List Bk} {ws : List Int}, 0 < unset bl ws → ∃ (i : Nat) (k : Bk), bl[i]? = some k ∧ ws[i]? = some 0 ∧ 0 < k.refs
  | [], ws, h => by simp [unset] at h
  | k0 :: bl, [], h => by simp [unset] at h
  | k0 :: bl, v0 :: ws, h => by
    by_cases h0 : 0 < k0.refs ∧ v0 = 0
    · exact ⟨0, k0, rfl, by simp [h0.2], h0.1⟩
    · rw [unset, if_neg h0] at h
      obtain ⟨i, k, a, b, c⟩ := unset_pos (bl := bl) (ws := ws) (by omega)
      exact ⟨i + 1, k, by simpa using a, by simpa using b, c⟩
/-- How many blocks are live. -/
def liveN : List Bk → Nat
  | [] => 0
  | k :: bl => (if 0 < k.refs then 1 else 0) + liveN bl
theorem liveN_take : ∀ {bl : List Bk} {j : Nat} {k : Bk}, bl[j]? = some k → liveN (bl.take (j + 1)) = liveN (bl.take j) + (if 0 < k.refs then 1 else 0)
  | [], j, _, h => by simp at h
  | k0 :: bl, 0, k, h => by
    obtain rfl : k0 = k := by simpa using h
    simp [liveN]
  | k0 :: bl, j + 1, k, h => by
    have := liveN_take (bl := bl) (j := j) (k := k) (by simpa using h)
    rw [List.take_succ_cons, List.take_succ_cons, liveN, liveN, this]
    omega
theorem liveN_le : ∀ (bl : List Bk), liveN bl ≤ bl.length
  | [] => by simp [liveN]
  | k :: bl => by
    have := liveN_le bl
    rw [liveN, List.length_cons]
    split <;> omega
theorem unset_start : ∀ (bl : List Bk), unset bl (List.replicate bl.length 0) = liveN bl
  | [] => rfl
  | k :: bl => by
    rw [List.length_cons, List.replicate_succ, unset, liveN, unset_start bl]
    simp

/-- What is known in round r, when the blocks before i have been gone through. -/
structure WI (bl : List Bk) (ws : List Int) (r i : Nat) : Prop where
  len : ws.length = bl.length
  ex : ∀ (j : Nat) (v : Int), ws[j]? = some v → v = 0 ∨ (1 ≤ v ∧ v ≤ 200 ∧ Ex bl j v)
  dp : ∀ (j : Nat) (k : Bk), bl[j]? = some k → 0 < k.refs → ws[j]? = some 0 → Dp bl (if j < i then (r : Int) + 1 else r) j
theorem WI.start (bl : List Bk) : WI bl (List.replicate bl.length 0) 0 0 where
  len := List.length_replicate
  ex := fun j v h => by
    rw [List.getElem?_replicate] at h
    split at h
    · obtain rfl := Option.some.inj h; exact .inl rfl
    · cases h
  dp := fun j k _ _ _ => by
    rw [if_neg (by omega)]
    exact dp_zero j
theorem WI.next {bl : List Bk} {ws : List Int} {r : Nat} (h : WI bl ws r bl.length) : WI bl ws (r + 1) 0 where
  len := h.len
  ex := h.ex
  dp := fun j k hj hk hw => by
    have := h.dp j k hj hk hw
    rw [if_pos (List.getElem?_eq_some_iff.1 hj).1] at this
    rw [if_neg (by omega)]
    exact this
/-- A block that is free, or has its weight. -/
theorem WI.pass {bl : List Bk} {ws : List Int} {r i : Nat} (h : WI bl ws r i) (hi : ∀ k, bl[i]? = some k → 0 < k.refs → ws[i]? = some 0 → Dp bl ((r : Int) + 1) i) : WI bl ws r (i + 1) where
  len := h.len
  ex := h.ex
  dp := fun j k hj hk hw => by
    by_cases e : j = i
    · subst e
      rw [if_pos (by omega)]
      exact hi k hj hk hw
    · have := h.dp j k hj hk hw
      by_cases hlt : j < i
      · rw [if_pos hlt] at this; rw [if_pos (by omega)]; exact this
      · rw [if_neg hlt] at this; rw [if_neg (by omega)]; exact this
theorem WI.put {bl : List Bk} {ws : List Int} {r i : Nat} (h : WI bl ws r i) {n : Int} (hn : 1 ≤ n ∧ n ≤ 200) (he : Ex bl i n) : WI bl (ws.set i n) r (i + 1) where
  len := by rw [List.length_set]; exact h.len
  ex := fun j v hv => by
    rw [List.getElem?_set] at hv
    split at hv
    · rename_i e
      split at hv
      · obtain rfl := Option.some.inj hv
        subst e
        exact .inr ⟨hn.1, hn.2, he⟩
      · cases hv
    · exact h.ex j v hv
  dp := fun j k hj hk hw => by
    rw [List.getElem?_set] at hw
    split at hw
    · split at hw
      · have := Option.some.inj hw; omega
      · cases hw
    · rename_i e
      have := h.dp j k hj hk hw
      by_cases hlt : j < i
      · rw [if_pos hlt] at this; rw [if_pos (by omega)]; exact this
      · rw [if_neg hlt] at this; rw [if_neg (by omega)]; exact this
theorem WI.low {bl : List Bk} {ws : List Int} {r i : Nat} (h : WI bl ws r i) {c : Nat} {k : Bk} (hc : bl[c]? = some k) (hk : 0 < k.refs) (hw : ws[c]? = some 0) : Dp bl r c := by
  have := h.dp c k hc hk hw
  split at this
  · exact this.mono (by omega)
  · exact this
theorem wvs_take {ws : List Int} {sl : List Sl} {j : Nat} {t : Sl} (h : sl[j]? = some t) : wvs ws (livV (sl.take (j + 1))) = wvs ws (livV (sl.take j)) + (if t.live then wv ws t.val else 0) := by
  unfold livV wvs
  rw [liv_take h]
  cases t.live <;> simp
theorem livV_mem_take {sl : List Sl} {j : Nat} {t : Sl} (h : sl[j]? = some t) {u : Tr} (hu : u ∈ livV (sl.take (j + 1))) : u ∈ livV (sl.take j) ∨ (t.live = true ∧ u = t.val) := by
  unfold livV at hu ⊢
  rw [liv_take h, List.map_append] at hu
  rcases List.mem_append.1 hu with hu | hu
  · exact .inl hu
  · cases hl : t.live with
    | true => rw [hl] at hu; simp at hu; exact .inr ⟨rfl, hu⟩
    | false => rw [hl] at hu; simp at hu
theorem livV_of {sl : List Sl} {j : Nat} {t : Sl} (h : sl[j]? = some t) (hl : t.live = true) : t.val ∈ livV sl := by
  unfold livV liv
  exact List.mem_map.2 ⟨t, List.mem_filter.2 ⟨List.mem_of_getElem? h, hl⟩, rfl⟩
/-- The last round: either all live blocks have their weight, or one of them weighs too much. -/
theorem WI.done {bl : List Bk} {ws : List Int} {r : Nat} (h : WI bl ws r 0) (hfr : ∀ k ∈ bl, ¬ 0 < k.refs → k.slots = []) (hr : 200 < r ∨ unset bl ws = 0) : unset bl ws = 0 ↔ Lt bl := by
  constructor
  · intro hu i hi
    by_cases hk : 0 < bl[i].refs
    · obtain ⟨v, hv⟩ : ∃ v, ws[i]? = some v := ⟨_, List.getElem?_eq_getElem (by rw [h.len]; exact hi)⟩
      have hne := unset_zero hu (List.getElem?_eq_getElem hi) hv hk
      rcases h.ex i v hv with e | ⟨_, h2, h3⟩
      · exact absurd e hne
      · exact ex_lt h3 h2
    · rw [spr_free (List.getElem?_eq_getElem hi) (hfr _ (List.getElem_mem hi) hk)]
      omega
  · intro hl
    rcases hr with hr | hr
    · by_cases hu : unset bl ws = 0
      · exact hu
      · obtain ⟨i, k, a, b, c⟩ := unset_pos (by omega : 0 < unset bl ws)
        have h1 := h.dp i k a c b
        rw [if_neg (by omega)] at h1
        have h2 := h1 201 200 (by omega) (by omega) (by omega)
        have h3 := hl i (List.getElem?_eq_some_iff.1 a).1
        omega
    · exact hr

end Go.Proofs.YtbgffmiffmmohaaGreatDoor.tree

/-
  The laws' copy of a heap: in new memory, what hangs from one block apart from what hangs from another one.
  Conditions: at most 2^20 blocks, heads, slots and letters.
-/
namespace Go.Proofs.YtbgffmiffmmohaaGreatDoor.tree
open Go.ChangeShapes Go.WideShapes Go.ChangeAt Go.RowKit
set_option linter.unusedVariables false

abbrev IB : TypeId := 139
abbrev IH : TypeId := 78
abbrev LB : TypeId := 201
/-- A copied block: its heads are the call's own, its slots lie in a new plain block. -/
def TbkQ (w : World) (l : List Int) (sl : List Sl) (rf : Int) (b : Bool) (n m : Nat) (x k : Int) (e : Ending) (w' : World) : Prop := ∃ (A : Option Addr) (c g mid : Nat), e = .returned (bkV rf b A n c (some ⟨g, 0, none⟩) m m x k) ∧ imem.OwnI w' w.heap.size A n c l ∧ (∀ q, (Value.slice A n c).ownBlock = some q → q < mid) ∧ w.heap.size ≤ mid ∧ mid ≤ g ∧ SIn w' (Nw mid w') sl (some ⟨g, 0, none⟩) ∧ Below w.heap.size w w'

set_option maxHeartbeats 1600000 in
set_option maxRecDepth 100000 in
theorem toBlock {l : List Int} {sl : List Sl} (rf : Int) {b : Bool} {A : Option Addr} {n c : Nat} {B : Option Addr} {m d : Nat} {x k : Int} {w : World} {S : Nat → Prop} (h : TbIn w S l sl A n c B m d x k) (hn : n ≤ 1048576) (hT : m + totS sl ≤ 1048576) :
    Calls Tryz.prog 186 #[bkV rf b A n c B m d x k] w (TbkQ w l sl rf b n m x k) := by
  have Z : Hid (∀ w', Below w.heap.size w w' → Calls Tryz.prog 222 #[tbV b A n c B m d x k] w' (TtQ w' l sl b n m x k)) := Lib.hid (fun w' hb => toTable (h.below hb) hn hT)
  unfold TtQ at Z
  clear h hn hT
  go_enter Tryz.func186, Tryz.ntmps186
  go_wp2_with (fail)
  obtain ⟨P, HP⟩ : ∃ P, Hid (w.heap.size = P) := ⟨_, Lib.hid rfl⟩
  rw [HP.out]
  generalize hw0 : ((w.alloc (.cells #[.int .i64 rf, .bool b, .slice A n c, .slice B m d, .int .i64 x, .int .i64 k] LB)).alloc (.cells #[.int .i64 0, .bool false, .slice none 0 0, .slice none 0 0, .int .i64 0, .int .i64 0] IB)).alloc (.cells #[.int .i64 rf, .bool false, .slice none 0 0, .slice none 0 0, .int .i64 0, .int .i64 0] IB) = w0
  obtain ⟨a0, a1, a2, az, ab⟩ := al3t w _ _ _ _ _ _ w0 hw0
  rw [HP.out] at a0 a1 a2 az
  have HB0 := Lib.hid ab
  refine (Z.out _ ab).mono ?_
  rintro e w1 ⟨A1, c1, g, mid, rfl, hown, hbm, hlm, hmg, hs, hb1⟩
  have H0 := Lib.hid (carry hb1 a0)
  have H1 := Lib.hid (carry hb1 a1)
  have H2 := Lib.hid (carry hb1 a2)
  have HB1 := Lib.hid (bs HB0.out hb1)
  have HO1 := Lib.hid (hown.less (show P + 3 ≤ w0.heap.size by rw [az]; exact Nat.le_refl _))
  have HOB := Lib.hid hbm
  have HMG := Lib.hid hmg
  have HLM : Hid (P + 3 ≤ mid) := Lib.hid (by rw [← az]; exact hlm)
  have HSl := Lib.hid hs
  obtain ⟨r1, f1⟩ := rowc H1.out
  obtain ⟨r2, f2⟩ := rowc H2.out
  clear hw0 a0 a1 a2 az ab hown hb1 Z hs hbm hlm hmg
  go_wp2_with (fail)
  generalize hwF : World.setCell (World.setCell (World.setCell (World.setCell (World.setCell (World.setCell (World.setCell (World.setCell (World.setCell (World.setCell (World.setCell w1 _ _) _ _) _ _) _ _) _ _) _ _) _ _) _ _) _ _) _ _) _ _ = wF
  have hoth : ∀ q, q ≠ P + 1 → q ≠ P + 1 + 1 → wF.heap[q]? = w1.heap[q]? := fun q h1 h2 => by rw [← hwF, set_other h1, set_other h1, set_other h1, set_other h1, set_other h1, set_other h1, set_other h2, set_other h2, set_other h2, set_other h2, set_other h2]
  have e1 : wF.heap[P + 1]? = some (.cells #[.int .i64 rf, .bool b, .slice A1 n c1, .slice (some ⟨g, 0, none⟩) m m, .int .i64 x, .int .i64 k] IB (0, 0)) := by
    have hne : P + 1 ≠ P + 1 + 1 := by omega
    have h0 : (((((w1.setCell ⟨P + 1 + 1, 1, none⟩ (.bool b)).setCell ⟨P + 1 + 1, 2, none⟩ (.slice A1 n c1)).setCell ⟨P + 1 + 1, 3, none⟩ (.slice (some ⟨g, 0, none⟩) m m)).setCell ⟨P + 1 + 1, 4, none⟩ (.int .i64 x)).setCell ⟨P + 1 + 1, 5, none⟩ (.int .i64 k)).heap[P + 1]? = some (.cells #[.int .i64 0, .bool false, .slice none 0 0, .slice none 0 0, .int .i64 0, .int .i64 0] IB (0, 0)) := by rw [set_other hne, set_other hne, set_other hne, set_other hne, set_other hne]; exact H1.out
    have := set_heap (set_heap (set_heap (set_heap (set_heap (set_heap h0 0 (.int .i64 rf)) 1 (.bool b)) 2 (.slice A1 n c1)) 3 (.slice (some ⟨g, 0, none⟩) m m)) 4 (.int .i64 x)) 5 (.int .i64 k)
    rw [← hwF]
    simpa using this
  have hBF : Below w.heap.size w wF := by
    rw [← hwF]
    iterate 6 refine Below.setCell ?_ (show w.heap.size ≤ P + 1 by rw [HP.out]; omega) _
    iterate 5 refine Below.setCell ?_ (show w.heap.size ≤ P + 1 + 1 by rw [HP.out]; omega) _
    exact HB1.out
  have rF := (rowc e1).1
  clear hwF r1 f1 r2 f2
  refine bodyPost_ret (v := bkV rf b A1 n c1 (some ⟨g, 0, none⟩) m m x k) (by simp [results, Tryz.results186, go_sem, rF]) rfl ⟨A1, c1, g, mid, rfl, ?_, HOB.out, by rw [HP.out]; have := HLM.out; omega, HMG.out, ?_, hBF⟩
  · exact (owni_up HO1.out (w' := wF) fun q hq _ => hoth q (by omega) (by omega)).less (by rw [HP.out]; omega)
  · exact HSl.out.stays (fun q hq => ⟨hq.1, hq.2.same (hoth q (by have := hq.1; have := HLM.out; omega) (by have := hq.1; have := HLM.out; omega))⟩) (fun q hq _ => hoth q (by have := hq.1; have := HLM.out; omega) (by have := hq.1; have := HLM.out; omega))

theorem owni_own {w w' : World} {lo n c : Nat} {A : Option Addr} {l : List Int} (h : imem.OwnI w lo A n c l) (hs : ∀ b, (Value.slice A n c).ownBlock = some b → b < w.heap.size → w'.heap[b]? = w.heap[b]?) : imem.OwnI w' lo A n c l := by
  refine ⟨h.1, h.2.1, ?_⟩
  rcases h.2.2 with h | ⟨g, cap, cur, e, hlo, hg, hr⟩
  · exact .inl h
  · exact .inr ⟨g, cap, cur, e, hlo, (hs g (by rw [e]; rfl) (Array.getElem?_eq_some_iff.1 hg).1).trans hg, hr⟩
/-- Six cells in a row. -/
def set6 (arr : Array Value) (o : Nat) (c0 c1 c2 c3 c4 c5 : Value) : Array Value := (((((arr.setIfInBounds o c0).setIfInBounds (o + 1) c1).setIfInBounds (o + 2) c2).setIfInBounds (o + 3) c3).setIfInBounds (o + 4) c4).setIfInBounds (o + 5) c5
theorem set6_size (arr : Array Value) (o : Nat) (c0 c1 c2 c3 c4 c5 : Value) : (set6 arr o c0 c1 c2 c3 c4 c5).size = arr.size := by simp [set6]
theorem set6_out (arr : Array Value) (o : Nat) (c0 c1 c2 c3 c4 c5 : Value) (p : Nat) (h : p < o ∨ o + 6 ≤ p) : (set6 arr o c0 c1 c2 c3 c4 c5)[p]? = arr[p]? := by
  unfold set6
  rw [Array.getElem?_setIfInBounds_ne (by omega), Array.getElem?_setIfInBounds_ne (by omega), Array.getElem?_setIfInBounds_ne (by omega), Array.getElem?_setIfInBounds_ne (by omega), Array.getElem?_setIfInBounds_ne (by omega), Array.getElem?_setIfInBounds_ne (by omega)]
theorem set6_in (arr : Array Value) (o : Nat) (c0 c1 c2 c3 c4 c5 : Value) (h : o + 6 ≤ arr.size) (q : Nat) (hq : q < 6) : (set6 arr o c0 c1 c2 c3 c4 c5)[o + q]? = (#[c0, c1, c2, c3, c4, c5] : Array Value)[q]? := by
  unfold set6
  match q, hq with
  | 0, _ => show ((((((arr.setIfInBounds o c0).setIfInBounds (o + 1) c1).setIfInBounds (o + 2) c2).setIfInBounds (o + 3) c3).setIfInBounds (o + 4) c4).setIfInBounds (o + 5) c5)[o]? = some c0
            rw [Array.getElem?_setIfInBounds_ne (by omega), Array.getElem?_setIfInBounds_ne (by omega), Array.getElem?_setIfInBounds_ne (by omega), Array.getElem?_setIfInBounds_ne (by omega), Array.getElem?_setIfInBounds_ne (by omega)]
            rw [Array.getElem?_setIfInBounds_self_of_lt (by omega)]
  | 1, _ => iterate 4 rw [Array.getElem?_setIfInBounds_ne (by omega)]
            rw [Array.getElem?_setIfInBounds_self_of_lt (by simp; omega)]; rfl
  | 2, _ => iterate 3 rw [Array.getElem?_setIfInBounds_ne (by omega)]
            rw [Array.getElem?_setIfInBounds_self_of_lt (by simp; omega)]; rfl
  | 3, _ => iterate 2 rw [Array.getElem?_setIfInBounds_ne (by omega)]
            rw [Array.getElem?_setIfInBounds_self_of_lt (by simp; omega)]; rfl
  | 4, _ => rw [Array.getElem?_setIfInBounds_ne (by omega)]
            rw [Array.getElem?_setIfInBounds_self_of_lt (by simp; omega)]; rfl
  | 5, _ => rw [Array.getElem?_setIfInBounds_self_of_lt (by simp; omega)]; rfl

/-- The blocks of a row of L of which P holds are laid, all in memory below hi; ow tells of each memory block what it belongs to: 2i: the heads of block i, 2i+1: what hangs from its slots. -/
def LaidB (w : World) (g hi L : Nat) (P : Nat → Prop) (ow : Nat → Nat) (bl : List Bk) : Prop :=
  ∃ arr, w.heap[g]? = some (.cells arr IB (0, 0)) ∧ arr.size = L * 6 ∧ g < hi ∧ ∀ i k, bl[i]? = some k → P i → ∃ A n c s m, I64 k.refs ∧ I64 k.next ∧ I64 k.count ∧ k.slots.length = m ∧ m ≤ 1048576 ∧ n ≤ 1048576 ∧
    imem.OwnI w (g + 1) A n c k.heads ∧ (∀ q, (Value.slice A n c).ownBlock = some q → q < hi ∧ ow q = 2 * i) ∧ SIn w (fun b => g < b ∧ b < hi ∧ ow b = 2 * i + 1 ∧ Plain w b) k.slots (some ⟨s, 0, none⟩) ∧
    ∀ q, q < 6 → arr[i * 6 + q]? = (#[.int .i64 k.refs, .bool k.hashed, .slice A n c, .slice (some ⟨s, 0, none⟩) m m, .int .i64 k.next, .int .i64 k.count] : Array Value)[q]?
theorem LaidB.hin {w : World} {g hi L : Nat} {P : Nat → Prop} {ow : Nat → Nat} {bl : List Bk} (h : LaidB w g hi L P ow bl) (hP : ∀ i, i < bl.length → P i) : HIn w (Nw g w) bl (some ⟨g, 0, none⟩) := fun i k hk => by
  obtain ⟨arr, hg, hs, -, hi'⟩ := h
  have hil := (List.getElem?_eq_some_iff.1 hk).1
  obtain ⟨A, n, c, s, m, hr, hx, hc, hm, hmm, hnn, hO, -, hS, hcl⟩ := hi' i k hk (hP i hil)
  have at_ : ∀ q, q < 6 → w.cell? ⟨g, i * 6 + q, none⟩ = _ := fun q hq => (cell_of_row w g _ arr IB _ hg).trans (hcl q hq)
  refine ⟨⟨g, 0, none⟩, A, n, c, some ⟨s, 0, none⟩, m, m, rfl, ⟨Nat.le_refl _, arr, IB, hg⟩, hr, ⟨hO.rd, by unfold maxLen; omega, hm, ⟨Nat.le_refl _, by unfold maxLen; omega⟩, hS.stays (fun b hb => ⟨Nat.le_of_lt hb.1, hb.2.2.2⟩) (fun _ _ _ => rfl), hx, hc⟩, ?_⟩
  rw [Addr.add_lit, Nat.zero_add]
  exact ⟨at_ 0 (by omega), at_ 1 (by omega), at_ 2 (by omega), at_ 3 (by omega), at_ 4 (by omega), at_ 5 (by omega)⟩
theorem LaidB.same {w w' : World} {g hi L : Nat} {P : Nat → Prop} {ow : Nat → Nat} {bl : List Bk} (h : LaidB w g hi L P ow bl) (hb : ∀ b, g ≤ b → b < hi → b < w.heap.size → w'.heap[b]? = w.heap[b]?) : LaidB w' g hi L P ow bl := by
  obtain ⟨arr, hg, hs, hgh, hi'⟩ := h
  refine ⟨arr, (hb g (Nat.le_refl _) hgh (Array.getElem?_eq_some_iff.1 hg).1).trans hg, hs, hgh, fun i k hk hij => ?_⟩
  obtain ⟨A, n, c, s, m, hr, hx, hc, hm, hmm, hnn, hO, hq, hS, hcl⟩ := hi' i k hk hij
  refine ⟨A, n, c, s, m, hr, hx, hc, hm, hmm, hnn, owni_own hO fun b e h2 => ?_, hq, hS.stays (fun b hb' => ⟨hb'.1, hb'.2.1, hb'.2.2.1, hb'.2.2.2.same (hb b (Nat.le_of_lt hb'.1) hb'.2.1 hb'.2.2.2.lt)⟩) (fun b hb' hlt => hb b (Nat.le_of_lt hb'.1) hb'.2.1 hlt), hcl⟩
  exact hb b (by have := (hO.block b e).1; omega) (hq b e).1 h2
theorem LaidB.below {w w' : World} {g hi L : Nat} {P : Nat → Prop} {ow : Nat → Nat} {bl : List Bk} (h : LaidB w g hi L P ow bl) (hb : Below w.heap.size w w') : LaidB w' g hi L P ow bl := h.same fun b _ _ hl => hb.block b hl

theorem LaidB.step {w w1 w2 : World} {g L j : Nat} {ow : Nat → Nat} {bl : List Bk} (h : LaidB w g w.heap.size L (fun i => i < j) ow bl) (hb : Below w.heap.size w w1) {rf : Int} {hs : Bool} {l : List Int} {sl : List Sl} {x ct : Int} {A : Option Addr} {n c s m mid : Nat}
    (hk : bl[j]? = some ⟨rf, hs, l, sl, x, ct⟩) (hr : I64 rf) (hx : I64 x) (hc : I64 ct) (hm : sl.length = m) (hmm : m ≤ 1048576) (hnn : n ≤ 1048576) (hO : imem.OwnI w1 w.heap.size A n c l) (hq : ∀ q, (Value.slice A n c).ownBlock = some q → q < mid) (hwm : w.heap.size ≤ mid) (hS : SIn w1 (Nw mid w1) sl (some ⟨s, 0, none⟩)) (hj : j < L)
    (hg : ∀ arr, w1.heap[g]? = some (.cells arr IB (0, 0)) → w2.heap[g]? = some (.cells (set6 arr (j * 6) (.int .i64 rf) (.bool hs) (.slice A n c) (.slice (some ⟨s, 0, none⟩) m m) (.int .i64 x) (.int .i64 ct)) IB (0, 0)))
    (ho : ∀ b, b ≠ g → w2.heap[b]? = w1.heap[b]?) (hz : w2.heap.size = w1.heap.size) : ∃ ow', LaidB w2 g w2.heap.size L (fun i => i < j + 1) ow' bl := by
  obtain ⟨arr, hg0, hsz, -, h⟩ := h
  have glt : g < w.heap.size := (Array.getElem?_eq_some_iff.1 hg0).1
  have hsz1 := hb.size
  have hg1 := (hb.block g glt).trans hg0
  refine ⟨fun b => if b < w.heap.size then ow b else if b < mid then 2 * j else 2 * j + 1, _, hg arr hg1, by rw [set6_size, hsz], by omega, fun i k hit hij => ?_⟩
  by_cases e : i = j
  · subst e
    rw [hk] at hit
    obtain rfl := Option.some.inj hit
    refine ⟨A, n, c, s, m, hr, hx, hc, hm, hmm, hnn, (owni_up hO fun b h1 _ => ho b (by omega)).less (by omega), fun q e => ?_, hS.stays (fun b hb' => ?_) (fun b hb' _ => ho b (by have := hb'.1; omega)), fun q hq' => ?_⟩
    · have h1 := hO.block q e
      have h2 := hq q e
      refine ⟨by omega, ?_⟩
      show (if q < w.heap.size then ow q else if q < mid then 2 * i else 2 * i + 1) = 2 * i
      rw [if_neg (by omega), if_pos h2]
    · have h1 := hb'.1
      have h2 := hb'.2.lt
      refine ⟨by omega, by omega, ?_, hb'.2.same (ho b (by omega))⟩
      show (if b < w.heap.size then ow b else if b < mid then 2 * i else 2 * i + 1) = 2 * i + 1
      rw [if_neg (by omega), if_neg (by omega)]
    · rw [set6_in _ _ _ _ _ _ _ _ (by omega) q hq']
  · obtain ⟨A', n', c', s', m', hr', hx', hc', hm', hmm', hnn', hO', hq', hS', hcl'⟩ := h i k hit (show i < j by have h3 : i < j + 1 := hij; omega)
    have hk1 : ∀ b, g < b → b < w.heap.size → w2.heap[b]? = w.heap[b]? := fun b h1 h2 => (ho b (by omega)).trans (hb.block b h2)
    refine ⟨A', n', c', s', m', hr', hx', hc', hm', hmm', hnn', owni_up hO' fun b h1 h2 => hk1 b (by omega) h2, fun q e => ?_, hS'.stays (fun b hb' => ?_) (fun b hb' hlt => hk1 b hb'.1 hlt), fun q hq3 => ?_⟩
    · have h1 := (hO'.block q e).2
      refine ⟨by omega, ?_⟩
      show (if q < w.heap.size then ow q else if q < mid then 2 * j else 2 * j + 1) = 2 * i
      rw [if_pos h1]
      exact (hq' q e).2
    · have h1 := hb'.2.1
      refine ⟨hb'.1, by omega, ?_, hb'.2.2.2.same (hk1 b hb'.1 h1)⟩
      show (if b < w.heap.size then ow b else if b < mid then 2 * j else 2 * j + 1) = 2 * i + 1
      rw [if_pos h1]
      exact hb'.2.2.1
    · rw [set6_out _ _ _ _ _ _ _ _ _ (by have h3 : i < j + 1 := hij; omega)]
      exact hcl' q hq3

theorem ib_info : ∃ i, Tryz.prog.info? IB = some i ∧ (i.zero = some (.agg #[.int .i64 0, .bool false, .slice none 0 0, .slice none 0 0, .int .i64 0, .int .i64 0]) ∧ i.size = 6 ∧ i.bytes = 80) := by
  have : (Tryz.prog.info? IB).map (fun i => (i.zero, i.size, i.bytes)) = some (some (.agg #[.int .i64 0, .bool false, .slice none 0 0, .slice none 0 0, .int .i64 0, .int .i64 0]), 6, 80) := by kernel_rfl
  cases hq : Tryz.prog.info? IB with
  | none => rw [hq] at this; cases this
  | some i => rw [hq] at this; simp at this; exact ⟨i, rfl, this⟩

/-- Copies of blocks: in a new row. -/
def BlsQ (w : World) (bl : List Bk) (e : Ending) (w' : World) : Prop := ∃ g ow, w.heap.size ≤ g ∧ e = .returned (.slice (some ⟨g, 0, none⟩) bl.length bl.length) ∧ LaidB w' g w'.heap.size bl.length (fun i => i < bl.length) ow bl ∧ Below w.heap.size w w'

set_option maxRecDepth 100000 in
set_option maxHeartbeats 1600000 in
theorem cpBlocks (bl : List Bk) (hT : bl.length + totB bl ≤ 1048576) (A : Option Addr) (c : Nat) (w : World) (S : Nat → Prop) (h : HIn w S bl A) :
    Calls Tryz.prog 119 #[.slice A bl.length c] w (BlsQ w bl) := by
  obtain ⟨L, HL⟩ : ∃ L, Hid (L = bl.length) := ⟨_, Lib.hid rfl⟩
  have hm : L ≤ 1048576 := by rw [HL.out]; omega
  obtain ⟨i0, hi, hz⟩ := ib_info
  have hmk := run_make (P := Tryz.prog) w 76 IB i0 _ Tryz.underlying76 hi hz.1 .i64 .i64 L L (by omega) (Int.le_refl _) (by rw [hz.2.2]; omega) (by omega)
  rw [hz.2.1] at hmk
  simp only [Int.toNat_natCast] at hmk
  have HA0 := Lib.hid h
  have HTT := Lib.hid hT
  clear hi hz h hT
  unfold BlsQ
  rw [← HL.out]
  obtain ⟨arr0, HA⟩ : ∃ a, Hid (a = madeCells (Value.agg #[.int .i64 0, .bool false, .slice none 0 0, .slice none 0 0, .int .i64 0, .int .i64 0]).cells (L * 6)) := ⟨_, Lib.hid rfl⟩
  rw [← HA.out] at hmk
  go_enter Tryz.func119, Tryz.ntmps119
  go_wp2_with (fail)
  clear hmk
  go_loopg [4] (L + 1) (fun gk i wr => ∃ j : Nat, i = .int .i64 j ∧ gk + j = L + 1 ∧ j ≤ L ∧ (∃ ow, LaidB wr w.heap.size wr.heap.size L (fun i => i < j) ow bl) ∧ Below w.heap.size w wr)
  case atStart => exact ⟨0, rfl, by omega, by omega, ⟨fun _ => 0, arr0, heap_alloc_new _ _, by rw [HA.out, madeSize], by simp, fun i t _ hi => absurd (show i < 0 from hi) (by omega)⟩, b1 _ _⟩
  case round =>
    obtain ⟨j, rfl, hgj, hjL, ⟨ow, hla⟩, hb⟩ := hrel
    have HB := Lib.hid hb
    have HLa := Lib.hid hla
    clear hb hla
    by_cases hlt : j < L
    · obtain ⟨k, hk⟩ : ∃ k, bl[j]? = some k := ⟨_, List.getElem?_eq_getElem (by rw [← HL.out]; exact hlt)⟩
      obtain ⟨a, A1, n, c1, B1, m, d1, rfl, -, hrf, hT, hcell⟩ := HA0.out.below HB.out j k hk
      have hsz := totB_mem hk
      rw [szB, hT.heads.len, hT.len] at hsz
      have hn : n ≤ 1048576 := by have := HTT.out; omega
      have hmt : m + totS k.slots ≤ 1048576 := by have := HTT.out; omega
      have hln := hT.len
      obtain ⟨rf, hs, l, sl, x, ct⟩ := k
      simp only at hT hcell hsz hmt hrf hln
      have Z : Hid (Calls Tryz.prog 186 #[bkV rf hs A1 n c1 B1 m d1 x ct] wr (TbkQ wr l sl rf hs n m x ct)) := Lib.hid (toBlock rf hT hn hmt)
      have HKJ := Lib.hid hk
      have HRF := Lib.hid hrf
      have HX := Lib.hid hT.next
      have HC := Lib.hid hT.count
      have HM := Lib.hid hln
      have HN := Lib.hid hn
      have HMM : Hid (m ≤ 1048576) := Lib.hid (by omega)
      obtain ⟨p0, p1, p2, p3, p4, p5⟩ := hcell
      clear hk hT hsz hn hmt hrf hln
      go_wp2_with (fail)
      refine Z.out.mono ?_
      rintro e w1 ⟨A2, c2, s2, mid, rfl, hown, hbm, hlm, hmg, hsl, hb1⟩
      have HB1 := Lib.hid hb1
      have HO := Lib.hid hown
      have HBM := Lib.hid hbm
      have HLM := Lib.hid hlm
      have HSL := Lib.hid hsl
      obtain ⟨arr, hg0, hs0, -, -⟩ := HLa.out
      have glt : w.heap.size < wr.heap.size := (Array.getElem?_eq_some_iff.1 hg0).1
      have hg1 := (hb1.block _ glt).trans hg0
      obtain ⟨r1, f1⟩ := rowc hg1
      have z : ∀ q, q < 6 → ∃ u, w1.cell? ⟨w.heap.size, j * 6 + q, none⟩ = some u := fun q hq => ⟨_, (r1 _).trans (Array.getElem?_eq_getElem (by omega))⟩
      obtain ⟨u0, z0⟩ := z 0 (by omega)
      obtain ⟨u1, z1⟩ := z 1 (by omega)
      obtain ⟨u2, z2⟩ := z 2 (by omega)
      obtain ⟨u3, z3⟩ := z 3 (by omega)
      obtain ⟨u4, z4⟩ := z 4 (by omega)
      obtain ⟨u5, z5⟩ := z 5 (by omega)
      rw [Nat.add_zero] at z0
      clear hb1 hg0 hg1 hs0 r1 z hown hbm hlm hmg hsl p0 p1 p2 p3 p4 p5
      go_wp2_with (fail)
      go_roundg (L - j)
      case rel =>
        refine ⟨j + 1, by go_num, by omega, by omega, HLa.out.step HB1.out HKJ.out HRF.out HX.out HC.out HM.out HMM.out HN.out HO.out HBM.out HLM.out HSL.out hlt (fun arr hg => ?_) (fun b hb => ?_) (by simp only [set_size]), ?_⟩
        · exact set_heap (set_heap (set_heap (set_heap (set_heap (set_heap hg _ _) _ _) _ _) _ _) _ _) _ _
        · simp only [set_other hb]
        · have hB := bs HB.out HB1.out
          iterate 6 refine Below.setCell ?_ (by first | (simp; done) | (simp; omega)) _
          exact hB
      case measure => omega
    · obtain rfl : j = L := by omega
      go_wp2_with (fail)
      go_ret
      exact ⟨_, ow, Nat.le_refl _, rfl, HLa.out, HB.out⟩

/-- The laws' copy of a heap. -/
def HpQ (w : World) (bl : List Bk) (e : Ending) (w' : World) : Prop := ∃ g ow, w.heap.size ≤ g ∧ e = .returned (hpV (some ⟨g, 0, none⟩) bl.length bl.length) ∧ LaidB w' g w'.heap.size bl.length (fun i => i < bl.length) ow bl ∧ Below w.heap.size w w'

set_option maxRecDepth 100000 in
set_option maxHeartbeats 1600000 in
theorem toHeap (bl : List Bk) (hT : bl.length + totB bl ≤ 1048576) (A : Option Addr) (c : Nat) (w : World) (S : Nat → Prop) (h : HIn w S bl A) :
    Calls Tryz.prog 46 #[hpV A bl.length c] w (HpQ w bl) := by
  have Z : Hid (∀ w', Below w.heap.size w w' → Calls Tryz.prog 119 #[.slice A bl.length c] w' (BlsQ w' bl)) := Lib.hid (fun w' hb => cpBlocks bl hT A c w' S (h.below hb))
  unfold BlsQ at Z
  unfold HpQ
  obtain ⟨L, HL⟩ : ∃ L, Hid (bl.length = L) := ⟨_, Lib.hid rfl⟩
  rw [HL.out] at Z ⊢
  clear h hT
  go_enter Tryz.func46, Tryz.ntmps46
  go_wp2_with (fail)
  obtain ⟨P, HP⟩ : ∃ P, Hid (w.heap.size = P) := ⟨_, Lib.hid rfl⟩
  rw [HP.out]
  generalize hw0 : ((w.alloc (.cells #[.slice A L c] LH)).alloc (.cells #[.slice none 0 0] IH)).alloc (.cells #[.slice none 0 0] IH) = w0
  obtain ⟨a0, a1, a2, az, ab⟩ := al3t w _ _ _ _ _ _ w0 hw0
  rw [HP.out] at a0 a1 a2 az
  have HB0 := Lib.hid ab
  refine (Z.out _ ab).mono ?_
  rintro e w1 ⟨g, ow, hg, rfl, hla, hb1⟩
  have H1 := Lib.hid (carry hb1 a1)
  have H2 := Lib.hid (carry hb1 a2)
  have HB1 := Lib.hid (bs HB0.out hb1)
  have HLa := Lib.hid hla
  have HG : Hid (P + 3 ≤ g) := Lib.hid (by rw [← az]; exact hg)
  obtain ⟨r1, f1⟩ := rowc H1.out
  obtain ⟨r2, f2⟩ := rowc H2.out
  clear hw0 a0 a1 a2 az ab hb1 Z hla hg
  go_wp2_with (fail)
  generalize hwF : World.setCell (World.setCell w1 _ _) _ _ = wF
  have hoth : ∀ q, q ≠ P + 1 → q ≠ P + 1 + 1 → wF.heap[q]? = w1.heap[q]? := fun q h1 h2 => by rw [← hwF, set_other h1, set_other h2]
  have e1 : wF.heap[P + 1]? = some (.cells #[.slice (some ⟨g, 0, none⟩) L L] IH (0, 0)) := by
    have hne : P + 1 ≠ P + 1 + 1 := by omega
    have h0 : (w1.setCell ⟨P + 1 + 1, 0, none⟩ (.slice (some ⟨g, 0, none⟩) L L)).heap[P + 1]? = some (.cells #[.slice none 0 0] IH (0, 0)) := by rw [set_other hne]; exact H1.out
    have := set_heap h0 0 (.slice (some ⟨g, 0, none⟩) L L)
    rw [← hwF]
    simpa using this
  have hBF : Below w.heap.size w wF := by
    rw [← hwF]
    refine Below.setCell ?_ (show w.heap.size ≤ P + 1 by rw [HP.out]; omega) _
    refine Below.setCell ?_ (show w.heap.size ≤ P + 1 + 1 by rw [HP.out]; omega) _
    exact HB1.out
  have hzF : wF.heap.size = w1.heap.size := by rw [← hwF, set_size, set_size]
  have rF := (rowc e1).1
  clear hwF r1 f1 r2 f2
  refine bodyPost_ret (v := hpV (some ⟨g, 0, none⟩) L L) (by simp [results, Tryz.results46, go_sem, rF]) rfl ⟨g, ow, by rw [HP.out]; have := HG.out; omega, rfl, ?_, hBF⟩
  rw [hzF]
  exact HLa.out.same fun b hb _ _ => hoth b (by have := HG.out; omega) (by have := HG.out; omega)

end Go.Proofs.YtbgffmiffmmohaaGreatDoor.tree

