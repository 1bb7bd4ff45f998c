/-
  What the texts behind this one use: 7 parts of one proof.
  Conditions: those that each theorem names.
-/
import Derived.Test.YtbgffmiffmmohaaDoorIhB2
import Derived.Test.YtbgffmiffmmohaaDoorIhSValidS
import Derived.Test.YtbgffmiffmmohaaDoorIhB1
import Derived.WalkKit
import Derived.ProofKit
import Derived.IntWalk
import Derived.BigQuiet
import Derived.Deep.QuietTactic
import Derived.WalkLawsBesides
import Derived.Deep.LoopGhost
import Derived.Test.YtbgffmiffmmohaaDoorIhSTreeCp
import Derived.Test.YtbgffmiffmmohaaDoorIhSTreeEq
/-
  IsHeld of the project and of the model.
  Conditions: the value's texts and lists fit in memory; the package variables of the library's reading of numbers hold what the program's text lays.
-/
namespace Go.Proofs.YtbgffmiffmmohaaDoor.tree
open Go.ChangeShapes Go.WideShapes Go.ChangeAt Go.RowKit
set_option linter.unusedVariables false

/-- Whether a number is the index of a live block. -/
def liveH (bl : List Bk) (n : Int) : Bool := match bl[n.toNat]? with
  | some k => decide (0 ≤ n) && decide (0 < k.refs)
  | none => false
def heldB (bl : List Bk) : Tr → Bool
  | .mk k n s x ks vs => if k = 5 then (decide (s.size = 0) && (decide (x = 0) && decide (vs.length = 0))) && liveH bl n else !decide (k = 4) && sndB (.mk k n s x ks vs)
theorem held_five (bl : List Bk) (n : Int) (s : ByteArray) (x : Int) (ks : List Ky) (vs : List Tr) : heldB bl (.mk 5 n s x ks vs) = ((decide (s.size = 0) && (decide (x = 0) && decide (vs.length = 0))) && liveH bl n) := by rw [heldB, if_pos rfl]
theorem held_not {bl : List Bk} {k n : Int} {s : ByteArray} {x : Int} {ks : List Ky} {vs : List Tr} (h : k ≠ 5) : heldB bl (.mk k n s x ks vs) = (!decide (k = 4) && sndB (.mk k n s x ks vs)) := by rw [heldB, if_neg h]
theorem live_neg {bl : List Bk} {n : Int} (h : n < 0) : liveH bl n = false := by
  unfold liveH
  split
  · rw [show decide (0 ≤ n) = false from decide_eq_false (by omega)]; rfl
  · rfl
theorem live_far {bl : List Bk} {j : Nat} (h : bl.length ≤ j) : liveH bl (j : Int) = false := by
  unfold liveH
  rw [Int.toNat_natCast, List.getElem?_eq_none h]
theorem live_at {bl : List Bk} {j : Nat} {k : Bk} (h : bl[j]? = some k) : liveH bl (j : Int) = decide (0 < k.refs) := by
  unfold liveH
  rw [Int.toNat_natCast, h]
  simp
theorem inr_j (n : Int) (L : Nat) : nums.inr n 0 ((L : Int) - 1) = decide (0 ≤ n ∧ n < L) := by
  unfold nums.inr
  by_cases h1 : 0 ≤ n <;> by_cases h2 : n < L <;> simp [h1, h2] <;> omega
theorem snd_light {k n : Int} {s : ByteArray} {x : Int} {ks : List Ky} {vs : List Tr} (h4 : k ≠ 4) : valB (.mk k n s x ks vs) = sndB (.mk k n s x ks vs) := by
  unfold valB
  cases hs : sndB (.mk k n s x ks vs) with
  | false => simp
  | true =>
    rw [snd_not h4] at hs
    unfold restB at hs
    have hv : vs.length = 0 := by simp at hs; simpa using hs.1.2.2
    obtain rfl : vs = [] := List.length_eq_zero_iff.1 hv
    simp [lightB, wgt, wgts]

abbrev IH' : TypeId := 50
theorem isIndex_b (n : Int) (A : Option Addr) (L c : Nat) (hL : L ≤ maxLen) (q : Bool) (hq : decide (0 ≤ n ∧ n < L) = q) (w : World) : Calls Tryd.prog 42 #[.slice A L c, .int .i64 n] w fun e w' => e = .returned (.bool q) ∧ w = w' := by
  have IR := inRange_i n 0 ((L : Int) - 1) q (by rw [inr_j]; exact hq)
  unfold maxLen at hL
  clear hq
  go_enter Tryd.func42, Tryd.ntmps42
  go_wp2_with (fail)
  refine (IR _).mono ?_
  rintro e w1 ⟨rfl, rfl⟩
  go_wp2_with (fail)
  go_ret
  exact ⟨rfl, rfl⟩

set_option maxHeartbeats 1600000 in
set_option maxRecDepth 100000 in
theorem isHeld_i (bl : List Bk) (t : Tr) (A : Option Addr) (c : Nat) (v : Value) (w : World) (S S' : Nat → Prop) (hH : HIn w S bl A) (hm : bl.length ≤ 1048576) (h : TIn w S' t v) (hN : tot t ≤ 281474976710656) (hE : prs.Env w) :
    Calls Tryd.prog 17 #[hpV A bl.length c, v] w (BoQ w (heldB bl t)) := by
  have IV := Lib.hid (fun w' (hb : Below w.heap.size w w') => isValue_i t hN w' _ v (hE.stays hb) (h.below' hb))
  have HH := Lib.hid (fun w' (hb : Below w.heap.size w w') => hH.below hb)
  obtain ⟨L, HL⟩ : ∃ L, Hid (bl.length = L) := ⟨_, Lib.hid rfl⟩
  obtain ⟨k, n, s, x, ks, vs⟩ := t
  obtain ⟨A1, c1, rfl, ⟨-, -, -, hs⟩, -⟩ := h.out
  obtain ⟨L1, HL1⟩ : ∃ L, Hid (vs.length = L) := ⟨_, Lib.hid rfl⟩
  have hl1 : L1 ≤ 9223372036854775807 := by rw [← HL1.out]; have := h.cap; unfold maxLen at this; omega
  rw [HL.out] at hm ⊢
  rw [HL1.out] at IV ⊢
  clear h hN hE hH
  by_cases h5 : k = 5
  · subst h5
    rw [held_five, HL1.out]
    clear IV
    by_cases h0 : s.size = 0
    · obtain rfl := empty_of h0
      rw [decide_eq_true h0]
      by_cases hx : x = 0
      · subst hx
        by_cases hl : L1 = 0
        · subst hl
          obtain ⟨q, HQ⟩ : ∃ q, Hid (decide (0 ≤ n ∧ n < L) = q) := ⟨_, Lib.hid rfl⟩
          have IX := isIndex_b n A L c (by unfold maxLen; omega) q HQ.out
          cases q with
          | false =>
            have e : liveH bl n = false := by
              have h1 := of_decide_eq_false HQ.out
              by_cases hn : n < 0
              · exact live_neg hn
              · obtain ⟨j, rfl⟩ : ∃ j : Nat, n = j := ⟨n.toNat, by omega⟩
                exact live_far (by rw [HL.out]; omega)
            rw [e]
            clear HQ e
            go_enter Tryd.func17, Tryd.ntmps17
            go_wp2_with (fail)
            refine (IX _).mono ?_
            rintro e w1 ⟨rfl, rfl⟩
            go_wp2_with (fail)
            go_ret
            exact ⟨rfl, tree.b2 _ _ _⟩
          | true =>
            obtain ⟨h1, h2⟩ := of_decide_eq_true HQ.out
            obtain ⟨j, rfl⟩ : ∃ j : Nat, n = j := ⟨n.toNat, by omega⟩
            have hj : j < L := by omega
            obtain ⟨b, hb⟩ : ∃ b, bl[j]? = some b := ⟨_, List.getElem?_eq_getElem (by rw [HL.out]; exact hj)⟩
            rw [live_at hb]
            obtain ⟨a, A', n', c', B, m', d, rfl, -, -, -, hc⟩ := HH.out _ (tree.b2 w (.cells #[.slice A L c] IH') (.cells #[.int .i64 5, .int .i64 j, .string ⟨#[]⟩, .int .i64 0, .slice A1 0 c1] IV)) j b hb
            obtain ⟨rf, hs', l, sl, x', ct⟩ := b
            have p0 := hc.c0
            simp only at p0
            clear hc hb HH HQ h1 h2
            go_enter Tryd.func17, Tryd.ntmps17
            go_wp2_with (fail)
            refine (IX _).mono ?_
            rintro e w1 ⟨rfl, rfl⟩
            go_wp2_with (fail)
            go_ret
            exact ⟨by simp, tree.b2 _ _ _⟩
        · rw [show decide (L1 = 0) = false from decide_eq_false hl]
          have hl' : ((L1 : Int) == 0) = false := by simp; omega
          go_enter Tryd.func17, Tryd.ntmps17
          go_wp2_with (fail)
          go_ret
          exact ⟨rfl, tree.b2 _ _ _⟩
      · rw [show decide (x = 0) = false from decide_eq_false hx]
        go_enter Tryd.func17, Tryd.ntmps17
        go_wp2_with (fail)
        go_ret
        exact ⟨rfl, tree.b2 _ _ _⟩
    · obtain ⟨l1, l2⟩ := list_of h0
      rw [show decide (s.size = 0) = false from decide_eq_false h0]
      clear h0
      go_enter Tryd.func17, Tryd.ntmps17
      go_wp2_with (fail)
      go_ret
      exact ⟨rfl, tree.b2 _ _ _⟩
  · rw [held_not h5]
    by_cases h4 : k = 4
    · subst h4
      rw [show (!decide ((4 : Int) = 4) && sndB (.mk 4 n s x ks vs)) = false by simp]
      go_enter Tryd.func17, Tryd.ntmps17
      go_wp2_with (fail)
      go_ret
      exact ⟨rfl, tree.b2 _ _ _⟩
    · rw [show (!decide (k = 4)) = true by simp [h4], Bool.true_and, ← snd_light h4]
      obtain ⟨q, HQ⟩ : ∃ q, Hid (valB (.mk k n s x ks vs) = q) := ⟨_, Lib.hid rfl⟩
      rw [HQ.out] at IV ⊢
      have h4' : (k != 4) = true := by simp [h4]
      clear HQ
      cases q
      all_goals
        go_enter Tryd.func17, Tryd.ntmps17
        go_wp2_with (fail)
        refine (IV.out _ (tree.b2 _ _ _)).mono ?_
        rintro e w1 ⟨rfl, hb1⟩
        have HB := Lib.hid (bs (tree.b2 w _ _) hb1)
        clear hb1
        go_wp2_with (fail)
        go_ret
        exact ⟨rfl, HB.out⟩

theorem two_old (w : World) (o0 o1 : Array Value) {t0 t1 : TypeId} {w1 : World} (hb : Below ((w.alloc (.cells o0 t0)).alloc (.cells o1 t1)).heap.size ((w.alloc (.cells o0 t0)).alloc (.cells o1 t1)) w1) : w1.heap[w.heap.size]? = some (.cells o0 t0 (0, 0)) ∧ w1.heap[w.heap.size + 1]? = some (.cells o1 t1 (0, 0)) :=
  ⟨carry hb (heap_alloc2_old w _ _), carry hb (heap_alloc2_new w _ _)⟩
/-- Whether a value of the kind of handles has nothing but its number. -/
def bareB (s : ByteArray) (x : Int) (L : Nat) : Bool := decide (s.size = 0) && (decide (x = 0) && decide (L = 0))
theorem handle_s (n : Int) (s : ByteArray) (x : Int) (A : Option Addr) (L c : Nat) (hs : s.size ≤ maxLen) (hl : L ≤ maxLen) (w : World) :
    Calls Tryd.prog 38 #[vV 5 n s x A L c] w (BoQ w (bareB s x L)) := by
  unfold maxLen at hs hl
  unfold bareB
  by_cases h0 : s.size = 0
  · obtain rfl := empty_of h0
    rw [decide_eq_true h0]
    by_cases hx : x = 0
    · subst hx
      by_cases hl : L = 0
      · subst hl
        go_enter Tryd.func38, Tryd.ntmps38
        go_wp2_with (fail)
        go_ret
        exact ⟨rfl, b1 _ _⟩
      · rw [show decide (L = 0) = false from decide_eq_false hl]
        have hl' : ((L : Int) == 0) = false := by simp; omega
        go_enter Tryd.func38, Tryd.ntmps38
        go_wp2_with (fail)
        go_ret
        exact ⟨rfl, b1 _ _⟩
    · rw [show decide (x = 0) = false from decide_eq_false hx]
      go_enter Tryd.func38, Tryd.ntmps38
      go_wp2_with (fail)
      go_ret
      exact ⟨rfl, b1 _ _⟩
  · obtain ⟨l1, l2⟩ := list_of h0
    rw [show decide (s.size = 0) = false from decide_eq_false h0]
    clear h0
    go_enter Tryd.func38, Tryd.ntmps38
    go_wp2_with (fail)
    go_ret
    exact ⟨rfl, b1 _ _⟩
theorem inL_s (n : Int) (L : Nat) (q : Bool) (hq : decide (0 ≤ n ∧ n < L) = q) (w : World) : Calls Tryd.prog 39 #[.int .i64 n, .int .i64 0, .int .i64 ((L : Int) - 1)] w fun e w' => e = .returned (.bool q) ∧ w = w' := by
  subst hq
  by_cases h1 : 0 ≤ n
  all_goals
    by_cases h2 : n ≤ (L : Int) - 1
    all_goals
      go_enter Tryd.func39, Tryd.ntmps39
      go_wp2
      go_ret
      refine ⟨?_, rfl⟩
      congr 2
      simp [h1]
      try omega

set_option maxHeartbeats 1600000 in
set_option maxRecDepth 100000 in
theorem isHeld_s (bl : List Bk) (t : Tr) (A : Option Addr) (c : Nat) (v : Value) (w : World) (S S' : Nat → Prop) (hH : HIn w S bl A) (hm : bl.length ≤ 1048576) (h : TIn w S' t v) (hN : tot t ≤ 281474976710656) (hE : prs.Env w) :
    Calls Tryd.prog 14 #[hpV A bl.length c, v] w (BoQ w (heldB bl t)) := by
  have IV := Lib.hid (fun w' (hb : Below w.heap.size w w') => valid_s t hN w' _ v (hE.stays hb) (h.below' hb))
  have HH := Lib.hid (fun w' (hb : Below w.heap.size w w') => hH.below hb)
  obtain ⟨L, HL⟩ : ∃ L, Hid (bl.length = L) := ⟨_, Lib.hid rfl⟩
  obtain ⟨k, n, s, x, ks, vs⟩ := t
  obtain ⟨A1, c1, rfl, ⟨-, -, -, hs⟩, -⟩ := h.out
  obtain ⟨L1, HL1⟩ : ∃ L, Hid (vs.length = L) := ⟨_, Lib.hid rfl⟩
  have hl1 : L1 ≤ maxLen := by rw [← HL1.out]; have := h.cap; omega
  rw [HL.out] at hm ⊢
  rw [HL1.out] at IV ⊢
  clear h hN hE hH
  by_cases h5 : k = 5
  · subst h5
    rw [held_five, HL1.out]
    clear IV
    have HA := fun w => handle_s n s x A1 L1 c1 hs hl1 w
    obtain ⟨p, HP⟩ : ∃ p, Hid (bareB s x L1 = p) := ⟨_, Lib.hid rfl⟩
    have HPP := HP.out
    unfold bareB at HPP
    rw [HPP]
    rw [HP.out] at HA
    clear hs hl1 HPP
    cases p with
    | false =>
      rw [Bool.false_and]
      go_enter Tryd.func14, Tryd.ntmps14
      go_wp2_with (fail)
      refine (HA _).mono ?_
      rintro e w1 ⟨rfl, hb1⟩
      have HB := Lib.hid (bs (tree.b2 w _ _) hb1)
      clear hb1
      go_wp2_with (fail)
      go_ret
      exact ⟨rfl, HB.out⟩
    | true =>
      rw [Bool.true_and]
      obtain ⟨q, HQ⟩ : ∃ q, Hid (decide (0 ≤ n ∧ n < L) = q) := ⟨_, Lib.hid rfl⟩
      have IX := inL_s n L q HQ.out
      cases q with
      | false =>
        have e : liveH bl n = false := by
          have h1 := of_decide_eq_false HQ.out
          by_cases hn : n < 0
          · exact live_neg hn
          · obtain ⟨j, rfl⟩ : ∃ j : Nat, n = j := ⟨n.toNat, by omega⟩
            exact live_far (by rw [HL.out]; omega)
        rw [e]
        clear HQ e
        go_enter Tryd.func14, Tryd.ntmps14
        go_wp2_with (fail)
        refine (HA _).mono ?_
        rintro e w1 ⟨rfl, hb1⟩
        have HB := Lib.hid (bs (tree.b2 w _ _) hb1)
        obtain ⟨y0, y1⟩ := two_old w _ _ hb1
        have q0 := (rowc y0).1 0
        have q1 := (rowc y1).1 1
        simp at q0 q1
        clear hb1 y0 y1
        go_wp2_with (fail)
        refine (IX _).mono ?_
        rintro e w2 ⟨rfl, rfl⟩
        go_wp2_with (fail)
        go_ret
        exact ⟨rfl, HB.out⟩
      | true =>
        obtain ⟨h1, h2⟩ := of_decide_eq_true HQ.out
        obtain ⟨j, rfl⟩ : ∃ j : Nat, n = j := ⟨n.toNat, by omega⟩
        have hj : j < L := by omega
        obtain ⟨b, hb⟩ : ∃ b, bl[j]? = some b := ⟨_, List.getElem?_eq_getElem (by rw [HL.out]; exact hj)⟩
        rw [live_at hb]
        have HBB := Lib.hid hb
        clear HQ h1 h2 hb
        go_enter Tryd.func14, Tryd.ntmps14
        go_wp2_with (fail)
        refine (HA _).mono ?_
        rintro e w1 ⟨rfl, hb1⟩
        have HB := Lib.hid (bs (tree.b2 w _ _) hb1)
        obtain ⟨y0, y1⟩ := two_old w _ _ hb1
        have q0 := (rowc y0).1 0
        have q1 := (rowc y1).1 1
        simp at q0 q1
        obtain ⟨a, A', n', c', B, m', d, rfl, -, -, -, hc⟩ := HH.out _ HB.out j b HBB.out
        obtain ⟨rf, hs', l, sl, x', ct⟩ := b
        have p0 := hc.c0
        simp only at p0
        clear hb1 y0 y1 hc HH
        go_wp2_with (fail)
        refine (IX _).mono ?_
        rintro e w2 ⟨rfl, rfl⟩
        go_wp2_with (fail)
        go_ret
        exact ⟨by simp, HB.out⟩
  · rw [held_not h5]
    by_cases h4 : k = 4
    · subst h4
      rw [show (!decide ((4 : Int) = 4) && sndB (.mk 4 n s x ks vs)) = false by simp]
      go_enter Tryd.func14, Tryd.ntmps14
      go_wp2_with (fail)
      go_ret
      exact ⟨rfl, tree.b2 _ _ _⟩
    · rw [show (!decide (k = 4)) = true by simp [h4], Bool.true_and]
      obtain ⟨q, HQ⟩ : ∃ q, Hid (sndB (.mk k n s x ks vs) = q) := ⟨_, Lib.hid rfl⟩
      rw [HQ.out] at IV ⊢
      have h4' : (k != 4) = true := by simp [h4]
      clear HQ
      cases q
      all_goals
        go_enter Tryd.func14, Tryd.ntmps14
        go_wp2_with (fail)
        refine (IV.out _ (tree.b2 _ _ _)).mono ?_
        rintro e w1 ⟨rfl, hb1⟩
        have HB := Lib.hid (bs (tree.b2 w _ _) hb1)
        clear hb1
        go_wp2_with (fail)
        go_ret
        exact ⟨rfl, HB.out⟩

end Go.Proofs.YtbgffmiffmmohaaDoor.tree

/-
  What the law's helpers on slices of integers return: a copy, and the test of two.
  Conditions: the slices have at most 2^44 integers.
-/
namespace Go.Proofs.YtbgffmiffmmohaaDoor.ints
open Go.ChangeShapes Go.WideShapes Go.ChangeAt Go.RowKit mem imem
set_option linter.unusedVariables false

/-- A new slice of integers that reads as l. -/
def MadeI (w : World) (l : List Int) (e : Ending) (w' : World) : Prop := ∃ A n c, e = .returned (.slice A n c) ∧ OwnI w' w.heap.size A n c l ∧ w.grownBy w' none

theorem toInts (A : Option Addr) (n c : Nat) (l : List Int) (hn : n ≤ 17592186044416) (w : World) (hA : RdI w A n l) :
    Calls Tryd.prog 101 #[.slice A n c] w (MadeI w l) := by
  have hl := hA.len
  obtain ⟨i0, hi, hz0, hz1, hz2⟩ := info_parts i64row
  have HA := Lib.hid hA; have HL := Lib.hid hl; have HZ := Lib.hid hz2; clear hA hl hz2
  go_enter Tryd.func101, Tryd.ntmps101
  go_wp2_with (at_make; refine wpList_make_full _ rfl _ _ 77 rfl w.heap.size 3 i0 (.int .i64 0) 1 Tryd.underlying77 hi hz0 hz1 _ _ _ _ n rfl rfl rfl rfl (by have := HZ.out; rw [this]; omega) (by unfold maxLen; omega) (Nat.le_refl _) ?_)
  intro w1 hown hg
  have ho : OwnI w1 w.heap.size (some ⟨w.heap.size, 0, none⟩) n n (List.replicate n 0) := ⟨List.length_replicate, by rw [ics_zero, ← toList_madeCells_one, ← Nat.mul_one n]; simpa using hown⟩
  have HO := Lib.hid ho; have HG := Lib.hid hg; clear ho hown hg
  go_wp2
  go_loopg [4] n (fun gk i wr => ∃ (k : Nat) (m : List Int), i = .int .i64 k ∧ gk + k = n ∧ OwnI wr w.heap.size (some ⟨w.heap.size, 0, none⟩) n n m ∧ Filled l m k ∧ w.grownBy wr none)
  case atStart => exact ⟨0, _, rfl, by omega, HO.out, Filled.start _ _ (by rw [List.length_replicate]; exact HL.out.symm), HG.out⟩
  case round =>
    obtain ⟨k, m, rfl, hk, ho, hf, hg⟩ := hrel
    have hr := HA.out.grown hg (Off.none_ _ _)
    by_cases hlt : k < n
    · obtain ⟨a, v, rfl, hv, hc⟩ := hr.at_ hlt
      obtain ⟨⟨u, hcu⟩, hfu⟩ := ho.cellk hlt
      obtain ⟨ho1, hg1⟩ := ho.set k v
      have hf1 := hf.step hv
      have hgg : w.grownBy (wr.setCell ⟨w.heap.size, k, none⟩ (.int .i64 v)) none := ⟨hg1.os.trans hg.os, hg1.tape.trans hg.tape, hg1.output.trans hg.output, Nat.le_trans hg.size hg1.size, fun j hj hne => (hg1.block j (Nat.lt_of_lt_of_le hj hg.size) (by intro e; injection e with e; omega)).trans (hg.block j hj hne)⟩
      have H1 := Lib.hid ho1; have H2 := Lib.hid hf1; have H3 := Lib.hid hgg; have HK := Lib.hid hk
      clear ho hr hg hf ho1 hg1 hf1 hgg hv hk
      go_wp2
      go_roundg (n - (k + 1))
      case measure => have := HK.out; omega
      case rel => exact ⟨k + 1, _, by go_num, by have := HK.out; omega, H1.out, H2.out, H3.out⟩
    · have hm : m = l := hf.all (by have := HL.out; omega)
      subst hm
      have H1 := Lib.hid ho; have H3 := Lib.hid hg; have HK := Lib.hid hk
      clear ho hr hg hf hk
      go_wp2
      go_ret
      exact ⟨_, _, _, rfl, H1.out, H3.out⟩

/-- A call that answers b and only makes memory. -/
def BoolQ (w : World) (b : Bool) (e : Ending) (w' : World) : Prop := e = .returned (.bool b) ∧ w.grownBy w' none

/-- Two slices that read alike. -/
theorem eqInts (A B : Option Addr) (n c d : Nat) (l : List Int) (hn : n ≤ 17592186044416) (w : World) (hA : RdI w A n l) (hB : RdI w B n l) :
    Calls Tryd.prog 103 #[.slice A n c, .slice B n d] w (BoolQ w true) := by
  have HA := Lib.hid hA; have HB := Lib.hid hB; clear hA hB
  go_enter Tryd.func103, Tryd.ntmps103
  go_wp2
  go_loopg [5] n (fun gk i wr => ∃ (k : Nat), i = .int .i64 k ∧ gk + k = n ∧ w.grownBy wr none)
  case atStart => exact ⟨0, rfl, by omega, World.grownBy.refl _ _⟩
  case round =>
    obtain ⟨k, rfl, hk, hg⟩ := hrel
    by_cases hlt : k < n
    · obtain ⟨a, v, rfl, hv, hc⟩ := (HA.out.grown hg (Off.none_ _ _)).at_ hlt
      obtain ⟨b, v', rfl, hv', hc'⟩ := (HB.out.grown hg (Off.none_ _ _)).at_ hlt
      obtain rfl : v = v' := Option.some.inj (hv.symm.trans hv')
      have HG := Lib.hid hg; have HK := Lib.hid hk
      clear hg hk hv hv'
      go_wp2
      go_quiet (fail)
      go_wp2
      go_roundg (n - (k + 1))
      case measure => have := HK.out; omega
      case rel => exact ⟨k + 1, by go_num, by have := HK.out; omega, grown_draws HG.out _⟩
    · have HG := Lib.hid hg; have HK := Lib.hid hk
      clear hg hk
      go_wp2
      go_ret
      exact ⟨rfl, HG.out⟩

end Go.Proofs.YtbgffmiffmmohaaDoor.ints

/-
  The laws' comparison of two tables that read alike.
  Conditions: those that each theorem names.
-/
namespace Go.Proofs.YtbgffmiffmmohaaDoor.tree
open Go.ChangeShapes Go.WideShapes Go.ChangeAt Go.RowKit
set_option linter.unusedVariables false

theorem eqSlot (y : Ky) (k n : Int) (s : ByteArray) (x : Int) (A A' : Option Addr) (L c c' : Nat) (b : Bool) (l : Int) (w : World)
    (ih : ∀ w' : World, Below w.heap.size w w' → Calls Tryd.prog 19 #[vV k n s x A L c, vV k n s x A' L c'] w' (TrueQ w')) :
    Calls Tryd.prog 110 #[sV y k n s x A L c b l, sV y k n s x A' L c' b l] w (TrueQ w) := by
  obtain ⟨yb, m, ys⟩ := y
  unfold sV
  go_enter Tryd.func110, Tryd.ntmps110
  go_wp2_with (fail)
  refine (eqKey ⟨yb, m, ys⟩ _).mono ?_
  rintro e w1 ⟨rfl, hb1⟩
  obtain ⟨hc, hf⟩ := bcell hb1
  have HB := Lib.hid hb1
  clear hb1
  go_wp2_with (fail)
  refine (ih _ (bs (b2 _ _ _) HB.out)).mono ?_
  rintro e w2 ⟨rfl, hb2⟩
  obtain ⟨hc2, hf2⟩ := bcell (bs HB.out hb2)
  have HB2 := Lib.hid hb2
  clear hb2 hc hf
  go_wp2_with (fail)
  go_ret
  exact ⟨rfl, bs (bs (b2 _ _ _) HB.out) HB2.out⟩

set_option maxRecDepth 100000 in
theorem eqSlots (sl : List Sl) (hm : sl.length ≤ maxLen) (A A' : Option Addr) (c c' : Nat) (w : World) (S S' : Nat → Prop) (h : SIn w S sl A) (h' : SIn w S' sl A') :
    Calls Tryd.prog 104 #[.slice A sl.length c, .slice A' sl.length c'] w (TrueQ w) := by
  obtain ⟨L, HL⟩ : ∃ L, Hid (L = sl.length) := ⟨_, Lib.hid rfl⟩
  rw [← HL.out] at hm ⊢
  unfold maxLen at hm
  have HA := Lib.hid h
  have HA' := Lib.hid h'
  clear h h'
  go_enter Tryd.func104, Tryd.ntmps104
  go_wp2_with (fail)
  go_loopg [5] (L + 1) (fun gk i wr => ∃ j : Nat, i = .int .i64 j ∧ gk + j = L + 1 ∧ j ≤ L ∧ Below w.heap.size w wr)
  case atStart => exact ⟨0, rfl, by omega, by omega, Below.refl _ _⟩
  case round =>
    obtain ⟨j, rfl, hgj, hjL, hb⟩ := hrel
    have HB := Lib.hid hb
    clear hb
    by_cases hlt : j < L
    · obtain ⟨t, ht⟩ : ∃ t, sl[j]? = some t := ⟨_, List.getElem?_eq_getElem (by rw [← HL.out]; exact hlt)⟩
      obtain ⟨a, k, n, s, x, ks', vs', A1, c1, rfl, -, hk, hl, hv, hT, hcell⟩ := HA.out.below HB.out j t ht
      obtain ⟨a', k', n', s', x', ks2, vs2, A2, c2, rfl, -, -, -, hv', hT', hcell'⟩ := HA'.out.below HB.out j t ht
      obtain ⟨y, tv, lb, ll⟩ := t
      simp only at hk hl hv hT hcell hv' hT' hcell'
      subst hv
      obtain ⟨rfl, rfl, rfl, rfl, rfl, rfl⟩ : k = k' ∧ n = n' ∧ s = s' ∧ x = x' ∧ ks' = ks2 ∧ vs' = vs2 := by simpa using hv'
      have ihj : ∀ w', Below wr.heap.size wr w' → Calls Tryd.prog 19 #[vV k n s x A1 vs'.length c1, vV k n s x A2 vs'.length c2] w' (TrueQ w') := fun w' hb' => eqV _ w' S S' _ _ (hT.below' hb') (hT'.below' hb')
      clear ht hT hT' hv' hk hl
      obtain ⟨p0, p1, p2, p3, p4, p5, p6, p7, p8, p9⟩ := hcell
      obtain ⟨q0, q1, q2, q3, q4, q5, q6, q7, q8, q9⟩ := hcell'
      go_wp2_with (fail)
      go_region_with ((go_at_call 110; refine (eqSlot y k n s x A1 A2 vs'.length c1 c2 lb ll _ ?_).mono ?_; exact fun w' hb' => ihj w' (((Below.refl wr.heap.size wr).drew).trans hb'); rintro e w1 ⟨rfl, hb1⟩; have HB1 := Lib.hid hb1; clear hb1))
      all_goals
        go_wp2_with (fail)
        go_roundg (L - j)
        case rel => exact ⟨j + 1, by go_num, by omega, by omega, bs (bs HB.out ((Below.refl _ _).drew)) HB1.out⟩
        case measure => omega
    · go_wp2_with (fail)
      go_ret
      exact ⟨rfl, HB.out⟩

/-- Two tables that read alike are equal. -/
theorem eqTable {l : List Int} {sl : List Sl} {b : Bool} {A A' : Option Addr} {n c c' : Nat} {B B' : Option Addr} {m d d' : Nat} {x k : Int} {w : World} {S S' : Nat → Prop} (h : TbIn w S l sl A n c B m d x k) (h' : TbIn w S' l sl A' n c' B' m d' x k) (hn : n ≤ 17592186044416) :
    Calls Tryd.prog 90 #[tbV b A n c B m d x k, tbV b A' n c' B' m d' x k] w (TrueQ w) := by
  obtain ⟨hh, -, rfl, hcap, hS, -, -⟩ := h
  obtain ⟨hh', -, -, hcap', hS', -, -⟩ := h'
  have Z1 := fun w' (hb : Below w.heap.size w w') => ints.eqInts A A' n c c' l hn w' (hh.below hb) (hh'.below hb)
  have Z2 := fun w' (hb : Below w.heap.size w w') => eqSlots sl (Nat.le_trans hcap.1 hcap.2) B B' d d' w' S S' (hS.below hb) (hS'.below hb)
  obtain ⟨m, HM⟩ : ∃ m, Hid (sl.length = m) := ⟨_, Lib.hid rfl⟩
  rw [HM.out] at Z2 ⊢
  have HZ1 := Lib.hid Z1
  have HZ2 := Lib.hid Z2
  clear Z1 Z2 hh hh' hcap hcap' hS hS' hn
  go_enter Tryd.func90, Tryd.ntmps90
  go_wp2_with (fail)
  refine (HZ1.out _ (b2 _ _ _)).mono ?_
  rintro e w1 ⟨rfl, hg1⟩
  have hb1 := mem.below_of_none hg1
  obtain ⟨hc, hf⟩ := bcell hb1
  have HB := Lib.hid (bs (b2 w _ _) hb1)
  clear hg1
  have HB1 := Lib.hid hb1
  clear hb1
  go_wp2_with (fail)
  refine (HZ2.out _ HB.out).mono ?_
  rintro e w2 ⟨rfl, hb2⟩
  obtain ⟨hc2, hf2⟩ := bcell (bs HB1.out hb2)
  have HB2 := Lib.hid (bs HB.out hb2)
  clear hb2 hc hf
  go_wp2_with (fail)
  go_ret
  exact ⟨rfl, HB2.out⟩

end Go.Proofs.YtbgffmiffmmohaaDoor.tree

/-
  The laws' comparison of two heaps that read alike.
  Conditions: those that each theorem names.
-/
namespace Go.Proofs.YtbgffmiffmmohaaDoor.tree
open Go.ChangeShapes Go.WideShapes Go.ChangeAt Go.RowKit
set_option linter.unusedVariables false

set_option maxRecDepth 100000 in
theorem eqBlock {l : List Int} {sl : List Sl} (rf : Int) (b : Bool) {A A' : Option Addr} {n c c' : Nat} {B B' : Option Addr} {m d d' : Nat} {x k : Int} {w : World} {S S' : Nat → Prop} (h : TbIn w S l sl A n c B m d x k) (h' : TbIn w S' l sl A' n c' B' m d' x k) (hn : n ≤ 17592186044416) (w1 : World) (hb : Below w.heap.size w w1) :
    Calls Tryd.prog 71 #[bkV rf b A n c B m d x k, bkV rf b A' n c' B' m d' x k] w1 (TrueQ w1) := by
  have Z := Lib.hid (fun w' (hb : Below w.heap.size w w') => eqTable (b := b) (h.below hb) (h'.below hb) hn)
  have HB0 := Lib.hid hb
  clear h h' hn hb
  go_enter Tryd.func71, Tryd.ntmps71
  go_wp2_with (fail)
  refine (Z.out _ (bs HB0.out (b2 w1 _ _))).mono ?_
  rintro e w2 ⟨rfl, hb2⟩
  have HB := Lib.hid (bs (b2 w1 _ _) hb2)
  clear hb2
  go_wp2_with (fail)
  go_ret
  exact ⟨rfl, HB.out⟩

set_option maxHeartbeats 1600000 in
set_option maxRecDepth 100000 in
theorem eqBlocks (bl : List Bk) (hm : bl.length ≤ maxLen) (hh : ∀ k ∈ bl, k.heads.length ≤ 17592186044416) (A A' : Option Addr) (c c' : Nat) (w : World) (S S' : Nat → Prop) (h : HIn w S bl A) (h' : HIn w S' bl A') :
    Calls Tryd.prog 43 #[.slice A bl.length c, .slice A' bl.length c'] w (TrueQ w) := by
  obtain ⟨L, HL⟩ : ∃ L, Hid (L = bl.length) := ⟨_, Lib.hid rfl⟩
  rw [← HL.out] at hm ⊢
  unfold maxLen at hm
  have HA := Lib.hid h
  have HA' := Lib.hid h'
  have HHN := Lib.hid hh
  clear h h' hh
  go_enter Tryd.func43, Tryd.ntmps43
  go_wp2_with (fail)
  go_loopg [5] (L + 1) (fun gk i wr => ∃ j : Nat, i = .int .i64 j ∧ gk + j = L + 1 ∧ j ≤ L ∧ Below w.heap.size w wr)
  case atStart => exact ⟨0, rfl, by omega, by omega, Below.refl _ _⟩
  case round =>
    obtain ⟨j, rfl, hgj, hjL, hb⟩ := hrel
    have HB := Lib.hid hb
    clear hb
    by_cases hlt : j < L
    · obtain ⟨k, hk⟩ : ∃ k, bl[j]? = some k := ⟨_, List.getElem?_eq_getElem (by rw [← HL.out]; exact hlt)⟩
      have hhn := HHN.out k (List.mem_of_getElem? hk)
      obtain ⟨a, A1, n, c1, B1, m, d1, rfl, -, -, hT, hcell⟩ := HA.out.below HB.out j k hk
      obtain ⟨a', A2, n2, c2, B2, m2, d2, rfl, -, -, hT', hcell'⟩ := HA'.out.below HB.out j k hk
      obtain rfl : n = n2 := by rw [← hT.heads.len, ← hT'.heads.len]
      obtain rfl : m = m2 := by rw [← hT.len, ← hT'.len]
      rw [hT.heads.len] at hhn
      obtain ⟨rf, hs, l, sl, x, ct⟩ := k
      simp only at hT hcell hT' hcell'
      have Z : Hid (∀ w', Below wr.heap.size wr w' → Calls Tryd.prog 71 #[bkV rf hs A1 n c1 B1 m d1 x ct, bkV rf hs A2 n c2 B2 m d2 x ct] w' (TrueQ w')) := Lib.hid (fun w' hb' => eqBlock rf hs hT hT' hhn w' hb')
      obtain ⟨p0, p1, p2, p3, p4, p5⟩ := hcell
      obtain ⟨q0, q1, q2, q3, q4, q5⟩ := hcell'
      clear hk hT hT' hhn
      go_wp2_with (fail)
      go_region_with ((go_at_call 71; refine (Z.out _ ?_).mono ?_; exact ((Below.refl wr.heap.size wr).drew); rintro e w1 ⟨rfl, hb1⟩; have HB1 := Lib.hid hb1; clear hb1))
      all_goals
        go_wp2_with (fail)
        go_roundg (L - j)
        case rel => exact ⟨j + 1, by go_num, by omega, by omega, bs (bs HB.out ((Below.refl _ _).drew)) HB1.out⟩
        case measure => omega
    · go_wp2_with (fail)
      go_ret
      exact ⟨rfl, HB.out⟩

/-- Two heaps that read alike are equal. -/
theorem eqHeap (bl : List Bk) (hm : bl.length ≤ maxLen) (hh : ∀ k ∈ bl, k.heads.length ≤ 17592186044416) (A A' : Option Addr) (c c' : Nat) (w : World) (S S' : Nat → Prop) (h : HIn w S bl A) (h' : HIn w S' bl A') :
    Calls Tryd.prog 18 #[hpV A bl.length c, hpV A' bl.length c'] w (TrueQ w) := by
  have Z : Hid (∀ w', Below w.heap.size w w' → Calls Tryd.prog 43 #[.slice A bl.length c, .slice A' bl.length c'] w' (TrueQ w')) := Lib.hid (fun w' hb => eqBlocks bl hm hh A A' c c' w' S S' (h.below hb) (h'.below hb))
  obtain ⟨L, HL⟩ : ∃ L, Hid (bl.length = L) := ⟨_, Lib.hid rfl⟩
  rw [HL.out] at Z ⊢
  clear h h' hm hh
  go_enter Tryd.func18, Tryd.ntmps18
  go_wp2_with (fail)
  refine (Z.out _ (by first | exact b2 w _ _ | exact Below.refl _ _)).mono ?_
  rintro e w1 ⟨rfl, hb1⟩
  have HB : Hid (Below w.heap.size w w1) := Lib.hid (by first | exact hb1 | exact bs (b2 w _ _) hb1)
  clear hb1
  go_wp2_with (fail)
  go_ret
  exact ⟨rfl, HB.out⟩

end Go.Proofs.YtbgffmiffmmohaaDoor.tree

/-
  The live slots of a table, as lists.
  Conditions: none.
-/
namespace Go.Proofs.YtbgffmiffmmohaaDoor.tree
open Go.ChangeShapes Go.WideShapes Go.ChangeAt Go.RowKit
set_option linter.unusedVariables false

abbrev IT : TypeId := 80
/-- The live slots. -/
def liv (sl : List Sl) : List Sl := sl.filter (fun t => t.live)
def livK (sl : List Sl) : List Ky := (liv sl).map (fun t => t.key)
def livV (sl : List Sl) : List Tr := (liv sl).map (fun t => t.val)
/-- The array that a table stands for. -/
def tvT (x : Int) (sl : List Sl) : Tr := .mk 4 0 ⟨#[]⟩ x (livK sl) (livV sl)
theorem liv_take {sl : List Sl} {j : Nat} {t : Sl} (h : sl[j]? = some t) : liv (sl.take (j + 1)) = liv (sl.take j) ++ (if t.live then [t] else []) := by
  unfold liv
  rw [List.take_add_one, h, List.filter_append]
  cases ht : t.live <;> simp [ht]
theorem liv_len (sl : List Sl) : (liv sl).length ≤ sl.length := List.length_filter_le _ _


end Go.Proofs.YtbgffmiffmmohaaDoor.tree

/-
  The laws' copies of a slot: in new memory.
  Conditions: those that each theorem names.
-/
namespace Go.Proofs.YtbgffmiffmmohaaDoor.tree
open Go.ChangeShapes Go.WideShapes Go.ChangeAt Go.RowKit
set_option linter.unusedVariables false

def slV (y : Ky) (v : Value) (b : Bool) (l : Int) : Value := .agg (#[.bool y.text, .int .i64 y.num, .string y.str] ++ v.cells ++ #[.bool b, .int .i64 l])
def SlCpQ (w : World) (y : Ky) (t : Tr) (b : Bool) (l : Int) (e : Ending) (w' : World) : Prop := ∃ v, e = .returned (slV y v b l) ∧ TIn w' (Nw w.heap.size w') t v ∧ Below w.heap.size w w'

set_option maxRecDepth 100000 in
set_option maxHeartbeats 1600000 in
theorem cpSlot (y : Ky) (t : Tr) (k n : Int) (s : ByteArray) (x : Int) (A : Option Addr) (L c : Nat) (b : Bool) (l : Int) (w : World)
    (ih : ∀ w' : World, Below w.heap.size w w' → Calls Tryd.prog 16 #[vV k n s x A L c] w' (CpQ w' t)) :
    Calls Tryd.prog 109 #[sV y k n s x A L c b l] w (SlCpQ w y t b l) := by
  obtain ⟨yb, m, ys⟩ := y
  have K := toKey ⟨yb, m, ys⟩
  unfold sV
  go_enter Tryd.func109, Tryd.ntmps109
  go_wp2_with (fail)
  refine (K _).mono ?_
  rintro e w1 ⟨rfl, hb1⟩
  obtain ⟨a0, a1, a2, az, ab⟩ := al3 w _ _ _ _ _ _
  have e0 := (hb1.block _ (by rw [az]; omega)).trans a0
  have e1 := (hb1.block _ (by rw [az]; omega)).trans a1
  have e2 := (hb1.block _ (by rw [az]; omega)).trans a2
  have hz : w.heap.size + 2 < w1.heap.size := by have := hb1.size; rw [az] at this; omega
  have E0 := Lib.hid e0
  have E1 := Lib.hid e1
  have E2 := Lib.hid e2
  have HB := Lib.hid (bs ab hb1)
  obtain ⟨r0, _⟩ := rowc e0
  obtain ⟨r2, f2⟩ := rowc e2
  clear hb1 a0 a1 a2 az ab e0 e1 e2
  unfold kyV
  go_wp2_with (fail)
  refine (ih _ ?_).mono ?_
  · exact ((HB.out.setCell (by simp; omega) _).setCell (by simp; omega) _).setCell (by simp; omega) _
  rintro e w2 ⟨v, rfl, hv, hb2⟩
  obtain ⟨k', n', s', x', ks', vs'⟩ := t
  obtain ⟨A', c', rfl, -, -⟩ := hv.out
  have s0 := (hb2.block w.heap.size (by simp []; omega)).trans ((set_other (by omega)).trans ((set_other (by omega)).trans ((set_other (by omega)).trans E0.out)))
  have s1 := (hb2.block (w.heap.size + 1) (by simp []; omega)).trans ((set_other (by omega)).trans ((set_other (by omega)).trans ((set_other (by omega)).trans E1.out)))
  have s2 := (hb2.block (w.heap.size + 1 + 1) (by simp []; omega)).trans (set_heap (set_heap (set_heap E2.out 0 _) 1 _) 2 _)
  have hz2 : w.heap.size + 2 < w2.heap.size := by have := hb2.size; simp [] at this; omega
  have HB2 := Lib.hid hb2
  have HV := Lib.hid hv
  obtain ⟨q0, g0⟩ := rowc s0
  obtain ⟨r3, f3⟩ := rowc s1
  obtain ⟨r4, f4⟩ := rowc s2
  clear hb2 hv r0 r2 f2 s0 s1 s2
  go_wp2_with (fail)
  refine bodyPost_ret (v := sV ⟨yb, m, ys⟩ k' n' s' x' A' vs'.length c' b l) (by simp [results, Tryd.results109, go_sem, r3]) rfl ⟨vV k' n' s' x' A' vs'.length c', rfl, ?_, ?_⟩
  · refine HV.out.nw (by simp []; omega) fun q hq hlt => ?_
    have q1 : q ≠ w.heap.size + 1 := by simp [] at hq; omega
    have q2 : q ≠ w.heap.size + 1 + 1 := by simp [] at hq; omega
    simp only [set_other q1, set_other q2]
  · have hB := bs (((HB.out.setCell (p := ⟨w.heap.size + 1 + 1, 0, none⟩) (by simp; omega) (.bool yb)).setCell (p := ⟨w.heap.size + 1 + 1, 1, none⟩) (by simp; omega) (.int .i64 m)).setCell (p := ⟨w.heap.size + 1 + 1, 2, none⟩) (by simp; omega) (.string ys)) HB2.out
    iterate 17 refine Below.setCell ?_ (by first | (simp; done) | (simp; omega)) _
    exact hB

abbrev IS : TypeId := 166
/-- Ten cells in a row. -/
def set10 (arr : Array Value) (o : Nat) (c0 c1 c2 c3 c4 c5 c6 c7 c8 c9 : Value) : Array Value := ((set8 arr o c0 c1 c2 c3 c4 c5 c6 c7).setIfInBounds (o + 8) c8).setIfInBounds (o + 9) c9
theorem set10_size (arr : Array Value) (o : Nat) (c0 c1 c2 c3 c4 c5 c6 c7 c8 c9 : Value) : (set10 arr o c0 c1 c2 c3 c4 c5 c6 c7 c8 c9).size = arr.size := by simp [set10, set8_size]
theorem set10_out (arr : Array Value) (o : Nat) (c0 c1 c2 c3 c4 c5 c6 c7 c8 c9 : Value) (p : Nat) (h : p < o ∨ o + 10 ≤ p) : (set10 arr o c0 c1 c2 c3 c4 c5 c6 c7 c8 c9)[p]? = arr[p]? := by
  unfold set10
  rw [Array.getElem?_setIfInBounds_ne (by omega), Array.getElem?_setIfInBounds_ne (by omega), set8_out _ _ _ _ _ _ _ _ _ _ _ (by omega)]
theorem set10_in (arr : Array Value) (o : Nat) (c0 c1 c2 c3 c4 c5 c6 c7 c8 c9 : Value) (h : o + 10 ≤ arr.size) (q : Nat) (hq : q < 10) : (set10 arr o c0 c1 c2 c3 c4 c5 c6 c7 c8 c9)[o + q]? = (#[c0, c1, c2, c3, c4, c5, c6, c7, c8, c9] : Array Value)[q]? := by
  unfold set10
  by_cases h8 : q < 8
  · rw [Array.getElem?_setIfInBounds_ne (by omega), Array.getElem?_setIfInBounds_ne (by omega), set8_in _ _ _ _ _ _ _ _ _ _ (by omega) q h8]
    match q, h8 with
    | 0, _ => rfl
    | 1, _ => rfl
    | 2, _ => rfl
    | 3, _ => rfl
    | 4, _ => rfl
    | 5, _ => rfl
    | 6, _ => rfl
    | 7, _ => rfl
  · by_cases h9 : q = 8
    · subst h9
      rw [Array.getElem?_setIfInBounds_ne (by omega), Array.getElem?_setIfInBounds_self_of_lt (by rw [set8_size]; omega)]; rfl
    · obtain rfl : q = 9 := by omega
      rw [Array.getElem?_setIfInBounds_self_of_lt (by rw [Array.size_setIfInBounds, set8_size]; omega)]; rfl

/-- The first j slots of a row of L are laid. -/
def LaidS (w : World) (g L j : Nat) (sl : List Sl) : Prop :=
  ∃ arr, w.heap[g]? = some (.cells arr IS (0, 0)) ∧ arr.size = L * 10 ∧ ∀ i t, sl[i]? = some t → i < j → ∃ k n s x ks vs A c, t.val = .mk k n s x ks vs ∧ TIn w (Nw (g + 1) w) t.val (vV k n s x A vs.length c) ∧
    (I64 t.key.num ∧ t.key.str.size ≤ maxLen) ∧ I64 t.link ∧ ∀ q, q < 10 → arr[i * 10 + q]? = (#[.bool t.key.text, .int .i64 t.key.num, .string t.key.str, .int .i64 k, .int .i64 n, .string s, .int .i64 x, .slice A vs.length c, .bool t.live, .int .i64 t.link] : Array Value)[q]?

theorem LaidS.done {w : World} {g L : Nat} {sl : List Sl} (h : LaidS w g L L sl) (hL : sl.length = L) : SIn w (Nw g w) sl (some ⟨g, 0, none⟩) := fun i t ht => by
  obtain ⟨arr, hg, hs, hi'⟩ := h
  have hil := (List.getElem?_eq_some_iff.1 ht).1
  obtain ⟨k, n, s, x, ks, vs, A, c, e, hT, hk, hl, hc⟩ := hi' i t ht (by omega)
  have at_ : ∀ q, q < 10 → w.cell? ⟨g, i * 10 + q, none⟩ = _ := fun q hq => (cell_of_row w g _ arr IS _ hg).trans (hc q hq)
  refine ⟨⟨g, 0, none⟩, k, n, s, x, ks, vs, A, c, rfl, ⟨Nat.le_refl _, arr, IS, hg⟩, hk, hl, e, hT.stays (fun b hb => ⟨by have := hb.1; omega, hb.2⟩) (fun _ _ _ => rfl), ?_⟩
  rw [Addr.add_lit, Nat.zero_add]
  exact ⟨at_ 0 (by omega), at_ 1 (by omega), at_ 2 (by omega), at_ 3 (by omega), at_ 4 (by omega), at_ 5 (by omega), at_ 6 (by omega), at_ 7 (by omega), at_ 8 (by omega), at_ 9 (by omega)⟩

theorem LaidS.step {w w1 w2 : World} {g L j : Nat} {sl : List Sl} (h : LaidS w g L j sl) (hb : Below w.heap.size w w1) {y : Ky} {tv : Tr} {lb : Bool} {ll : Int} {k n x : Int} {s : ByteArray} {ks' : List Ky} {vs' : List Tr} {A : Option Addr} {c : Nat}
    (ht : sl[j]? = some ⟨y, tv, lb, ll⟩) (hv : tv = .mk k n s x ks' vs') (hti : TIn w1 (Nw w.heap.size w1) tv (vV k n s x A vs'.length c)) (hyb : I64 y.num ∧ y.str.size ≤ maxLen) (hl : I64 ll) (hj : j < L)
    (hg : ∀ arr, w1.heap[g]? = some (.cells arr IS (0, 0)) → w2.heap[g]? = some (.cells (set10 arr (j * 10) (.bool y.text) (.int .i64 y.num) (.string y.str) (.int .i64 k) (.int .i64 n) (.string s) (.int .i64 x) (.slice A vs'.length c) (.bool lb) (.int .i64 ll)) IS (0, 0)))
    (ho : ∀ b, b ≠ g → w2.heap[b]? = w1.heap[b]?) : LaidS w2 g L (j + 1) sl := by
  obtain ⟨arr, hg0, hs, h⟩ := h
  have glt : g < w.heap.size := (Array.getElem?_eq_some_iff.1 hg0).1
  have hg1 := (hb.block g glt).trans hg0
  refine ⟨_, hg arr hg1, by rw [set10_size, hs], fun i t hit hij => ?_⟩
  by_cases e : i = j
  · subst e
    rw [ht] at hit
    obtain rfl := Option.some.inj hit
    refine ⟨k, n, s, x, ks', vs', A, c, hv, hti.nw (by omega) (fun b hb1 _ => ho b (by omega)), hyb, hl, fun q hq => ?_⟩
    rw [set10_in _ _ _ _ _ _ _ _ _ _ _ _ (by omega) q hq]
  · obtain ⟨k', n', s', x', ks2, vs2, A', c', hv', hti', hyb', hl', hc'⟩ := h i t hit (by omega)
    refine ⟨k', n', s', x', ks2, vs2, A', c', hv', hti'.nw (Nat.le_refl _) (fun b hb1 hlt => (ho b (by omega)).trans (hb.block b hlt)), hyb', hl', fun q hq => ?_⟩
    rw [set10_out _ _ _ _ _ _ _ _ _ _ _ _ _ (by omega)]
    exact hc' q hq

theorem is_info : ∃ i, Tryd.prog.info? IS = some i ∧ (i.zero = some (.agg #[.bool false, .int .i64 0, .string ⟨#[]⟩, .int .i64 0, .int .i64 0, .string ⟨#[]⟩, .int .i64 0, .slice none 0 0, .bool false, .int .i64 0]) ∧ i.size = 10 ∧ i.bytes = 112) := by
  have : (Tryd.prog.info? IS).map (fun i => (i.zero, i.size, i.bytes)) = some (some (.agg #[.bool false, .int .i64 0, .string ⟨#[]⟩, .int .i64 0, .int .i64 0, .string ⟨#[]⟩, .int .i64 0, .slice none 0 0, .bool false, .int .i64 0]), 10, 112) := by kernel_rfl
  cases hq : Tryd.prog.info? IS with
  | none => rw [hq] at this; cases this
  | some i => rw [hq] at this; simp at this; exact ⟨i, rfl, this⟩
/-- Copies of slots: in a new block. -/
def SlsQ (w : World) (sl : List Sl) (e : Ending) (w' : World) : Prop := ∃ g, w.heap.size = g ∧ e = .returned (.slice (some ⟨g, 0, none⟩) sl.length sl.length) ∧ SIn w' (Nw w.heap.size w') sl (some ⟨g, 0, none⟩) ∧ Below w.heap.size w w'
theorem totS_mem : ∀ {sl : List Sl} {j : Nat} {t : Sl}, sl[j]? = some t → tot t.val ≤ totS sl
  | [], j, _, h => by simp at h
  | t0 :: sl, 0, t, h => by
    obtain rfl : t0 = t := by simpa using h
    rw [totS]; omega
  | t0 :: sl, j + 1, t, h => by
    have := totS_mem (sl := sl) (j := j) (t := t) (by simpa using h)
    rw [totS]; omega

set_option maxRecDepth 100000 in
set_option maxHeartbeats 1600000 in
theorem cpSlots (sl : List Sl) (hT : sl.length + totS sl ≤ 1048576) (A : Option Addr) (c : Nat) (w : World) (S : Nat → Prop) (h : SIn w S sl A) :
    Calls Tryd.prog 102 #[.slice A sl.length c] w (SlsQ w sl) := by
  obtain ⟨L, HL⟩ : ∃ L, Hid (L = sl.length) := ⟨_, Lib.hid rfl⟩
  have hm : L ≤ 1048576 := by rw [HL.out]; omega
  obtain ⟨i0, hi, hz⟩ := is_info
  have hmk := run_make (P := Tryd.prog) w 78 IS i0 _ Tryd.underlying78 hi hz.1 .i64 .i64 L L (by omega) (Int.le_refl _) (by rw [hz.2.2]; omega) (by omega)
  rw [hz.2.1] at hmk
  simp only [Int.toNat_natCast] at hmk
  have HA0 := Lib.hid h
  have HTT := Lib.hid hT
  clear hi hz h hT
  unfold SlsQ
  rw [← HL.out]
  obtain ⟨arr0, HA⟩ : ∃ a, Hid (a = madeCells (Value.agg #[.bool false, .int .i64 0, .string ⟨#[]⟩, .int .i64 0, .int .i64 0, .string ⟨#[]⟩, .int .i64 0, .slice none 0 0, .bool false, .int .i64 0]).cells (L * 10)) := ⟨_, Lib.hid rfl⟩
  rw [← HA.out] at hmk
  go_enter Tryd.func102, Tryd.ntmps102
  go_wp2_with (fail)
  clear hmk
  go_loopg [4] (L + 1) (fun gk i wr => ∃ j : Nat, i = .int .i64 j ∧ gk + j = L + 1 ∧ j ≤ L ∧ LaidS wr w.heap.size L j sl ∧ Below w.heap.size w wr)
  case atStart => exact ⟨0, rfl, by omega, by omega, ⟨arr0, heap_alloc_new _ _, by rw [HA.out, madeSize], fun i t _ hi => absurd hi (by omega)⟩, b1 _ _⟩
  case round =>
    obtain ⟨j, rfl, hgj, hjL, hla, hb⟩ := hrel
    have HB := Lib.hid hb
    have HLa := Lib.hid hla
    clear hb hla
    by_cases hlt : j < L
    · obtain ⟨t, ht⟩ : ∃ t, sl[j]? = some t := ⟨_, List.getElem?_eq_getElem (by rw [← HL.out]; exact hlt)⟩
      obtain ⟨a, k, n, s, x, ks', vs', A1, c1, rfl, -, hk, hl, hv, hT, hcell⟩ := HA0.out.below HB.out j t ht
      have htj := totS_mem ht
      obtain ⟨y, tv, lb, ll⟩ := t
      simp only at hk hl hv hT hcell htj
      have ihj : ∀ w', Below wr.heap.size wr w' → Calls Tryd.prog 16 #[vV k n s x A1 vs'.length c1] w' (CpQ w' tv) := fun w' hb' => cps tv (by have := HTT.out; omega) w' S _ (hT.below' hb')
      subst hv
      have HTJ := Lib.hid ht
      have HKK := Lib.hid hk
      have HLL := Lib.hid hl
      clear ht hT htj hk hl
      obtain ⟨p0, p1, p2, p3, p4, p5, p6, p7, p8, p9⟩ := hcell
      go_wp2_with (fail)
      refine (cpSlot y _ k n s x A1 vs'.length c1 lb ll _ ihj).mono ?_
      rintro e w1 ⟨v, rfl, hv, hb1⟩
      obtain ⟨A2, c2, rfl, -, -⟩ := hv.out
      have HV := Lib.hid hv
      have HB1 := Lib.hid hb1
      obtain ⟨arr, hg0, hs, -⟩ := HLa.out
      have glt : w.heap.size < wr.heap.size := (Array.getElem?_eq_some_iff.1 hg0).1
      have hg1 := (hb1.block _ glt).trans hg0
      obtain ⟨r1, f1⟩ := rowc hg1
      have z : ∀ q, q < 10 → ∃ u, w1.cell? ⟨w.heap.size, j * 10 + q, none⟩ = some u := fun q hq => ⟨_, (r1 _).trans (Array.getElem?_eq_getElem (by omega))⟩
      obtain ⟨u0, z0⟩ := z 0 (by omega)
      obtain ⟨u1, z1⟩ := z 1 (by omega)
      obtain ⟨u2, z2⟩ := z 2 (by omega)
      obtain ⟨u3, z3⟩ := z 3 (by omega)
      obtain ⟨u4, z4⟩ := z 4 (by omega)
      obtain ⟨u5, z5⟩ := z 5 (by omega)
      obtain ⟨u6, z6⟩ := z 6 (by omega)
      obtain ⟨u7, z7⟩ := z 7 (by omega)
      obtain ⟨u8, z8⟩ := z 8 (by omega)
      obtain ⟨u9, z9⟩ := z 9 (by omega)
      rw [Nat.add_zero] at z0
      clear hv hb1 hg0 hg1 hs r1 z
      have eS : slV y (vV k n s x A2 vs'.length c2) lb ll = .agg #[.bool y.text, .int .i64 y.num, .string y.str, .int .i64 k, .int .i64 n, .string s, .int .i64 x, .slice A2 vs'.length c2, .bool lb, .int .i64 ll] := rfl
      rw [eS]
      clear eS
      go_wp2_with (fail)
      go_roundg (L - j)
      case rel =>
        refine ⟨j + 1, by go_num, by omega, by omega, HLa.out.step HB1.out HTJ.out rfl HV.out HKK.out HLL.out hlt (fun arr hg => ?_) (fun b hb => ?_), ?_⟩
        · exact set_heap (set_heap (set_heap (set_heap (set_heap (set_heap (set_heap (set_heap (set_heap (set_heap hg _ _) _ _) _ _) _ _) _ _) _ _) _ _) _ _) _ _) _ _
        · simp only [set_other hb]
        · have hB := bs HB.out HB1.out
          iterate 10 refine Below.setCell ?_ (by first | (simp; done) | (simp; omega)) _
          exact hB
      case measure => omega
    · obtain rfl : j = L := by omega
      go_wp2_with (fail)
      go_ret
      exact ⟨_, rfl, rfl, HLa.out.done HL.out.symm, HB.out⟩

end Go.Proofs.YtbgffmiffmmohaaDoor.tree

/-
  A value without items; a call that gives back a value and writes nothing that was there.
  Conditions: those that each theorem names.
-/
namespace Go.Proofs.YtbgffmiffmmohaaDoor.tree
open Go.ChangeShapes Go.WideShapes Go.ChangeAt Go.RowKit
set_option linter.unusedVariables false

theorem IsIn.nil (w : World) (S : Nat → Prop) (A : Option Addr) : IsIn w S [] [] A := ⟨rfl, by simp, fun _ => #[], fun i hi => absurd hi (by simp), fun i hi => absurd hi (by simp)⟩
/-- A value with no items. -/
theorem flat {k n x : Int} {s : ByteArray} (hk : I64 k ∧ I64 n ∧ I64 x ∧ s.size ≤ maxLen) (w : World) (S : Nat → Prop) (A : Option Addr) (c : Nat) (hc : c ≤ maxLen) : TIn w S (.mk k n s x [] []) (vV k n s x A 0 c) := TIn.of c hk (IsIn.nil w S A) ⟨Nat.zero_le _, hc⟩

def GivesQ (w : World) (v : Value) (e : Ending) (w' : World) : Prop := e = .returned v ∧ Below w.heap.size w w'

end Go.Proofs.YtbgffmiffmmohaaDoor.tree

