/-
  Where a key stands first in a value, of the project and of the model.
  Conditions: those that each theorem names.
-/
import Derived.Test.YtclnbfndkcpopaaDoorPos
namespace Go.Proofs.YtclnbfndkcpopaaDoor.tree
open Go.ChangeShapes Go.WideShapes Go.ChangeAt Go.RowKit
set_option linter.unusedVariables false

/-- Where the key stands first in the value, -1 if nowhere. -/
def posV : Tr → Ky → Int
  | .mk k _ _ _ ks _, y => if k = 4 then pos ks y 0 else -1
theorem posV_four (n : Int) (s : ByteArray) (x : Int) (ks : List Ky) (vs : List Tr) (y : Ky) : posV (.mk 4 n s x ks vs) y = pos ks y 0 := by rw [posV, if_pos rfl]
theorem posV_not {k n : Int} {s : ByteArray} {x : Int} {ks : List Ky} {vs : List Tr} (h : k ≠ 4) (y : Ky) : posV (.mk k n s x ks vs) y = -1 := by rw [posV, if_neg h]
theorem pos_lt : ∀ (ks : List Ky) (y : Ky) (i : Nat), pos ks y i < (i : Int) + ks.length
  | [], y, i => by simp [pos]; omega
  | z :: ks, y, i => by
    have := pos_lt ks y (i + 1)
    rw [pos]
    split
    · simp; omega
    · push_cast at *; simp; omega
theorem pos_ge : ∀ (ks : List Ky) (y : Ky) (i : Nat), pos ks y i = -1 ∨ (i : Int) ≤ pos ks y i
  | [], y, i => .inl rfl
  | z :: ks, y, i => by
    rw [pos]
    split
    · exact .inr (Int.le_refl _)
    · rcases pos_ge ks y (i + 1) with h | h
      · exact .inl h
      · exact .inr (by push_cast at h; omega)
/-- It is no place, or one among the items. -/
theorem posV_cases (k n : Int) (s : ByteArray) (x : Int) (ks : List Ky) (vs : List Tr) (y : Ky) : posV (.mk k n s x ks vs) y = -1 ∨ ∃ i : Nat, posV (.mk k n s x ks vs) y = i ∧ i < ks.length ∧ k = 4 := by
  by_cases h4 : k = 4
  · subst h4
    rw [posV_four]
    rcases pos_ge ks y 0 with h | h
    · exact .inl h
    · have := pos_lt ks y 0
      exact .inr ⟨(pos ks y 0).toNat, by omega, by omega, rfl⟩
  · exact .inl (posV_not h4 y)

set_option maxHeartbeats 800000 in
theorem findKey_i (t : Tr) (v : Value) (y : Ky) (w : World) (S : Nat → Prop) (h : TIn w S t v) : Calls Tryd.prog 21 #[v, kyV y] w (LtQ w (posV t y)) := by
  obtain ⟨k, n, s, x, ks, vs⟩ := t
  obtain ⟨A, c, rfl, -, hin⟩ := h.out
  clear h
  obtain ⟨L, HL⟩ : ∃ L, Hid (L = vs.length) := ⟨_, Lib.hid rfl⟩
  have hm : L ≤ maxLen := by rw [HL.out]; exact hin.2.1
  have hkl : Hid (ks.length = L) := Lib.hid (by rw [HL.out]; exact hin.1)
  unfold maxLen at hm
  rw [← HL.out]
  have HI := Lib.hid hin
  clear hin
  by_cases h4 : k = 4
  · subst h4
    rw [posV_four]
    obtain ⟨W, HW⟩ : ∃ W, Hid (pos ks y 0 = W) := ⟨_, Lib.hid rfl⟩
    rw [HW.out]
    obtain ⟨yb, yn, ys⟩ := y
    unfold kyV
    go_enter Tryd.func21, Tryd.ntmps21
    go_wp2_with (fail)
    go_loopg [13] (L + 1) (fun gk i wr => ∃ j : Nat, i = .int .i64 j ∧ gk + j = L + 1 ∧ j ≤ L ∧ Hid (pos (ks.drop j) ⟨yb, yn, ys⟩ j = W) ∧
      Hid (wr.heap[w.heap.size + 1]? = some (.cells #[.bool yb, .int .i64 yn, .string ys] IK (0, 0))) ∧ Below w.heap.size w wr)
    case atStart => exact ⟨0, rfl, by omega, by omega, Lib.hid HW.out, Lib.hid (heap_alloc2_new w _ _), b2 _ _ _⟩
    case round =>
      obtain ⟨j, rfl, hgj, hjL, HQ, HE', hb⟩ := hrel
      have HB := Lib.hid hb
      clear hb
      by_cases hlt : j < L
      · obtain ⟨a, y1, k1, n1, s1, x1, ks1, vs1, A1, c1, rfl, hS, hky, hvs, ht, hyb, hkb, hin1, hcell⟩ := (HI.out.below HB.out).item (i := j) (by rw [← HL.out]; exact hlt)
        have HD := Lib.hid ((pos_drop (y := ⟨yb, yn, ys⟩) hky).symm.trans HQ.out)
        obtain ⟨b, HBB⟩ : ∃ b, Hid (decide (y1 = ⟨yb, yn, ys⟩) = b) := ⟨_, Lib.hid rfl⟩
        have NE := fun w => ky_eql w y1 ⟨yb, yn, ys⟩
        rw [HBB.out] at NE
        unfold kyV at NE
        simp only at NE
        have r1 : ∀ o q, (wr.alloc o).cell? ⟨w.heap.size + 1, q, none⟩ = _ := fun o q => (rowc (keepAlloc HE'.out)).1 q
        clear hky hvs ht hyb hkb hin1 hS
        obtain ⟨p0, p1, p2, p3, p4, p5, p6, p7⟩ := hcell
        cases b with
        | true =>
          have e : W = (j : Int) := by rw [← HD.out, if_pos (of_decide_eq_true HBB.out)]
          go_wp2_with (fail)
          go_ret
          exact ⟨by first | rfl | (rw [e]; rfl), bs HB.out (b1 _ _)⟩
        | false =>
          have HF : Hid (pos (ks.drop (j + 1)) ⟨yb, yn, ys⟩ (j + 1) = W) := Lib.hid (by have := HD.out; rw [if_neg (of_decide_eq_false HBB.out)] at this; exact this)
          go_wp2_with (fail)
          go_roundg (L - j)
          case rel => exact ⟨j + 1, by go_num, by omega, by omega, HF, Lib.hid (keepAlloc HE'.out), bs HB.out (b1 _ _)⟩
          case measure => omega
      · obtain rfl : j = L := by omega
        have e : W = -1 := by rw [← HQ.out, show ks.drop j = [] from List.drop_eq_nil_of_le (Nat.le_of_eq hkl.out)]; rfl
        go_wp2_with (fail)
        go_ret
        exact ⟨by first | rfl | (rw [e]; rfl), HB.out⟩
  · rw [posV_not h4]
    unfold kyV
    go_enter Tryd.func21, Tryd.ntmps21
    go_wp2_with (fail)
    go_ret
    exact ⟨rfl, b2 _ _ _⟩

set_option maxHeartbeats 800000 in
theorem findV_s (t : Tr) (v : Value) (y : Ky) (w : World) (S : Nat → Prop) (h : TIn w S t v) : Calls Tryd.prog 100 #[v, kyV y] w (LtQ w (posV t y)) := by
  obtain ⟨k, n, s, x, ks, vs⟩ := t
  obtain ⟨A, c, rfl, -, hin⟩ := h.out
  by_cases h4 : k = 4
  · subst h4
    rw [posV_four]
    exact find_s n s x ks vs A c y w S hin
  · rw [posV_not h4]
    have hm : vs.length ≤ maxLen := hin.2.1
    generalize vs.length = L at *
    clear h hin
    unfold kyV
    go_enter Tryd.func100, Tryd.ntmps100
    go_wp2_with (fail)
    go_loopg [5] 1 (fun gk i wr => i = .int .i64 0 ∧ gk = 1 ∧ wr = ((w.alloc (.cells #[.int .i64 k, .int .i64 n, .string s, .int .i64 x, .slice A L c] IV)).alloc (.cells #[.bool y.text, .int .i64 y.num, .string y.str] IK)))
    case atStart => exact ⟨rfl, rfl, rfl⟩
    case round =>
      obtain ⟨rfl, rfl, rfl⟩ := hrel
      go_wp2_with (fail)
      go_ret
      exact ⟨rfl, b2 _ _ _⟩

end Go.Proofs.YtclnbfndkcpopaaDoor.tree
