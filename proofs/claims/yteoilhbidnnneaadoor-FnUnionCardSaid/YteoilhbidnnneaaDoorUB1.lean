/-
  What the texts behind this one use: 19 parts of one proof.
  Conditions: those that each theorem names.
-/
import Derived.Test.YteoilhbidnnneaaDoorOB2
import Derived.Deep.RegionHeld3
import Derived.Deep.CutBlock
import Derived.Deep.DeepCutAuto
import Derived.Deep.LoopGhost
import Derived.BigQuiet
import Derived.Deep.QuietTactic
import Derived.Test.YteoilhbidnnneaaDoorOSTreeEq
import Derived.Lib.ItoaNum
import Derived.Lib.AtoiAllCases
import Derived.Test.YteoilhbidnnneaaDoorRows
import Derived.Test.YteoilhbidnnneaaDoorShelf
import Derived.WalkKit
import Derived.ProofKit
import Derived.IntWalk
import Derived.Lib.Hide
import Derived.Lib.SmallJoins
import Derived.WalkLawsBesides
import Derived.Test.YteoilhbidnnneaaDoorOB1
import Derived.Lib.IndexBytes
/-
  Where a key stands first among the items, of the model.
  Conditions: those that each theorem names.
-/
namespace Go.Proofs.YteoilhbidnnneaaDoor.tree
open Go.ChangeShapes Go.WideShapes Go.ChangeAt Go.RowKit
set_option linter.unusedVariables false

def LtQ (w : World) (x : Int) (e : Ending) (w' : World) : Prop := e = .returned (.int .i64 x) ∧ Below w.heap.size w w'
def BoQ (w : World) (b : Bool) (e : Ending) (w' : World) : Prop := e = .returned (.bool b) ∧ Below w.heap.size w w'
def pos : List Ky → Ky → Nat → Int
  | [], _, _ => -1
  | z :: ks, y, i => if z = y then i else pos ks y (i + 1)
theorem pos_first : ∀ (ks : List Ky) (y : Ky) (i j : Nat), ks[j]? = some y → (pos ks y i = (i : Int) + j ↔ y ∉ ks.take j)
  | [], y, i, j, h => by simp at h
  | z :: ks, y, i, 0, h => by
    simp at h
    subst h
    simp [pos]
  | z :: ks, y, i, j + 1, h => by
    have ih := pos_first ks y (i + 1) j (by simpa using h)
    rw [pos, List.take_succ_cons, List.mem_cons]
    by_cases hz : z = y
    · subst hz
      simp
      omega
    · rw [if_neg hz]
      rw [show (i : Int) + ((j + 1 : Nat) : Int) = ((i + 1 : Nat) : Int) + (j : Int) by push_cast; omega, ih]
      simp [Ne.symm hz]
theorem pos_bd : ∀ (ks : List Ky) (y : Ky) (i : Nat), -1 ≤ pos ks y i ∧ pos ks y i ≤ i + ks.length
  | [], y, i => by simp [pos]
  | z :: ks, y, i => by
    have := pos_bd ks y (i + 1)
    rw [pos]
    split
    · simp; omega
    · push_cast at *; simp; omega
theorem pos_drop {ks : List Ky} {j : Nat} {z y : Ky} (h : ks[j]? = some z) : pos (ks.drop j) y j = if z = y then (j : Int) else pos (ks.drop (j + 1)) y (j + 1) := by
  obtain ⟨hj, rfl⟩ := List.getElem?_eq_some_iff.1 h
  rw [List.drop_eq_getElem_cons hj, pos]

theorem kdrew_heap (w : World) : ∀ n, (w.drewN n).heap = w.heap
  | 0 => rfl
  | n + 1 => (kdrew_heap w n)
theorem kbelow_drew (w : World) : ∀ n, Below w.heap.size w (w.drewN n)
  | 0 => Below.refl _ _
  | n + 1 => (kbelow_drew w n).drew

def CutF (wr : World) (b : Bool) (N : Nat) (C D : Array Value) (v : Value) (wx : World) : Prop :=
  v = .bool b ∧ Below wr.heap.size wr wx ∧ wx.heap[N]? = some (.cells C IV (0, 0)) ∧ wx.heap[N + 1]? = some (.cells D IK (0, 0))

set_option maxHeartbeats 800000 in
theorem find_s (n : Int) (s : ByteArray) (x : Int) (ks : List Ky) (vs : List Tr) (A : Option Addr) (c : Nat) (y : Ky) (w : World) (S : Nat → Prop) (h : IsIn w S ks vs A) :
    Calls Tryd.prog 58 #[vV 4 n s x A vs.length c, kyV y] w (LtQ w (pos ks y 0)) := by
  obtain ⟨L, HL⟩ : ∃ L, Hid (L = vs.length) := ⟨_, Lib.hid rfl⟩
  have hm : L ≤ maxLen := by rw [HL.out]; exact h.2.1
  have hkl : Hid (ks.length = L) := Lib.hid (by rw [HL.out]; exact h.1)
  unfold maxLen at hm
  rw [← HL.out]
  have HI := Lib.hid h
  clear h
  obtain ⟨W, HW⟩ : ∃ W, Hid (pos ks y 0 = W) := ⟨_, Lib.hid rfl⟩
  rw [HW.out]
  obtain ⟨yb, yn, ys⟩ := y
  unfold kyV
  go_enter Tryd.func58, Tryd.ntmps58
  go_wp2_with (fail)
  go_loopg [5] (L + 1) (fun gk i wr => ∃ j : Nat, i = .int .i64 j ∧ gk + j = L + 1 ∧ j ≤ L ∧ Hid (pos (ks.drop j) ⟨yb, yn, ys⟩ j = W) ∧
    Hid (wr.heap[w.heap.size]? = some (.cells #[.int .i64 4, .int .i64 n, .string s, .int .i64 x, .slice A L c] IV (0, 0))) ∧ Hid (wr.heap[w.heap.size + 1]? = some (.cells #[.bool yb, .int .i64 yn, .string ys] IK (0, 0))) ∧ Below w.heap.size w wr)
  case atStart => exact ⟨0, rfl, by omega, by omega, Lib.hid HW.out, Lib.hid (heap_alloc2_old w _ _), Lib.hid (heap_alloc2_new w _ _), b2 _ _ _⟩
  case round =>
    obtain ⟨j, rfl, hgj, hjL, HQ, HE, HE', hb⟩ := hrel
    have HB := Lib.hid hb
    clear hb
    obtain ⟨r0, -⟩ := rowc HE.out
    obtain ⟨r1, -⟩ := rowc HE'.out
    by_cases hlt : j < L
    · obtain ⟨a, y1, k1, n1, s1, x1, ks1, vs1, A1, c1, rfl, hS, hky, hvs, ht, hyb, hkb, hin1, hcell⟩ := (HI.out.below HB.out).item (i := j) (by rw [← HL.out]; exact hlt)
      have HD := Lib.hid ((pos_drop (y := ⟨yb, yn, ys⟩) hky).symm.trans HQ.out)
      obtain ⟨b, HBB⟩ : ∃ b, Hid (decide (y1 = ⟨yb, yn, ys⟩) = b) := ⟨_, Lib.hid rfl⟩
      have NE := fun w => ky_eql w y1 ⟨yb, yn, ys⟩
      rw [HBB.out] at NE
      unfold kyV at NE
      simp only at NE
      clear hky hvs ht hyb hkb hin1 hS
      obtain ⟨p0, p1, p2, p3, p4, p5, p6, p7⟩ := hcell
      go_upto_region 4 with fail
      go_cut [25] (fun v wx => CutF wr b w.heap.size #[.int .i64 4, .int .i64 n, .string s, .int .i64 x, .slice (some a) L c] #[.bool yb, .int .i64 yn, .string ys] v wx)
      case first =>
        go_quiet ((fail))
        all_goals
          go_wp2_with (fail)
          go_meet
          exact ⟨rfl, kbelow_drew _ _, (kdrew_heap _ _).symm ▸ HE.out, (kdrew_heap _ _).symm ▸ HE'.out⟩
      case rest =>
        obtain ⟨rfl, hbc, hx0, hx1⟩ := hcut
        have HBc := Lib.hid (bs HB.out hbc)
        have HX0 := Lib.hid hx0
        have HX1 := Lib.hid hx1
        clear hbc hx0 hx1 p0 p1 p2 p3 p4 p5 p6 p7 NE
        cases b with
        | true =>
          have e : W = (j : Int) := by rw [← HD.out, if_pos (of_decide_eq_true HBB.out)]
          go_wp2_with (fail)
          go_ret
          exact ⟨by first | rfl | (rw [e]; rfl), HBc.out⟩
        | false =>
          have HF : Hid (pos (ks.drop (j + 1)) ⟨yb, yn, ys⟩ (j + 1) = W) := Lib.hid (by have := HD.out; rw [if_neg (of_decide_eq_false HBB.out)] at this; exact this)
          go_wp2_with (fail)
          go_roundg (L - j)
          case rel => exact ⟨j + 1, by go_num, by omega, by omega, HF, HX0, HX1, HBc.out⟩
          case measure => omega
    · obtain rfl : j = L := by omega
      have e : W = -1 := by rw [← HQ.out, show ks.drop j = [] from List.drop_eq_nil_of_le (Nat.le_of_eq hkl.out)]; rfl
      go_wp2_with (fail)
      go_ret
      exact ⟨by first | rfl | (rw [e]; rfl), HB.out⟩

end Go.Proofs.YteoilhbidnnneaaDoor.tree

/-
  Where a key stands first in a value, of the project and of the model.
  Conditions: those that each theorem names.
-/
namespace Go.Proofs.YteoilhbidnnneaaDoor.tree
open Go.ChangeShapes Go.WideShapes Go.ChangeAt Go.RowKit
set_option linter.unusedVariables false

/-- Where the key stands first in the value, -1 if nowhere. -/
def posV : Tr → Ky → Int
  | .mk k _ _ _ ks _, y => if k = 4 then pos ks y 0 else -1
theorem posV_four (n : Int) (s : ByteArray) (x : Int) (ks : List Ky) (vs : List Tr) (y : Ky) : posV (.mk 4 n s x ks vs) y = pos ks y 0 := by rw [posV, if_pos rfl]
theorem posV_not {k n : Int} {s : ByteArray} {x : Int} {ks : List Ky} {vs : List Tr} (h : k ≠ 4) (y : Ky) : posV (.mk k n s x ks vs) y = -1 := by rw [posV, if_neg h]
theorem pos_lt : ∀ (ks : List Ky) (y : Ky) (i : Nat), pos ks y i < (i : Int) + ks.length
  | [], y, i => by simp [pos]; omega
  | z :: ks, y, i => by
    have := pos_lt ks y (i + 1)
    rw [pos]
    split
    · simp; omega
    · push_cast at *; simp; omega
theorem pos_ge : ∀ (ks : List Ky) (y : Ky) (i : Nat), pos ks y i = -1 ∨ (i : Int) ≤ pos ks y i
  | [], y, i => .inl rfl
  | z :: ks, y, i => by
    rw [pos]
    split
    · exact .inr (Int.le_refl _)
    · rcases pos_ge ks y (i + 1) with h | h
      · exact .inl h
      · exact .inr (by push_cast at h; omega)
/-- It is no place, or one among the items. -/
theorem posV_cases (k n : Int) (s : ByteArray) (x : Int) (ks : List Ky) (vs : List Tr) (y : Ky) : posV (.mk k n s x ks vs) y = -1 ∨ ∃ i : Nat, posV (.mk k n s x ks vs) y = i ∧ i < ks.length ∧ k = 4 := by
  by_cases h4 : k = 4
  · subst h4
    rw [posV_four]
    rcases pos_ge ks y 0 with h | h
    · exact .inl h
    · have := pos_lt ks y 0
      exact .inr ⟨(pos ks y 0).toNat, by omega, by omega, rfl⟩
  · exact .inl (posV_not h4 y)

set_option maxHeartbeats 800000 in
theorem findKey_i (t : Tr) (v : Value) (y : Ky) (w : World) (S : Nat → Prop) (h : TIn w S t v) : Calls Tryd.prog 31 #[v, kyV y] w (LtQ w (posV t y)) := by
  obtain ⟨k, n, s, x, ks, vs⟩ := t
  obtain ⟨A, c, rfl, -, hin⟩ := h.out
  clear h
  obtain ⟨L, HL⟩ : ∃ L, Hid (L = vs.length) := ⟨_, Lib.hid rfl⟩
  have hm : L ≤ maxLen := by rw [HL.out]; exact hin.2.1
  have hkl : Hid (ks.length = L) := Lib.hid (by rw [HL.out]; exact hin.1)
  unfold maxLen at hm
  rw [← HL.out]
  have HI := Lib.hid hin
  clear hin
  by_cases h4 : k = 4
  · subst h4
    rw [posV_four]
    obtain ⟨W, HW⟩ : ∃ W, Hid (pos ks y 0 = W) := ⟨_, Lib.hid rfl⟩
    rw [HW.out]
    obtain ⟨yb, yn, ys⟩ := y
    unfold kyV
    go_enter Tryd.func31, Tryd.ntmps31
    go_wp2_with (fail)
    go_loopg [13] (L + 1) (fun gk i wr => ∃ j : Nat, i = .int .i64 j ∧ gk + j = L + 1 ∧ j ≤ L ∧ Hid (pos (ks.drop j) ⟨yb, yn, ys⟩ j = W) ∧
      Hid (wr.heap[w.heap.size + 1]? = some (.cells #[.bool yb, .int .i64 yn, .string ys] IK (0, 0))) ∧ Below w.heap.size w wr)
    case atStart => exact ⟨0, rfl, by omega, by omega, Lib.hid HW.out, Lib.hid (heap_alloc2_new w _ _), b2 _ _ _⟩
    case round =>
      obtain ⟨j, rfl, hgj, hjL, HQ, HE', hb⟩ := hrel
      have HB := Lib.hid hb
      clear hb
      by_cases hlt : j < L
      · obtain ⟨a, y1, k1, n1, s1, x1, ks1, vs1, A1, c1, rfl, hS, hky, hvs, ht, hyb, hkb, hin1, hcell⟩ := (HI.out.below HB.out).item (i := j) (by rw [← HL.out]; exact hlt)
        have HD := Lib.hid ((pos_drop (y := ⟨yb, yn, ys⟩) hky).symm.trans HQ.out)
        obtain ⟨b, HBB⟩ : ∃ b, Hid (decide (y1 = ⟨yb, yn, ys⟩) = b) := ⟨_, Lib.hid rfl⟩
        have NE := fun w => ky_eql w y1 ⟨yb, yn, ys⟩
        rw [HBB.out] at NE
        unfold kyV at NE
        simp only at NE
        have r1 : ∀ o q, (wr.alloc o).cell? ⟨w.heap.size + 1, q, none⟩ = _ := fun o q => (rowc (keepAlloc HE'.out)).1 q
        clear hky hvs ht hyb hkb hin1 hS
        obtain ⟨p0, p1, p2, p3, p4, p5, p6, p7⟩ := hcell
        cases b with
        | true =>
          have e : W = (j : Int) := by rw [← HD.out, if_pos (of_decide_eq_true HBB.out)]
          go_wp2_with (fail)
          go_ret
          exact ⟨by first | rfl | (rw [e]; rfl), bs HB.out (b1 _ _)⟩
        | false =>
          have HF : Hid (pos (ks.drop (j + 1)) ⟨yb, yn, ys⟩ (j + 1) = W) := Lib.hid (by have := HD.out; rw [if_neg (of_decide_eq_false HBB.out)] at this; exact this)
          go_wp2_with (fail)
          go_roundg (L - j)
          case rel => exact ⟨j + 1, by go_num, by omega, by omega, HF, Lib.hid (keepAlloc HE'.out), bs HB.out (b1 _ _)⟩
          case measure => omega
      · obtain rfl : j = L := by omega
        have e : W = -1 := by rw [← HQ.out, show ks.drop j = [] from List.drop_eq_nil_of_le (Nat.le_of_eq hkl.out)]; rfl
        go_wp2_with (fail)
        go_ret
        exact ⟨by first | rfl | (rw [e]; rfl), HB.out⟩
  · rw [posV_not h4]
    unfold kyV
    go_enter Tryd.func31, Tryd.ntmps31
    go_wp2_with (fail)
    go_ret
    exact ⟨rfl, b2 _ _ _⟩

set_option maxHeartbeats 800000 in
theorem findV_s (t : Tr) (v : Value) (y : Ky) (w : World) (S : Nat → Prop) (h : TIn w S t v) : Calls Tryd.prog 58 #[v, kyV y] w (LtQ w (posV t y)) := by
  obtain ⟨k, n, s, x, ks, vs⟩ := t
  obtain ⟨A, c, rfl, -, hin⟩ := h.out
  by_cases h4 : k = 4
  · subst h4
    rw [posV_four]
    exact find_s n s x ks vs A c y w S hin
  · rw [posV_not h4]
    have hm : vs.length ≤ maxLen := hin.2.1
    generalize vs.length = L at *
    clear h hin
    unfold kyV
    go_enter Tryd.func58, Tryd.ntmps58
    go_wp2_with (fail)
    go_loopg [5] 1 (fun gk i wr => i = .int .i64 0 ∧ gk = 1 ∧ wr = ((w.alloc (.cells #[.int .i64 k, .int .i64 n, .string s, .int .i64 x, .slice A L c] IV)).alloc (.cells #[.bool y.text, .int .i64 y.num, .string y.str] IK)))
    case atStart => exact ⟨rfl, rfl, rfl⟩
    case round =>
      obtain ⟨rfl, rfl, rfl⟩ := hrel
      go_wp2_with (fail)
      go_ret
      exact ⟨rfl, b2 _ _ _⟩

end Go.Proofs.YteoilhbidnnneaaDoor.tree

/-
  The laws' size of a value, and how many values a tree holds.
  Conditions: those that each theorem names.
-/
namespace Go.Proofs.YteoilhbidnnneaaDoor.tree
open Go.ChangeShapes Go.WideShapes Go.ChangeAt Go.RowKit
set_option linter.unusedVariables false

mutual
/-- Letters and items, all that is in a value. -/
def tot : Tr → Nat
  | .mk _ _ s _ ks vs => s.size + (vs.length + tots ks vs)
def tots : List Ky → List Tr → Nat
  | y :: ks, t :: vs => y.str.size + tot t + tots ks vs
  | _, _ => 0
end
mutual
/-- How many values a tree is. -/
def cnt : Tr → Nat
  | .mk _ _ _ _ _ vs => 1 + cnts vs
def cnts : List Tr → Nat
  | [] => 0
  | t :: vs => cnt t + cnts vs
end
mutual
/-- Each item has its key. -/
def fits : Tr → Prop
  | .mk _ _ _ _ ks vs => ks.length = vs.length ∧ fitss vs
def fitss : List Tr → Prop
  | [] => True
  | t :: vs => fits t ∧ fitss vs
end
theorem tots_cons (y : Ky) (ks : List Ky) (t : Tr) (vs : List Tr) : tots (y :: ks) (t :: vs) = y.str.size + tot t + tots ks vs := by rw [tots]
theorem tots_drop {ks : List Ky} {vs : List Tr} {j : Nat} {y : Ky} {t : Tr} (hk : ks[j]? = some y) (hv : vs[j]? = some t) : tots (ks.drop j) (vs.drop j) = y.str.size + tot t + tots (ks.drop (j + 1)) (vs.drop (j + 1)) := by
  obtain ⟨hj, rfl⟩ := List.getElem?_eq_some_iff.1 hk
  obtain ⟨hj', rfl⟩ := List.getElem?_eq_some_iff.1 hv
  rw [List.drop_eq_getElem_cons hj, List.drop_eq_getElem_cons hj', tots_cons]
theorem fitss_of : ∀ {vs : List Tr}, (∀ t ∈ vs, fits t) → fitss vs
  | [], _ => by rw [fitss]; trivial
  | t :: vs, h => by rw [fitss]; exact ⟨h t (by simp), fitss_of fun u hu => h u (by simp [hu])⟩
theorem TIn.fits {w : World} {S : Nat → Prop} {t : Tr} {v : Value} (h : TIn w S t v) : fits t := by
  induction h with
  | mk k n s x ks vs A cap C hk hl hm hcap hc ht ih =>
    rw [tree.fits]
    refine ⟨hl, fitss_of fun t h => ?_⟩
    obtain ⟨i, hi, rfl⟩ := List.mem_iff_getElem.1 h
    exact ih i hi
mutual
theorem cnt_tot : ∀ t, fits t → cnt t ≤ tot t + 1
  | .mk _ _ s _ ks vs, h => by
    rw [fits] at h
    have := cnts_tots ks vs h.1 h.2
    rw [cnt, tot]
    omega
theorem cnts_tots : ∀ (ks : List Ky) (vs : List Tr), ks.length = vs.length → fitss vs → cnts vs ≤ vs.length + tots ks vs
  | _, [], _, _ => by simp [cnts]
  | [], t :: vs, h, _ => by simp at h
  | y :: ks, t :: vs, h, hf => by
    rw [fitss] at hf
    have h1 := cnt_tot t hf.1
    have h2 := cnts_tots ks vs (by simpa using h) hf.2
    rw [cnts, tots, List.length_cons]
    omega
end

def SzOk (left : Int) (T : Nat) (r : Int) : Prop := -1 ≤ r ∧ r ≤ left ∧ (0 ≤ r → r + T = left)
def SzQ (left : Int) (T : Nat) (w : World) (e : Ending) (w' : World) : Prop := ∃ r : Int, e = .returned (.int .i64 r) ∧ SzOk left T r ∧ Below w.heap.size w w'

theorem szKey (y : Ky) (hy : y.str.size ≤ maxLen) (left : Int) (h0 : 0 ≤ left) (h1 : left ≤ 1048576) (w : World) :
    Calls Tryd.prog 73 #[kyV y, .int .i64 left] w (SzQ left y.str.size w) := by
  obtain ⟨b, n, s⟩ := y
  replace hy : s.size ≤ maxLen := hy
  show Calls _ _ _ _ (SzQ left s.size w)
  unfold kyV
  unfold maxLen at hy
  by_cases hlt : left - s.size < 0
  · go_enter Tryd.func73, Tryd.ntmps73
    go_wp2
    go_ret
    exact ⟨-1, rfl, ⟨by omega, by omega, fun h => by omega⟩, b1 _ _⟩
  · have hge : ¬ (left < s.size) := by omega
    go_enter Tryd.func73, Tryd.ntmps73
    go_wp2
    go_ret
    exact ⟨left - s.size, rfl, ⟨by omega, by omega, fun h => by omega⟩, b1 _ _⟩

def SzV (t : Tr) : Prop := ∀ (w : World) (S : Nat → Prop) (v : Value), TIn w S t v → ∀ left : Int, 0 ≤ left → left ≤ 1048576 → Calls Tryd.prog 18 #[v, .int .i64 left] w (SzQ left (tot t) w)

theorem szEntry (y : Ky) (hy : y.str.size ≤ maxLen) (k n : Int) (s : ByteArray) (x : Int) (A : Option Addr) (L c : Nat) (T : Nat) (left : Int) (h0 : 0 ≤ left) (h1 : left ≤ 1048576) (w : World)
    (ih : ∀ (w' : World) (left' : Int), Below w.heap.size w w' → 0 ≤ left' → left' ≤ 1048576 → Calls Tryd.prog 18 #[vV k n s x A L c, .int .i64 left'] w' (SzQ left' T w')) :
    Calls Tryd.prog 60 #[eV y k n s x A L c, .int .i64 left] w (SzQ left (y.str.size + T) w) := by
  obtain ⟨b, m, ys⟩ := y
  have K := szKey ⟨b, m, ys⟩ hy left h0 h1
  show Calls _ _ _ _ (SzQ left (ys.size + T) w)
  replace K : ∀ w, Calls Tryd.prog 73 #[kyV ⟨b, m, ys⟩, .int .i64 left] w (SzQ left ys.size w) := K
  unfold eV
  go_enter Tryd.func60, Tryd.ntmps60
  go_wp2_with (fail)
  refine (K _).mono ?_
  rintro e w1 ⟨r, rfl, ⟨hr1, hr2, hr3⟩, hb1⟩
  obtain ⟨hc, hf⟩ := bcell hb1
  have HB := Lib.hid hb1
  have HR := Lib.hid hr3
  clear hb1 hr3
  by_cases hr : r < 0
  · go_wp2_with (fail)
    go_ret
    exact ⟨-1, rfl, ⟨by omega, by omega, fun h => by omega⟩, bs (b1 _ _) HB.out⟩
  · have hr0 : 0 ≤ r := by omega
    go_wp2_with (fail)
    refine (ih _ r (bs (b1 _ _) HB.out) hr0 (by omega)).mono ?_
    rintro e w2 ⟨r2, rfl, ⟨hs1, hs2, hs3⟩, hb2⟩
    have HB2 := Lib.hid hb2
    have HR2 := Lib.hid hs3
    clear hb2 hs3
    by_cases hq : r2 < 0
    · go_wp2_with (fail)
      go_ret
      exact ⟨-1, rfl, ⟨by omega, by omega, fun h => by omega⟩, bs (bs (b1 _ _) HB.out) HB2.out⟩
    · have hq0 : 0 ≤ r2 := by omega
      go_wp2_with (fail)
      go_ret
      refine ⟨r2, rfl, ⟨by omega, by omega, fun h => ?_⟩, bs (bs (b1 _ _) HB.out) HB2.out⟩
      have a1 := HR.out hr0
      have a2 := HR2.out h
      omega

theorem szItems (ks : List Ky) (vs : List Tr) (ih : ∀ t ∈ vs, SzV t) (A : Option Addr) (c : Nat) (w : World) (S : Nat → Prop) (h : IsIn w S ks vs A) (left : Int) (h0 : 0 ≤ left) (h1 : left ≤ 1048576) :
    Calls Tryd.prog 40 #[.slice A vs.length c, .int .i64 left] w (SzQ left (vs.length + tots ks vs) w) := by
  obtain ⟨L, HL⟩ : ∃ L, Hid (L = vs.length) := ⟨_, Lib.hid rfl⟩
  have hm : L ≤ maxLen := by rw [HL.out]; exact h.2.1
  unfold maxLen at hm
  rw [← HL.out]
  by_cases hlt : left - L < 0
  · go_enter Tryd.func40, Tryd.ntmps40
    go_wp2_with (fail)
    go_ret
    exact ⟨-1, rfl, ⟨by omega, by omega, fun h => by omega⟩, Below.refl _ _⟩
  have hge : ¬ (left < L) := by omega
  clear hlt
  go_enter Tryd.func40, Tryd.ntmps40
  go_wp2_with (fail)
  go_loopg [1, 5] (L + 1) (fun gk l i wr => ∃ (j : Nat) (r : Int), l = .int .i64 r ∧ i = .int .i64 j ∧ gk + j = L + 1 ∧ j ≤ L ∧ 0 ≤ r ∧ r ≤ left ∧ Hid (r + tots ks vs = left - L + tots (ks.drop j) (vs.drop j)) ∧ Below w.heap.size w wr)
  case atStart => exact ⟨0, left - L, rfl, rfl, by omega, by omega, by omega, by omega, Lib.hid (by simp), Below.refl _ _⟩
  case round =>
    obtain ⟨j, r, rfl, rfl, hgj, hjL, hr0, hr1, HR, hb⟩ := hrel
    have HB := Lib.hid hb
    clear hb
    by_cases hlt : j < L
    · obtain ⟨a, y, k, n, s, x, ks', vs', A1, c1, rfl, hS, hky, hvs, ht, hyb, hkb, hin, hcell⟩ := (h.below HB.out).item (i := j) (by rw [← HL.out]; exact hlt)
      have ihj : ∀ (w' : World) (left' : Int), Below wr.heap.size wr w' → 0 ≤ left' → left' ≤ 1048576 → Calls Tryd.prog 18 #[vV k n s x A1 vs'.length c1, .int .i64 left'] w' (SzQ left' (tot (.mk k n s x ks' vs')) w') := fun w' l' hb' a0 a1 => ih _ (List.mem_of_getElem? hvs) w' S _ (ht.below' hb') l' a0 a1
      have HT := Lib.hid (tots_drop hky hvs)
      have hys := hyb.2
      clear hky hvs ht hin hyb hkb hS
      obtain ⟨p0, p1, p2, p3, p4, p5, p6, p7⟩ := hcell
      go_wp2_with (fail)
      refine (szEntry y hys k n s x A1 vs'.length c1 _ r hr0 (by omega) _ ihj).mono ?_
      rintro e w1 ⟨r2, rfl, ⟨hs1, hs2, hs3⟩, hb1⟩
      have HB1 := Lib.hid hb1
      have HR2 := Lib.hid hs3
      clear hb1 hs3
      by_cases hq : r2 < 0
      · go_wp2_with (fail)
        go_ret
        exact ⟨-1, rfl, ⟨by omega, by omega, fun h => by omega⟩, bs HB.out HB1.out⟩
      · have hq0 : 0 ≤ r2 := by omega
        go_wp2_with (fail)
        go_roundg (L - j)
        case rel =>
          refine ⟨j + 1, r2, rfl, by go_num, by omega, by omega, hq0, by omega, Lib.hid ?_, bs HB.out HB1.out⟩
          have a1 := HR.out
          have a2 := HR2.out hq0
          have a3 := HT.out
          omega
        case measure => omega
    · go_wp2_with (fail)
      go_ret
      refine ⟨r, rfl, ⟨by omega, by omega, fun _ => ?_⟩, HB.out⟩
      have a1 := HR.out
      have e : tots (ks.drop j) (vs.drop j) = 0 := by
        rw [show vs.drop j = [] from List.drop_eq_nil_of_le (by rw [← HL.out]; omega)]
        cases ks.drop j <;> rfl
      rw [e] at a1
      push_cast
      omega

theorem szV : ∀ t, SzV t := Tr.ind fun k n s x ks vs ih w S v h left h0 h1 => by
  obtain ⟨A, c, rfl, ⟨_, _, _, hs⟩, hin⟩ := h.out
  clear h
  have hT : tot (.mk k n s x ks vs) = s.size + (vs.length + tots ks vs) := by rw [tot]
  rw [hT]
  clear hT
  unfold maxLen at hs
  by_cases hlt : left - s.size < 0
  · go_enter Tryd.func18, Tryd.ntmps18
    go_wp2_with (fail)
    go_ret
    exact ⟨-1, rfl, ⟨by omega, by omega, fun h => by omega⟩, b1 _ _⟩
  have hge : ¬ (left < s.size) := by omega
  clear hlt
  go_enter Tryd.func18, Tryd.ntmps18
  go_wp2_with (fail)
  refine (szItems ks vs ih A c _ S (hin.below (b1 _ _)) (left - s.size) (by omega) (by omega)).mono ?_
  rintro e w1 ⟨r, rfl, ⟨hr1, hr2, hr3⟩, hb1⟩
  have HB1 := Lib.hid hb1
  have HR := Lib.hid hr3
  clear hb1 hr3
  by_cases hr : r < 0
  · go_wp2_with (fail)
    go_ret
    exact ⟨-1, rfl, ⟨by omega, by omega, fun h => by omega⟩, bs (b1 _ _) HB1.out⟩
  · have hr0 : 0 ≤ r := by omega
    go_wp2_with (fail)
    go_ret
    refine ⟨r, rfl, ⟨by omega, by omega, fun h => ?_⟩, bs (b1 _ _) HB1.out⟩
    have a1 := HR.out h
    push_cast at a1 ⊢
    omega

end Go.Proofs.YteoilhbidnnneaaDoor.tree

/-
  Whether a value is light, of the project and of the model: what its weight leaves of a limit.
  Conditions: those that each theorem names.
-/
namespace Go.Proofs.YteoilhbidnnneaaDoor.tree
open Go.ChangeShapes Go.WideShapes Go.ChangeAt Go.RowKit
set_option linter.unusedVariables false

mutual
/-- The weight of a value. -/
def wgt : Tr → Nat
  | .mk k _ _ _ _ vs => if k = 4 then 1 + wgts vs else 1
def wgts : List Tr → Nat
  | [] => 0
  | t :: vs => wgt t + wgts vs
end
theorem wgt_four (n : Int) (s : ByteArray) (x : Int) (ks : List Ky) (vs : List Tr) : wgt (.mk 4 n s x ks vs) = 1 + wgts vs := by rw [wgt, if_pos rfl]
theorem wgt_not {k n : Int} {s : ByteArray} {x : Int} {ks : List Ky} {vs : List Tr} (h : k ≠ 4) : wgt (.mk k n s x ks vs) = 1 := by rw [wgt, if_neg h]
theorem wgts_nil : wgts [] = 0 := by rw [wgts]
theorem wgts_cons (t : Tr) (vs : List Tr) : wgts (t :: vs) = wgt t + wgts vs := by rw [wgts]
theorem wgts_drop {vs : List Tr} {j : Nat} {t : Tr} (h : vs[j]? = some t) : wgts (vs.drop j) = wgt t + wgts (vs.drop (j + 1)) := by
  obtain ⟨hj, rfl⟩ := List.getElem?_eq_some_iff.1 h
  rw [List.drop_eq_getElem_cons hj, wgts_cons]
theorem wgt_pos : ∀ t, 1 ≤ wgt t
  | .mk k _ _ _ _ vs => by rw [wgt]; split <;> omega

/-- What a weight leaves of a limit, -1 if it is more. -/
def lft (m : Int) (n : Nat) : Int := if m < n then -1 else m - n
/-- A weight up to one more than a limit. -/
def cut (m : Int) (n : Nat) : Int := if m < n then m + 1 else n

def SpI (t : Tr) : Prop := ∀ (w : World) (S : Nat → Prop) (v : Value), TIn w S t v → ∀ m : Int, 0 ≤ m → m ≤ 200 → Calls Tryd.prog 54 #[.int .i64 m, v] w (LtQ w (lft m (wgt t)))

set_option maxHeartbeats 800000 in
theorem spare_i : ∀ t, SpI t := Tr.ind fun k n s x ks vs ih w S v h m hm0 hm1 => by
  obtain ⟨A, c, rfl, hk, hin⟩ := h.out
  clear h
  obtain ⟨L, HL⟩ : ∃ L, Hid (L = vs.length) := ⟨_, Lib.hid rfl⟩
  have hm : L ≤ maxLen := by rw [HL.out]; exact hin.2.1
  unfold maxLen at hm
  rw [← HL.out]
  by_cases h4 : k = 4
  · subst h4
    obtain ⟨W, HW⟩ : ∃ W, Hid (W = lft m (wgt (.mk 4 n s x ks vs))) := ⟨_, Lib.hid rfl⟩
    have HW1 : Hid (W = lft (m - 1) (wgts vs)) := by
      show W = _
      rw [HW.out, wgt_four]
      unfold lft
      split <;> split <;> push_cast <;> omega
    rw [← HW.out]
    have HI := Lib.hid hin
    clear hin hk
    go_enter Tryd.func54, Tryd.ntmps54
    go_wp2_with (fail)
    go_loopg [0, 16] (L + 1) (fun gk l i wr => ∃ (j : Nat) (q : Int), l = .int .i64 q ∧ i = .int .i64 j ∧ gk + j = L + 1 ∧ j ≤ L ∧ -1 ≤ q ∧ q ≤ 199 ∧ Hid (lft q (wgts (vs.drop j)) = W) ∧ Below w.heap.size w wr)
    case atStart => exact ⟨0, m - 1, rfl, rfl, by omega, by omega, by omega, by omega, Lib.hid (by rw [HW1.out]; simp), b1 _ _⟩
    case round =>
      obtain ⟨j, q, rfl, rfl, hgj, hjL, hq0, hq1, HQ, hb⟩ := hrel
      have HB := Lib.hid hb
      clear hb
      by_cases hlt : j < L
      · obtain ⟨a, y, k', n', s', x', ks', vs', A1, c1, rfl, hS, hky, hvs, ht, hyb, hkb, hin', hcell⟩ := (HI.out.below HB.out).item (i := j) (by rw [← HL.out]; exact hlt)
        obtain ⟨Q, HQQ⟩ : ∃ Q, Hid (lft q (wgt (.mk k' n' s' x' ks' vs')) = Q) := ⟨_, Lib.hid rfl⟩
        have ihj : 0 ≤ q → ∀ w' : World, Below wr.heap.size wr w' → Calls Tryd.prog 54 #[.int .i64 q, vV k' n' s' x' A1 vs'.length c1] w' (LtQ w' Q) := fun h0 w' hb' => HQQ.out ▸ ih _ (List.mem_of_getElem? hvs) w' S _ (ht.below' hb') q h0 (by omega)
        have HD := Lib.hid (wgts_drop hvs)
        have HP := Lib.hid (wgt_pos (.mk k' n' s' x' ks' vs'))
        clear hky hvs ht hin' hyb hkb hS
        obtain ⟨p0, p1, p2, p3, p4, p5, p6, p7⟩ := hcell
        by_cases hneg : q < 0
        · obtain rfl : q = -1 := by omega
          go_wp2_with (fail)
          go_ret
          have e : W = -1 := by
            rw [← HQ.out]
            unfold lft
            split <;> omega
          exact ⟨by rw [e]; rfl, bs HB.out (b1 _ _)⟩
        · have hq : 0 ≤ q := by omega
          have hQ : -1 ≤ Q ∧ Q ≤ 199 := by
            rw [← HQQ.out]
            have := HP.out
            unfold lft
            split <;> omega
          obtain ⟨hQ0, hQ1⟩ := hQ
          go_wp2_with (fail)
          refine (ihj hq _ (b1 _ _)).mono ?_
          rintro e w1 ⟨rfl, hb1⟩
          have HB1 := Lib.hid (bs HB.out (bs (b1 _ _) hb1))
          clear hb1
          go_wp2_with (fail)
          go_roundg (L - j)
          case rel =>
            refine ⟨j + 1, Q, rfl, by go_num, by omega, by omega, hQ0, hQ1, Lib.hid ?_, HB1.out⟩
            rw [← HQ.out, HD.out, ← HQQ.out]
            unfold lft
            split <;> split <;> split <;> push_cast at * <;> omega
          case measure => omega
      · obtain rfl : j = L := by omega
        have e : W = q := by
          rw [← HQ.out, show vs.drop j = [] from List.drop_eq_nil_of_le (Nat.le_of_eq HL.out.symm), wgts_nil]
          unfold lft
          split <;> omega
        go_wp2_with (fail)
        go_ret
        exact ⟨by first | rfl | (rw [e]; rfl), HB.out⟩
  · have hw : lft m (wgt (.mk k n s x ks vs)) = m - 1 := by
      rw [wgt_not h4]
      unfold lft
      split <;> omega
    rw [hw]
    clear hw hin hk
    go_enter Tryd.func54, Tryd.ntmps54
    go_wp2_with (fail)
    go_ret
    exact ⟨rfl, b1 _ _⟩

def WgS (t : Tr) : Prop := ∀ (w : World) (S : Nat → Prop) (v : Value), TIn w S t v → ∀ m : Int, 0 ≤ m → m ≤ 200 → Calls Tryd.prog 36 #[v, .int .i64 m] w (LtQ w (cut m (wgt t)))

set_option maxHeartbeats 800000 in
theorem weigh_s : ∀ t, WgS t := Tr.ind fun k n s x ks vs ih w S v h m hm0 hm1 => by
  obtain ⟨A, c, rfl, hk, hin⟩ := h.out
  clear h
  obtain ⟨L, HL⟩ : ∃ L, Hid (L = vs.length) := ⟨_, Lib.hid rfl⟩
  have hm : L ≤ maxLen := by rw [HL.out]; exact hin.2.1
  unfold maxLen at hm
  rw [← HL.out]
  by_cases h4 : k = 4
  · subst h4
    obtain ⟨W, HW⟩ : ∃ W, Hid (W = cut m (wgt (.mk 4 n s x ks vs))) := ⟨_, Lib.hid rfl⟩
    have HW1 : Hid (W = cut m (1 + wgts vs)) := by
      show W = _
      rw [HW.out, wgt_four]
    rw [← HW.out]
    have HI := Lib.hid hin
    clear hin hk
    go_enter Tryd.func36, Tryd.ntmps36
    go_wp2_with (fail)
    go_loopg [5, 6] (L + 1) (fun gk a i wr => ∃ (j q : Nat), a = .int .i64 q ∧ i = .int .i64 j ∧ gk + j = L + 1 ∧ j ≤ L ∧ (q : Int) ≤ m + 1 ∧ Hid (cut m (q + wgts (vs.drop j)) = W) ∧ Hid (wr.heap[w.heap.size]? = some (.cells #[.int .i64 4, .int .i64 n, .string s, .int .i64 x, .slice A L c] IV (0, 0))) ∧ Below w.heap.size w wr)
    case atStart => exact ⟨0, 1, rfl, rfl, by omega, by omega, by omega, Lib.hid (by rw [HW1.out]; rfl), Lib.hid (heap_alloc_new w _), b1 _ _⟩
    case round =>
      obtain ⟨j, q, rfl, rfl, hgj, hjL, hq1, HQ, HE, hb⟩ := hrel
      have HB := Lib.hid hb
      clear hb
      obtain ⟨r0, -⟩ := rowc HE.out
      by_cases hlt : j < L
      · obtain ⟨a, y, k', n', s', x', ks', vs', A1, c1, rfl, hS, hky, hvs, ht, hyb, hkb, hin', hcell⟩ := (HI.out.below HB.out).item (i := j) (by rw [← HL.out]; exact hlt)
        by_cases hle : (q : Int) ≤ m
        · obtain ⟨Q, HQQ⟩ : ∃ Q : Nat, Hid (cut (m - q) (wgt (.mk k' n' s' x' ks' vs')) = Q) := by
            refine ⟨(cut (m - q) (wgt (.mk k' n' s' x' ks' vs'))).toNat, Lib.hid ?_⟩
            unfold cut
            split <;> omega
          have ihj : Calls Tryd.prog 36 #[vV k' n' s' x' A1 vs'.length c1, .int .i64 (m - q)] wr (LtQ wr Q) := HQQ.out ▸ ih _ (List.mem_of_getElem? hvs) wr S _ ht (m - q) (by omega) (by omega)
          have HD := Lib.hid (wgts_drop hvs)
          have hQ : (q : Int) + Q ≤ m + 1 := by
            rw [← HQQ.out]
            unfold cut
            split <;> omega
          clear hky hvs ht hin' hyb hkb hS
          obtain ⟨p0, p1, p2, p3, p4, p5, p6, p7⟩ := hcell
          go_wp2_with (fail)
          refine ihj.mono ?_
          rintro e w1 ⟨rfl, hb1⟩
          have HE1 := Lib.hid (carry hb1 HE.out)
          have HB1 := Lib.hid (bs HB.out hb1)
          clear hb1 r0
          obtain ⟨r1, -⟩ := rowc HE1.out
          go_wp2_with (fail)
          go_roundg (L - j)
          case rel =>
            refine ⟨j + 1, q + Q, by go_num, by go_num, by omega, by omega, by push_cast; omega, Lib.hid ?_, HE1, HB1.out⟩
            have e1 := HQQ.out
            rw [← HQ.out, HD.out]
            unfold cut at e1 ⊢
            split at e1 <;> split <;> split <;> push_cast at * <;> omega
          case measure => omega
        · have e : W = (q : Int) := by
            rw [← HQ.out]
            unfold cut
            split <;> push_cast at * <;> omega
          clear hky hvs ht hin' hyb hkb hS hcell
          go_wp2_with (fail)
          go_ret
          exact ⟨by first | rfl | (rw [e]; rfl), HB.out⟩
      · obtain rfl : j = L := by omega
        have e : W = (q : Int) := by
          rw [← HQ.out, show vs.drop j = [] from List.drop_eq_nil_of_le (Nat.le_of_eq HL.out.symm), wgts_nil]
          unfold cut
          split <;> push_cast at * <;> omega
        go_wp2_with (fail)
        go_ret
        exact ⟨by first | rfl | (rw [e]; rfl), HB.out⟩
  · have hw : cut m (wgt (.mk k n s x ks vs)) = 1 := by
      rw [wgt_not h4]
      unfold cut
      split <;> omega
    rw [hw]
    clear hw hin hk
    go_enter Tryd.func36, Tryd.ntmps36
    go_wp2_with (fail)
    go_loopg [5, 6] 1 (fun gk a i wr => a = .int .i64 1 ∧ i = .int .i64 0 ∧ gk = 1 ∧ Hid (wr.heap[w.heap.size]? = some (.cells #[.int .i64 k, .int .i64 n, .string s, .int .i64 x, .slice A L c] IV (0, 0))) ∧ Below w.heap.size w wr)
    case atStart => exact ⟨rfl, rfl, rfl, Lib.hid (heap_alloc_new w _), b1 _ _⟩
    case round =>
      obtain ⟨rfl, rfl, rfl, HE, hb⟩ := hrel
      have HB := Lib.hid hb
      clear hb
      obtain ⟨r0, -⟩ := rowc HE.out
      go_wp2_with (fail)
      go_ret
      exact ⟨rfl, HB.out⟩

def lightB (t : Tr) : Bool := decide (wgt t ≤ 200)
theorem light_i (t : Tr) (w : World) (S : Nat → Prop) (v : Value) (h : TIn w S t v) : Calls Tryd.prog 32 #[v] w (BoQ w (lightB t)) := by
  have SP : ∀ o : Obj, Calls Tryd.prog 54 #[.int .i64 200, v] (w.alloc o) (LtQ (w.alloc o) (lft 200 (wgt t))) := fun o => spare_i t _ S v (h.below' (b1 w o)) 200 (by omega) (by omega)
  obtain ⟨N, HN⟩ : ∃ N, Hid (wgt t = N) := ⟨_, Lib.hid rfl⟩
  unfold lightB
  rw [HN.out] at SP ⊢
  obtain ⟨k, n, s, x, ks, vs⟩ := t
  obtain ⟨A, c, rfl, hk, hin⟩ := h.out
  clear h hk hin
  by_cases hle : N ≤ 200
  · rw [decide_eq_true hle]
    obtain ⟨r, hr, e⟩ : ∃ r : Int, 0 ≤ r ∧ lft 200 N = r := ⟨_, by unfold lft; split <;> omega, rfl⟩
    rw [e] at SP
    clear e
    go_enter Tryd.func32, Tryd.ntmps32
    go_wp2_with (fail)
    refine (SP _).mono ?_
    rintro e w1 ⟨rfl, hb1⟩
    have HB1 := Lib.hid (bs (b1 _ _) hb1)
    clear hb1
    go_wp2_with (fail)
    go_ret
    exact ⟨rfl, HB1.out⟩
  · rw [decide_eq_false hle]
    have e : lft 200 N = -1 := by unfold lft; split <;> omega
    rw [e] at SP
    go_enter Tryd.func32, Tryd.ntmps32
    go_wp2_with (fail)
    refine (SP _).mono ?_
    rintro e w1 ⟨rfl, hb1⟩
    have HB1 := Lib.hid (bs (b1 _ _) hb1)
    clear hb1
    go_wp2_with (fail)
    go_ret
    exact ⟨rfl, HB1.out⟩

end Go.Proofs.YteoilhbidnnneaaDoor.tree

/-
  Plain facts on decimal numerals, without the program: a numeral is read back, its digits are digits, and what the project's and the model's way of reading a text give is the same number.
  Conditions: those that each theorem names.
-/
namespace Go.Proofs.YteoilhbidnnneaaDoor.dec
open Go.Lib

def isDig (b : UInt8) : Prop := 48 ≤ b.toNat ∧ b.toNat ≤ 57
instance (b : UInt8) : Decidable (isDig b) := by unfold isDig; infer_instance

def digStep (a : Nat) (b : UInt8) : Nat := 10 * a + (b.toNat - 48)
theorem digStep_eq (a : Nat) (b : UInt8) : digStep a b = 10 * a + (b.toNat - 48) := by unfold digStep; rfl
def valFrom (a : Nat) (l : List UInt8) : Nat := l.foldl digStep a
def val (l : List UInt8) : Nat := valFrom 0 l

theorem valFrom_nil (a : Nat) : valFrom a [] = a := by unfold valFrom; rw [List.foldl_nil]
theorem valFrom_cons (a : Nat) (b : UInt8) (l : List UInt8) : valFrom a (b :: l) = valFrom (10 * a + (b.toNat - 48)) l := by unfold valFrom; rw [List.foldl_cons, digStep_eq]
theorem valFrom_snoc (l : List UInt8) (a : Nat) (b : UInt8) : valFrom a (l ++ [b]) = 10 * valFrom a l + (b.toNat - 48) := by
  unfold valFrom
  rw [List.foldl_append, List.foldl_cons, List.foldl_nil, digStep_eq]
theorem val_snoc (l : List UInt8) (b : UInt8) : val (l ++ [b]) = 10 * val l + (b.toNat - 48) := valFrom_snoc l 0 b

theorem toNat_dig {d : Nat} (h : d < 10) : (UInt8.ofNat (48 + d)).toNat = 48 + d := by
  rw [UInt8.toNat_ofNat']
  omega

theorem decDigits_step {u : Nat} (h : ¬ u < 10) : decDigits u = decDigits (u / 10) ++ [UInt8.ofNat (48 + u % 10)] := by
  rw [decDigits, dif_neg h]

theorem decDigits_dig : ∀ (u : Nat) (b : UInt8), b ∈ decDigits u → isDig b := by
  intro u
  induction u using Nat.strongRecOn with
  | _ u ih =>
    intro b hb
    by_cases h : u < 10
    · rw [decDigits_one h] at hb
      simp only [List.mem_singleton] at hb
      subst hb
      unfold isDig
      rw [toNat_dig h]
      omega
    · rw [decDigits_step h] at hb
      rcases List.mem_append.1 hb with hb | hb
      · exact ih (u / 10) (by omega) b hb
      · simp only [List.mem_singleton] at hb
        subst hb
        unfold isDig
        rw [toNat_dig (by omega)]
        omega

theorem val_decDigits (u : Nat) : val (decDigits u) = u := by
  induction u using Nat.strongRecOn with
  | _ u ih =>
    by_cases h : u < 10
    · rw [decDigits_one h]
      unfold val
      rw [valFrom_cons, valFrom_nil, toNat_dig h]
      omega
    · rw [decDigits_step h, val_snoc, ih (u / 10) (by omega), toNat_dig (by omega)]
      omega

theorem decDigits_ne (u : Nat) : decDigits u ≠ [] := by
  intro h
  have := decDigits_length u
  rw [h] at this
  have h1 := nDigits_pos u
  simp at this
  omega

theorem nDigits_le : ∀ (k u : Nat), 1 ≤ k → u < 10 ^ k → nDigits u ≤ k
  | 0, u, h, _ => by omega
  | k + 1, u, _, h => by
    by_cases hs : u < 10
    · rw [nDigits_small hs]; omega
    · rw [nDigits_big hs]
      rw [Nat.pow_succ] at h
      by_cases hk : k = 0
      · subst hk; simp at h; omega
      · have := nDigits_le k (u / 10) (by omega) (by omega)
        omega

theorem valFrom_ge : ∀ (l : List UInt8) (a : Nat), a ≤ valFrom a l
  | [], a => by rw [valFrom_nil]; omega
  | b :: l, a => by
    rw [valFrom_cons]
    have := valFrom_ge l (10 * a + (b.toNat - 48))
    omega

theorem parse_digs : ∀ (l : List UInt8) (a : Nat), (∀ b ∈ l, isDig b) → valFrom a l < 18446744073709551616 → parseUint10 a l = .ok (valFrom a l)
  | [], a, _, _ => rfl
  | b :: l, a, hd, hv => by
    have hb : isDig b := hd b List.mem_cons_self
    unfold isDig at hb
    rw [valFrom_cons] at hv ⊢
    have h1 := valFrom_ge l (10 * a + (b.toNat - 48))
    have e : a * 10 + (b.toNat - 48) = 10 * a + (b.toNat - 48) := by omega
    rw [parseUint10, if_pos hb, if_neg (by omega), if_neg (by omega), e]
    exact parse_digs l _ (fun x hx => hd x (List.mem_cons_of_mem _ hx)) hv

theorem parseMag_dec {u : Nat} (h : u < 18446744073709551616) : parseMag (decDigits u) = .ok u := by
  unfold parseMag
  rw [if_neg (decDigits_ne u)]
  have hv := val_decDigits u
  unfold val at hv
  rw [parse_digs _ 0 (decDigits_dig u) (by omega), hv]

theorem head_dec (u : Nat) : ∃ b r, decDigits u = b :: r ∧ isDig b := by
  cases h : decDigits u with
  | nil => exact absurd h (decDigits_ne u)
  | cons b r => exact ⟨b, r, rfl, decDigits_dig u b (by rw [h]; exact List.mem_cons_self)⟩

/-- What is written is read again. -/
theorem atoi_itoa (n : Int) (h0 : -9223372036854775808 ≤ n) (h1 : n ≤ 9223372036854775807) : atoiAll (itoa n) = .ok n := by
  unfold itoa
  by_cases hn : n < 0
  · rw [if_pos hn, atoiAll_minus, parseMag_dec (by omega)]
    simp only [signed]
    rw [if_neg (by omega)]
    congr 1
    omega
  · rw [if_neg hn]
    obtain ⟨b, r, e, hb⟩ := head_dec n.toNat
    unfold isDig at hb
    have hp : parseMag (b :: r) = .ok n.toNat := by rw [← e]; exact parseMag_dec (by omega)
    rw [e, atoiAll_plain b r (by omega) (by omega), hp]
    simp only [signless]
    rw [if_neg (by omega)]
    congr 1
    omega

theorem itoa_inj {n m : Int} (h0 : -9223372036854775808 ≤ n) (h1 : n ≤ 9223372036854775807) (k0 : -9223372036854775808 ≤ m) (k1 : m ≤ 9223372036854775807) (h : itoa n = itoa m) : n = m := by
  have a := atoi_itoa n h0 h1
  have b := atoi_itoa m k0 k1
  rw [h, b] at a
  injection a with a
  exact a.symm

/-- What the project's reading gives, of the numbers from low to high. -/
def pr (low high : Int) (l : List UInt8) : Int × Bool :=
  match atoiAll l with
  | .ok n => if itoa n = l ∧ low ≤ n ∧ n ≤ high then (n, true) else (0, false)
  | _ => (0, false)

theorem pr_yes {low high n : Int} {l : List UInt8} (h : itoa n = l) (h0 : -9223372036854775808 ≤ n) (h1 : n ≤ 9223372036854775807) (hl : low ≤ n) (hh : n ≤ high) : pr low high l = (n, true) := by
  have e : atoiAll l = .ok n := by rw [← h]; exact atoi_itoa n h0 h1
  unfold pr
  rw [e]
  exact if_pos ⟨h, hl, hh⟩

theorem pr_no {low high : Int} {l : List UInt8} (h : ∀ n, itoa n = l → low ≤ n → n ≤ high → False) : pr low high l = (0, false) := by
  unfold pr
  split
  · rw [if_neg (fun hh => h _ hh.1 hh.2.1 hh.2.2)]
  · rfl

theorem pr_true {low high : Int} {l : List UInt8} (h : (pr low high l).2 = true) : itoa (pr low high l).1 = l ∧ low ≤ (pr low high l).1 ∧ (pr low high l).1 ≤ high := by
  unfold pr at h ⊢
  split at h
  · split at h
    · rename_i hc
      rw [if_pos hc]
      exact hc
    · cases h
  · cases h

theorem pr_false {low high : Int} {l : List UInt8} (h : (pr low high l).2 = false) : (pr low high l).1 = 0 := by
  unfold pr at h ⊢
  split at h
  · split at h
    · cases h
    · rename_i hc
      rw [if_neg hc]
  · rfl

/-- What the model's reading gives. -/
def sp (l : List UInt8) : Int × Bool := if 1 ≤ l.length ∧ l.length ≤ 13 ∧ (∀ b ∈ l, isDig b) ∧ val l ≤ 1000000000000 ∧ itoa (val l : Int) = l then ((val l : Int), true) else (0, false)

theorem itoa_nat (u : Nat) : itoa (u : Int) = decDigits u := by unfold itoa; rw [if_neg (by omega)]; simp

theorem sp_eq (l : List UInt8) : sp l = pr 0 1000000000000 l := by
  unfold sp
  split
  · rename_i h
    obtain ⟨_, _, _, h4, h5⟩ := h
    exact (pr_yes h5 (by omega) (by omega) (by omega) (by omega)).symm
  · rename_i h
    refine (pr_no fun n hn h0 h1 => h ?_).symm
    obtain ⟨u, rfl⟩ := Int.eq_ofNat_of_zero_le h0
    rw [itoa_nat] at hn
    have hv := val_decDigits u
    have hl := decDigits_length u
    have hp := nDigits_pos u
    have hd := nDigits_le 13 u (by omega) (by have : (10 : Nat) ^ 13 = 10000000000000 := by decide
                                              omega)
    subst hn
    rw [hv, itoa_nat]
    exact ⟨by omega, by omega, decDigits_dig u, by omega, rfl⟩

/-- What the model's reading with a sign gives. -/
def sps (l : List UInt8) : Int × Bool :=
  if l.head? = some 45 then
    (if (sp l.tail).2 = true ∧ (sp l.tail).1 ≤ 1000000000 ∧ (sp l.tail).1 ≠ 0 then (-(sp l.tail).1, true) else (0, false))
  else
    (if (sp l).2 = true ∧ (sp l).1 ≤ 1000000000 then ((sp l).1, true) else (0, false))

theorem itoa_neg' {n : Int} (h : n < 0) : itoa n = 45 :: decDigits n.natAbs := by unfold itoa; rw [if_pos h]
theorem itoa_pos' {n : Int} (h : ¬ n < 0) : itoa n = decDigits n.toNat := by unfold itoa; rw [if_neg h]

theorem dig_head {u : Nat} : (decDigits u).head? ≠ some 45 := by
  obtain ⟨b, r, e, hb⟩ := head_dec u
  rw [e]
  intro h
  simp only [List.head?_cons, Option.some.injEq] at h
  subst h
  unfold isDig at hb
  have : (45 : UInt8).toNat = 45 := rfl
  omega

theorem sps_eq (l : List UInt8) : sps l = pr (-1000000000) 1000000000 l := by
  unfold sps
  rw [sp_eq, sp_eq]
  split
  · rename_i hh
    obtain ⟨r, rfl⟩ : ∃ r, l = 45 :: r := by
      cases l with
      | nil => simp at hh
      | cons b r => simp at hh; exact ⟨r, by rw [hh]⟩
    have ht : (45 :: r).tail = r := rfl
    rw [ht]
    by_cases hc : (pr 0 1000000000000 r).2 = true ∧ (pr 0 1000000000000 r).1 ≤ 1000000000 ∧ (pr 0 1000000000000 r).1 ≠ 0
    · rw [if_pos hc]
      obtain ⟨c1, c2, c3⟩ := hc
      obtain ⟨e1, e2, e3⟩ := pr_true c1
      refine (pr_yes ?_ (by omega) (by omega) (by omega) (by omega)).symm
      rw [itoa_neg' (by omega)]
      rw [itoa_pos' (by omega)] at e1
      rw [← e1]
      congr 2
      rw [e1]
      omega
    · rw [if_neg hc]
      refine (pr_no fun n hn h0 h1 => hc ?_).symm
      by_cases hneg : n < 0
      · rw [itoa_neg' hneg] at hn
        injection hn with _ hn
        have hy : pr 0 1000000000000 r = ((n.natAbs : Int), true) := pr_yes (by rw [itoa_nat, hn]) (by omega) (by omega) (by omega) (by omega)
        rw [hy]
        exact ⟨rfl, by show (n.natAbs : Int) ≤ 1000000000; omega, by show (n.natAbs : Int) ≠ 0; omega⟩
      · rw [itoa_pos' hneg] at hn
        exact absurd (by rw [hn]; rfl) (dig_head (u := n.toNat))
  · rename_i hh
    by_cases hc : (pr 0 1000000000000 l).2 = true ∧ (pr 0 1000000000000 l).1 ≤ 1000000000
    · rw [if_pos hc]
      obtain ⟨c1, c2⟩ := hc
      obtain ⟨e1, e2, e3⟩ := pr_true c1
      exact (pr_yes e1 (by omega) (by omega) (by omega) (by omega)).symm
    · rw [if_neg hc]
      refine (pr_no fun n hn h0 h1 => hc ?_).symm
      by_cases hneg : n < 0
      · rw [itoa_neg' hneg] at hn
        exact absurd (by rw [← hn]; rfl) hh
      · have hy : pr 0 1000000000000 l = (n, true) := pr_yes hn (by omega) (by omega) (by omega) (by omega)
        rw [hy]
        exact ⟨rfl, by show n ≤ 1000000000; omega⟩

end Go.Proofs.YteoilhbidnnneaaDoor.dec

/-
  What the project's FormatInt and the model's FormatInt return: the decimal numeral, for every integer.
  Conditions: the library's table of powers of ten holds what its text lays.
-/
namespace Go.Proofs.YteoilhbidnnneaaDoor.fmt
open Go.ChangeShapes Go.WideShapes Go.ChangeAt Go.RowKit Go.Sort Go.Lib
set_option linter.unusedVariables false

def Tab (w : World) : Prop := Lib.TabIs Tryd.prog w "internal/strconv.uint64pow10" .u64 Lib.pow10Tab

theorem gTab : Tryd.prog.globalNamed "internal/strconv.uint64pow10" = some 3 := by kernel_rfl
theorem Tab.stays {w w' : World} (h : Tab w) (hb : Below w.heap.size w w') : Tab w' := Joins.tab_stays gTab h hb (Nat.le_refl _)

theorem below_grow (w : World) (k : Nat) (os : Array Obj) : Below w.heap.size w (grow (w.drewN k) os) :=
  ⟨rfl, rfl, rfl, by show w.heap.size ≤ (w.heap ++ os).size; simp, fun j hj => heap_grow_old (w.drewN k) os hj⟩

def num (n : Int) : Value := .string ⟨(Lib.itoa n).toArray⟩

theorem libItoa (n : Int) (h0 : -9223372036854775808 ≤ n) (h1 : n ≤ 9223372036854775807) (w : World) (hT : Tab w) :
    Calls Tryd.prog 90 #[.int .i64 n] w fun e w' => e = .returned (num n) ∧ Below w.heap.size w w' :=
  (Tryd.strconv_Itoa n h0 h1 w hT).mono fun e w' ⟨he, k, os, hw⟩ => ⟨he, hw ▸ below_grow w k os⟩

theorem implFormat (n : Int) (h0 : -9223372036854775808 ≤ n) (h1 : n ≤ 9223372036854775807) (w : World) (hT : Tab w) :
    Calls Tryd.prog 87 #[.int .i64 n] w fun e w' => e = .returned (num n) ∧ Below w.heap.size w w' := by
  have HT := Lib.hid hT; clear hT
  go_enter Tryd.func87, Tryd.ntmps87
  go_wp2_with (go_at_call 90; refine (libItoa n h0 h1 _ HT.out).mono ?_; rintro e w' ⟨rfl, hb⟩)
  go_ret
  exact ⟨rfl, hb⟩

/-- What is left to write (u), and what stands behind it (l), are the numeral of a. -/
def Rest (a : Nat) (u : Int) (l : List UInt8) : Prop := if u = 0 then l = Lib.decDigits a else Lib.decDigits u.natAbs ++ l = Lib.decDigits a
theorem Rest.start' {n : Int} (h : n ≠ 0) : Rest n.natAbs n [] := by
  unfold Rest
  rw [if_neg (by omega), List.append_nil]
theorem bytes_cons (b : UInt8) (l : List UInt8) : (⟨#[b]⟩ : ByteArray) ++ ⟨l.toArray⟩ = ⟨(b :: l).toArray⟩ := by
  apply ByteArray.ext
  apply Array.toList_inj.1
  rw [Joins.data_append]
  rfl
theorem Rest.start {n : Int} (h : 1 ≤ n) : Rest n.natAbs n [] := by
  unfold Rest
  rw [if_neg (by omega), List.append_nil]
theorem Rest.done {a : Nat} {l : List UInt8} (h : Rest a 0 l) : l = Lib.decDigits a := by
  unfold Rest at h
  rwa [if_pos rfl] at h
theorem Rest.step {a : Nat} {u v : Int} {l : List UInt8} (h : Rest a u l) (hu : u ≠ 0) (hv : v.natAbs = u.natAbs / 10) : Rest a v (UInt8.ofNat (48 + u.natAbs % 10) :: l) := by
  unfold Rest at h ⊢
  rw [if_neg hu] at h
  rw [← h]
  by_cases h10 : u.natAbs < 10
  · rw [if_pos (by omega), Lib.decDigits_one h10, Nat.mod_eq_of_lt h10]
    rfl
  · rw [if_neg (by omega), dec.decDigits_step h10, hv, List.append_assoc]
    rfl

theorem Rest.len {a : Nat} {u : Int} {l : List UInt8} (h : Rest a u l) (ha : a ≤ 9223372036854775808) : l.length ≤ 20 := by
  have h1 := decDigits_length a
  have h2 := dec.nDigits_le 20 a (by omega) (by have : (10 : Nat) ^ 20 = 100000000000000000000 := by decide
                                                omega)
  unfold Rest at h
  split at h
  · rw [h]; omega
  · have := congrArg List.length h
    rw [List.length_append] at this
    omega

theorem tneg (u : Int) (h : u ≤ 0) : u.tdiv 10 = -((-u) / 10) ∧ u.tmod 10 = -((-u) % 10) := by
  obtain ⟨v, rfl⟩ : ∃ v : Int, u = -v := ⟨-u, by omega⟩
  rw [Int.neg_tdiv, Int.neg_tmod, Int.neg_neg, Int.tdiv_eq_ediv_of_nonneg (by omega), Int.tmod_eq_emod_of_nonneg (by omega)]
  exact ⟨rfl, rfl⟩

theorem run_byte_string {P : Program} (src dst e : TypeId) (v : Int) (h0 : 0 ≤ v) (h1 : v ≤ 255) (hs : P.underlying src = some (.slice e)) (he : P.underlying e = some (.int .u8)) (hd : P.underlying dst = some .string) (w : World) :
    (convert src dst (.slice (some ⟨w.heap.size, 0, none⟩) 1 1)).run P (w.alloc (.cells #[.int .u8 v] e)) = .ok (.string ⟨#[UInt8.ofNat v.toNat]⟩) (w.alloc (.cells #[.int .u8 v] e)) :=
  run_convert_bytes_back (P := P) _ src dst e ⟨w.heap.size, 0, none⟩ 1 [UInt8.ofNat v.toNat] hs he hd (fun j hj => by
    obtain rfl : j = 0 := by simp at hj; omega
    have hv : ((UInt8.ofNat v.toNat).toNat : Int) = v := by rw [UInt8.toNat_ofNat']; omega
    simp only [List.getElem_cons_zero, hv]
    exact World.cell?_alloc_new _ _ _ 0)

theorem specFormat_pos (n : Int) (h0 : 1 ≤ n) (h1 : n ≤ 9223372036854775807) (w : World) :
    Calls Tryd.prog 83 #[.int .i64 n] w fun e w' => e = .returned (num n) ∧ Below w.heap.size w w' := by
  have hz : (n == 0) = false := by rw [beq_eq_false_iff_ne]; omega
  go_enter Tryd.func83, Tryd.ntmps83
  go_wp2
  go_loopw [3, 4] (fun s x wr => ∃ (u : Int) (l : List UInt8), 0 ≤ u ∧ u ≤ n ∧ x = .int .i64 u ∧ s = .string ⟨l.toArray⟩ ∧ Rest n.natAbs u l ∧ Below w.heap.size w wr) (fun _ x _ => (RowKit.intOf x).toNat)
  case atStart => exact ⟨n, [], by omega, by omega, rfl, rfl, Rest.start h0, Below.refl _ _⟩
  case round =>
    obtain ⟨u, l, hu0, hu1, rfl, rfl, hR, hb⟩ := hrel
    have hl := hR.len (by omega)
    by_cases hu : u = 0
    · subst hu
      have HR := Lib.hid hR.done; clear hR
      go_wp2
      go_ret
      exact ⟨by rw [HR.out]; unfold num; rw [dec.itoa_pos' (by omega), show n.toNat = n.natAbs by omega]; rfl, hb⟩
    · have hun : (u == 0) = false := by rw [beq_eq_false_iff_ne]; omega
      have hd0 : 0 ≤ u % 10 := by omega
      have hd9 : u % 10 ≤ 9 := by omega
      have HR := Lib.hid (hR.step hu (v := u / 10) (by omega)); clear hR
      have hcv := run_byte_string (P := Tryd.prog) 22 9 5 (48 + u % 10) (by omega) (by omega) Tryd.underlying22 Tryd.underlying5 Tryd.underlying9
      go_wp2
      refine ⟨⟨u / 10, UInt8.ofNat (48 + u.natAbs % 10) :: l, by omega, by omega, rfl, ?_, HR.out, hb.alloc hb.size _⟩, ?_⟩
      · rw [show (48 + u % 10).toNat = 48 + u.natAbs % 10 by omega]
        exact congrArg Value.string (bytes_cons _ _)
      · simp only [RowKit.intOf]; omega

theorem specFormat_neg (n : Int) (h0 : -9223372036854775808 ≤ n) (h1 : n < 0) (w : World) :
    Calls Tryd.prog 83 #[.int .i64 n] w fun e w' => e = .returned (num n) ∧ Below w.heap.size w w' := by
  have hz : (n == 0) = false := by rw [beq_eq_false_iff_ne]; omega
  go_enter Tryd.func83, Tryd.ntmps83
  go_wp2
  go_loopw [3, 4] (fun s x wr => ∃ (u : Int) (l : List UInt8), u ≤ 0 ∧ n ≤ u ∧ x = .int .i64 u ∧ s = .string ⟨l.toArray⟩ ∧ Rest n.natAbs u l ∧ Below w.heap.size w wr) (fun _ x _ => (RowKit.intOf x).natAbs)
  case atStart => exact ⟨n, [], by omega, by omega, rfl, rfl, Rest.start' (by omega), Below.refl _ _⟩
  case round =>
    obtain ⟨u, l, hu0, hu1, rfl, rfl, hR, hb⟩ := hrel
    have hl := hR.len (by omega)
    by_cases hu : u = 0
    · subst hu
      have HR := Lib.hid hR.done; clear hR
      go_wp2
      go_ret
      exact ⟨by rw [HR.out]; unfold num; rw [dec.itoa_neg' (by omega)]; exact congrArg (fun s => Ending.returned (Value.string s)) (bytes_cons _ _), hb⟩
    · have hun : (u == 0) = false := by rw [beq_eq_false_iff_ne]; omega
      obtain ⟨e1, e2⟩ := tneg u hu0
      have HR := Lib.hid (hR.step hu (v := u.tdiv 10) (by rw [e1]; omega)); clear hR
      have hd0 : u.tmod 10 ≤ 0 := by omega
      have hd9 : -9 ≤ u.tmod 10 := by omega
      have hv0 : u.tdiv 10 ≤ 0 := by omega
      have hv9 : u ≤ u.tdiv 10 := by omega
      have hm : (u.tdiv 10).natAbs < u.natAbs := by omega
      have E2 := Lib.hid e2; clear e1 e2
      by_cases hd : u.tmod 10 < 0
      · have hcv := run_byte_string (P := Tryd.prog) 22 9 5 (48 + -u.tmod 10) (by omega) (by omega) Tryd.underlying22 Tryd.underlying5 Tryd.underlying9
        go_wp2
        refine ⟨⟨u.tdiv 10, UInt8.ofNat (48 + u.natAbs % 10) :: l, by omega, by omega, rfl, ?_, HR.out, hb.alloc hb.size _⟩, ?_⟩
        · have e2 := E2.out
          rw [show (48 + -u.tmod 10).toNat = 48 + u.natAbs % 10 by omega]
          exact congrArg Value.string (bytes_cons _ _)
        · simp only [RowKit.intOf]; omega
      · have hz0 : u.tmod 10 = 0 := by omega
        have hcv := run_byte_string (P := Tryd.prog) 22 9 5 48 (by omega) (by omega) Tryd.underlying22 Tryd.underlying5 Tryd.underlying9
        go_wp2
        refine ⟨⟨u.tdiv 10, UInt8.ofNat (48 + u.natAbs % 10) :: l, by omega, by omega, rfl, ?_, HR.out, hb.alloc hb.size _⟩, ?_⟩
        · have e2 := E2.out
          rw [show 48 + u.natAbs % 10 = 48 by omega]
          exact congrArg Value.string (bytes_cons _ _)
        · simp only [RowKit.intOf]; omega

theorem specFormat_zero (w : World) :
    Calls Tryd.prog 83 #[.int .i64 0] w fun e w' => e = .returned (num 0) ∧ Below w.heap.size w w' := by
  go_enter Tryd.func83, Tryd.ntmps83
  go_wp2
  go_ret
  exact ⟨by unfold num; rw [dec.itoa_pos' (by omega)]; show _ = Ending.returned (.string ⟨(decDigits 0).toArray⟩); rw [Lib.decDigits_one (by omega)]; rfl, Below.refl _ _⟩

theorem specFormat (n : Int) (h0 : -9223372036854775808 ≤ n) (h1 : n ≤ 9223372036854775807) (w : World) :
    Calls Tryd.prog 83 #[.int .i64 n] w fun e w' => e = .returned (num n) ∧ Below w.heap.size w w' := by
  by_cases hn : n < 0
  · exact specFormat_neg n h0 hn w
  · by_cases hz : n = 0
    · subst hz; exact specFormat_zero w
    · exact specFormat_pos n (by omega) h1 w

end Go.Proofs.YteoilhbidnnneaaDoor.fmt

/-
  What the project's ParseInt and ParseSigned return: the number whose decimal numeral the text is, if there is one in range, and else 0 and false.
  Conditions: the text has at most 2^48 bytes; the library's table of powers of ten and its two errors hold what its text lays.
-/
namespace Go.Proofs.YteoilhbidnnneaaDoor.prs
open Go.ChangeShapes Go.WideShapes Go.ChangeAt Go.RowKit Go.Sort Go.Lib
set_option linter.unusedVariables false

/-- What the library's reading wants of the world. -/
def Env (w : World) : Prop := fmt.Tab w ∧ (∃ tp p, w.var? Tryd.prog "strconv.ErrSyntax" = some #[.iface tp p]) ∧ (∃ tp p, w.var? Tryd.prog "strconv.ErrRange" = some #[.iface tp p])
theorem gES : Tryd.prog.globalNamed "strconv.ErrSyntax" = some 1 := by kernel_rfl
theorem gER : Tryd.prog.globalNamed "strconv.ErrRange" = some 2 := by kernel_rfl
theorem Env.stays {w w' : World} (h : Env w) (hb : RowKit.Below w.heap.size w w') : Env w' := by
  obtain ⟨h1, ⟨t2, p2, h2⟩, ⟨t3, p3, h3⟩⟩ := h
  exact ⟨h1.stays hb, ⟨t2, p2, Joins.var_stays gES h2 hb (Nat.le_refl _)⟩, ⟨t3, p3, Joins.var_stays gER h3 hb (Nat.le_refl _)⟩⟩

def two (x : Int × Bool) : Value := .tuple #[.int .i64 x.1, .bool x.2]

theorem libAtoi_ok (s : ByteArray) (hl : s.size ≤ 281474976710656) (v : Int) (h : Lib.atoiAll s.data.toList = .ok v) (w : World) :
    Calls Tryd.prog 86 #[.string s] w fun e w' => e = .returned (.tuple #[.int .i64 v, .nilIface]) ∧ RowKit.Below w.heap.size w w' :=
  (Tryd.strconv_Atoi_ok s (by omega) v h w).mono fun e w' ⟨he, hw⟩ => ⟨he, by
    rcases hw with rfl | ⟨t, rfl⟩
    · exact RowKit.Below.refl _ _
    · exact Lib.bytesWorld_below _ _ _⟩

theorem libAtoi_bad (s : ByteArray) (hl : s.size ≤ 281474976710656) (h : ∀ v, Lib.atoiAll s.data.toList ≠ .ok v) (w : World) (hE : Env w) :
    Calls Tryd.prog 86 #[.string s] w fun e w' => ∃ (n : Int) (N : Nat), e = .returned (.tuple #[.int .i64 n, .iface 117 (.pointer (some ⟨N, 0, none⟩))]) ∧ RowKit.Below w.heap.size w w' := by
  obtain ⟨_, ⟨t2, p2, h2⟩, ⟨t3, p3, h3⟩⟩ := hE
  by_cases hr : Lib.atoiAll s.data.toList = .range
  · exact (Tryd.strconv_Atoi_range_var s hl hr t3 p3 w h3).mono fun e w' ⟨N, he, _, _, hb⟩ => ⟨_, N, he, hb⟩
  · exact (Tryd.strconv_Atoi_syntax_var s hl (fun e he => ⟨fun hh => hr (he.trans hh), fun v hh => h v (he.trans hh)⟩) t2 p2 w h2).mono fun e w' ⟨N, he, _, _, hb⟩ => ⟨_, N, he, hb⟩

theorem within (s : ByteArray) (low high : Int) (hl : s.size ≤ 281474976710656) (w : World) (hE : Env w) :
    Calls Tryd.prog 85 #[.string s, .int .i64 low, .int .i64 high] w fun e w' => e = .returned (two (dec.pr low high s.data.toList)) ∧ RowKit.Below w.heap.size w w' := by
  have HE := Lib.hid hE; clear hE
  by_cases hv : ∃ v, Lib.atoiAll s.data.toList = .ok v
  · obtain ⟨v, hv⟩ := hv
    obtain ⟨v0, v1⟩ := Lib.atoiAll_bounds hv
    have hpr : dec.pr low high s.data.toList = if Lib.itoa v = s.data.toList ∧ low ≤ v ∧ v ≤ high then (v, true) else (0, false) := by unfold dec.pr; rw [hv]
    have HV := Lib.hid hv; clear hv
    by_cases hs : Lib.itoa v = s.data.toList
    · have hn : fmt.num v = .string s := by unfold fmt.num; rw [hs, Joins.bytes_eta]
      by_cases hr : nums.inr v low high = true
      · have hp : dec.pr low high s.data.toList = (v, true) := by rw [hpr, if_pos]; unfold nums.inr at hr; simp at hr; exact ⟨hs, hr.1, hr.2⟩
        have HP := Lib.hid hp; have HN := Lib.hid hn; have HR := Lib.hid hr; clear hp hn hr hpr hs
        go_enter Tryd.func85, Tryd.ntmps85
        go_wp2_with (first | (go_at_call 86; refine (libAtoi_ok s hl v HV.out _).mono ?_; rintro e w1 ⟨rfl, hb1⟩) | (go_at_call 87; refine (fmt.implFormat v v0 v1 _ (HE.out.stays hb1).1).mono ?_; rintro e w2 ⟨rfl, hb2⟩; rw [HN.out]) | (go_at_call 39; refine (nums.implInRange _ _ _ _).mono ?_; rintro e w3 ⟨rfl, rfl⟩; rw [HR.out]))
        go_ret2
        exact ⟨by rw [HP.out]; rfl, hb1.trans (hb2.mono hb1.size)⟩
      · have hr' : nums.inr v low high = false := by simpa using hr
        have hp : dec.pr low high s.data.toList = (0, false) := by rw [hpr, if_neg]; unfold nums.inr at hr; simp at hr; intro hh; have := hr hh.2.1; omega
        have HP := Lib.hid hp; have HN := Lib.hid hn; have HR := Lib.hid hr'; clear hp hn hr hr' hpr hs
        go_enter Tryd.func85, Tryd.ntmps85
        go_wp2_with (first | (go_at_call 86; refine (libAtoi_ok s hl v HV.out _).mono ?_; rintro e w1 ⟨rfl, hb1⟩) | (go_at_call 87; refine (fmt.implFormat v v0 v1 _ (HE.out.stays hb1).1).mono ?_; rintro e w2 ⟨rfl, hb2⟩; rw [HN.out]) | (go_at_call 39; refine (nums.implInRange _ _ _ _).mono ?_; rintro e w3 ⟨rfl, rfl⟩; rw [HR.out]))
        go_ret2
        exact ⟨by rw [HP.out]; rfl, hb1.trans (hb2.mono hb1.size)⟩
    · have hp : dec.pr low high s.data.toList = (0, false) := by rw [hpr, if_neg]; exact fun hh => hs hh.1
      obtain ⟨b, hn, hbs⟩ : ∃ b, fmt.num v = .string b ∧ b ≠ s := ⟨_, rfl, fun hh => hs (by rw [← hh])⟩
      have hbs1 : ¬ b.toList = s.toList := fun hh => hbs (by rw [ByteArray.toList_eq, ByteArray.toList_eq] at hh; exact Go.WideShapes.bytes_inj hh)
      have HP := Lib.hid hp; have HN := Lib.hid hn; clear hp hn hpr hs hbs
      go_enter Tryd.func85, Tryd.ntmps85
      go_wp2_with (first | (go_at_call 86; refine (libAtoi_ok s hl v HV.out _).mono ?_; rintro e w1 ⟨rfl, hb1⟩) | (go_at_call 87; refine (fmt.implFormat v v0 v1 _ (HE.out.stays hb1).1).mono ?_; rintro e w2 ⟨rfl, hb2⟩; rw [HN.out]))
      go_ret2
      exact ⟨by rw [HP.out]; rfl, hb1.trans (hb2.mono hb1.size)⟩
  · have hp : dec.pr low high s.data.toList = (0, false) := by
      unfold dec.pr
      split
      · rename_i n hn
        exact absurd ⟨n, hn⟩ hv
      · rfl
    have hv' : ∀ v, Lib.atoiAll s.data.toList ≠ .ok v := fun v hh => hv ⟨v, hh⟩
    have HP := Lib.hid hp; have HV := Lib.hid hv'; clear hp hv hv'
    go_enter Tryd.func85, Tryd.ntmps85
    go_wp2_with (first | (go_at_call 86; refine (libAtoi_bad s hl HV.out _ HE.out).mono ?_; rintro e w1 ⟨n, N, rfl, hb1⟩))
    go_ret2
    exact ⟨by rw [HP.out]; rfl, hb1⟩

end Go.Proofs.YteoilhbidnnneaaDoor.prs

/-
  What the model's ParseInt and ParseSigned return: the same numbers as the project's.
  Conditions: the text has at most 2^48 bytes.
-/
namespace Go.Proofs.YteoilhbidnnneaaDoor.prs
open Go.ChangeShapes Go.WideShapes Go.ChangeAt Go.RowKit Go.Sort Go.Lib
set_option linter.unusedVariables false


theorem implParseSigned (s : ByteArray) (hl : s.size ≤ 281474976710656) (w : World) (hE : Env w) :
    Calls Tryd.prog 84 #[.string s] w fun e w' => e = .returned (two (dec.pr (-1000000000) 1000000000 s.data.toList)) ∧ RowKit.Below w.heap.size w w' := by
  have HE := Lib.hid hE; clear hE
  generalize hp : dec.pr (-1000000000) 1000000000 s.data.toList = x
  have HP := Lib.hid hp; clear hp
  obtain ⟨x1, x2⟩ := x
  go_enter Tryd.func84, Tryd.ntmps84
  go_wp2_with (go_at_call 85; refine (within s (-1000000000) 1000000000 hl _ HE.out).mono ?_; rintro e w1 ⟨rfl, hb1⟩; rw [HP.out]; unfold two)
  go_ret2
  exact ⟨rfl, hb1⟩

theorem val_lt : ∀ (l : List UInt8) (a : Nat), (∀ b ∈ l, dec.isDig b) → dec.valFrom a l < (a + 1) * 10 ^ l.length
  | [], a, _ => by rw [dec.valFrom_nil]; simp
  | b :: l, a, h => by
    have hb : dec.isDig b := h b List.mem_cons_self
    unfold dec.isDig at hb
    have ih := val_lt l (10 * a + (b.toNat - 48)) (fun x hx => h x (List.mem_cons_of_mem _ hx))
    rw [dec.valFrom_cons]
    have e : (10 * a + (b.toNat - 48) + 1) * 10 ^ l.length ≤ (10 * (a + 1)) * 10 ^ l.length := Nat.mul_le_mul_right _ (by omega)
    have e2 : (10 * (a + 1)) * 10 ^ l.length = (a + 1) * 10 ^ (l.length + 1) := by rw [Nat.pow_succ, Nat.mul_comm 10 (a + 1), Nat.mul_assoc, Nat.mul_comm 10]
    rw [List.length_cons]
    omega

theorem val_small {l : List UInt8} (h : ∀ b ∈ l, dec.isDig b) (hl : l.length ≤ 13) : dec.val l < 10000000000000 := by
  have h1 := val_lt l 0 h
  have h2 : 10 ^ l.length ≤ 10 ^ 13 := Nat.pow_le_pow_right (by omega) hl
  have h3 : (10 : Nat) ^ 13 = 10000000000000 := by decide
  unfold dec.val
  omega

/-- After k bytes, all of them digits, the number is u. -/
def Sofar (l : List UInt8) (k u : Nat) : Prop := (∀ b ∈ l.take k, dec.isDig b) ∧ u = dec.val (l.take k)
theorem Sofar.start (l : List UInt8) : Sofar l 0 0 := ⟨by simp, by simp [dec.val, dec.valFrom_nil]⟩
theorem size_eq (s : ByteArray) : s.data.toList.length = s.size := Array.length_toList
theorem Sofar.step {s : ByteArray} {k u : Nat} (h : Sofar s.data.toList k u) (hk : k < s.size) (hd : dec.isDig s[k]) : Sofar s.data.toList (k + 1) (10 * u + (s[k].toNat - 48)) := by
  have e : s.data.toList.take (k + 1) = s.data.toList.take k ++ [s[k]] := by
    rw [List.take_succ_eq_append_getElem (by rw [size_eq]; exact hk)]; rfl
  unfold Sofar
  rw [e]
  refine ⟨fun b hb => ?_, by rw [dec.val_snoc, h.2]⟩
  rcases List.mem_append.1 hb with hb | hb
  · exact h.1 b hb
  · simp only [List.mem_singleton] at hb
    rw [hb]
    exact hd
theorem mem_at {s : ByteArray} {k : Nat} (hk : k < s.size) : s[k] ∈ s.data.toList := by
  have h : s.data.toList[k]'(by rw [size_eq]; exact hk) ∈ s.data.toList := List.getElem_mem _
  exact h
theorem Sofar.all {s : ByteArray} {u : Nat} (h : Sofar s.data.toList s.size u) : (∀ b ∈ s.data.toList, dec.isDig b) ∧ u = dec.val s.data.toList := by
  unfold Sofar at h
  rw [List.take_of_length_le (by rw [size_eq]; omega)] at h
  exact h
theorem Sofar.small {l : List UInt8} {k u : Nat} (h : Sofar l k u) (hk : k ≤ 13) : u < 10000000000000 := by
  rw [h.2]
  exact val_small h.1 (by rw [List.length_take]; omega)

theorem specParse (s : ByteArray) (hl : s.size ≤ 281474976710656) (w : World) :
    Calls Tryd.prog 81 #[.string s] w fun e w' => e = .returned (two (dec.pr 0 1000000000000 s.data.toList)) ∧ RowKit.Below w.heap.size w w' := by
  rw [← dec.sp_eq]
  have hsz : s.data.toList.length = s.size := Array.length_toList
  by_cases hr : nums.inr (s.size : Int) 1 13 = true
  · have hr1 : 1 ≤ s.size ∧ s.size ≤ 13 := by unfold nums.inr at hr; simp at hr; omega
    have HR := Lib.hid hr; clear hr
    have HZ := Lib.hid hsz; clear hsz
    obtain ⟨hr1, hr2⟩ := hr1
    go_enter Tryd.func81, Tryd.ntmps81
    go_wp2_with (go_at_call 38; refine (nums.l1In _ _ _ _).mono ?_; rintro e w1 ⟨rfl, rfl⟩; rw [HR.out])
    go_loop [4, 5] (fun n i => ∃ (k u : Nat) (x : Int), k ≤ s.size ∧ i = .int .i64 k ∧ Sofar s.data.toList k u ∧ 0 ≤ x ∧ x < 10000000000000 ∧ Hid (x = (u : Int)) ∧ n = .int .i64 x) (fun _ i => s.size - (RowKit.intOf i).toNat)
    case atStart => exact ⟨0, 0, 0, by omega, rfl, Sofar.start _, by omega, by omega, rfl, rfl⟩
    case round =>
      obtain ⟨k, u, x, hk, rfl, hS, hx0, hx1, HX, rfl⟩ := hrel
      by_cases hlt : k < s.size
      · have hb0 : (0 : Int) ≤ (s[k].toNat : Int) := by omega
        have hb9 : (s[k].toNat : Int) ≤ 255 := by have := s[k].toNat_lt; omega
        by_cases hd : dec.isDig s[k]
        · have hd' := hd
          unfold dec.isDig at hd'
          obtain ⟨d1, d2⟩ := hd'
          have D1 : (48 : Int) ≤ (s[k].toNat : Int) := by omega
          have D2 : (s[k].toNat : Int) ≤ 57 := by omega
          have hin : nums.inr (s[k].toNat : Int) 48 57 = true := by unfold nums.inr; simp; omega
          have hS' := hS.step hlt hd
          have hu' := hS'.small (by omega)
          have HS := Lib.hid hS'; have HIN := Lib.hid hin; clear hS hS' hin hd
          go_wp2_with (go_at_call 38; refine (nums.l1In _ _ _ _).mono ?_; rintro e w1 ⟨rfl, rfl⟩; rw [HIN.out])
          exact ⟨⟨k + 1, 10 * u + (s[k].toNat - 48), 10 * x + ((s[k].toNat : Int) - 48), by omega, by go_num, HS.out, by omega, by have := HX.out; omega, by have := HX.out; show _ = _; omega, rfl⟩, by simp only [RowKit.intOf]; omega⟩
        · have hin : nums.inr (s[k].toNat : Int) 48 57 = false := by unfold dec.isDig at hd; unfold nums.inr; simp; omega
          have hsp : dec.sp s.data.toList = (0, false) := by
            unfold dec.sp
            rw [if_neg]
            exact fun hh => hd (hh.2.2.1 _ (mem_at hlt))
          have HSP := Lib.hid hsp; have HIN := Lib.hid hin; clear hS hin hd hsp
          go_wp2_with (go_at_call 38; refine (nums.l1In _ _ _ _).mono ?_; rintro e w1 ⟨rfl, rfl⟩; rw [HIN.out])
          go_ret2
          exact ⟨by rw [HSP.out]; rfl, RowKit.Below.refl _ _⟩
      · obtain rfl : k = s.size := by omega
        obtain ⟨ha, hv⟩ := hS.all
        have hz := HZ.out
        have hx := HX.out
        by_cases hm : 1000000000000 < x
        · have hsp : dec.sp s.data.toList = (0, false) := by
            unfold dec.sp
            rw [if_neg]
            exact fun hh => by have := hh.2.2.2.1; omega
          have HSP := Lib.hid hsp; clear hsp ha hv hz hS hx
          go_wp2
          go_ret2
          exact ⟨by rw [HSP.out]; rfl, RowKit.Below.refl _ _⟩
        · by_cases hi : Lib.itoa (u : Int) = s.data.toList
          · have hn : fmt.num x = .string s := by unfold fmt.num; rw [hx, hi, Joins.bytes_eta]
            have hsp : dec.sp s.data.toList = (x, true) := by
              unfold dec.sp
              rw [if_pos, hx, hv]
              exact ⟨by omega, by omega, ha, by omega, by rw [← hv]; exact hi⟩
            have HSP := Lib.hid hsp; have HN := Lib.hid hn; clear hsp ha hv hz hS hi hn hx
            go_wp2_with (go_at_call 83; refine (fmt.specFormat _ (by omega) (by omega) _).mono ?_; rintro e w2 ⟨rfl, hb2⟩; rw [HN.out])
            go_ret2
            exact ⟨by rw [HSP.out]; rfl, hb2⟩
          · have hsp : dec.sp s.data.toList = (0, false) := by
              unfold dec.sp
              rw [if_neg]
              exact fun hh => hi (by rw [hv]; exact hh.2.2.2.2)
            obtain ⟨b, hn, hbs⟩ : ∃ b, fmt.num x = .string b ∧ b ≠ s := ⟨_, rfl, fun hh => hi (by rw [← hh, hx])⟩
            have hbs1 : ¬ b.toList = s.toList := fun hh => hbs (by rw [ByteArray.toList_eq, ByteArray.toList_eq] at hh; exact Go.WideShapes.bytes_inj hh)
            have hbs2 : (b.toList == s.toList) = false := by rw [beq_eq_false_iff_ne]; exact hbs1
            have HSP := Lib.hid hsp; have HN := Lib.hid hn; clear hsp ha hv hz hS hi hn hbs hx
            go_wp2_with (go_at_call 83; refine (fmt.specFormat _ (by omega) (by omega) _).mono ?_; rintro e w2 ⟨rfl, hb2⟩; rw [HN.out])
            go_ret2
            exact ⟨by rw [HSP.out]; rfl, hb2⟩
  · have hr' : nums.inr (s.size : Int) 1 13 = false := by simpa using hr
    have hsp : dec.sp s.data.toList = (0, false) := by
      unfold dec.sp
      rw [if_neg]
      intro hh
      apply hr
      unfold nums.inr
      simp
      omega
    have HSP := Lib.hid hsp; have HR := Lib.hid hr'; clear hr hr' hsp
    go_enter Tryd.func81, Tryd.ntmps81
    go_wp2_with (go_at_call 38; refine (nums.l1In _ _ _ _).mono ?_; rintro e w1 ⟨rfl, rfl⟩; rw [HR.out])
    go_ret2
    exact ⟨by rw [HSP.out]; rfl, RowKit.Below.refl _ _⟩

theorem tail_eq (s : ByteArray) : (s.extract 1 s.size).data.toList = s.data.toList.tail := by
  rw [Lib.extract_to_end]
  exact List.drop_one

theorem specParseSigned (s : ByteArray) (hl : s.size ≤ 281474976710656) (w : World) :
    Calls Tryd.prog 72 #[.string s] w fun e w' => e = .returned (two (dec.pr (-1000000000) 1000000000 s.data.toList)) ∧ RowKit.Below w.heap.size w w' := by
  rw [← dec.sps_eq]
  have hsz := size_eq s
  by_cases hneg : s.data.toList.head? = some 45
  · have h0 : 0 < s.size := by
      rcases Nat.eq_zero_or_pos s.size with h | h
      · have : s.data.toList = [] := List.eq_nil_of_length_eq_zero (by omega)
        rw [this] at hneg
        cases hneg
      · exact h
    have h45 : s[0] = 45 := by
      have : s.data.toList.head? = some s[0] := by
        rw [List.head?_eq_getElem?, List.getElem?_eq_getElem (by omega)]
        rfl
      rw [this] at hneg
      injection hneg
    have hps : dec.sps s.data.toList = if (dec.sp s.data.toList.tail).2 = true ∧ (dec.sp s.data.toList.tail).1 ≤ 1000000000 ∧ (dec.sp s.data.toList.tail).1 ≠ 0 then (-(dec.sp s.data.toList.tail).1, true) else (0, false) := by
      unfold dec.sps
      rw [if_pos hneg]
    have hb := dec.pr_true (low := 0) (high := 1000000000000) (l := s.data.toList.tail)
    rw [dec.sp_eq] at hps
    rw [← tail_eq] at hps hb
    have hes : (s.extract 1 s.size).size ≤ 281474976710656 := by rw [ByteArray.size_extract]; omega
    generalize hx : dec.pr 0 1000000000000 (s.extract 1 s.size).data.toList = x at hps hb
    obtain ⟨n, ok⟩ := x
    have HX := Lib.hid hx; have HES := Lib.hid hes; clear hx hes hneg hsz
    cases ok
    · rw [if_neg (fun hh => by cases hh.1)] at hps
      have HP := Lib.hid hps; clear hps hb
      go_enter Tryd.func72, Tryd.ntmps72
      go_wp2_with (go_at_call 81; refine (specParse _ HES.out _).mono ?_; rintro e w1 ⟨rfl, hb1⟩; rw [HX.out]; unfold two)
      go_ret2
      exact ⟨by rw [HP.out]; rfl, hb1⟩
    · obtain ⟨_, b1, b2⟩ := hb rfl
      simp only at b1 b2
      by_cases hm : n ≤ 1000000000
      · by_cases hz : n = 0
        · subst hz
          rw [if_neg (fun hh => hh.2.2 rfl)] at hps
          have HP := Lib.hid hps; clear hps hb
          go_enter Tryd.func72, Tryd.ntmps72
          go_wp2_with (go_at_call 81; refine (specParse _ HES.out _).mono ?_; rintro e w1 ⟨rfl, hb1⟩; rw [HX.out]; unfold two)
          go_ret2
          exact ⟨by rw [HP.out]; rfl, hb1⟩
        · rw [if_pos ⟨rfl, hm, hz⟩] at hps
          have hz1 : (n == 0) = false := by rw [beq_eq_false_iff_ne]; exact hz
          have HP := Lib.hid hps; clear hps hb
          go_enter Tryd.func72, Tryd.ntmps72
          go_wp2_with (go_at_call 81; refine (specParse _ HES.out _).mono ?_; rintro e w1 ⟨rfl, hb1⟩; rw [HX.out]; unfold two)
          go_ret2
          exact ⟨by rw [HP.out]; rfl, hb1⟩
      · rw [if_neg (fun hh => hm hh.2.1)] at hps
        have HP := Lib.hid hps; clear hps hb
        go_enter Tryd.func72, Tryd.ntmps72
        go_wp2_with (go_at_call 81; refine (specParse _ HES.out _).mono ?_; rintro e w1 ⟨rfl, hb1⟩; rw [HX.out]; unfold two)
        go_ret2
        exact ⟨by rw [HP.out]; rfl, hb1⟩
  · have hps : dec.sps s.data.toList = if (dec.sp s.data.toList).2 = true ∧ (dec.sp s.data.toList).1 ≤ 1000000000 then ((dec.sp s.data.toList).1, true) else (0, false) := by
      unfold dec.sps
      rw [if_neg hneg]
    have hb := dec.pr_true (low := 0) (high := 1000000000000) (l := s.data.toList)
    rw [dec.sp_eq] at hps
    generalize hx : dec.pr 0 1000000000000 s.data.toList = x at hps hb
    obtain ⟨n, ok⟩ := x
    have HX := Lib.hid hx; clear hx
    by_cases h0 : 0 < s.size
    · have h45 : s[0] ≠ 45 := by
        intro h
        apply hneg
        rw [List.head?_eq_getElem?, List.getElem?_eq_getElem (by omega)]
        exact congrArg some h
      have h46 : ((s[0].toNat : Int) == 45) = false := by
        rw [beq_eq_false_iff_ne]
        intro h
        apply h45
        apply UInt8.toNat_inj.1
        have : (45 : UInt8).toNat = 45 := rfl
        omega
      clear hneg hsz h45
      cases ok
      · rw [if_neg (fun hh => by cases hh.1)] at hps
        have HP := Lib.hid hps; clear hps hb
        go_enter Tryd.func72, Tryd.ntmps72
        go_wp2_with (go_at_call 81; refine (specParse _ hl _).mono ?_; rintro e w1 ⟨rfl, hb1⟩; rw [HX.out]; unfold two)
        go_ret2
        exact ⟨by rw [HP.out]; rfl, hb1⟩
      · obtain ⟨_, b1, b2⟩ := hb rfl
        simp only at b1 b2
        by_cases hm : n ≤ 1000000000
        · rw [if_pos ⟨rfl, hm⟩] at hps
          have HP := Lib.hid hps; clear hps hb
          go_enter Tryd.func72, Tryd.ntmps72
          go_wp2_with (go_at_call 81; refine (specParse _ hl _).mono ?_; rintro e w1 ⟨rfl, hb1⟩; rw [HX.out]; unfold two)
          go_ret2
          exact ⟨by rw [HP.out]; rfl, hb1⟩
        · rw [if_neg (fun hh => hm hh.2)] at hps
          have HP := Lib.hid hps; clear hps hb
          go_enter Tryd.func72, Tryd.ntmps72
          go_wp2_with (go_at_call 81; refine (specParse _ hl _).mono ?_; rintro e w1 ⟨rfl, hb1⟩; rw [HX.out]; unfold two)
          go_ret2
          exact ⟨by rw [HP.out]; rfl, hb1⟩
    · have hsz0 : (s.size : Int) ≤ 0 := by omega
      clear hneg hsz
      cases ok
      · rw [if_neg (fun hh => by cases hh.1)] at hps
        have HP := Lib.hid hps; clear hps hb
        go_enter Tryd.func72, Tryd.ntmps72
        go_wp2_with (go_at_call 81; refine (specParse _ hl _).mono ?_; rintro e w1 ⟨rfl, hb1⟩; rw [HX.out]; unfold two)
        go_ret2
        exact ⟨by rw [HP.out]; rfl, hb1⟩
      · obtain ⟨_, b1, b2⟩ := hb rfl
        simp only at b1 b2
        by_cases hm : n ≤ 1000000000
        · rw [if_pos ⟨rfl, hm⟩] at hps
          have HP := Lib.hid hps; clear hps hb
          go_enter Tryd.func72, Tryd.ntmps72
          go_wp2_with (go_at_call 81; refine (specParse _ hl _).mono ?_; rintro e w1 ⟨rfl, hb1⟩; rw [HX.out]; unfold two)
          go_ret2
          exact ⟨by rw [HP.out]; rfl, hb1⟩
        · rw [if_neg (fun hh => hm hh.2)] at hps
          have HP := Lib.hid hps; clear hps hb
          go_enter Tryd.func72, Tryd.ntmps72
          go_wp2_with (go_at_call 81; refine (specParse _ hl _).mono ?_; rintro e w1 ⟨rfl, hb1⟩; rw [HX.out]; unfold two)
          go_ret2
          exact ⟨by rw [HP.out]; rfl, hb1⟩

end Go.Proofs.YteoilhbidnnneaaDoor.prs

/-
  IsKey of the project and of the model.
  Conditions: the key's text has at most 2^48 bytes; the package variables of the library's reading of numbers hold what the program's text lays.
-/
namespace Go.Proofs.YteoilhbidnnneaaDoor.tree
open Go.ChangeShapes Go.WideShapes Go.ChangeAt Go.RowKit
set_option linter.unusedVariables false

def num (s : ByteArray) : Bool := (dec.pr (-1000000000) 1000000000 s.data.toList).2
def keyB (y : Ky) : Bool := if y.text then decide (y.num = 0) && decide (y.str.size ≤ 400) && !num y.str else nums.inr y.num (-1000000000) 1000000000 && decide (y.str.size = 0)

def KeyQ (w : World) (b : Bool) (e : Ending) (w' : World) : Prop := e = .returned (.bool b) ∧ Below w.heap.size w w'
theorem empty_of {s : ByteArray} (h : s.size = 0) : s = ⟨#[]⟩ := by
  obtain ⟨a⟩ := s
  have : a = #[] := Array.eq_empty_of_size_eq_zero h
  rw [this]
theorem list_of {s : ByteArray} (h : s.size ≠ 0) : ¬ s.toList = [] ∧ s.toList.isEmpty = false := by
  have h1 : ¬ s.toList = [] := fun hh => h (by
    rw [ByteArray.toList_eq] at hh
    have : s.data.toList.length = 0 := by rw [hh]; rfl
    simpa using this)
  exact ⟨h1, by cases hl : s.toList with
    | nil => exact absurd hl h1
    | cons a l => rfl⟩

set_option maxHeartbeats 800000 in
theorem isKey_i (y : Ky) (hs : y.str.size ≤ 281474976710656) (w : World) (hE : prs.Env w) : Calls Tryd.prog 82 #[kyV y] w (KeyQ w (keyB y)) := by
  obtain ⟨b, m, s⟩ := y
  replace hs : s.size ≤ 281474976710656 := hs
  have HE := Lib.hid hE
  clear hE
  cases b
  · have e : keyB ⟨false, m, s⟩ = (nums.inr m (-1000000000) 1000000000 && decide (s.size = 0)) := rfl
    rw [e]
    clear e
    unfold kyV
    obtain ⟨q, HQ⟩ : ∃ q, Hid (nums.inr m (-1000000000) 1000000000 = q) := ⟨_, Lib.hid rfl⟩
    have IR : ∀ w, Calls Tryd.prog 39 #[.int .i64 m, .int .i64 (-1000000000), .int .i64 1000000000] w fun e w' => e = .returned (.bool q) ∧ w = w' := fun w => HQ.out ▸ nums.implInRange m (-1000000000) 1000000000 w
    rw [HQ.out]
    by_cases h0 : s.size = 0
    · obtain rfl := empty_of h0
      cases q
      all_goals
        go_enter Tryd.func82, Tryd.ntmps82
        go_wp2_with (fail)
        refine (IR _).mono ?_
        rintro e w1 ⟨rfl, rfl⟩
        go_wp2_with (fail)
        go_ret
        exact ⟨rfl, b1 _ _⟩
    · obtain ⟨l1, l2⟩ := list_of h0
      rw [show decide (s.size = 0) = false from decide_eq_false h0]
      clear h0
      cases q
      all_goals
        go_enter Tryd.func82, Tryd.ntmps82
        go_wp2_with (fail)
        refine (IR _).mono ?_
        rintro e w1 ⟨rfl, rfl⟩
        go_wp2_with (fail)
        go_ret
        exact ⟨rfl, b1 _ _⟩
  · have e : keyB ⟨true, m, s⟩ = (decide (m = 0) && decide (s.size ≤ 400) && !num s) := rfl
    rw [e]
    clear e
    unfold kyV
    obtain ⟨⟨x1, x2⟩, HX⟩ : ∃ x, Hid (dec.pr (-1000000000) 1000000000 s.data.toList = x) := ⟨_, Lib.hid rfl⟩
    have hn : num s = x2 := by unfold num; rw [HX.out]
    rw [hn]
    have PS : Hid (∀ w, prs.Env w → Calls Tryd.prog 84 #[.string s] w fun e w' => e = .returned (.tuple #[.int .i64 x1, .bool x2]) ∧ Below w.heap.size w w') := Lib.hid fun w hE => by
      have := prs.implParseSigned s hs w hE
      rw [HX.out] at this
      exact this
    clear hn
    by_cases h0 : m = 0
    · subst h0
      by_cases h4 : s.size ≤ 400
      · rw [show decide (s.size ≤ 400) = true from decide_eq_true h4]
        cases x2
        all_goals
          go_enter Tryd.func82, Tryd.ntmps82
          go_wp2_with (fail)
          refine (PS.out _ (HE.out.stays (b1 _ _))).mono ?_
          rintro e w1 ⟨rfl, hb1⟩
          have HB := Lib.hid (bs (b1 w _) hb1)
          obtain ⟨r1, -⟩ := rowc (carry hb1 (heap_alloc_new w _))
          clear hb1
          go_wp2_with (fail)
          go_ret
          exact ⟨rfl, HB.out⟩
      · rw [show decide (s.size ≤ 400) = false from decide_eq_false h4]
        have h4' : 400 < s.size := by omega
        clear h4
        go_enter Tryd.func82, Tryd.ntmps82
        go_wp2_with (fail)
        refine (PS.out _ (HE.out.stays (b1 _ _))).mono ?_
        rintro e w1 ⟨rfl, hb1⟩
        have HB := Lib.hid (bs (b1 w _) hb1)
        obtain ⟨r1, -⟩ := rowc (carry hb1 (heap_alloc_new w _))
        clear hb1
        go_wp2_with (fail)
        go_ret
        exact ⟨rfl, HB.out⟩
    · rw [show decide (m = 0) = false from decide_eq_false h0]
      go_enter Tryd.func82, Tryd.ntmps82
      go_wp2_with (fail)
      refine (PS.out _ (HE.out.stays (b1 _ _))).mono ?_
      rintro e w1 ⟨rfl, hb1⟩
      have HB := Lib.hid (bs (b1 w _) hb1)
      obtain ⟨r1, -⟩ := rowc (carry hb1 (heap_alloc_new w _))
      clear hb1
      go_wp2_with (fail)
      go_ret
      exact ⟨rfl, HB.out⟩

set_option maxHeartbeats 800000 in
theorem isKey_s (y : Ky) (hs : y.str.size ≤ 281474976710656) (w : World) (hE : prs.Env w) : Calls Tryd.prog 59 #[kyV y] w (KeyQ w (keyB y)) := by
  obtain ⟨b, m, s⟩ := y
  replace hs : s.size ≤ 281474976710656 := hs
  have HE := Lib.hid hE
  clear hE
  cases b
  · have e : keyB ⟨false, m, s⟩ = (nums.inr m (-1000000000) 1000000000 && decide (s.size = 0)) := rfl
    rw [e]
    clear e
    unfold kyV
    obtain ⟨q, HQ⟩ : ∃ q, Hid (nums.inr m (-1000000000) 1000000000 = q) := ⟨_, Lib.hid rfl⟩
    have IR : ∀ w, Calls Tryd.prog 38 #[.int .i64 m, .int .i64 (-1000000000), .int .i64 1000000000] w fun e w' => e = .returned (.bool q) ∧ w = w' := fun w => HQ.out ▸ nums.l1In m (-1000000000) 1000000000 w
    rw [HQ.out]
    by_cases h0 : s.size = 0
    · obtain rfl := empty_of h0
      cases q
      all_goals
        go_enter Tryd.func59, Tryd.ntmps59
        go_wp2_with (fail)
        refine (IR _).mono ?_
        rintro e w1 ⟨rfl, rfl⟩
        go_wp2_with (fail)
        go_ret
        exact ⟨rfl, b1 _ _⟩
    · obtain ⟨l1, l2⟩ := list_of h0
      rw [show decide (s.size = 0) = false from decide_eq_false h0]
      clear h0
      cases q
      all_goals
        go_enter Tryd.func59, Tryd.ntmps59
        go_wp2_with (fail)
        refine (IR _).mono ?_
        rintro e w1 ⟨rfl, rfl⟩
        go_wp2_with (fail)
        go_ret
        exact ⟨rfl, b1 _ _⟩
  · have e : keyB ⟨true, m, s⟩ = (decide (m = 0) && decide (s.size ≤ 400) && !num s) := rfl
    rw [e]
    clear e
    unfold kyV
    obtain ⟨⟨x1, x2⟩, HX⟩ : ∃ x, Hid (dec.pr (-1000000000) 1000000000 s.data.toList = x) := ⟨_, Lib.hid rfl⟩
    have hn : num s = x2 := by unfold num; rw [HX.out]
    rw [hn]
    have PS : Hid (∀ w, prs.Env w → Calls Tryd.prog 72 #[.string s] w fun e w' => e = .returned (.tuple #[.int .i64 x1, .bool x2]) ∧ Below w.heap.size w w') := Lib.hid fun w hE => by
      have := prs.specParseSigned s hs w
      rw [HX.out] at this
      exact this
    clear hn
    by_cases h0 : m = 0
    · subst h0
      by_cases h4 : s.size ≤ 400
      · rw [show decide (s.size ≤ 400) = true from decide_eq_true h4]
        cases x2
        all_goals
          go_enter Tryd.func59, Tryd.ntmps59
          go_wp2_with (fail)
          refine (PS.out _ (HE.out.stays (b1 _ _))).mono ?_
          rintro e w1 ⟨rfl, hb1⟩
          have HB := Lib.hid (bs (b1 w _) hb1)
          obtain ⟨r1, -⟩ := rowc (carry hb1 (heap_alloc_new w _))
          clear hb1
          go_wp2_with (fail)
          go_ret
          exact ⟨rfl, HB.out⟩
      · rw [show decide (s.size ≤ 400) = false from decide_eq_false h4]
        have h4' : 400 < s.size := by omega
        clear h4
        go_enter Tryd.func59, Tryd.ntmps59
        go_wp2_with (fail)
        refine (PS.out _ (HE.out.stays (b1 _ _))).mono ?_
        rintro e w1 ⟨rfl, hb1⟩
        have HB := Lib.hid (bs (b1 w _) hb1)
        obtain ⟨r1, -⟩ := rowc (carry hb1 (heap_alloc_new w _))
        clear hb1
        go_wp2_with (fail)
        go_ret
        exact ⟨rfl, HB.out⟩
    · rw [show decide (m = 0) = false from decide_eq_false h0]
      go_enter Tryd.func59, Tryd.ntmps59
      go_wp2_with (fail)
      refine (PS.out _ (HE.out.stays (b1 _ _))).mono ?_
      rintro e w1 ⟨rfl, hb1⟩
      have HB := Lib.hid (bs (b1 w _) hb1)
      obtain ⟨r1, -⟩ := rowc (carry hb1 (heap_alloc_new w _))
      clear hb1
      go_wp2_with (fail)
      go_ret
      exact ⟨rfl, HB.out⟩

end Go.Proofs.YteoilhbidnnneaaDoor.tree

/-
  Whether a key may be one of an array, of the project.
  Conditions: those that each theorem names.
-/
namespace Go.Proofs.YteoilhbidnnneaaDoor.tree
open Go.ChangeShapes Go.WideShapes Go.ChangeAt Go.RowKit
set_option linter.unusedVariables false

def belowB (y : Ky) (x : Int) : Bool := keyB y && (y.text || decide (y.num < x))
theorem keyBelow_i (y : Ky) (hs : y.str.size ≤ 281474976710656) (x : Int) (w : World) (hE : prs.Env w) : Calls Tryd.prog 80 #[kyV y, .int .i64 x] w (BoQ w (belowB y x)) := by
  obtain ⟨q, HQ⟩ : ∃ q, Hid (keyB y = q) := ⟨_, Lib.hid rfl⟩
  have KI : ∀ o, Calls Tryd.prog 82 #[kyV y] (w.alloc o) (KeyQ (w.alloc o) q) := fun o => HQ.out ▸ isKey_i y hs _ (hE.stays (b1 w o))
  unfold belowB
  rw [HQ.out]
  obtain ⟨b, m, s⟩ := y
  unfold kyV at KI ⊢
  simp only at KI ⊢
  clear hE hs
  have key : ∀ r : Bool, decide (m < x) = r → Calls Tryd.prog 80 #[.agg #[.bool b, .int .i64 m, .string s], .int .i64 x] w (BoQ w (q && (b || r))) := fun r hr => by
    cases r with
    | true =>
      have hr := of_decide_eq_true hr
      cases q <;> cases b
      all_goals
        go_enter Tryd.func80, Tryd.ntmps80
        go_wp2_with (fail)
        refine (KI _).mono ?_
        rintro e w1 ⟨rfl, hb1⟩
        obtain ⟨r1, -⟩ := rowc (carry hb1 (heap_alloc_new w _))
        have HB := Lib.hid (bs (b1 w _) hb1)
        clear hb1
        go_wp2_with (fail)
        go_ret
        exact ⟨rfl, HB.out⟩
    | false =>
      have hr := of_decide_eq_false hr
      cases q <;> cases b
      all_goals
        go_enter Tryd.func80, Tryd.ntmps80
        go_wp2_with (fail)
        refine (KI _).mono ?_
        rintro e w1 ⟨rfl, hb1⟩
        obtain ⟨r1, -⟩ := rowc (carry hb1 (heap_alloc_new w _))
        have HB := Lib.hid (bs (b1 w _) hb1)
        clear hb1
        go_wp2_with (fail)
        go_ret
        exact ⟨rfl, HB.out⟩
  exact key _ rfl

end Go.Proofs.YteoilhbidnnneaaDoor.tree

/-
  Whether a light value is valid, of the project.
  Conditions: those that each theorem names.
-/
namespace Go.Proofs.YteoilhbidnnneaaDoor.tree
open Go.ChangeShapes Go.WideShapes Go.ChangeAt Go.RowKit
set_option linter.unusedVariables false

/-- What a value that is no array has to be. -/
def scalB (k n : Int) (s : ByteArray) : Bool := if k = 0 then decide (n = 0) else if k = 1 then nums.inr n 0 1 else if k = 2 then nums.inr n (-1000000000) 1000000000 else if k = 3 then decide (n = 0) && decide (s.size ≤ 400) else if k = 6 ∨ k = 7 ∨ k = 8 then nums.inr n 0 255 else false
def restB (k n : Int) (s : ByteArray) (x : Int) (L : Nat) : Bool := ((decide (k = 3) || decide (s.size = 0)) && (decide (x = 0) && decide (L = 0))) && scalB k n s
mutual
/-- Whether a value is valid, but for its weight. -/
def sndB : Tr → Bool
  | .mk k n s x ks vs => if k = 4 then decide (s.size = 0) && (decide (n = 0) && (nums.inr x 0 1000000001 && itemsB x [] ks vs)) else restB k n s x vs.length
def itemsB (x : Int) : List Ky → List Ky → List Tr → Bool
  | seen, y :: ks, t :: vs => (!decide (y ∈ seen) && (belowB y x && sndB t)) && itemsB x (seen ++ [y]) ks vs
  | _, _, _ => true
end
theorem snd_four (n : Int) (s : ByteArray) (x : Int) (ks : List Ky) (vs : List Tr) : sndB (.mk 4 n s x ks vs) = (decide (s.size = 0) && (decide (n = 0) && (nums.inr x 0 1000000001 && itemsB x [] ks vs))) := by rw [sndB, if_pos rfl]
theorem snd_not {k n : Int} {s : ByteArray} {x : Int} {ks : List Ky} {vs : List Tr} (h : k ≠ 4) : sndB (.mk k n s x ks vs) = restB k n s x vs.length := by rw [sndB, if_neg h]
theorem items_cons (x : Int) (seen : List Ky) (y : Ky) (ks : List Ky) (t : Tr) (vs : List Tr) : itemsB x seen (y :: ks) (t :: vs) = ((!decide (y ∈ seen) && (belowB y x && sndB t)) && itemsB x (seen ++ [y]) ks vs) := by rw [itemsB]
theorem items_nil (x : Int) (seen ks : List Ky) : itemsB x seen ks [] = true := by cases ks <;> rw [itemsB] <;> simp
theorem items_drop {x : Int} {ks : List Ky} {vs : List Tr} {j : Nat} {y : Ky} {t : Tr} (hk : ks[j]? = some y) (hv : vs[j]? = some t) :
    itemsB x (ks.take j) (ks.drop j) (vs.drop j) = ((!decide (y ∈ ks.take j) && (belowB y x && sndB t)) && itemsB x (ks.take (j + 1)) (ks.drop (j + 1)) (vs.drop (j + 1))) := by
  obtain ⟨hj, rfl⟩ := List.getElem?_eq_some_iff.1 hk
  obtain ⟨hj', rfl⟩ := List.getElem?_eq_some_iff.1 hv
  rw [List.drop_eq_getElem_cons hj, List.drop_eq_getElem_cons hj', items_cons, List.take_succ_eq_append_getElem hj]
theorem tots_item : ∀ {ks : List Ky} {vs : List Tr} {j : Nat} {y : Ky} {t : Tr}, ks[j]? = some y → vs[j]? = some t → y.str.size + tot t ≤ tots ks vs
  | [], _, _, _, _, h, _ => by simp at h
  | _ :: _, [], _, _, _, _, h => by simp at h
  | z :: ks, u :: vs, 0, y, t, h, h' => by
    simp at h h'
    subst h h'
    rw [tots_cons]
    omega
  | z :: ks, u :: vs, j + 1, y, t, h, h' => by
    have := tots_item (ks := ks) (vs := vs) (j := j) (by simpa using h) (by simpa using h')
    rw [tots_cons]
    omega

theorem rest_str {k n : Int} {s : ByteArray} {x : Int} {L : Nat} (h : ¬ k = 3) (hs : ¬ s.size = 0) : restB k n s x L = false := by
  unfold restB
  simp [h, hs]
theorem rest_next {k n : Int} {s : ByteArray} {x : Int} {L : Nat} (h : ¬ x = 0) : restB k n s x L = false := by
  unfold restB
  simp [h]
theorem rest_items {k n : Int} {s : ByteArray} {x : Int} {L : Nat} (h : ¬ L = 0) : restB k n s x L = false := by
  unfold restB
  simp [h]
theorem rest_ok {k n : Int} {s : ByteArray} (h : k = 3 ∨ s.size = 0) : restB k n s 0 0 = scalB k n s := by
  unfold restB
  rcases h with h | h <;> simp [h]
theorem ret_dec {p q : Prop} [Decidable p] [Decidable q] (h : p ↔ q) : Ending.returned (.bool (decide p)) = .returned (.bool (decide q)) := by rw [decide_eq_decide.2 h]
theorem inRange_i (n l h : Int) (q : Bool) (hq : nums.inr n l h = q) (w : World) : Calls Tryd.prog 39 #[.int .i64 n, .int .i64 l, .int .i64 h] w fun e w' => e = .returned (.bool q) ∧ w = w' := hq ▸ nums.implInRange n l h w

theorem scal_i (k n : Int) (s : ByteArray) (A : Option Addr) (c : Nat) (h4 : ¬ k = 4) (hs : k = 3 ∨ s.size = 0) (hm : s.size ≤ maxLen) (w : World) :
    Calls Tryd.prog 53 #[vV k n s 0 A 0 c] w (BoQ w (scalB k n s)) := by
  unfold maxLen at hm
  by_cases h3 : k = 3
  · subst h3
    clear h4 hs
    by_cases hn : n = 0
    · subst hn
      have e : scalB 3 0 s = decide (s.size ≤ 400) := by simp [scalB]
      rw [e]
      clear e
      go_enter Tryd.func53, Tryd.ntmps53
      go_wp2_with (fail)
      go_ret
      exact ⟨ret_dec (p := (s.size : Int) ≤ 400) (by omega), b1 _ _⟩
    · have e : scalB 3 n s = false := by simp [scalB, hn]
      rw [e]
      clear e
      go_enter Tryd.func53, Tryd.ntmps53
      go_wp2_with (fail)
      go_ret
      exact ⟨rfl, b1 _ _⟩
  · obtain rfl := empty_of (hs.resolve_left h3)
    clear hs hm
    by_cases h0 : k = 0
    · subst h0
      have e : scalB 0 n ⟨#[]⟩ = decide (n = 0) := rfl
      rw [e]
      clear e h3 h4
      go_enter Tryd.func53, Tryd.ntmps53
      go_wp2_with (fail)
      go_ret
      exact ⟨rfl, b1 _ _⟩
    by_cases h1 : k = 1
    · subst h1
      obtain ⟨q, hq⟩ : ∃ q, scalB 1 n ⟨#[]⟩ = q := ⟨_, rfl⟩
      have IR := inRange_i n 0 1 q hq
      rw [hq]
      clear hq h3 h4 h0
      go_enter Tryd.func53, Tryd.ntmps53
      go_wp2_with (fail)
      refine (IR _).mono ?_
      rintro e w1 ⟨rfl, rfl⟩
      go_wp2_with (fail)
      go_ret
      exact ⟨rfl, b1 _ _⟩
    by_cases h2 : k = 2
    · subst h2
      obtain ⟨q, hq⟩ : ∃ q, scalB 2 n ⟨#[]⟩ = q := ⟨_, rfl⟩
      have IR := inRange_i n (-1000000000) 1000000000 q hq
      rw [hq]
      clear hq h3 h4 h0 h1
      go_enter Tryd.func53, Tryd.ntmps53
      go_wp2_with (fail)
      refine (IR _).mono ?_
      rintro e w1 ⟨rfl, rfl⟩
      go_wp2_with (fail)
      go_ret
      exact ⟨rfl, b1 _ _⟩
    by_cases h678 : k = 6 ∨ k = 7 ∨ k = 8
    · obtain ⟨q, hq⟩ : ∃ q, nums.inr n 0 255 = q := ⟨_, rfl⟩
      have IR := inRange_i n 0 255 q hq
      have e : scalB k n ⟨#[]⟩ = q := by
        unfold scalB
        rw [if_neg h0, if_neg h1, if_neg h2, if_neg h3, if_pos h678, hq]
      rw [e]
      clear hq e h3 h4 h0 h1 h2
      rcases h678 with rfl | rfl | rfl
      all_goals
        go_enter Tryd.func53, Tryd.ntmps53
        go_wp2_with (fail)
        refine (IR _).mono ?_
        rintro e w1 ⟨rfl, rfl⟩
        go_wp2_with (fail)
        go_ret
        exact ⟨rfl, b1 _ _⟩
    · have e : scalB k n ⟨#[]⟩ = false := by
        unfold scalB
        rw [if_neg h0, if_neg h1, if_neg h2, if_neg h3, if_neg h678]
      rw [e]
      clear e
      have h6 : ¬ k = 6 := fun h => h678 (.inl h)
      have h7 : ¬ k = 7 := fun h => h678 (.inr (.inl h))
      have h8 : ¬ k = 8 := fun h => h678 (.inr (.inr h))
      clear h678
      go_enter Tryd.func53, Tryd.ntmps53
      go_wp2_with (fail)
      go_ret
      exact ⟨rfl, b1 _ _⟩

theorem rest_i (k n : Int) (s : ByteArray) (x : Int) (A : Option Addr) (L c : Nat) (h4 : ¬ k = 4) (hm : s.size ≤ maxLen) (hL : L ≤ maxLen) (w : World) :
    Calls Tryd.prog 53 #[vV k n s x A L c] w (BoQ w (restB k n s x L)) := by
  by_cases hs : k = 3 ∨ s.size = 0
  · by_cases hx : x = 0
    · subst hx
      by_cases h0 : L = 0
      · subst h0
        rw [rest_ok hs]
        exact scal_i k n s A c h4 hs hm w
      · rw [rest_items h0]
        unfold maxLen at hL
        have h0' : ((L : Int) != 0) = true := by simp; omega
        have h4' : (k != 4) = true := by simp [h4]
        by_cases h3 : k = 3
        · subst h3
          clear hs h4'
          go_enter Tryd.func53, Tryd.ntmps53
          go_wp2_with (fail)
          go_ret
          exact ⟨rfl, b1 _ _⟩
        · obtain rfl := empty_of (hs.resolve_left h3)
          clear hs hm
          go_enter Tryd.func53, Tryd.ntmps53
          go_wp2_with (fail)
          go_ret
          exact ⟨rfl, b1 _ _⟩
    · rw [rest_next hx]
      by_cases h3 : k = 3
      · subst h3
        clear hs
        go_enter Tryd.func53, Tryd.ntmps53
        go_wp2_with (fail)
        go_ret
        exact ⟨rfl, b1 _ _⟩
      · obtain rfl := empty_of (hs.resolve_left h3)
        clear hs hm
        go_enter Tryd.func53, Tryd.ntmps53
        go_wp2_with (fail)
        go_ret
        exact ⟨rfl, b1 _ _⟩
  · have h3 : ¬ k = 3 := fun h => hs (.inl h)
    have h0 : ¬ s.size = 0 := fun h => hs (.inr h)
    rw [rest_str h3 h0]
    obtain ⟨l1, l2⟩ := list_of h0
    clear hs
    go_enter Tryd.func53, Tryd.ntmps53
    go_wp2_with (fail)
    go_ret
    exact ⟨rfl, b1 _ _⟩

end Go.Proofs.YteoilhbidnnneaaDoor.tree

/-
  Keys of a valid array: where they stand, that none stands twice.
  Conditions: those that each theorem names.
-/
namespace Go.Proofs.YteoilhbidnnneaaDoor.tree
open Go.ChangeShapes Go.WideShapes Go.ChangeAt Go.RowKit
set_option linter.unusedVariables false

theorem items_at {x : Int} {ks : List Ky} {vs : List Tr} (hl : ks.length = vs.length) (h : itemsB x [] ks vs = true) : ∀ j, j ≤ vs.length → itemsB x (ks.take j) (ks.drop j) (vs.drop j) = true
  | 0, _ => by simpa using h
  | j + 1, hj => by
    have ih := items_at hl h j (by omega)
    rw [items_drop (List.getElem?_eq_getElem (by omega : j < ks.length)) (List.getElem?_eq_getElem (by omega : j < vs.length)), Bool.and_eq_true] at ih
    exact ih.2
theorem items_fact {x : Int} {ks : List Ky} {vs : List Tr} (hl : ks.length = vs.length) (h : itemsB x [] ks vs = true) {j : Nat} {y : Ky} {t : Tr} (hy : ks[j]? = some y) (ht : vs[j]? = some t) : y ∉ ks.take j ∧ sndB t = true := by
  have := items_at hl h j (by have := (List.getElem?_eq_some_iff.1 ht).1; omega)
  rw [items_drop hy ht, Bool.and_eq_true, Bool.and_eq_true, Bool.and_eq_true] at this
  exact ⟨by simpa using this.1.1, this.1.2.2⟩
theorem pos_neg : ∀ (ks : List Ky) (y : Ky) (i : Nat), pos ks y i = -1 ↔ y ∉ ks
  | [], y, i => by simp [pos]
  | z :: ks, y, i => by
    rw [pos]
    by_cases h : z = y
    · subst h; simp
    · rw [if_neg h, pos_neg ks y (i + 1)]; simp; exact fun _ e => h e.symm
theorem pos_get : ∀ (ks : List Ky) (y : Ky) (i p : Nat), pos ks y i = ((i + p : Nat) : Int) → ks[p]? = some y
  | [], y, i, p, h => by simp [pos] at h; omega
  | z :: ks, y, i, p, h => by
    rw [pos] at h
    by_cases e : z = y
    · subst e
      rw [if_pos rfl] at h
      obtain rfl : p = 0 := by omega
      rfl
    · rw [if_neg e] at h
      have hg := pos_ge ks y (i + 1)
      obtain ⟨q, rfl⟩ : ∃ q, p = q + 1 := ⟨p - 1, by omega⟩
      rw [List.getElem?_cons_succ]
      exact pos_get ks y (i + 1) q (by rw [h]; omega)
theorem items_key {x : Int} {ks : List Ky} {vs : List Tr} (hl : ks.length = vs.length) (h : itemsB x [] ks vs = true) {j : Nat} {y : Ky} (hy : ks[j]? = some y) : y ∉ ks.take j ∧ belowB y x = true := by
  obtain ⟨t, ht⟩ : ∃ t, vs[j]? = some t := ⟨_, List.getElem?_eq_getElem (by have := (List.getElem?_eq_some_iff.1 hy).1; omega)⟩
  have := items_at hl h j (by have := (List.getElem?_eq_some_iff.1 ht).1; omega)
  rw [items_drop hy ht, Bool.and_eq_true, Bool.and_eq_true, Bool.and_eq_true] at this
  exact ⟨by simpa using this.1.1, this.1.2.1⟩
theorem below_num {y : Ky} {x : Int} (h : belowB y x = true) (ht : y.text = false) : y.num < x := by
  unfold belowB at h
  rw [Bool.and_eq_true, ht] at h
  simpa using h.2

end Go.Proofs.YteoilhbidnnneaaDoor.tree

/-
  A value without items; a call that gives back a value and writes nothing that was there.
  Conditions: those that each theorem names.
-/
namespace Go.Proofs.YteoilhbidnnneaaDoor.tree
open Go.ChangeShapes Go.WideShapes Go.ChangeAt Go.RowKit
set_option linter.unusedVariables false

theorem IsIn.nil (w : World) (S : Nat → Prop) (A : Option Addr) : IsIn w S [] [] A := ⟨rfl, by simp, fun _ => #[], fun i hi => absurd hi (by simp), fun i hi => absurd hi (by simp)⟩
/-- A value with no items. -/
theorem flat {k n x : Int} {s : ByteArray} (hk : I64 k ∧ I64 n ∧ I64 x ∧ s.size ≤ maxLen) (w : World) (S : Nat → Prop) (A : Option Addr) (c : Nat) (hc : c ≤ maxLen) : TIn w S (.mk k n s x [] []) (vV k n s x A 0 c) := TIn.of c hk (IsIn.nil w S A) ⟨Nat.zero_le _, hc⟩

def GivesQ (w : World) (v : Value) (e : Ending) (w' : World) : Prop := e = .returned v ∧ Below w.heap.size w w'

end Go.Proofs.YteoilhbidnnneaaDoor.tree

/-
  Whether a light value is valid, of the project: the items of an array.
  Conditions: the keys' texts have at most 2^48 bytes; the package variables of the library's reading of numbers hold what the program's text lays.
-/
namespace Go.Proofs.YteoilhbidnnneaaDoor.tree
open Go.ChangeShapes Go.WideShapes Go.ChangeAt Go.RowKit
set_option linter.unusedVariables false

theorem kzero (w : World) : (zeroValue 4).run Tryd.prog w = .ok (.bool false) w := by kernel_rfl
theorem kgot_some (z v : Value) : raw.Got false z (some v) = v := rfl
theorem kgot_none (z : Value) : raw.Got false z none = z := rfl
theorem kalH {w : World} {b : Nat} {f : Value → Option Value} (h : raw.Holds w GK b f) (o : Obj) : raw.Holds (w.alloc o) GK b f :=
  h.kept (Below.heap_alloc w o b h.lt) (fun _ hx => hx)
def SeenK (l : List Ky) (e : Value → Option Value) : Prop := ∀ y : Ky, e (kyV y) = if y ∈ l then some (.bool true) else none
theorem SeenK.push {l : List Ky} {e : Value → Option Value} (h : SeenK l e) (y : Ky) : SeenK (l ++ [y]) (raw.put e (kyV y) (.bool true)) := fun z => by
  by_cases hz : z = y
  · subst hz
    rw [raw.put_same]
    simp
  · rw [raw.put_other (fun e => hz (ky_inj e)), h z]
    simp [hz]

def SoI (t : Tr) : Prop := tot t ≤ 281474976710656 → ∀ (w : World) (S : Nat → Prop) (v : Value), prs.Env w → TIn w S t v → Calls Tryd.prog 53 #[v] w (BoQ w (sndB t))

set_option maxHeartbeats 1000000 in
theorem soundItems (n : Int) (s : ByteArray) (x : Int) (ks : List Ky) (vs : List Tr) (ih : ∀ t ∈ vs, SoI t) (A : Option Addr) (c : Nat) (w : World) (S : Nat → Prop) (hE : prs.Env w) (h : IsIn w S ks vs A) (hN : tots ks vs ≤ 281474976710656) :
    Calls Tryd.prog 70 #[vV 4 n s x A vs.length c] w (BoQ w (itemsB x [] ks vs)) := by
  obtain ⟨L, HL⟩ : ∃ L, Hid (L = vs.length) := ⟨_, Lib.hid rfl⟩
  have hm : L ≤ maxLen := by rw [HL.out]; exact h.2.1
  unfold maxLen at hm
  have HKL : Hid (ks.length = L) := Lib.hid (by rw [HL.out]; exact h.1)
  rw [← HL.out]
  have HI := Lib.hid h
  have HEN := Lib.hid hE
  clear h hE
  obtain ⟨W, HW⟩ : ∃ W, Hid (itemsB x [] ks vs = W) := ⟨_, Lib.hid rfl⟩
  rw [HW.out]
  have hmm := @run_makeMap Tryd.prog
  go_enter Tryd.func70, Tryd.ntmps70
  go_wp2_with (fail)
  clear hmm
  go_loopg [10] (L + 1) (fun gk i wr => ∃ (j : Nat) (e : Value → Option Value), i = .int .i64 j ∧ gk + j = L + 1 ∧ j ≤ L ∧ Hid (itemsB x (ks.take j) (ks.drop j) (vs.drop j) = W) ∧
    Hid (wr.heap[w.heap.size]? = some (.cells #[.int .i64 4, .int .i64 n, .string s, .int .i64 x, .slice A L c] IV (0, 0))) ∧ Hid (SeenK (ks.take j) e) ∧ raw.Holds wr GK (w.heap.size + 1) e ∧ Below w.heap.size w wr ∧ w.heap.size + 1 < wr.heap.size)
  case atStart =>
    have h1 := raw.Holds.made (w.alloc (.cells #[.int .i64 4, .int .i64 n, .string s, .int .i64 x, .slice A L c] IV)) GK
    have z1 : (w.alloc (.cells #[.int .i64 4, .int .i64 n, .string s, .int .i64 x, .slice A L c] IV)).heap.size = w.heap.size + 1 := by simp
    rw [z1] at h1
    exact ⟨0, fun _ => none, rfl, by omega, by omega, Lib.hid HW.out, Lib.hid (heap_alloc2_old w _ _), Lib.hid (fun y => by simp), h1, b2 _ _ _, h1.lt⟩
  case round =>
    obtain ⟨j, e, rfl, hgj, hjL, HQ, HE, HS, hm1, hb, hz⟩ := hrel
    have HB := Lib.hid hb
    have HZ := Lib.hid hz
    clear hb hz
    obtain ⟨r0, -⟩ := rowc HE.out
    by_cases hlt : j < L
    · obtain ⟨a, y, k', n', s', x', ks', vs', A1, c1, rfl, hS, hky, hvs, ht, hyb, hkb, hin', hcell⟩ := (HI.out.below HB.out).item (i := j) (by rw [← HL.out]; exact hlt)
      have htm := tots_item hky hvs
      have hys : y.str.size ≤ 281474976710656 := by omega
      have htt : tot (.mk k' n' s' x' ks' vs') ≤ 281474976710656 := by omega
      have HD := Lib.hid ((items_drop (x := x) hky hvs).symm.trans HQ.out)
      have HTK : Hid (ks.take (j + 1) = ks.take j ++ [y]) := Lib.hid (by
        obtain ⟨hj, rfl⟩ := List.getElem?_eq_some_iff.1 hky
        exact List.take_succ_eq_append_getElem hj)
      have hm2 := fun o => kalH hm1 o
      have hkk : ∀ w' : World, GK w' (.agg #[.bool y.text, .int .i64 y.num, .string y.str]) := fun _ => ⟨y, rfl⟩
      obtain ⟨q1, HQ1⟩ : ∃ q, Hid (belowB y x = q) := ⟨_, Lib.hid rfl⟩
      obtain ⟨q2, HQ2⟩ : ∃ q, Hid (sndB (.mk k' n' s' x' ks' vs') = q) := ⟨_, Lib.hid rfl⟩
      have KB : ∀ w' : World, Below wr.heap.size wr w' → Calls Tryd.prog 80 #[.agg #[.bool y.text, .int .i64 y.num, .string y.str], .int .i64 x] w' (BoQ w' q1) := fun w' hb' => HQ1.out ▸ keyBelow_i y hys x w' (HEN.out.stays (bs HB.out hb'))
      have ihj : ∀ w' : World, Below wr.heap.size wr w' → Calls Tryd.prog 53 #[vV k' n' s' x' A1 vs'.length c1] w' (BoQ w' q2) := fun w' hb' => HQ2.out ▸ ih _ (List.mem_of_getElem? hvs) htt w' S _ (HEN.out.stays (bs HB.out hb')) (ht.below' hb')
      rw [HQ1.out, HQ2.out] at HD
      obtain ⟨L1, HL1⟩ : ∃ L1, Hid (L1 = vs'.length) := ⟨_, Lib.hid rfl⟩
      rw [← HL1.out] at hcell ihj
      clear hky hvs ht hin' hyb hkb hS htm hys htt
      obtain ⟨p0, p1, p2, p3, p4, p5, p6, p7⟩ := hcell
      obtain ⟨NI, hNI⟩ : ∃ N, N = wr.heap.size := ⟨_, rfl⟩
      by_cases hsn : y ∈ ks.take j
      · have hek : e (.agg #[.bool y.text, .int .i64 y.num, .string y.str]) = some (.bool true) := (HS.out y).trans (if_pos hsn)
        have HEK := Lib.hid hek
        have HF : Hid (false = W) := Lib.hid (by have := HD.out; rw [decide_eq_true hsn] at this; simpa using this)
        clear hsn hek hm1
        go_wp2_with (first | (at_lookup; refine raw.wpList_lookup_to _ rfl _ _ 105 false rfl (hm2 _) good_ky Tryd.underlying105 (kzero _) rfl rfl (hkk _) HEK.out (kgot_some _ _) ?_) | fail)
        go_ret
        exact ⟨by rw [← HF.out]; rfl, bs HB.out (b1 _ _)⟩
      · have hek : e (.agg #[.bool y.text, .int .i64 y.num, .string y.str]) = none := (HS.out y).trans (if_neg hsn)
        have HEK := Lib.hid hek
        have HD2 : Hid (((q1 && q2) && itemsB x (ks.take (j + 1)) (ks.drop (j + 1)) (vs.drop (j + 1))) = W) := Lib.hid (by have := HD.out; rw [decide_eq_false hsn] at this; simpa using this)
        clear hsn hek hm1 HD
        have bx : ∀ o, (wr.alloc o).cell? ⟨w.heap.size, 3, none⟩ = some (.int .i64 x) := fun o => (rowc (keepAlloc (o' := o) HE.out)).1 3
        go_wp2_with (first | (at_lookup; refine raw.wpList_lookup_to _ rfl _ _ 105 false rfl (hm2 _) good_ky Tryd.underlying105 (kzero _) rfl rfl (hkk _) HEK.out (kgot_none _) ?_) | fail)
        refine (KB _ (b1 _ _)).mono ?_
        rintro e1 w1 ⟨rfl, hb1⟩
        have eI := carry hb1 (heap_alloc_new wr _)
        rw [← hNI] at eI ⊢
        have EI := Lib.hid eI
        obtain ⟨rI, -⟩ := rowc eI
        have hB1 := bs (b1 wr _) hb1
        have HB1 := Lib.hid hB1
        have hm3 : raw.Holds w1 GK (w.heap.size + 1) e := (hm2 _).kept (hb1.block _ (hm2 _).lt) (fun _ hx => hx)
        have hbIH := Lib.hid hb1
        clear hb1 eI hB1 hm2 r0 bx hNI
        cases q1 with
        | false =>
          have HF : Hid (false = W) := HD2
          go_wp2_with (fail)
          go_ret
          exact ⟨by rw [← HF.out]; rfl, bs HB.out HB1.out⟩
        | true =>
          go_wp2_with (fail)
          refine (ihj _ HB1.out).mono ?_
          rintro e2 w2 ⟨rfl, hb2⟩
          have eI2 := carry hb2 EI.out
          have EI2 := Lib.hid eI2
          obtain ⟨rI2, -⟩ := rowc eI2
          have hm4 : raw.Holds w2 GK (w.heap.size + 1) e := hm3.kept (hb2.block _ hm3.lt) (fun _ hx => hx)
          have HB2 := Lib.hid (bs HB1.out hb2)
          clear hb2 eI2 rI hm3
          cases q2 with
          | false =>
            have HF : Hid (false = W) := HD2
            go_wp2_with (fail)
            go_ret
            exact ⟨by rw [← HF.out]; rfl, bs HB.out HB2.out⟩
          | true =>
            have HF : Hid (itemsB x (ks.take (j + 1)) (ks.drop (j + 1)) (vs.drop (j + 1)) = W) := HD2
            go_wp2_with (first
              | (at_mapUpdate; refine raw.wpList_update _ rfl _ _ _ 105 rfl hm4 good_ky gk_stays Tryd.underlying105 rfl rfl rfl (hkk _) ?_
                 intro w4 hm14 hgr4
                 have HM14 := Lib.hid hm14
                 have HGR4 := Lib.hid hgr4
                 clear hm14 hgr4)
              | fail)
            go_roundg (L - j)
            case rel =>
              have hE2 := carry HB2.out HE.out
              have z4 := HB2.out.size
              have z5 := HZ.out
              refine ⟨j + 1, _, by go_num, by omega, by omega, HF, Lib.hid ((HGR4.out.block _ (Array.getElem?_eq_some_iff.1 hE2).1 (by intro h; injection h; omega)).trans hE2), Lib.hid (by rw [HTK.out]; exact HS.out.push y), HM14.out, ?_, HM14.out.lt⟩
              exact (bs HB.out HB2.out).grown HGR4.out (by omega) (fun k hk => by obtain rfl := Option.some.inj hk; omega)
            case measure => omega
    · obtain rfl : j = L := by omega
      have HF : Hid (true = W) := Lib.hid (by rw [← HQ.out, show vs.drop j = [] from List.drop_eq_nil_of_le (Nat.le_of_eq HL.out.symm), items_nil])
      clear hm1
      go_wp2_with (fail)
      go_ret
      exact ⟨by rw [← HF.out]; rfl, HB.out⟩

end Go.Proofs.YteoilhbidnnneaaDoor.tree

/-
  IsValue of the project.
  Conditions: the value has at most 2^48 letters and items; the package variables of the library's reading of numbers hold what the program's text lays.
-/
namespace Go.Proofs.YteoilhbidnnneaaDoor.tree
open Go.ChangeShapes Go.WideShapes Go.ChangeAt Go.RowKit
set_option linter.unusedVariables false

theorem sound_i : ∀ t, SoI t := Tr.ind fun k n s x ks vs ih hN w S v hE h => by
  obtain ⟨A, c, rfl, ⟨-, -, -, hs⟩, hin⟩ := h.out
  clear h
  rw [tot] at hN
  by_cases h4 : k = 4
  · subst h4
    have SI : ∀ o, Calls Tryd.prog 70 #[vV 4 n s x A vs.length c] (w.alloc o) (BoQ (w.alloc o) (itemsB x [] ks vs)) := fun o => soundItems n s x ks vs ih A c _ S (hE.stays (b1 w o)) (hin.below (b1 w o)) (by omega)
    rw [snd_four]
    obtain ⟨q, HQ⟩ : ∃ q, Hid (itemsB x [] ks vs = q) := ⟨_, Lib.hid rfl⟩
    obtain ⟨q1, HQ1⟩ : ∃ q, Hid (nums.inr x 0 1000000001 = q) := ⟨_, Lib.hid rfl⟩
    have IR := inRange_i x 0 1000000001 q1 HQ1.out
    rw [HQ.out] at SI ⊢
    rw [HQ1.out]
    have hm : vs.length ≤ maxLen := hin.2.1
    obtain ⟨L, HL⟩ : ∃ L, Hid (L = vs.length) := ⟨_, Lib.hid rfl⟩
    rw [← HL.out] at SI hm ⊢
    unfold maxLen at hm hs
    clear hin hE hN ih
    by_cases h0 : s.size = 0
    · obtain rfl := empty_of h0
      by_cases hn : n = 0
      · subst hn
        cases q1 with
        | false =>
          go_enter Tryd.func53, Tryd.ntmps53
          go_wp2_with (fail)
          refine (IR _).mono ?_
          rintro e w1 ⟨rfl, rfl⟩
          go_wp2_with (fail)
          go_ret
          exact ⟨rfl, b1 _ _⟩
        | true =>
          go_enter Tryd.func53, Tryd.ntmps53
          go_wp2_with (fail)
          refine (IR _).mono ?_
          rintro e w1 ⟨rfl, rfl⟩
          go_wp2_with (fail)
          refine (SI _).mono ?_
          rintro e w2 ⟨rfl, hb2⟩
          have HB := Lib.hid (bs (b1 _ _) hb2)
          clear hb2
          go_wp2_with (fail)
          go_ret
          exact ⟨rfl, HB.out⟩
      · have e : (decide ((⟨#[]⟩ : ByteArray).size = 0) && (decide (n = 0) && (q1 && q))) = false := by rw [decide_eq_false hn]; simp
        rw [e]
        clear e
        go_enter Tryd.func53, Tryd.ntmps53
        go_wp2_with (fail)
        go_ret
        exact ⟨rfl, b1 _ _⟩
    · have e : (decide (s.size = 0) && (decide (n = 0) && (q1 && q))) = false := by rw [decide_eq_false h0]; rfl
      rw [e]
      obtain ⟨l1, l2⟩ := list_of h0
      clear e
      go_enter Tryd.func53, Tryd.ntmps53
      go_wp2_with (fail)
      go_ret
      exact ⟨rfl, b1 _ _⟩
  · rw [snd_not h4]
    exact rest_i k n s x A vs.length c h4 hs hin.2.1 w

def valB (t : Tr) : Bool := lightB t && sndB t
theorem isValue_i (t : Tr) (hN : tot t ≤ 281474976710656) (w : World) (S : Nat → Prop) (v : Value) (hE : prs.Env w) (h : TIn w S t v) : Calls Tryd.prog 27 #[v] w (BoQ w (valB t)) := by
  have LI : ∀ o, Calls Tryd.prog 32 #[v] (w.alloc o) (BoQ (w.alloc o) (lightB t)) := fun o => light_i t _ S v (h.below' (b1 w o))
  have SI : ∀ w', Below w.heap.size w w' → Calls Tryd.prog 53 #[v] w' (BoQ w' (sndB t)) := fun w' hb => sound_i t hN w' S v (hE.stays hb) (h.below' hb)
  unfold valB
  obtain ⟨q1, HQ1⟩ : ∃ q, Hid (lightB t = q) := ⟨_, Lib.hid rfl⟩
  obtain ⟨q2, HQ2⟩ : ∃ q, Hid (sndB t = q) := ⟨_, Lib.hid rfl⟩
  rw [HQ1.out] at LI ⊢
  rw [HQ2.out] at SI ⊢
  obtain ⟨k, n, s, x, ks, vs⟩ := t
  obtain ⟨A, c, rfl, hk, hin⟩ := h.out
  clear h hk hin hE hN
  cases q1 with
  | false =>
    go_enter Tryd.func27, Tryd.ntmps27
    go_wp2_with (fail)
    refine (LI _).mono ?_
    rintro e w1 ⟨rfl, hb1⟩
    have HB := Lib.hid (bs (b1 _ _) hb1)
    clear hb1
    go_wp2_with (fail)
    go_ret
    exact ⟨rfl, HB.out⟩
  | true =>
    go_enter Tryd.func27, Tryd.ntmps27
    go_wp2_with (fail)
    refine (LI _).mono ?_
    rintro e w1 ⟨rfl, hb1⟩
    obtain ⟨r1, -⟩ := rowc (carry hb1 (heap_alloc_new w _))
    have HB := Lib.hid (bs (b1 _ _) hb1)
    clear hb1
    go_wp2_with (fail)
    refine (SI _ HB.out).mono ?_
    rintro e w2 ⟨rfl, hb2⟩
    have HB2 := Lib.hid (bs HB.out hb2)
    clear hb2
    go_wp2_with (fail)
    go_ret
    exact ⟨rfl, HB2.out⟩

end Go.Proofs.YteoilhbidnnneaaDoor.tree

/-
  What stands at a key of a tree.
  Conditions: none.
-/
namespace Go.Proofs.YteoilhbidnnneaaDoor.tree
open Go.ChangeShapes Go.WideShapes Go.ChangeAt Go.RowKit
set_option linter.unusedVariables false

def nullT : Tr := .mk 0 0 ⟨#[]⟩ 0 [] []
/-- What stands at the key. -/
def getT : Tr → Ky → Option Tr
  | .mk k n s x ks vs, y => if posV (.mk k n s x ks vs) y = -1 then none else vs[(posV (.mk k n s x ks vs) y).toNat]?
def getB (t : Tr) (y : Ky) : Bool := (getT t y).isSome
def getR (t : Tr) (y : Ky) : Tr := (getT t y).getD nullT
theorem getT_none {t : Tr} {y : Ky} (h : posV t y = -1) : getT t y = none := by cases t; rw [getT, if_pos h]
theorem getT_some {k n x : Int} {s : ByteArray} {ks : List Ky} {vs : List Tr} {y : Ky} {i : Nat} (h : posV (.mk k n s x ks vs) y = i) : getT (.mk k n s x ks vs) y = vs[i]? := by
  rw [getT, if_neg (by omega), h, Int.toNat_natCast]

/-- A result's five cells, written. -/
theorem fill5 {w wF : World} {R : Nat} {t : TypeId} {a b c d e c0 c1 c2 c3 c4 : Value} (h : w.heap[R]? = some (.cells #[a, b, c, d, e] t (0, 0)))
    (hF : (((((w.setCell ⟨R, 0, none⟩ c0).setCell ⟨R, 1, none⟩ c1).setCell ⟨R, 2, none⟩ c2).setCell ⟨R, 3, none⟩ c3).setCell ⟨R, 4, none⟩ c4) = wF) :
    (∀ j, wF.cell? ⟨R, j, none⟩ = (#[c0, c1, c2, c3, c4] : Array Value)[j]?) ∧ (∀ q, q ≠ R → wF.heap[q]? = w.heap[q]?) ∧ ∀ (B : Nat) (w0 : World), B ≤ R → Below B w0 w → Below B w0 wF := by
  subst hF
  refine ⟨fun j => ?_, fun q hq => ?_, fun B w0 hB hb => ?_⟩
  · have := set_heap (set_heap (set_heap (set_heap (set_heap h 0 c0) 1 c1) 2 c2) 3 c3) 4 c4
    rw [cell_of_row _ _ j _ _ _ this]
    simp
  · rw [set_other hq, set_other hq, set_other hq, set_other hq, set_other hq]
  · exact ((((hb.setCell hB _).setCell hB _).setCell hB _).setCell hB _).setCell hB _

def OutT (w : World) (t : Tr) (b : Bool) (S : Nat → Prop) (e : Ending) (w' : World) : Prop := ∃ u, e = .returned (.tuple #[u, .bool b]) ∧ TIn w' S t u ∧ Below w.heap.size w w'

theorem nullValue_i (w : World) : Calls Tryd.prog 28 #[] w (GivesQ w (vV 0 0 ⟨#[]⟩ 0 none 0 0)) := by
  go_enter Tryd.func28, Tryd.ntmps28
  go_wp2
  exact bodyPost_ret (v := vV 0 0 ⟨#[]⟩ 0 none 0 0) (by simp [results, Tryd.results28, go_sem]) rfl ⟨rfl, b1 _ _⟩


end Go.Proofs.YteoilhbidnnneaaDoor.tree

/-
  A text's copy; a part of what a list of items holds.
  Conditions: those that each theorem names.
-/
namespace Go.Proofs.YteoilhbidnnneaaDoor.tree
open Go.ChangeShapes Go.WideShapes Go.ChangeAt Go.RowKit
set_option linter.unusedVariables false

theorem implClone' (s : ByteArray) (hs : s.size ≤ 1099511627776) (w : World) : Calls Tryd.prog 56 #[.string s] w fun e w' => e = .returned (.string s) ∧ Below w.heap.size w w' := by
  go_enter Tryd.func56, Tryd.ntmps56
  go_wp2_with (fail)
  refine (Tryd.stringslite_Clone s _ (by omega)).mono ?_
  rintro e w1 ⟨rfl, hb⟩
  go_wp2
  go_ret
  exact ⟨rfl, hb⟩

theorem tots_key : ∀ {ks : List Ky} {vs : List Tr} {j : Nat} {y : Ky} {t : Tr}, ks[j]? = some y → vs[j]? = some t → y.str.size + tot t ≤ tots ks vs
  | [], _, j, _, _, h, _ => by simp at h
  | _, [], j, _, _, _, h => by simp at h
  | y :: ks, t :: vs, 0, _, _, h, h' => by
    simp at h h'
    subst h h'
    rw [tots]
    omega
  | y :: ks, t :: vs, j + 1, _, _, h, h' => by
    have := tots_key (ks := ks) (vs := vs) (j := j) (by simpa using h) (by simpa using h')
    rw [tots]
    omega

end Go.Proofs.YteoilhbidnnneaaDoor.tree

/-
  Whether two values are arrays, of the project.
  Conditions: none.
-/
namespace Go.Proofs.YteoilhbidnnneaaDoor.tree
open Go.ChangeShapes Go.WideShapes Go.ChangeAt Go.RowKit
set_option linter.unusedVariables false

theorem areArrays (k n : Int) (s : ByteArray) (x : Int) (A : Option Addr) (L c : Nat) (k' n' : Int) (s' : ByteArray) (x' : Int) (A' : Option Addr) (L' c' : Nat) (w : World) :
    Calls Tryd.prog 26 #[vV k n s x A L c, vV k' n' s' x' A' L' c'] w (GivesQ w (.bool (decide (k = 4) && decide (k' = 4)))) := by
  by_cases h1 : k = 4
  · subst h1
    have e : decide ((4 : Int) = 4) = true := rfl
    rw [e, Bool.true_and]
    go_enter Tryd.func26, Tryd.ntmps26
    go_wp2
    go_ret
    exact ⟨rfl, b2 _ _ _⟩
  · rw [decide_eq_false h1, Bool.false_and]
    go_enter Tryd.func26, Tryd.ntmps26
    go_wp2
    go_ret
    exact ⟨rfl, b2 _ _ _⟩

end Go.Proofs.YteoilhbidnnneaaDoor.tree

/-
  How a value and a key that came in are opened.
  Conditions: those that each theorem names.
-/
namespace Go.Proofs.YteoilhbidnnneaaDoor.opt
open Go.ChangeShapes Go.WideShapes Go.ChangeAt Go.RowKit mem tree
set_option linter.unusedVariables false

section
variable {H : Type} {enc : TypeId × Value → H}

theorem types : Types Tryd.prog LV LE LK 43 where
  value := ⟨_, _, _, _, _, Tryd.underlying45, by kernel_rfl, by kernel_rfl, by kernel_rfl, by kernel_rfl, by kernel_rfl, by kernel_rfl⟩
  items := Tryd.underlying43
  item := ⟨_, _, Tryd.underlying87, by kernel_rfl, by kernel_rfl, by kernel_rfl, by kernel_rfl⟩
  key := ⟨_, _, _, Tryd.underlying85, by kernel_rfl, by kernel_rfl, by kernel_rfl, by kernel_rfl⟩
  cV := by kernel_rfl
  cE := by kernel_rfl
  cK := by kernel_rfl

set_option maxRecDepth 100000 in
theorem open_value {W : World} {base : Nat} {v : Value} {d : DataW H} {ps : List MemPlace} (hval : Value.okWide Tryd.prog W .any base LV v) (h : DataW.Trod enc Tryd.prog W 0 (fun _ => true) true LV v d ps) : ∃ t, TIn W (fun _ => True) t v := by
  obtain ⟨cs, rfl, hsz⟩ := okWide_struct Tryd.underlying45 hval
  obtain ⟨fuel, hf⟩ := h
  exact open_tree types fuel _ _ hf

set_option maxRecDepth 100000 in
theorem open_key {W : World} {base : Nat} {v : Value} {d : DataW H} {ps : List MemPlace} (hval : Value.okWide Tryd.prog W .any base LK v) (h : DataW.Trod enc Tryd.prog W 0 (fun _ => true) true LK v d ps) : ∃ y : Ky, v = kyV y ∧ I64 y.num ∧ y.str.size ≤ maxLen := by
  obtain ⟨cs, rfl, hsz⟩ := okWide_struct Tryd.underlying85 hval
  obtain ⟨fuel, hf⟩ := h
  obtain ⟨y, he, hn, hs⟩ := tree.open_key types hf
  refine ⟨y, ?_, hn, hs⟩
  unfold kyV
  congr 1
  apply Array.ext'
  simpa [Value.cells] using he
end

end Go.Proofs.YteoilhbidnnneaaDoor.opt

