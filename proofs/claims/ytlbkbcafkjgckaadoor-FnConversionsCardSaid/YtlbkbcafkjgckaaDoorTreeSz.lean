/-
  The laws' size of a value, and how many values a tree holds.
  Conditions: those that each theorem names.
-/
import Derived.Test.YtlbkbcafkjgckaaDoorTreeEq
namespace Go.Proofs.YtlbkbcafkjgckaaDoor.tree
open Go.ChangeShapes Go.WideShapes Go.ChangeAt Go.RowKit
set_option linter.unusedVariables false

mutual
/-- Letters and items, all that is in a value. -/
def tot : Tr → Nat
  | .mk _ _ s _ ks vs => s.size + (vs.length + tots ks vs)
def tots : List Ky → List Tr → Nat
  | y :: ks, t :: vs => y.str.size + tot t + tots ks vs
  | _, _ => 0
end
mutual
/-- How many values a tree is. -/
def cnt : Tr → Nat
  | .mk _ _ _ _ _ vs => 1 + cnts vs
def cnts : List Tr → Nat
  | [] => 0
  | t :: vs => cnt t + cnts vs
end
mutual
/-- Each item has its key. -/
def fits : Tr → Prop
  | .mk _ _ _ _ ks vs => ks.length = vs.length ∧ fitss vs
def fitss : List Tr → Prop
  | [] => True
  | t :: vs => fits t ∧ fitss vs
end
theorem tots_cons (y : Ky) (ks : List Ky) (t : Tr) (vs : List Tr) : tots (y :: ks) (t :: vs) = y.str.size + tot t + tots ks vs := by rw [tots]
theorem tots_drop {ks : List Ky} {vs : List Tr} {j : Nat} {y : Ky} {t : Tr} (hk : ks[j]? = some y) (hv : vs[j]? = some t) : tots (ks.drop j) (vs.drop j) = y.str.size + tot t + tots (ks.drop (j + 1)) (vs.drop (j + 1)) := by
  obtain ⟨hj, rfl⟩ := List.getElem?_eq_some_iff.1 hk
  obtain ⟨hj', rfl⟩ := List.getElem?_eq_some_iff.1 hv
  rw [List.drop_eq_getElem_cons hj, List.drop_eq_getElem_cons hj', tots_cons]
theorem fitss_of : ∀ {vs : List Tr}, (∀ t ∈ vs, fits t) → fitss vs
  | [], _ => by rw [fitss]; trivial
  | t :: vs, h => by rw [fitss]; exact ⟨h t (by simp), fitss_of fun u hu => h u (by simp [hu])⟩
theorem TIn.fits {w : World} {S : Nat → Prop} {t : Tr} {v : Value} (h : TIn w S t v) : fits t := by
  induction h with
  | mk k n s x ks vs A cap C hk hl hm hcap hc ht ih =>
    rw [tree.fits]
    refine ⟨hl, fitss_of fun t h => ?_⟩
    obtain ⟨i, hi, rfl⟩ := List.mem_iff_getElem.1 h
    exact ih i hi
mutual
theorem cnt_tot : ∀ t, fits t → cnt t ≤ tot t + 1
  | .mk _ _ s _ ks vs, h => by
    rw [fits] at h
    have := cnts_tots ks vs h.1 h.2
    rw [cnt, tot]
    omega
theorem cnts_tots : ∀ (ks : List Ky) (vs : List Tr), ks.length = vs.length → fitss vs → cnts vs ≤ vs.length + tots ks vs
  | _, [], _, _ => by simp [cnts]
  | [], t :: vs, h, _ => by simp at h
  | y :: ks, t :: vs, h, hf => by
    rw [fitss] at hf
    have h1 := cnt_tot t hf.1
    have h2 := cnts_tots ks vs (by simpa using h) hf.2
    rw [cnts, tots, List.length_cons]
    omega
end

def SzOk (left : Int) (T : Nat) (r : Int) : Prop := -1 ≤ r ∧ r ≤ left ∧ (0 ≤ r → r + T = left)
def SzQ (left : Int) (T : Nat) (w : World) (e : Ending) (w' : World) : Prop := ∃ r : Int, e = .returned (.int .i64 r) ∧ SzOk left T r ∧ Below w.heap.size w w'

theorem szKey (y : Ky) (hy : y.str.size ≤ maxLen) (left : Int) (h0 : 0 ≤ left) (h1 : left ≤ 1048576) (w : World) :
    Calls Tryd.prog 148 #[kyV y, .int .i64 left] w (SzQ left y.str.size w) := by
  obtain ⟨b, n, s⟩ := y
  replace hy : s.size ≤ maxLen := hy
  show Calls _ _ _ _ (SzQ left s.size w)
  unfold kyV
  unfold maxLen at hy
  by_cases hlt : left - s.size < 0
  · go_enter Tryd.func148, Tryd.ntmps148
    go_wp2
    go_ret
    exact ⟨-1, rfl, ⟨by omega, by omega, fun h => by omega⟩, b1 _ _⟩
  · have hge : ¬ (left < s.size) := by omega
    go_enter Tryd.func148, Tryd.ntmps148
    go_wp2
    go_ret
    exact ⟨left - s.size, rfl, ⟨by omega, by omega, fun h => by omega⟩, b1 _ _⟩

def SzV (t : Tr) : Prop := ∀ (w : World) (S : Nat → Prop) (v : Value), TIn w S t v → ∀ left : Int, 0 ≤ left → left ≤ 1048576 → Calls Tryd.prog 42 #[v, .int .i64 left] w (SzQ left (tot t) w)

theorem szEntry (y : Ky) (hy : y.str.size ≤ maxLen) (k n : Int) (s : ByteArray) (x : Int) (A : Option Addr) (L c : Nat) (T : Nat) (left : Int) (h0 : 0 ≤ left) (h1 : left ≤ 1048576) (w : World)
    (ih : ∀ (w' : World) (left' : Int), Below w.heap.size w w' → 0 ≤ left' → left' ≤ 1048576 → Calls Tryd.prog 42 #[vV k n s x A L c, .int .i64 left'] w' (SzQ left' T w')) :
    Calls Tryd.prog 127 #[eV y k n s x A L c, .int .i64 left] w (SzQ left (y.str.size + T) w) := by
  obtain ⟨b, m, ys⟩ := y
  have K := szKey ⟨b, m, ys⟩ hy left h0 h1
  show Calls _ _ _ _ (SzQ left (ys.size + T) w)
  replace K : ∀ w, Calls Tryd.prog 148 #[kyV ⟨b, m, ys⟩, .int .i64 left] w (SzQ left ys.size w) := K
  unfold eV
  go_enter Tryd.func127, Tryd.ntmps127
  go_wp2_with (fail)
  refine (K _).mono ?_
  rintro e w1 ⟨r, rfl, ⟨hr1, hr2, hr3⟩, hb1⟩
  obtain ⟨hc, hf⟩ := bcell hb1
  have HB := Lib.hid hb1
  have HR := Lib.hid hr3
  clear hb1 hr3
  by_cases hr : r < 0
  · go_wp2_with (fail)
    go_ret
    exact ⟨-1, rfl, ⟨by omega, by omega, fun h => by omega⟩, bs (b1 _ _) HB.out⟩
  · have hr0 : 0 ≤ r := by omega
    go_wp2_with (fail)
    refine (ih _ r (bs (b1 _ _) HB.out) hr0 (by omega)).mono ?_
    rintro e w2 ⟨r2, rfl, ⟨hs1, hs2, hs3⟩, hb2⟩
    have HB2 := Lib.hid hb2
    have HR2 := Lib.hid hs3
    clear hb2 hs3
    by_cases hq : r2 < 0
    · go_wp2_with (fail)
      go_ret
      exact ⟨-1, rfl, ⟨by omega, by omega, fun h => by omega⟩, bs (bs (b1 _ _) HB.out) HB2.out⟩
    · have hq0 : 0 ≤ r2 := by omega
      go_wp2_with (fail)
      go_ret
      refine ⟨r2, rfl, ⟨by omega, by omega, fun h => ?_⟩, bs (bs (b1 _ _) HB.out) HB2.out⟩
      have a1 := HR.out hr0
      have a2 := HR2.out h
      omega

theorem szItems (ks : List Ky) (vs : List Tr) (ih : ∀ t ∈ vs, SzV t) (A : Option Addr) (c : Nat) (w : World) (S : Nat → Prop) (h : IsIn w S ks vs A) (left : Int) (h0 : 0 ≤ left) (h1 : left ≤ 1048576) :
    Calls Tryd.prog 87 #[.slice A vs.length c, .int .i64 left] w (SzQ left (vs.length + tots ks vs) w) := by
  obtain ⟨L, HL⟩ : ∃ L, Hid (L = vs.length) := ⟨_, Lib.hid rfl⟩
  have hm : L ≤ maxLen := by rw [HL.out]; exact h.2.1
  unfold maxLen at hm
  rw [← HL.out]
  by_cases hlt : left - L < 0
  · go_enter Tryd.func87, Tryd.ntmps87
    go_wp2_with (fail)
    go_ret
    exact ⟨-1, rfl, ⟨by omega, by omega, fun h => by omega⟩, Below.refl _ _⟩
  have hge : ¬ (left < L) := by omega
  clear hlt
  go_enter Tryd.func87, Tryd.ntmps87
  go_wp2_with (fail)
  go_loopg [1, 5] (L + 1) (fun gk l i wr => ∃ (j : Nat) (r : Int), l = .int .i64 r ∧ i = .int .i64 j ∧ gk + j = L + 1 ∧ j ≤ L ∧ 0 ≤ r ∧ r ≤ left ∧ Hid (r + tots ks vs = left - L + tots (ks.drop j) (vs.drop j)) ∧ Below w.heap.size w wr)
  case atStart => exact ⟨0, left - L, rfl, rfl, by omega, by omega, by omega, by omega, Lib.hid (by simp), Below.refl _ _⟩
  case round =>
    obtain ⟨j, r, rfl, rfl, hgj, hjL, hr0, hr1, HR, hb⟩ := hrel
    have HB := Lib.hid hb
    clear hb
    by_cases hlt : j < L
    · obtain ⟨a, y, k, n, s, x, ks', vs', A1, c1, rfl, hS, hky, hvs, ht, hyb, hkb, hin, hcell⟩ := (h.below HB.out).item (i := j) (by rw [← HL.out]; exact hlt)
      have ihj : ∀ (w' : World) (left' : Int), Below wr.heap.size wr w' → 0 ≤ left' → left' ≤ 1048576 → Calls Tryd.prog 42 #[vV k n s x A1 vs'.length c1, .int .i64 left'] w' (SzQ left' (tot (.mk k n s x ks' vs')) w') := fun w' l' hb' a0 a1 => ih _ (List.mem_of_getElem? hvs) w' S _ (ht.below' hb') l' a0 a1
      have HT := Lib.hid (tots_drop hky hvs)
      have hys := hyb.2
      clear hky hvs ht hin hyb hkb hS
      obtain ⟨p0, p1, p2, p3, p4, p5, p6, p7⟩ := hcell
      go_wp2_with (fail)
      refine (szEntry y hys k n s x A1 vs'.length c1 _ r hr0 (by omega) _ ihj).mono ?_
      rintro e w1 ⟨r2, rfl, ⟨hs1, hs2, hs3⟩, hb1⟩
      have HB1 := Lib.hid hb1
      have HR2 := Lib.hid hs3
      clear hb1 hs3
      by_cases hq : r2 < 0
      · go_wp2_with (fail)
        go_ret
        exact ⟨-1, rfl, ⟨by omega, by omega, fun h => by omega⟩, bs HB.out HB1.out⟩
      · have hq0 : 0 ≤ r2 := by omega
        go_wp2_with (fail)
        go_roundg (L - j)
        case rel =>
          refine ⟨j + 1, r2, rfl, by go_num, by omega, by omega, hq0, by omega, Lib.hid ?_, bs HB.out HB1.out⟩
          have a1 := HR.out
          have a2 := HR2.out hq0
          have a3 := HT.out
          omega
        case measure => omega
    · go_wp2_with (fail)
      go_ret
      refine ⟨r, rfl, ⟨by omega, by omega, fun _ => ?_⟩, HB.out⟩
      have a1 := HR.out
      have e : tots (ks.drop j) (vs.drop j) = 0 := by
        rw [show vs.drop j = [] from List.drop_eq_nil_of_le (by rw [← HL.out]; omega)]
        cases ks.drop j <;> rfl
      rw [e] at a1
      push_cast
      omega

theorem szV : ∀ t, SzV t := Tr.ind fun k n s x ks vs ih w S v h left h0 h1 => by
  obtain ⟨A, c, rfl, ⟨_, _, _, hs⟩, hin⟩ := h.out
  clear h
  have hT : tot (.mk k n s x ks vs) = s.size + (vs.length + tots ks vs) := by rw [tot]
  rw [hT]
  clear hT
  unfold maxLen at hs
  by_cases hlt : left - s.size < 0
  · go_enter Tryd.func42, Tryd.ntmps42
    go_wp2_with (fail)
    go_ret
    exact ⟨-1, rfl, ⟨by omega, by omega, fun h => by omega⟩, b1 _ _⟩
  have hge : ¬ (left < s.size) := by omega
  clear hlt
  go_enter Tryd.func42, Tryd.ntmps42
  go_wp2_with (fail)
  refine (szItems ks vs ih A c _ S (hin.below (b1 _ _)) (left - s.size) (by omega) (by omega)).mono ?_
  rintro e w1 ⟨r, rfl, ⟨hr1, hr2, hr3⟩, hb1⟩
  have HB1 := Lib.hid hb1
  have HR := Lib.hid hr3
  clear hb1 hr3
  by_cases hr : r < 0
  · go_wp2_with (fail)
    go_ret
    exact ⟨-1, rfl, ⟨by omega, by omega, fun h => by omega⟩, bs (b1 _ _) HB1.out⟩
  · have hr0 : 0 ≤ r := by omega
    go_wp2_with (fail)
    go_ret
    refine ⟨r, rfl, ⟨by omega, by omega, fun h => ?_⟩, bs (b1 _ _) HB1.out⟩
    have a1 := HR.out h
    push_cast at a1 ⊢
    omega

end Go.Proofs.YtlbkbcafkjgckaaDoor.tree
