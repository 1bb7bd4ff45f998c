/-
  What the texts behind this one use: 22 parts of one proof.
  Conditions: those that each theorem names.
-/
import Derived.Test.YtdglmnmalfpipaaGreatDoorSASTreeEq
import Derived.Test.YtdglmnmalfpipaaGreatDoorSAB1
import Derived.Lib.ItoaLen
import Derived.Test.YtdglmnmalfpipaaGreatDoorShelf
import Derived.Laws.StructEq
import Derived.Deep.RegionHeld3
import Derived.Deep.CutBlock
import Derived.Deep.DeepCutAuto
import Derived.Deep.LoopGhost
import Derived.BigQuiet
import Derived.Deep.QuietTactic
import Derived.Test.YtdglmnmalfpipaaGreatDoorRows
import Derived.WalkKit
import Derived.ProofKit
import Derived.IntWalk
import Derived.Lib.Hide
import Derived.Lib.SmallJoins
import Derived.WalkLawsBesides
import Derived.Laws.BitsLemmas
import Derived.Laws.Closers25b
import Derived.OwnWalk
import Derived.Laws.AppendOwn
import Derived.ChangeVars
import Derived.Test.YtdglmnmalfpipaaGreatDoorSASEnvKey
/-
  The laws' size of a value, and how many values a tree holds.
  Conditions: those that each theorem names.
-/
namespace Go.Proofs.YtdglmnmalfpipaaGreatDoor.tree
open Go.ChangeShapes Go.WideShapes Go.ChangeAt Go.RowKit
set_option linter.unusedVariables false

mutual
/-- Letters and items, all that is in a value. -/
def tot : Tr → Nat
  | .mk _ _ s _ ks vs => s.size + (vs.length + tots ks vs)
def tots : List Ky → List Tr → Nat
  | y :: ks, t :: vs => y.str.size + tot t + tots ks vs
  | _, _ => 0
end
mutual
/-- How many values a tree is. -/
def cnt : Tr → Nat
  | .mk _ _ _ _ _ vs => 1 + cnts vs
def cnts : List Tr → Nat
  | [] => 0
  | t :: vs => cnt t + cnts vs
end
mutual
/-- Each item has its key. -/
def fits : Tr → Prop
  | .mk _ _ _ _ ks vs => ks.length = vs.length ∧ fitss vs
def fitss : List Tr → Prop
  | [] => True
  | t :: vs => fits t ∧ fitss vs
end
theorem tots_cons (y : Ky) (ks : List Ky) (t : Tr) (vs : List Tr) : tots (y :: ks) (t :: vs) = y.str.size + tot t + tots ks vs := by rw [tots]
theorem tots_drop {ks : List Ky} {vs : List Tr} {j : Nat} {y : Ky} {t : Tr} (hk : ks[j]? = some y) (hv : vs[j]? = some t) : tots (ks.drop j) (vs.drop j) = y.str.size + tot t + tots (ks.drop (j + 1)) (vs.drop (j + 1)) := by
  obtain ⟨hj, rfl⟩ := List.getElem?_eq_some_iff.1 hk
  obtain ⟨hj', rfl⟩ := List.getElem?_eq_some_iff.1 hv
  rw [List.drop_eq_getElem_cons hj, List.drop_eq_getElem_cons hj', tots_cons]
theorem fitss_of : ∀ {vs : List Tr}, (∀ t ∈ vs, fits t) → fitss vs
  | [], _ => by rw [fitss]; trivial
  | t :: vs, h => by rw [fitss]; exact ⟨h t (by simp), fitss_of fun u hu => h u (by simp [hu])⟩
theorem TIn.fits {w : World} {S : Nat → Prop} {t : Tr} {v : Value} (h : TIn w S t v) : fits t := by
  induction h with
  | mk k n s x ks vs A cap C hk hl hm hcap hc ht ih =>
    rw [tree.fits]
    refine ⟨hl, fitss_of fun t h => ?_⟩
    obtain ⟨i, hi, rfl⟩ := List.mem_iff_getElem.1 h
    exact ih i hi
mutual
theorem cnt_tot : ∀ t, fits t → cnt t ≤ tot t + 1
  | .mk _ _ s _ ks vs, h => by
    rw [fits] at h
    have := cnts_tots ks vs h.1 h.2
    rw [cnt, tot]
    omega
theorem cnts_tots : ∀ (ks : List Ky) (vs : List Tr), ks.length = vs.length → fitss vs → cnts vs ≤ vs.length + tots ks vs
  | _, [], _, _ => by simp [cnts]
  | [], t :: vs, h, _ => by simp at h
  | y :: ks, t :: vs, h, hf => by
    rw [fitss] at hf
    have h1 := cnt_tot t hf.1
    have h2 := cnts_tots ks vs (by simpa using h) hf.2
    rw [cnts, tots, List.length_cons]
    omega
end

def SzOk (left : Int) (T : Nat) (r : Int) : Prop := -1 ≤ r ∧ r ≤ left ∧ (0 ≤ r → r + T = left)
def SzQ (left : Int) (T : Nat) (w : World) (e : Ending) (w' : World) : Prop := ∃ r : Int, e = .returned (.int .i64 r) ∧ SzOk left T r ∧ Below w.heap.size w w'

theorem szKey (y : Ky) (hy : y.str.size ≤ maxLen) (left : Int) (h0 : 0 ≤ left) (h1 : left ≤ 1048576) (w : World) :
    Calls Tryz.prog 40 #[kyV y, .int .i64 left] w (SzQ left y.str.size w) := by
  obtain ⟨b, n, s⟩ := y
  replace hy : s.size ≤ maxLen := hy
  show Calls _ _ _ _ (SzQ left s.size w)
  unfold kyV
  unfold maxLen at hy
  by_cases hlt : left - s.size < 0
  · go_enter Tryz.func40, Tryz.ntmps40
    go_wp2
    go_ret
    exact ⟨-1, rfl, ⟨by omega, by omega, fun h => by omega⟩, b1 _ _⟩
  · have hge : ¬ (left < s.size) := by omega
    go_enter Tryz.func40, Tryz.ntmps40
    go_wp2
    go_ret
    exact ⟨left - s.size, rfl, ⟨by omega, by omega, fun h => by omega⟩, b1 _ _⟩

def SzV (t : Tr) : Prop := ∀ (w : World) (S : Nat → Prop) (v : Value), TIn w S t v → ∀ left : Int, 0 ≤ left → left ≤ 1048576 → Calls Tryz.prog 41 #[v, .int .i64 left] w (SzQ left (tot t) w)

theorem szEntry (y : Ky) (hy : y.str.size ≤ maxLen) (k n : Int) (s : ByteArray) (x : Int) (A : Option Addr) (L c : Nat) (T : Nat) (left : Int) (h0 : 0 ≤ left) (h1 : left ≤ 1048576) (w : World)
    (ih : ∀ (w' : World) (left' : Int), Below w.heap.size w w' → 0 ≤ left' → left' ≤ 1048576 → Calls Tryz.prog 41 #[vV k n s x A L c, .int .i64 left'] w' (SzQ left' T w')) :
    Calls Tryz.prog 177 #[eV y k n s x A L c, .int .i64 left] w (SzQ left (y.str.size + T) w) := by
  obtain ⟨b, m, ys⟩ := y
  have K := szKey ⟨b, m, ys⟩ hy left h0 h1
  show Calls _ _ _ _ (SzQ left (ys.size + T) w)
  replace K : ∀ w, Calls Tryz.prog 40 #[kyV ⟨b, m, ys⟩, .int .i64 left] w (SzQ left ys.size w) := K
  unfold eV
  go_enter Tryz.func177, Tryz.ntmps177
  go_wp2_with (fail)
  refine (K _).mono ?_
  rintro e w1 ⟨r, rfl, ⟨hr1, hr2, hr3⟩, hb1⟩
  obtain ⟨hc, hf⟩ := bcell hb1
  have HB := Lib.hid hb1
  have HR := Lib.hid hr3
  clear hb1 hr3
  by_cases hr : r < 0
  · go_wp2_with (fail)
    go_ret
    exact ⟨-1, rfl, ⟨by omega, by omega, fun h => by omega⟩, bs (b1 _ _) HB.out⟩
  · have hr0 : 0 ≤ r := by omega
    go_wp2_with (fail)
    refine (ih _ r (bs (b1 _ _) HB.out) hr0 (by omega)).mono ?_
    rintro e w2 ⟨r2, rfl, ⟨hs1, hs2, hs3⟩, hb2⟩
    have HB2 := Lib.hid hb2
    have HR2 := Lib.hid hs3
    clear hb2 hs3
    by_cases hq : r2 < 0
    · go_wp2_with (fail)
      go_ret
      exact ⟨-1, rfl, ⟨by omega, by omega, fun h => by omega⟩, bs (bs (b1 _ _) HB.out) HB2.out⟩
    · have hq0 : 0 ≤ r2 := by omega
      go_wp2_with (fail)
      go_ret
      refine ⟨r2, rfl, ⟨by omega, by omega, fun h => ?_⟩, bs (bs (b1 _ _) HB.out) HB2.out⟩
      have a1 := HR.out hr0
      have a2 := HR2.out h
      omega

theorem szItems (ks : List Ky) (vs : List Tr) (ih : ∀ t ∈ vs, SzV t) (A : Option Addr) (c : Nat) (w : World) (S : Nat → Prop) (h : IsIn w S ks vs A) (left : Int) (h0 : 0 ≤ left) (h1 : left ≤ 1048576) :
    Calls Tryz.prog 111 #[.slice A vs.length c, .int .i64 left] w (SzQ left (vs.length + tots ks vs) w) := by
  obtain ⟨L, HL⟩ : ∃ L, Hid (L = vs.length) := ⟨_, Lib.hid rfl⟩
  have hm : L ≤ maxLen := by rw [HL.out]; exact h.2.1
  unfold maxLen at hm
  rw [← HL.out]
  by_cases hlt : left - L < 0
  · go_enter Tryz.func111, Tryz.ntmps111
    go_wp2_with (fail)
    go_ret
    exact ⟨-1, rfl, ⟨by omega, by omega, fun h => by omega⟩, Below.refl _ _⟩
  have hge : ¬ (left < L) := by omega
  clear hlt
  go_enter Tryz.func111, Tryz.ntmps111
  go_wp2_with (fail)
  go_loopg [1, 5] (L + 1) (fun gk l i wr => ∃ (j : Nat) (r : Int), l = .int .i64 r ∧ i = .int .i64 j ∧ gk + j = L + 1 ∧ j ≤ L ∧ 0 ≤ r ∧ r ≤ left ∧ Hid (r + tots ks vs = left - L + tots (ks.drop j) (vs.drop j)) ∧ Below w.heap.size w wr)
  case atStart => exact ⟨0, left - L, rfl, rfl, by omega, by omega, by omega, by omega, Lib.hid (by simp), Below.refl _ _⟩
  case round =>
    obtain ⟨j, r, rfl, rfl, hgj, hjL, hr0, hr1, HR, hb⟩ := hrel
    have HB := Lib.hid hb
    clear hb
    by_cases hlt : j < L
    · obtain ⟨a, y, k, n, s, x, ks', vs', A1, c1, rfl, hS, hky, hvs, ht, hyb, hkb, hin, hcell⟩ := (h.below HB.out).item (i := j) (by rw [← HL.out]; exact hlt)
      have ihj : ∀ (w' : World) (left' : Int), Below wr.heap.size wr w' → 0 ≤ left' → left' ≤ 1048576 → Calls Tryz.prog 41 #[vV k n s x A1 vs'.length c1, .int .i64 left'] w' (SzQ left' (tot (.mk k n s x ks' vs')) w') := fun w' l' hb' a0 a1 => ih _ (List.mem_of_getElem? hvs) w' S _ (ht.below' hb') l' a0 a1
      have HT := Lib.hid (tots_drop hky hvs)
      have hys := hyb.2
      clear hky hvs ht hin hyb hkb hS
      obtain ⟨p0, p1, p2, p3, p4, p5, p6, p7⟩ := hcell
      go_wp2_with (fail)
      refine (szEntry y hys k n s x A1 vs'.length c1 _ r hr0 (by omega) _ ihj).mono ?_
      rintro e w1 ⟨r2, rfl, ⟨hs1, hs2, hs3⟩, hb1⟩
      have HB1 := Lib.hid hb1
      have HR2 := Lib.hid hs3
      clear hb1 hs3
      by_cases hq : r2 < 0
      · go_wp2_with (fail)
        go_ret
        exact ⟨-1, rfl, ⟨by omega, by omega, fun h => by omega⟩, bs HB.out HB1.out⟩
      · have hq0 : 0 ≤ r2 := by omega
        go_wp2_with (fail)
        go_roundg (L - j)
        case rel =>
          refine ⟨j + 1, r2, rfl, by go_num, by omega, by omega, hq0, by omega, Lib.hid ?_, bs HB.out HB1.out⟩
          have a1 := HR.out
          have a2 := HR2.out hq0
          have a3 := HT.out
          omega
        case measure => omega
    · go_wp2_with (fail)
      go_ret
      refine ⟨r, rfl, ⟨by omega, by omega, fun _ => ?_⟩, HB.out⟩
      have a1 := HR.out
      have e : tots (ks.drop j) (vs.drop j) = 0 := by
        rw [show vs.drop j = [] from List.drop_eq_nil_of_le (by rw [← HL.out]; omega)]
        cases ks.drop j <;> rfl
      rw [e] at a1
      push_cast
      omega

theorem szV : ∀ t, SzV t := Tr.ind fun k n s x ks vs ih w S v h left h0 h1 => by
  obtain ⟨A, c, rfl, ⟨_, _, _, hs⟩, hin⟩ := h.out
  clear h
  have hT : tot (.mk k n s x ks vs) = s.size + (vs.length + tots ks vs) := by rw [tot]
  rw [hT]
  clear hT
  unfold maxLen at hs
  by_cases hlt : left - s.size < 0
  · go_enter Tryz.func41, Tryz.ntmps41
    go_wp2_with (fail)
    go_ret
    exact ⟨-1, rfl, ⟨by omega, by omega, fun h => by omega⟩, b1 _ _⟩
  have hge : ¬ (left < s.size) := by omega
  clear hlt
  go_enter Tryz.func41, Tryz.ntmps41
  go_wp2_with (fail)
  refine (szItems ks vs ih A c _ S (hin.below (b1 _ _)) (left - s.size) (by omega) (by omega)).mono ?_
  rintro e w1 ⟨r, rfl, ⟨hr1, hr2, hr3⟩, hb1⟩
  have HB1 := Lib.hid hb1
  have HR := Lib.hid hr3
  clear hb1 hr3
  by_cases hr : r < 0
  · go_wp2_with (fail)
    go_ret
    exact ⟨-1, rfl, ⟨by omega, by omega, fun h => by omega⟩, bs (b1 _ _) HB1.out⟩
  · have hr0 : 0 ≤ r := by omega
    go_wp2_with (fail)
    go_ret
    refine ⟨r, rfl, ⟨by omega, by omega, fun h => ?_⟩, bs (b1 _ _) HB1.out⟩
    have a1 := HR.out h
    push_cast at a1 ⊢
    omega

end Go.Proofs.YtdglmnmalfpipaaGreatDoor.tree

/-
  The text of a value, as a list of bytes, without the program.
  Conditions: those that each theorem names.
-/
namespace Go.Proofs.YtdglmnmalfpipaaGreatDoor.tree
open Go.ChangeShapes Go.WideShapes Go.ChangeAt Go.RowKit
set_option linter.unusedVariables false

/-- A list of bytes as a text. -/
def bz (l : List UInt8) : ByteArray := ⟨l.toArray⟩
theorem bz_app (a b : List UInt8) : bz a ++ bz b = bz (a ++ b) := by
  apply ByteArray.ext
  apply Array.toList_inj.1
  unfold bz
  rw [Joins.data_append]
theorem bz_size (a : List UInt8) : (bz a).size = a.length := rfl
theorem bz_list (a : List UInt8) : (bz a).data.toList = a := rfl
theorem bz_of (s : ByteArray) : bz s.data.toList = s := rfl
/-- The text of a value that is no array. -/
def lf (k n : Int) (s : ByteArray) : List UInt8 := if k = 0 then [78, 59] else if k = 1 then [98, 58] ++ (Lib.itoa n ++ [59]) else if k = 2 then [105, 58] ++ (Lib.itoa n ++ [59]) else [115, 58] ++ (Lib.itoa s.size ++ ([58] ++ (s.data.toList ++ [59])))
/-- What stands ahead of an array's items. -/
def hd (L : Nat) (x : Int) : List UInt8 := [97, 58] ++ (Lib.itoa L ++ ([58] ++ (Lib.itoa x ++ [123])))
def serK (y : Ky) : List UInt8 := if y.text = true then lf 3 0 y.str else lf 2 y.num ⟨#[]⟩
mutual
def ser : Tr → List UInt8
  | .mk k n s x ks vs => if 0 ≤ k ∧ k ≤ 3 then lf k n s else hd vs.length x ++ (sers ks vs ++ [125])
def sers : List Ky → List Tr → List UInt8
  | y :: ks, t :: vs => serK y ++ (ser t ++ sers ks vs)
  | _, _ => []
end
theorem ser_mk (k n : Int) (s : ByteArray) (x : Int) (ks : List Ky) (vs : List Tr) : ser (.mk k n s x ks vs) = if 0 ≤ k ∧ k ≤ 3 then lf k n s else hd vs.length x ++ (sers ks vs ++ [125]) := by rw [ser]
theorem sers_cons (y : Ky) (ks : List Ky) (t : Tr) (vs : List Tr) : sers (y :: ks) (t :: vs) = serK y ++ (ser t ++ sers ks vs) := by rw [sers]
theorem sers_nil (ks : List Ky) : sers ks [] = [] := by cases ks <;> rw [sers] <;> simp
theorem sers_drop {ks : List Ky} {vs : List Tr} {j : Nat} {y : Ky} {t : Tr} (hk : ks[j]? = some y) (hv : vs[j]? = some t) : sers (ks.drop j) (vs.drop j) = serK y ++ (ser t ++ sers (ks.drop (j + 1)) (vs.drop (j + 1))) := by
  obtain ⟨hj, rfl⟩ := List.getElem?_eq_some_iff.1 hk
  obtain ⟨hj', rfl⟩ := List.getElem?_eq_some_iff.1 hv
  rw [List.drop_eq_getElem_cons hj, List.drop_eq_getElem_cons hj', sers_cons]
theorem itoa_len (n : Int) (h : I64 n) : (Lib.itoa n).length ≤ 21 := Lib.itoa_length_le n h.1 h.2
theorem lf_len (k n : Int) (s : ByteArray) (hn : I64 n) (hs : s.size ≤ maxLen) : (lf k n s).length ≤ 30 + s.size := by
  unfold maxLen at hs
  have h1 := itoa_len n hn
  have h2 := itoa_len s.size (by unfold I64; omega)
  unfold lf
  repeat' split
  all_goals simp only [List.length_append, List.length_cons, List.length_nil, Array.length_toList, ByteArray.size] at *
  all_goals omega
theorem hd_len (L : Nat) (x : Int) (hL : L ≤ maxLen) (hx : I64 x) : (hd L x).length ≤ 46 := by
  unfold maxLen at hL
  have h1 := itoa_len x hx
  have h2 := itoa_len L (by unfold I64; omega)
  unfold hd
  simp only [List.length_append, List.length_cons, List.length_nil]
  omega
theorem serK_len (y : Ky) (h : I64 y.num ∧ y.str.size ≤ maxLen) : (serK y).length ≤ 30 + y.str.size := by
  unfold serK
  split
  · exact lf_len _ _ _ (by unfold I64; omega) h.2
  · have := lf_len 2 y.num ⟨#[]⟩ h.1 (Nat.zero_le _)
    simp [ByteArray.size] at this
    omega
/-- Words of the machine throughout. -/
inductive Wd : Tr → Prop
  | mk (k n : Int) (s : ByteArray) (x : Int) (ks : List Ky) (vs : List Tr) (hk : I64 k ∧ I64 n ∧ I64 x ∧ s.size ≤ maxLen) (hl : ks.length = vs.length) (hm : vs.length ≤ maxLen)
      (hy : ∀ (i : Nat) (hi : i < vs.length), I64 (ks[i]'(hl ▸ hi)).num ∧ (ks[i]'(hl ▸ hi)).str.size ≤ maxLen) (ht : ∀ (i : Nat) (hi : i < vs.length), Wd vs[i]) : Wd (.mk k n s x ks vs)
theorem TIn.wd {w : World} {S : Nat → Prop} {t : Tr} {v : Value} (h : TIn w S t v) : Wd t := by
  induction h with
  | mk k n s x ks vs A cap C hk hl hm hcap hc ht ih => exact .mk k n s x ks vs hk hl hm (fun i hi => by obtain ⟨a, -, -, hky, -⟩ := hc i hi; exact hky.2.2.2) ih
theorem sers_len (ks : List Ky) (vs : List Tr) (hl : ks.length = vs.length) (hy : ∀ (i : Nat) (hi : i < vs.length), I64 (ks[i]'(hl ▸ hi)).num ∧ (ks[i]'(hl ▸ hi)).str.size ≤ maxLen) (ht : ∀ (i : Nat) (hi : i < vs.length), (ser vs[i]).length ≤ 47 + 80 * tot vs[i]) :
    (sers ks vs).length ≤ 80 * (vs.length + tots ks vs) := by
  induction vs generalizing ks with
  | nil => rw [sers_nil]; simp
  | cons t vs ih =>
    cases ks with
    | nil => simp at hl
    | cons y ks =>
      have h1 := serK_len y (hy 0 (by simp))
      have h2 := ht 0 (by simp)
      have h3 := ih ks (by simpa using hl) (fun i hi => hy (i + 1) (by simp; omega)) (fun i hi => ht (i + 1) (by simp; omega))
      simp only [List.getElem_cons_zero] at h2
      rw [sers_cons, tots_cons]
      simp only [List.length_append, List.length_cons]
      omega
theorem ser_len {t : Tr} (h : Wd t) : (ser t).length ≤ 47 + 80 * tot t := by
  induction h with
  | mk k n s x ks vs hk hl hm hy ht ih =>
    rw [ser_mk, tot]
    split
    · have := lf_len k n s hk.2.1 hk.2.2.2
      omega
    · have h1 := hd_len vs.length x hm hk.2.2.1
      have h2 := sers_len ks vs hl hy ih
      simp only [List.length_append, List.length_cons, List.length_nil]
      omega
theorem wd_sers {k n x : Int} {s : ByteArray} {ks : List Ky} {vs : List Tr} (h : Wd (.mk k n s x ks vs)) : (sers ks vs).length ≤ 80 * (vs.length + tots ks vs) := by
  cases h with
  | mk _ _ _ _ _ _ hk hl hm hy ht => exact sers_len ks vs hl hy (fun i hi => ser_len (ht i hi))

end Go.Proofs.YtdglmnmalfpipaaGreatDoor.tree

/-
  A value without items; a call that gives back a value and writes nothing that was there.
  Conditions: those that each theorem names.
-/
namespace Go.Proofs.YtdglmnmalfpipaaGreatDoor.tree
open Go.ChangeShapes Go.WideShapes Go.ChangeAt Go.RowKit
set_option linter.unusedVariables false

theorem IsIn.nil (w : World) (S : Nat → Prop) (A : Option Addr) : IsIn w S [] [] A := ⟨rfl, by simp, fun _ => #[], fun i hi => absurd hi (by simp), fun i hi => absurd hi (by simp)⟩
/-- A value with no items. -/
theorem flat {k n x : Int} {s : ByteArray} (hk : I64 k ∧ I64 n ∧ I64 x ∧ s.size ≤ maxLen) (w : World) (S : Nat → Prop) (A : Option Addr) (c : Nat) (hc : c ≤ maxLen) : TIn w S (.mk k n s x [] []) (vV k n s x A 0 c) := TIn.of c hk (IsIn.nil w S A) ⟨Nat.zero_le _, hc⟩

def GivesQ (w : World) (v : Value) (e : Ending) (w' : World) : Prop := e = .returned v ∧ Below w.heap.size w w'

end Go.Proofs.YtdglmnmalfpipaaGreatDoor.tree

/-
  The laws' marks on a value that has no items.
  Conditions: those that each theorem names.
-/
namespace Go.Proofs.YtdglmnmalfpipaaGreatDoor.tree
open Go.ChangeShapes Go.WideShapes Go.ChangeAt Go.RowKit
set_option linter.unusedVariables false

theorem markItems0 (A : Option Addr) (c : Nat) (m : Int) (w : World) : Calls Tryz.prog 122 #[.slice A 0 c, .int .i64 m] w (GivesQ w (.int .i64 m)) := by
  go_enter Tryz.func122, Tryz.ntmps122
  go_wp2
  go_loopg [1, 5] 1 (fun gk l i wr => l = .int .i64 m ∧ i = .int .i64 0 ∧ gk = 1 ∧ w = wr)
  case atStart => exact ⟨rfl, rfl, rfl, rfl⟩
  case round =>
    obtain ⟨rfl, rfl, rfl, rfl⟩ := hrel
    go_wp2
    go_ret
    exact ⟨rfl, Below.refl _ _⟩

set_option maxRecDepth 100000 in
theorem heldItems0 (A : Option Addr) (c : Nat) (m : Int) (w : World) : Calls Tryz.prog 185 #[.slice A 0 c, .int .i64 m] w (GivesQ w (.int .i64 m)) := by
  go_enter Tryz.func185, Tryz.ntmps185
  go_wp2
  go_loopg [1, 5] 1 (fun gk l i wr => l = .int .i64 m ∧ i = .int .i64 0 ∧ gk = 1 ∧ w = wr)
  case atStart => exact ⟨rfl, rfl, rfl, rfl⟩
  case round =>
    obtain ⟨rfl, rfl, rfl, rfl⟩ := hrel
    go_wp2
    go_ret
    exact ⟨rfl, Below.refl _ _⟩

theorem markV0 (k n : Int) (s : ByteArray) (x : Int) (A : Option Addr) (c : Nat) (m : Int) (w : World) : Calls Tryz.prog 49 #[vV k n s x A 0 c, .int .i64 m] w (GivesQ w (.int .i64 m)) := by
  go_enter Tryz.func49, Tryz.ntmps49
  go_wp2_with (fail)
  refine (markItems0 A c m _).mono ?_
  rintro e w1 ⟨rfl, hb1⟩
  have HB := Lib.hid hb1
  clear hb1
  go_wp2_with (fail)
  go_ret
  exact ⟨rfl, bs (b1 _ _) HB.out⟩


end Go.Proofs.YtdglmnmalfpipaaGreatDoor.tree

/-
  Integers and texts as values, of the project and of the model.
  Conditions: those that each theorem names.
-/
namespace Go.Proofs.YtdglmnmalfpipaaGreatDoor.tree
open Go.ChangeShapes Go.WideShapes Go.ChangeAt Go.RowKit
set_option linter.unusedVariables false

theorem intValue_i (n : Int) (w : World) : Calls Tryz.prog 107 #[.int .i64 n] w (GivesQ w (vV 2 n ⟨#[]⟩ 0 none 0 0)) := by
  go_enter Tryz.func107, Tryz.ntmps107
  go_wp2
  exact bodyPost_ret (v := vV 2 n ⟨#[]⟩ 0 none 0 0) (by simp [results, Tryz.results107, go_sem]) rfl ⟨rfl, b1 _ _⟩
theorem intValue_s (n : Int) (w : World) : Calls Tryz.prog 188 #[.int .i64 n] w (GivesQ w (vV 2 n ⟨#[]⟩ 0 none 0 0)) := by
  go_enter Tryz.func188, Tryz.ntmps188
  go_wp2
  exact bodyPost_ret (v := vV 2 n ⟨#[]⟩ 0 none 0 0) (by simp [results, Tryz.results188, go_sem]) rfl ⟨rfl, b1 _ _⟩

theorem textValue_s (s : ByteArray) (w : World) : Calls Tryz.prog 98 #[.string s] w (GivesQ w (vV 3 0 s 0 none 0 0)) := by
  go_enter Tryz.func98, Tryz.ntmps98
  go_wp2
  exact bodyPost_ret (v := vV 3 0 s 0 none 0 0) (by simp [results, Tryz.results98, go_sem]) rfl ⟨rfl, b1 _ _⟩

end Go.Proofs.YtdglmnmalfpipaaGreatDoor.tree

/-
  A text as a value.
  Conditions: those that each theorem names.
-/
namespace Go.Proofs.YtdglmnmalfpipaaGreatDoor.tree
open Go.ChangeShapes Go.WideShapes Go.ChangeAt Go.RowKit
set_option linter.unusedVariables false

theorem implClone (s : ByteArray) (hs : s.size ≤ 1099511627776) (w : World) : Calls Tryz.prog 63 #[.string s] w fun e w' => e = .returned (.string s) ∧ Below w.heap.size w w' := by
  go_enter Tryz.func63, Tryz.ntmps63
  go_wp2_with (fail)
  refine (Tryz.stringslite_Clone s _ (by omega)).mono ?_
  rintro e w1 ⟨rfl, hb⟩
  go_wp2
  go_ret
  exact ⟨rfl, hb⟩

theorem textValue_i (s : ByteArray) (hs : s.size ≤ 1099511627776) (w : World) : Calls Tryz.prog 156 #[.string s] w (GivesQ w (vV 3 0 s 0 none 0 0)) := by
  go_enter Tryz.func156, Tryz.ntmps156
  go_wp2_with (fail)
  refine (implClone s hs _).mono ?_
  rintro e w1 ⟨rfl, hb1⟩
  have a2 := carry hb1 (heap_alloc_new w _)
  have HB := Lib.hid (bs (b1 _ _) hb1)
  obtain ⟨r2, f2⟩ := rowc a2
  clear hb1 a2
  go_wp2_with (fail)
  refine bodyPost_ret (v := vV 3 0 s 0 none 0 0) (by simp [results, Tryz.results156, go_sem, r2]) rfl ⟨rfl, ?_⟩
  have hB := HB.out
  iterate 5 refine Below.setCell ?_ (by simp) _
  exact hB

end Go.Proofs.YtdglmnmalfpipaaGreatDoor.tree

/-
  Two keys compared, and keys as the keys of a map.
  Conditions: those that each theorem names.
-/
namespace Go.Proofs.YtdglmnmalfpipaaGreatDoor.tree
open Go.ChangeShapes Go.WideShapes Go.ChangeAt Go.RowKit
set_option linter.unusedVariables false

instance : DecidableEq Ky := fun a b =>
  match a, b with
  | ⟨t, n, s⟩, ⟨t', n', s'⟩ => if h : t = t' ∧ n = n' ∧ s.data.toList = s'.data.toList then .isTrue (by
      obtain ⟨rfl, rfl, h⟩ := h
      obtain ⟨⟨s⟩⟩ := s
      obtain ⟨⟨s'⟩⟩ := s'
      simp at h
      subst h
      rfl) else .isFalse (fun e => h (by cases e; exact ⟨rfl, rfl, rfl⟩))

theorem kpart1 {P : Program} {w : World} {t : TypeId} {d : TypeDesc} (h : P.underlying t = some d) (hd : (match d with | .struct _ | .array _ _ => true | _ => false) = false) {cs : Array Value} {off : Nat} {v : Value} (hx : cs[off]? = some v) : (part t cs off).run P w = .ok v w := by
  cases d <;> simp_all [part, isAgg, run_underlying h]
theorem bytes_ne {s s' : ByteArray} (h : ¬ s.data.toList = s'.data.toList) : (s.toList == s'.toList) = false ∧ ¬ s.toList = s'.toList := by
  have h1 : ¬ s.toList = s'.toList := fun hh => h (by rwa [ByteArray.toList_eq, ByteArray.toList_eq] at hh)
  exact ⟨beq_false_of_ne h1, h1⟩
theorem bytes_same {s s' : ByteArray} (h : s.data.toList = s'.data.toList) : s = s' := by
  obtain ⟨⟨s⟩⟩ := s
  obtain ⟨⟨s'⟩⟩ := s'
  simp at h
  subst h
  rfl
theorem ik_desc : ∃ f0 f1 f2 : Field, Tryz.prog.underlying IK = some (.struct #[f0, f1, f2]) ∧ f0.name ≠ "_" ∧ f1.name ≠ "_" ∧ f2.name ≠ "_" ∧ f0.type = 4 ∧ f1.type = 3 ∧ f2.type = 9 ∧ f0.offset = 0 ∧ f1.offset = 1 ∧ f2.offset = 2 :=
  ⟨_, _, _, Tryz.underlying29, by decide, by decide, by decide, rfl, rfl, rfl, rfl, rfl, rfl⟩
theorem ik_held : Tryz.prog.stoodInHeld IK = false := by kernel_rfl
theorem ky_eq (d : Nat) (w : World) (y y' : Ky) : (Op.equalIn (d + 2) IK (kyV y) (kyV y')).run Tryz.prog w = .ok (decide (y = y')) w := by
  obtain ⟨b, n, s⟩ := y
  obtain ⟨b', n', s'⟩ := y'
  obtain ⟨f0, f1, f2, hu, n0, n1, n2, t0, t1, t2, o0, o1, o2⟩ := ik_desc
  have hf : Tryz.prog.fieldsOf IK = #[f0, f1, f2] := by simp [Program.fieldsOf, hu]
  have hb := run_equalIn_bool' (P := Tryz.prog) w d 4 b b' Tryz.underlying4
  have hi := run_equalIn_int (P := Tryz.prog) w d 3 .i64 .i64 n n' Tryz.underlying3
  have hs := run_equalIn_string (P := Tryz.prog) w d 9 s s' Tryz.underlying9
  have pa : ∀ (cs : Array Value) (v : Value), cs[0]? = some v → (part 4 cs 0).run Tryz.prog w = .ok v w := fun cs v h => kpart1 Tryz.underlying4 rfl h
  have pb : ∀ (cs : Array Value) (v : Value), cs[1]? = some v → (part 3 cs 1).run Tryz.prog w = .ok v w := fun cs v h => kpart1 Tryz.underlying3 rfl h
  have pc : ∀ (cs : Array Value) (v : Value), cs[2]? = some v → (part 9 cs 2).run Tryz.prog w = .ok v w := fun cs v h => kpart1 Tryz.underlying9 rfl h
  unfold kyV
  rw [run_equalIn_struct w (d + 1) IK _ _ (by rw [hf]; exact hu) ik_held, hf]
  have e1 := pa #[.bool b, .int .i64 n, .string s] _ rfl
  have e2 := pa #[.bool b', .int .i64 n', .string s'] _ rfl
  have e3 := pb #[.bool b, .int .i64 n, .string s] _ rfl
  have e4 := pb #[.bool b', .int .i64 n', .string s'] _ rfl
  have e5 := pc #[.bool b, .int .i64 n, .string s] _ rfl
  have e6 := pc #[.bool b', .int .i64 n', .string s'] _ rfl
  have key : decide ((⟨b, n, s⟩ : Ky) = ⟨b', n', s'⟩) = ((b == b') && ((n == n') && (s.toList == s'.toList))) := by
    rw [Bool.eq_iff_iff]
    simp only [decide_eq_true_eq, Ky.mk.injEq, Bool.and_eq_true, beq_iff_eq]
    constructor
    · rintro ⟨rfl, rfl, rfl⟩; exact ⟨rfl, rfl, rfl⟩
    · rintro ⟨rfl, rfl, h⟩
      refine ⟨rfl, rfl, bytes_same ?_⟩
      simp only [ByteArray.toList_eq] at h
      exact h
  rw [key]
  generalize hq1 : (b == b') = q1 at *
  generalize hq2 : (n == n') = q2 at *
  generalize hq3 : (s.toList == s'.toList) = q3 at *
  cases q1 <;> cases q2 <;> cases q3 <;> simp [Op.eqFields, n0, n1, n2, t0, t1, t2, o0, o1, o2, e1, e2, e3, e4, e5, e6, hb, hi, hs, Result.andThen]
theorem ky_neq (w : World) (y y' : Ky) : (binOp .neq IK (kyV y) (kyV y')).run Tryz.prog w = .ok (.bool (!decide (y = y'))) w := by
  have := ky_eq 9998 w y y'
  unfold kyV at this ⊢
  rw [run_neq_struct, this]
  rfl

theorem ky_eql (w : World) (y y' : Ky) : (binOp .eql IK (kyV y) (kyV y')).run Tryz.prog w = .ok (.bool (decide (y = y'))) w := by
  have := ky_eq 9998 w y y'
  unfold kyV at this ⊢
  rw [run_eql_struct, this]
  rfl

def GK (w : World) (v : Value) : Prop := ∃ y : Ky, v = kyV y
theorem ky_inj {y y' : Ky} (h : kyV y = kyV y') : y = y' := by
  obtain ⟨b, n, s⟩ := y
  obtain ⟨b', n', s'⟩ := y'
  simp [kyV] at h
  obtain ⟨rfl, rfl, rfl⟩ := h
  rfl
theorem ky_check (d : Nat) (w : World) (em : Bool) (y : Ky) : (Instr.checkKey em (d + 2) IK (kyV y)).run Tryz.prog w = .ok () w := by
  obtain ⟨b, n, s⟩ := y
  obtain ⟨f0, f1, f2, hu, n0, n1, n2, t0, t1, t2, o0, o1, o2⟩ := ik_desc
  have pa : (part 4 #[.bool b, .int .i64 n, .string s] 0).run Tryz.prog w = .ok (.bool b) w := kpart1 Tryz.underlying4 rfl rfl
  have pb : (part 3 #[.bool b, .int .i64 n, .string s] 1).run Tryz.prog w = .ok (.int .i64 n) w := kpart1 Tryz.underlying3 rfl rfl
  have pc : (part 9 #[.bool b, .int .i64 n, .string s] 2).run Tryz.prog w = .ok (.string s) w := kpart1 Tryz.underlying9 rfl rfl
  unfold kyV
  simp [Instr.checkKey, run_underlying hu, n0, n1, n2, t0, t1, t2, o0, o1, o2, pa, pb, pc, run_underlying Tryz.underlying4, run_underlying Tryz.underlying3, run_underlying Tryz.underlying9, Result.andThen]
theorem ky_same (d : Nat) (b : Bool) (n : Int) (s : ByteArray) : Instr.sameBits (d + 2) (.agg #[.bool b, .int .i64 n, .string s]) (.agg #[.bool b, .int .i64 n, .string s]) = true := by
  simp [Instr.sameBits]
  first | rfl | (obtain ⟨a⟩ := s; show (a == a) = true; simp) | exact beq_iff_eq.2 rfl
theorem good_ky : raw.Good Tryz.prog IK GK where
  wide := by
    obtain ⟨f0, f1, f2, hu, _⟩ := ik_desc
    rw [hu]
  check := fun w em x ⟨y, e⟩ => e ▸ ky_check 9998 w em y
  eq := fun w x x' ⟨y, e⟩ ⟨y', e'⟩ => ⟨decide (y = y'), by rw [e, e']; exact ky_eq 9998 w y y', by rw [e, e', decide_eq_true_eq]; exact ⟨fun h => h ▸ rfl, ky_inj⟩⟩
  same := fun w x ⟨y, e⟩ => by
    rw [e]
    obtain ⟨b, n, s⟩ := y
    exact ky_same 9998 b n s
theorem gk_stays : raw.Stays GK := fun _ _ _ _ _ _ h => h

end Go.Proofs.YtdglmnmalfpipaaGreatDoor.tree

/-
  Where a key stands first among the items, of the model.
  Conditions: those that each theorem names.
-/
namespace Go.Proofs.YtdglmnmalfpipaaGreatDoor.tree
open Go.ChangeShapes Go.WideShapes Go.ChangeAt Go.RowKit
set_option linter.unusedVariables false

def LtQ (w : World) (x : Int) (e : Ending) (w' : World) : Prop := e = .returned (.int .i64 x) ∧ Below w.heap.size w w'
def BoQ (w : World) (b : Bool) (e : Ending) (w' : World) : Prop := e = .returned (.bool b) ∧ Below w.heap.size w w'
def pos : List Ky → Ky → Nat → Int
  | [], _, _ => -1
  | z :: ks, y, i => if z = y then i else pos ks y (i + 1)
theorem pos_first : ∀ (ks : List Ky) (y : Ky) (i j : Nat), ks[j]? = some y → (pos ks y i = (i : Int) + j ↔ y ∉ ks.take j)
  | [], y, i, j, h => by simp at h
  | z :: ks, y, i, 0, h => by
    simp at h
    subst h
    simp [pos]
  | z :: ks, y, i, j + 1, h => by
    have ih := pos_first ks y (i + 1) j (by simpa using h)
    rw [pos, List.take_succ_cons, List.mem_cons]
    by_cases hz : z = y
    · subst hz
      simp
      omega
    · rw [if_neg hz]
      rw [show (i : Int) + ((j + 1 : Nat) : Int) = ((i + 1 : Nat) : Int) + (j : Int) by push_cast; omega, ih]
      simp [Ne.symm hz]
theorem pos_bd : ∀ (ks : List Ky) (y : Ky) (i : Nat), -1 ≤ pos ks y i ∧ pos ks y i ≤ i + ks.length
  | [], y, i => by simp [pos]
  | z :: ks, y, i => by
    have := pos_bd ks y (i + 1)
    rw [pos]
    split
    · simp; omega
    · push_cast at *; simp; omega
theorem pos_drop {ks : List Ky} {j : Nat} {z y : Ky} (h : ks[j]? = some z) : pos (ks.drop j) y j = if z = y then (j : Int) else pos (ks.drop (j + 1)) y (j + 1) := by
  obtain ⟨hj, rfl⟩ := List.getElem?_eq_some_iff.1 h
  rw [List.drop_eq_getElem_cons hj, pos]

theorem kdrew_heap (w : World) : ∀ n, (w.drewN n).heap = w.heap
  | 0 => rfl
  | n + 1 => (kdrew_heap w n)
theorem kbelow_drew (w : World) : ∀ n, Below w.heap.size w (w.drewN n)
  | 0 => Below.refl _ _
  | n + 1 => (kbelow_drew w n).drew

def CutF (wr : World) (b : Bool) (N : Nat) (C D : Array Value) (v : Value) (wx : World) : Prop :=
  v = .bool b ∧ Below wr.heap.size wr wx ∧ wx.heap[N]? = some (.cells C IV (0, 0)) ∧ wx.heap[N + 1]? = some (.cells D IK (0, 0))

set_option maxHeartbeats 800000 in
theorem find_s (n : Int) (s : ByteArray) (x : Int) (ks : List Ky) (vs : List Tr) (A : Option Addr) (c : Nat) (y : Ky) (w : World) (S : Nat → Prop) (h : IsIn w S ks vs A) :
    Calls Tryz.prog 132 #[vV 4 n s x A vs.length c, kyV y] w (LtQ w (pos ks y 0)) := by
  obtain ⟨L, HL⟩ : ∃ L, Hid (L = vs.length) := ⟨_, Lib.hid rfl⟩
  have hm : L ≤ maxLen := by rw [HL.out]; exact h.2.1
  have hkl : Hid (ks.length = L) := Lib.hid (by rw [HL.out]; exact h.1)
  unfold maxLen at hm
  rw [← HL.out]
  have HI := Lib.hid h
  clear h
  obtain ⟨W, HW⟩ : ∃ W, Hid (pos ks y 0 = W) := ⟨_, Lib.hid rfl⟩
  rw [HW.out]
  obtain ⟨yb, yn, ys⟩ := y
  unfold kyV
  go_enter Tryz.func132, Tryz.ntmps132
  go_wp2_with (fail)
  go_loopg [5] (L + 1) (fun gk i wr => ∃ j : Nat, i = .int .i64 j ∧ gk + j = L + 1 ∧ j ≤ L ∧ Hid (pos (ks.drop j) ⟨yb, yn, ys⟩ j = W) ∧
    Hid (wr.heap[w.heap.size]? = some (.cells #[.int .i64 4, .int .i64 n, .string s, .int .i64 x, .slice A L c] IV (0, 0))) ∧ Hid (wr.heap[w.heap.size + 1]? = some (.cells #[.bool yb, .int .i64 yn, .string ys] IK (0, 0))) ∧ Below w.heap.size w wr)
  case atStart => exact ⟨0, rfl, by omega, by omega, Lib.hid HW.out, Lib.hid (heap_alloc2_old w _ _), Lib.hid (heap_alloc2_new w _ _), b2 _ _ _⟩
  case round =>
    obtain ⟨j, rfl, hgj, hjL, HQ, HE, HE', hb⟩ := hrel
    have HB := Lib.hid hb
    clear hb
    obtain ⟨r0, -⟩ := rowc HE.out
    obtain ⟨r1, -⟩ := rowc HE'.out
    by_cases hlt : j < L
    · obtain ⟨a, y1, k1, n1, s1, x1, ks1, vs1, A1, c1, rfl, hS, hky, hvs, ht, hyb, hkb, hin1, hcell⟩ := (HI.out.below HB.out).item (i := j) (by rw [← HL.out]; exact hlt)
      have HD := Lib.hid ((pos_drop (y := ⟨yb, yn, ys⟩) hky).symm.trans HQ.out)
      obtain ⟨b, HBB⟩ : ∃ b, Hid (decide (y1 = ⟨yb, yn, ys⟩) = b) := ⟨_, Lib.hid rfl⟩
      have NE := fun w => ky_eql w y1 ⟨yb, yn, ys⟩
      rw [HBB.out] at NE
      unfold kyV at NE
      simp only at NE
      clear hky hvs ht hyb hkb hin1 hS
      obtain ⟨p0, p1, p2, p3, p4, p5, p6, p7⟩ := hcell
      go_upto_region 4 with fail
      go_cut [25] (fun v wx => CutF wr b w.heap.size #[.int .i64 4, .int .i64 n, .string s, .int .i64 x, .slice (some a) L c] #[.bool yb, .int .i64 yn, .string ys] v wx)
      case first =>
        go_quiet ((fail))
        all_goals
          go_wp2_with (fail)
          go_meet
          exact ⟨rfl, kbelow_drew _ _, (kdrew_heap _ _).symm ▸ HE.out, (kdrew_heap _ _).symm ▸ HE'.out⟩
      case rest =>
        obtain ⟨rfl, hbc, hx0, hx1⟩ := hcut
        have HBc := Lib.hid (bs HB.out hbc)
        have HX0 := Lib.hid hx0
        have HX1 := Lib.hid hx1
        clear hbc hx0 hx1 p0 p1 p2 p3 p4 p5 p6 p7 NE
        cases b with
        | true =>
          have e : W = (j : Int) := by rw [← HD.out, if_pos (of_decide_eq_true HBB.out)]
          go_wp2_with (fail)
          go_ret
          exact ⟨by first | rfl | (rw [e]; rfl), HBc.out⟩
        | false =>
          have HF : Hid (pos (ks.drop (j + 1)) ⟨yb, yn, ys⟩ (j + 1) = W) := Lib.hid (by have := HD.out; rw [if_neg (of_decide_eq_false HBB.out)] at this; exact this)
          go_wp2_with (fail)
          go_roundg (L - j)
          case rel => exact ⟨j + 1, by go_num, by omega, by omega, HF, HX0, HX1, HBc.out⟩
          case measure => omega
    · obtain rfl : j = L := by omega
      have e : W = -1 := by rw [← HQ.out, show ks.drop j = [] from List.drop_eq_nil_of_le (Nat.le_of_eq hkl.out)]; rfl
      go_wp2_with (fail)
      go_ret
      exact ⟨by first | rfl | (rw [e]; rfl), HB.out⟩

end Go.Proofs.YtdglmnmalfpipaaGreatDoor.tree

/-
  Whether a value is light, of the project and of the model: what its weight leaves of a limit.
  Conditions: those that each theorem names.
-/
namespace Go.Proofs.YtdglmnmalfpipaaGreatDoor.tree
open Go.ChangeShapes Go.WideShapes Go.ChangeAt Go.RowKit
set_option linter.unusedVariables false

mutual
/-- The weight of a value. -/
def wgt : Tr → Nat
  | .mk k _ _ _ _ vs => if k = 4 then 1 + wgts vs else 1
def wgts : List Tr → Nat
  | [] => 0
  | t :: vs => wgt t + wgts vs
end
theorem wgt_four (n : Int) (s : ByteArray) (x : Int) (ks : List Ky) (vs : List Tr) : wgt (.mk 4 n s x ks vs) = 1 + wgts vs := by rw [wgt, if_pos rfl]
theorem wgt_not {k n : Int} {s : ByteArray} {x : Int} {ks : List Ky} {vs : List Tr} (h : k ≠ 4) : wgt (.mk k n s x ks vs) = 1 := by rw [wgt, if_neg h]
theorem wgts_nil : wgts [] = 0 := by rw [wgts]
theorem wgts_cons (t : Tr) (vs : List Tr) : wgts (t :: vs) = wgt t + wgts vs := by rw [wgts]
theorem wgts_drop {vs : List Tr} {j : Nat} {t : Tr} (h : vs[j]? = some t) : wgts (vs.drop j) = wgt t + wgts (vs.drop (j + 1)) := by
  obtain ⟨hj, rfl⟩ := List.getElem?_eq_some_iff.1 h
  rw [List.drop_eq_getElem_cons hj, wgts_cons]
theorem wgt_pos : ∀ t, 1 ≤ wgt t
  | .mk k _ _ _ _ vs => by rw [wgt]; split <;> omega

/-- What a weight leaves of a limit, -1 if it is more. -/
def lft (m : Int) (n : Nat) : Int := if m < n then -1 else m - n
/-- A weight up to one more than a limit. -/
def cut (m : Int) (n : Nat) : Int := if m < n then m + 1 else n

def SpI (t : Tr) : Prop := ∀ (w : World) (S : Nat → Prop) (v : Value), TIn w S t v → ∀ m : Int, 0 ≤ m → m ≤ 200 → Calls Tryz.prog 160 #[.int .i64 m, v] w (LtQ w (lft m (wgt t)))

set_option maxHeartbeats 800000 in
theorem spare_i : ∀ t, SpI t := Tr.ind fun k n s x ks vs ih w S v h m hm0 hm1 => by
  obtain ⟨A, c, rfl, hk, hin⟩ := h.out
  clear h
  obtain ⟨L, HL⟩ : ∃ L, Hid (L = vs.length) := ⟨_, Lib.hid rfl⟩
  have hm : L ≤ maxLen := by rw [HL.out]; exact hin.2.1
  unfold maxLen at hm
  rw [← HL.out]
  by_cases h4 : k = 4
  · subst h4
    obtain ⟨W, HW⟩ : ∃ W, Hid (W = lft m (wgt (.mk 4 n s x ks vs))) := ⟨_, Lib.hid rfl⟩
    have HW1 : Hid (W = lft (m - 1) (wgts vs)) := by
      show W = _
      rw [HW.out, wgt_four]
      unfold lft
      split <;> split <;> push_cast <;> omega
    rw [← HW.out]
    have HI := Lib.hid hin
    clear hin hk
    go_enter Tryz.func160, Tryz.ntmps160
    go_wp2_with (fail)
    go_loopg [0, 16] (L + 1) (fun gk l i wr => ∃ (j : Nat) (q : Int), l = .int .i64 q ∧ i = .int .i64 j ∧ gk + j = L + 1 ∧ j ≤ L ∧ -1 ≤ q ∧ q ≤ 199 ∧ Hid (lft q (wgts (vs.drop j)) = W) ∧ Below w.heap.size w wr)
    case atStart => exact ⟨0, m - 1, rfl, rfl, by omega, by omega, by omega, by omega, Lib.hid (by rw [HW1.out]; simp), b1 _ _⟩
    case round =>
      obtain ⟨j, q, rfl, rfl, hgj, hjL, hq0, hq1, HQ, hb⟩ := hrel
      have HB := Lib.hid hb
      clear hb
      by_cases hlt : j < L
      · obtain ⟨a, y, k', n', s', x', ks', vs', A1, c1, rfl, hS, hky, hvs, ht, hyb, hkb, hin', hcell⟩ := (HI.out.below HB.out).item (i := j) (by rw [← HL.out]; exact hlt)
        obtain ⟨Q, HQQ⟩ : ∃ Q, Hid (lft q (wgt (.mk k' n' s' x' ks' vs')) = Q) := ⟨_, Lib.hid rfl⟩
        have ihj : 0 ≤ q → ∀ w' : World, Below wr.heap.size wr w' → Calls Tryz.prog 160 #[.int .i64 q, vV k' n' s' x' A1 vs'.length c1] w' (LtQ w' Q) := fun h0 w' hb' => HQQ.out ▸ ih _ (List.mem_of_getElem? hvs) w' S _ (ht.below' hb') q h0 (by omega)
        have HD := Lib.hid (wgts_drop hvs)
        have HP := Lib.hid (wgt_pos (.mk k' n' s' x' ks' vs'))
        clear hky hvs ht hin' hyb hkb hS
        obtain ⟨p0, p1, p2, p3, p4, p5, p6, p7⟩ := hcell
        by_cases hneg : q < 0
        · obtain rfl : q = -1 := by omega
          go_wp2_with (fail)
          go_ret
          have e : W = -1 := by
            rw [← HQ.out]
            unfold lft
            split <;> omega
          exact ⟨by rw [e]; rfl, bs HB.out (b1 _ _)⟩
        · have hq : 0 ≤ q := by omega
          have hQ : -1 ≤ Q ∧ Q ≤ 199 := by
            rw [← HQQ.out]
            have := HP.out
            unfold lft
            split <;> omega
          obtain ⟨hQ0, hQ1⟩ := hQ
          go_wp2_with (fail)
          refine (ihj hq _ (b1 _ _)).mono ?_
          rintro e w1 ⟨rfl, hb1⟩
          have HB1 := Lib.hid (bs HB.out (bs (b1 _ _) hb1))
          clear hb1
          go_wp2_with (fail)
          go_roundg (L - j)
          case rel =>
            refine ⟨j + 1, Q, rfl, by go_num, by omega, by omega, hQ0, hQ1, Lib.hid ?_, HB1.out⟩
            rw [← HQ.out, HD.out, ← HQQ.out]
            unfold lft
            split <;> split <;> split <;> push_cast at * <;> omega
          case measure => omega
      · obtain rfl : j = L := by omega
        have e : W = q := by
          rw [← HQ.out, show vs.drop j = [] from List.drop_eq_nil_of_le (Nat.le_of_eq HL.out.symm), wgts_nil]
          unfold lft
          split <;> omega
        go_wp2_with (fail)
        go_ret
        exact ⟨by first | rfl | (rw [e]; rfl), HB.out⟩
  · have hw : lft m (wgt (.mk k n s x ks vs)) = m - 1 := by
      rw [wgt_not h4]
      unfold lft
      split <;> omega
    rw [hw]
    clear hw hin hk
    go_enter Tryz.func160, Tryz.ntmps160
    go_wp2_with (fail)
    go_ret
    exact ⟨rfl, b1 _ _⟩

def WgS (t : Tr) : Prop := ∀ (w : World) (S : Nat → Prop) (v : Value), TIn w S t v → ∀ m : Int, 0 ≤ m → m ≤ 200 → Calls Tryz.prog 79 #[v, .int .i64 m] w (LtQ w (cut m (wgt t)))

set_option maxHeartbeats 800000 in
theorem weigh_s : ∀ t, WgS t := Tr.ind fun k n s x ks vs ih w S v h m hm0 hm1 => by
  obtain ⟨A, c, rfl, hk, hin⟩ := h.out
  clear h
  obtain ⟨L, HL⟩ : ∃ L, Hid (L = vs.length) := ⟨_, Lib.hid rfl⟩
  have hm : L ≤ maxLen := by rw [HL.out]; exact hin.2.1
  unfold maxLen at hm
  rw [← HL.out]
  by_cases h4 : k = 4
  · subst h4
    obtain ⟨W, HW⟩ : ∃ W, Hid (W = cut m (wgt (.mk 4 n s x ks vs))) := ⟨_, Lib.hid rfl⟩
    have HW1 : Hid (W = cut m (1 + wgts vs)) := by
      show W = _
      rw [HW.out, wgt_four]
    rw [← HW.out]
    have HI := Lib.hid hin
    clear hin hk
    go_enter Tryz.func79, Tryz.ntmps79
    go_wp2_with (fail)
    go_loopg [5, 6] (L + 1) (fun gk a i wr => ∃ (j q : Nat), a = .int .i64 q ∧ i = .int .i64 j ∧ gk + j = L + 1 ∧ j ≤ L ∧ (q : Int) ≤ m + 1 ∧ Hid (cut m (q + wgts (vs.drop j)) = W) ∧ Hid (wr.heap[w.heap.size]? = some (.cells #[.int .i64 4, .int .i64 n, .string s, .int .i64 x, .slice A L c] IV (0, 0))) ∧ Below w.heap.size w wr)
    case atStart => exact ⟨0, 1, rfl, rfl, by omega, by omega, by omega, Lib.hid (by rw [HW1.out]; rfl), Lib.hid (heap_alloc_new w _), b1 _ _⟩
    case round =>
      obtain ⟨j, q, rfl, rfl, hgj, hjL, hq1, HQ, HE, hb⟩ := hrel
      have HB := Lib.hid hb
      clear hb
      obtain ⟨r0, -⟩ := rowc HE.out
      by_cases hlt : j < L
      · obtain ⟨a, y, k', n', s', x', ks', vs', A1, c1, rfl, hS, hky, hvs, ht, hyb, hkb, hin', hcell⟩ := (HI.out.below HB.out).item (i := j) (by rw [← HL.out]; exact hlt)
        by_cases hle : (q : Int) ≤ m
        · obtain ⟨Q, HQQ⟩ : ∃ Q : Nat, Hid (cut (m - q) (wgt (.mk k' n' s' x' ks' vs')) = Q) := by
            refine ⟨(cut (m - q) (wgt (.mk k' n' s' x' ks' vs'))).toNat, Lib.hid ?_⟩
            unfold cut
            split <;> omega
          have ihj : Calls Tryz.prog 79 #[vV k' n' s' x' A1 vs'.length c1, .int .i64 (m - q)] wr (LtQ wr Q) := HQQ.out ▸ ih _ (List.mem_of_getElem? hvs) wr S _ ht (m - q) (by omega) (by omega)
          have HD := Lib.hid (wgts_drop hvs)
          have hQ : (q : Int) + Q ≤ m + 1 := by
            rw [← HQQ.out]
            unfold cut
            split <;> omega
          clear hky hvs ht hin' hyb hkb hS
          obtain ⟨p0, p1, p2, p3, p4, p5, p6, p7⟩ := hcell
          go_wp2_with (fail)
          refine ihj.mono ?_
          rintro e w1 ⟨rfl, hb1⟩
          have HE1 := Lib.hid (carry hb1 HE.out)
          have HB1 := Lib.hid (bs HB.out hb1)
          clear hb1 r0
          obtain ⟨r1, -⟩ := rowc HE1.out
          go_wp2_with (fail)
          go_roundg (L - j)
          case rel =>
            refine ⟨j + 1, q + Q, by go_num, by go_num, by omega, by omega, by push_cast; omega, Lib.hid ?_, HE1, HB1.out⟩
            have e1 := HQQ.out
            rw [← HQ.out, HD.out]
            unfold cut at e1 ⊢
            split at e1 <;> split <;> split <;> push_cast at * <;> omega
          case measure => omega
        · have e : W = (q : Int) := by
            rw [← HQ.out]
            unfold cut
            split <;> push_cast at * <;> omega
          clear hky hvs ht hin' hyb hkb hS hcell
          go_wp2_with (fail)
          go_ret
          exact ⟨by first | rfl | (rw [e]; rfl), HB.out⟩
      · obtain rfl : j = L := by omega
        have e : W = (q : Int) := by
          rw [← HQ.out, show vs.drop j = [] from List.drop_eq_nil_of_le (Nat.le_of_eq HL.out.symm), wgts_nil]
          unfold cut
          split <;> push_cast at * <;> omega
        go_wp2_with (fail)
        go_ret
        exact ⟨by first | rfl | (rw [e]; rfl), HB.out⟩
  · have hw : cut m (wgt (.mk k n s x ks vs)) = 1 := by
      rw [wgt_not h4]
      unfold cut
      split <;> omega
    rw [hw]
    clear hw hin hk
    go_enter Tryz.func79, Tryz.ntmps79
    go_wp2_with (fail)
    go_loopg [5, 6] 1 (fun gk a i wr => a = .int .i64 1 ∧ i = .int .i64 0 ∧ gk = 1 ∧ Hid (wr.heap[w.heap.size]? = some (.cells #[.int .i64 k, .int .i64 n, .string s, .int .i64 x, .slice A L c] IV (0, 0))) ∧ Below w.heap.size w wr)
    case atStart => exact ⟨rfl, rfl, rfl, Lib.hid (heap_alloc_new w _), b1 _ _⟩
    case round =>
      obtain ⟨rfl, rfl, rfl, HE, hb⟩ := hrel
      have HB := Lib.hid hb
      clear hb
      obtain ⟨r0, -⟩ := rowc HE.out
      go_wp2_with (fail)
      go_ret
      exact ⟨rfl, HB.out⟩

def lightB (t : Tr) : Bool := decide (wgt t ≤ 200)
theorem light_i (t : Tr) (w : World) (S : Nat → Prop) (v : Value) (h : TIn w S t v) : Calls Tryz.prog 89 #[v] w (BoQ w (lightB t)) := by
  have SP : ∀ o : Obj, Calls Tryz.prog 160 #[.int .i64 200, v] (w.alloc o) (LtQ (w.alloc o) (lft 200 (wgt t))) := fun o => spare_i t _ S v (h.below' (b1 w o)) 200 (by omega) (by omega)
  obtain ⟨N, HN⟩ : ∃ N, Hid (wgt t = N) := ⟨_, Lib.hid rfl⟩
  unfold lightB
  rw [HN.out] at SP ⊢
  obtain ⟨k, n, s, x, ks, vs⟩ := t
  obtain ⟨A, c, rfl, hk, hin⟩ := h.out
  clear h hk hin
  by_cases hle : N ≤ 200
  · rw [decide_eq_true hle]
    obtain ⟨r, hr, e⟩ : ∃ r : Int, 0 ≤ r ∧ lft 200 N = r := ⟨_, by unfold lft; split <;> omega, rfl⟩
    rw [e] at SP
    clear e
    go_enter Tryz.func89, Tryz.ntmps89
    go_wp2_with (fail)
    refine (SP _).mono ?_
    rintro e w1 ⟨rfl, hb1⟩
    have HB1 := Lib.hid (bs (b1 _ _) hb1)
    clear hb1
    go_wp2_with (fail)
    go_ret
    exact ⟨rfl, HB1.out⟩
  · rw [decide_eq_false hle]
    have e : lft 200 N = -1 := by unfold lft; split <;> omega
    rw [e] at SP
    go_enter Tryz.func89, Tryz.ntmps89
    go_wp2_with (fail)
    refine (SP _).mono ?_
    rintro e w1 ⟨rfl, hb1⟩
    have HB1 := Lib.hid (bs (b1 _ _) hb1)
    clear hb1
    go_wp2_with (fail)
    go_ret
    exact ⟨rfl, HB1.out⟩

end Go.Proofs.YtdglmnmalfpipaaGreatDoor.tree

/-
  IsKey of the project and of the model.
  Conditions: the key's text has at most 2^48 bytes; the package variables of the library's reading of numbers hold what the program's text lays.
-/
namespace Go.Proofs.YtdglmnmalfpipaaGreatDoor.tree
open Go.ChangeShapes Go.WideShapes Go.ChangeAt Go.RowKit
set_option linter.unusedVariables false

def num (s : ByteArray) : Bool := (dec.pr (-1000000000) 1000000000 s.data.toList).2
def keyB (y : Ky) : Bool := if y.text then decide (y.num = 0) && decide (y.str.size ≤ 400) && !num y.str else nums.inr y.num (-1000000000) 1000000000 && decide (y.str.size = 0)

def KeyQ (w : World) (b : Bool) (e : Ending) (w' : World) : Prop := e = .returned (.bool b) ∧ Below w.heap.size w w'
theorem empty_of {s : ByteArray} (h : s.size = 0) : s = ⟨#[]⟩ := by
  obtain ⟨a⟩ := s
  have : a = #[] := Array.eq_empty_of_size_eq_zero h
  rw [this]
theorem list_of {s : ByteArray} (h : s.size ≠ 0) : ¬ s.toList = [] ∧ s.toList.isEmpty = false := by
  have h1 : ¬ s.toList = [] := fun hh => h (by
    rw [ByteArray.toList_eq] at hh
    have : s.data.toList.length = 0 := by rw [hh]; rfl
    simpa using this)
  exact ⟨h1, by cases hl : s.toList with
    | nil => exact absurd hl h1
    | cons a l => rfl⟩

set_option maxHeartbeats 800000 in
theorem isKey_i (y : Ky) (hs : y.str.size ≤ 281474976710656) (w : World) (hE : prs.Env w) : Calls Tryz.prog 61 #[kyV y] w (KeyQ w (keyB y)) := by
  obtain ⟨b, m, s⟩ := y
  replace hs : s.size ≤ 281474976710656 := hs
  have HE := Lib.hid hE
  clear hE
  cases b
  · have e : keyB ⟨false, m, s⟩ = (nums.inr m (-1000000000) 1000000000 && decide (s.size = 0)) := rfl
    rw [e]
    clear e
    unfold kyV
    obtain ⟨q, HQ⟩ : ∃ q, Hid (nums.inr m (-1000000000) 1000000000 = q) := ⟨_, Lib.hid rfl⟩
    have IR : ∀ w, Calls Tryz.prog 95 #[.int .i64 m, .int .i64 (-1000000000), .int .i64 1000000000] w fun e w' => e = .returned (.bool q) ∧ w = w' := fun w => HQ.out ▸ nums.implInRange m (-1000000000) 1000000000 w
    rw [HQ.out]
    by_cases h0 : s.size = 0
    · obtain rfl := empty_of h0
      cases q
      all_goals
        go_enter Tryz.func61, Tryz.ntmps61
        go_wp2_with (fail)
        refine (IR _).mono ?_
        rintro e w1 ⟨rfl, rfl⟩
        go_wp2_with (fail)
        go_ret
        exact ⟨rfl, b1 _ _⟩
    · obtain ⟨l1, l2⟩ := list_of h0
      rw [show decide (s.size = 0) = false from decide_eq_false h0]
      clear h0
      cases q
      all_goals
        go_enter Tryz.func61, Tryz.ntmps61
        go_wp2_with (fail)
        refine (IR _).mono ?_
        rintro e w1 ⟨rfl, rfl⟩
        go_wp2_with (fail)
        go_ret
        exact ⟨rfl, b1 _ _⟩
  · have e : keyB ⟨true, m, s⟩ = (decide (m = 0) && decide (s.size ≤ 400) && !num s) := rfl
    rw [e]
    clear e
    unfold kyV
    obtain ⟨⟨x1, x2⟩, HX⟩ : ∃ x, Hid (dec.pr (-1000000000) 1000000000 s.data.toList = x) := ⟨_, Lib.hid rfl⟩
    have hn : num s = x2 := by unfold num; rw [HX.out]
    rw [hn]
    have PS : Hid (∀ w, prs.Env w → Calls Tryz.prog 137 #[.string s] w fun e w' => e = .returned (.tuple #[.int .i64 x1, .bool x2]) ∧ Below w.heap.size w w') := Lib.hid fun w hE => by
      have := prs.implParseSigned s hs w hE
      rw [HX.out] at this
      exact this
    clear hn
    by_cases h0 : m = 0
    · subst h0
      by_cases h4 : s.size ≤ 400
      · rw [show decide (s.size ≤ 400) = true from decide_eq_true h4]
        cases x2
        all_goals
          go_enter Tryz.func61, Tryz.ntmps61
          go_wp2_with (fail)
          refine (PS.out _ (HE.out.stays (b1 _ _))).mono ?_
          rintro e w1 ⟨rfl, hb1⟩
          have HB := Lib.hid (bs (b1 w _) hb1)
          obtain ⟨r1, -⟩ := rowc (carry hb1 (heap_alloc_new w _))
          clear hb1
          go_wp2_with (fail)
          go_ret
          exact ⟨rfl, HB.out⟩
      · rw [show decide (s.size ≤ 400) = false from decide_eq_false h4]
        have h4' : 400 < s.size := by omega
        clear h4
        go_enter Tryz.func61, Tryz.ntmps61
        go_wp2_with (fail)
        refine (PS.out _ (HE.out.stays (b1 _ _))).mono ?_
        rintro e w1 ⟨rfl, hb1⟩
        have HB := Lib.hid (bs (b1 w _) hb1)
        obtain ⟨r1, -⟩ := rowc (carry hb1 (heap_alloc_new w _))
        clear hb1
        go_wp2_with (fail)
        go_ret
        exact ⟨rfl, HB.out⟩
    · rw [show decide (m = 0) = false from decide_eq_false h0]
      go_enter Tryz.func61, Tryz.ntmps61
      go_wp2_with (fail)
      refine (PS.out _ (HE.out.stays (b1 _ _))).mono ?_
      rintro e w1 ⟨rfl, hb1⟩
      have HB := Lib.hid (bs (b1 w _) hb1)
      obtain ⟨r1, -⟩ := rowc (carry hb1 (heap_alloc_new w _))
      clear hb1
      go_wp2_with (fail)
      go_ret
      exact ⟨rfl, HB.out⟩

set_option maxHeartbeats 800000 in
theorem isKey_s (y : Ky) (hs : y.str.size ≤ 281474976710656) (w : World) (hE : prs.Env w) : Calls Tryz.prog 16 #[kyV y] w (KeyQ w (keyB y)) := by
  obtain ⟨b, m, s⟩ := y
  replace hs : s.size ≤ 281474976710656 := hs
  have HE := Lib.hid hE
  clear hE
  cases b
  · have e : keyB ⟨false, m, s⟩ = (nums.inr m (-1000000000) 1000000000 && decide (s.size = 0)) := rfl
    rw [e]
    clear e
    unfold kyV
    obtain ⟨q, HQ⟩ : ∃ q, Hid (nums.inr m (-1000000000) 1000000000 = q) := ⟨_, Lib.hid rfl⟩
    have IR : ∀ w, Calls Tryz.prog 66 #[.int .i64 m, .int .i64 (-1000000000), .int .i64 1000000000] w fun e w' => e = .returned (.bool q) ∧ w = w' := fun w => HQ.out ▸ nums.l1In m (-1000000000) 1000000000 w
    rw [HQ.out]
    by_cases h0 : s.size = 0
    · obtain rfl := empty_of h0
      cases q
      all_goals
        go_enter Tryz.func16, Tryz.ntmps16
        go_wp2_with (fail)
        refine (IR _).mono ?_
        rintro e w1 ⟨rfl, rfl⟩
        go_wp2_with (fail)
        go_ret
        exact ⟨rfl, b1 _ _⟩
    · obtain ⟨l1, l2⟩ := list_of h0
      rw [show decide (s.size = 0) = false from decide_eq_false h0]
      clear h0
      cases q
      all_goals
        go_enter Tryz.func16, Tryz.ntmps16
        go_wp2_with (fail)
        refine (IR _).mono ?_
        rintro e w1 ⟨rfl, rfl⟩
        go_wp2_with (fail)
        go_ret
        exact ⟨rfl, b1 _ _⟩
  · have e : keyB ⟨true, m, s⟩ = (decide (m = 0) && decide (s.size ≤ 400) && !num s) := rfl
    rw [e]
    clear e
    unfold kyV
    obtain ⟨⟨x1, x2⟩, HX⟩ : ∃ x, Hid (dec.pr (-1000000000) 1000000000 s.data.toList = x) := ⟨_, Lib.hid rfl⟩
    have hn : num s = x2 := by unfold num; rw [HX.out]
    rw [hn]
    have PS : Hid (∀ w, prs.Env w → Calls Tryz.prog 69 #[.string s] w fun e w' => e = .returned (.tuple #[.int .i64 x1, .bool x2]) ∧ Below w.heap.size w w') := Lib.hid fun w hE => by
      have := prs.specParseSigned s hs w
      rw [HX.out] at this
      exact this
    clear hn
    by_cases h0 : m = 0
    · subst h0
      by_cases h4 : s.size ≤ 400
      · rw [show decide (s.size ≤ 400) = true from decide_eq_true h4]
        cases x2
        all_goals
          go_enter Tryz.func16, Tryz.ntmps16
          go_wp2_with (fail)
          refine (PS.out _ (HE.out.stays (b1 _ _))).mono ?_
          rintro e w1 ⟨rfl, hb1⟩
          have HB := Lib.hid (bs (b1 w _) hb1)
          obtain ⟨r1, -⟩ := rowc (carry hb1 (heap_alloc_new w _))
          clear hb1
          go_wp2_with (fail)
          go_ret
          exact ⟨rfl, HB.out⟩
      · rw [show decide (s.size ≤ 400) = false from decide_eq_false h4]
        have h4' : 400 < s.size := by omega
        clear h4
        go_enter Tryz.func16, Tryz.ntmps16
        go_wp2_with (fail)
        refine (PS.out _ (HE.out.stays (b1 _ _))).mono ?_
        rintro e w1 ⟨rfl, hb1⟩
        have HB := Lib.hid (bs (b1 w _) hb1)
        obtain ⟨r1, -⟩ := rowc (carry hb1 (heap_alloc_new w _))
        clear hb1
        go_wp2_with (fail)
        go_ret
        exact ⟨rfl, HB.out⟩
    · rw [show decide (m = 0) = false from decide_eq_false h0]
      go_enter Tryz.func16, Tryz.ntmps16
      go_wp2_with (fail)
      refine (PS.out _ (HE.out.stays (b1 _ _))).mono ?_
      rintro e w1 ⟨rfl, hb1⟩
      have HB := Lib.hid (bs (b1 w _) hb1)
      obtain ⟨r1, -⟩ := rowc (carry hb1 (heap_alloc_new w _))
      clear hb1
      go_wp2_with (fail)
      go_ret
      exact ⟨rfl, HB.out⟩

end Go.Proofs.YtdglmnmalfpipaaGreatDoor.tree

/-
  Whether a key may be one of an array, of the project.
  Conditions: those that each theorem names.
-/
namespace Go.Proofs.YtdglmnmalfpipaaGreatDoor.tree
open Go.ChangeShapes Go.WideShapes Go.ChangeAt Go.RowKit
set_option linter.unusedVariables false

def belowB (y : Ky) (x : Int) : Bool := keyB y && (y.text || decide (y.num < x))
theorem keyBelow_i (y : Ky) (hs : y.str.size ≤ 281474976710656) (x : Int) (w : World) (hE : prs.Env w) : Calls Tryz.prog 191 #[kyV y, .int .i64 x] w (BoQ w (belowB y x)) := by
  obtain ⟨q, HQ⟩ : ∃ q, Hid (keyB y = q) := ⟨_, Lib.hid rfl⟩
  have KI : ∀ o, Calls Tryz.prog 61 #[kyV y] (w.alloc o) (KeyQ (w.alloc o) q) := fun o => HQ.out ▸ isKey_i y hs _ (hE.stays (b1 w o))
  unfold belowB
  rw [HQ.out]
  obtain ⟨b, m, s⟩ := y
  unfold kyV at KI ⊢
  simp only at KI ⊢
  clear hE hs
  have key : ∀ r : Bool, decide (m < x) = r → Calls Tryz.prog 191 #[.agg #[.bool b, .int .i64 m, .string s], .int .i64 x] w (BoQ w (q && (b || r))) := fun r hr => by
    cases r with
    | true =>
      have hr := of_decide_eq_true hr
      cases q <;> cases b
      all_goals
        go_enter Tryz.func191, Tryz.ntmps191
        go_wp2_with (fail)
        refine (KI _).mono ?_
        rintro e w1 ⟨rfl, hb1⟩
        obtain ⟨r1, -⟩ := rowc (carry hb1 (heap_alloc_new w _))
        have HB := Lib.hid (bs (b1 w _) hb1)
        clear hb1
        go_wp2_with (fail)
        go_ret
        exact ⟨rfl, HB.out⟩
    | false =>
      have hr := of_decide_eq_false hr
      cases q <;> cases b
      all_goals
        go_enter Tryz.func191, Tryz.ntmps191
        go_wp2_with (fail)
        refine (KI _).mono ?_
        rintro e w1 ⟨rfl, hb1⟩
        obtain ⟨r1, -⟩ := rowc (carry hb1 (heap_alloc_new w _))
        have HB := Lib.hid (bs (b1 w _) hb1)
        clear hb1
        go_wp2_with (fail)
        go_ret
        exact ⟨rfl, HB.out⟩
  exact key _ rfl

end Go.Proofs.YtdglmnmalfpipaaGreatDoor.tree

/-
  Whether a light value is valid, of the project.
  Conditions: those that each theorem names.
-/
namespace Go.Proofs.YtdglmnmalfpipaaGreatDoor.tree
open Go.ChangeShapes Go.WideShapes Go.ChangeAt Go.RowKit
set_option linter.unusedVariables false

/-- What a value that is no array has to be. -/
def scalB (k n : Int) (s : ByteArray) : Bool := if k = 0 then decide (n = 0) else if k = 1 then nums.inr n 0 1 else if k = 2 then nums.inr n (-1000000000) 1000000000 else if k = 3 then decide (n = 0) && decide (s.size ≤ 400) else if k = 6 ∨ k = 7 ∨ k = 8 then nums.inr n 0 255 else false
def restB (k n : Int) (s : ByteArray) (x : Int) (L : Nat) : Bool := ((decide (k = 3) || decide (s.size = 0)) && (decide (x = 0) && decide (L = 0))) && scalB k n s
mutual
/-- Whether a value is valid, but for its weight. -/
def sndB : Tr → Bool
  | .mk k n s x ks vs => if k = 4 then decide (s.size = 0) && (decide (n = 0) && (nums.inr x 0 1000000001 && itemsB x [] ks vs)) else restB k n s x vs.length
def itemsB (x : Int) : List Ky → List Ky → List Tr → Bool
  | seen, y :: ks, t :: vs => (!decide (y ∈ seen) && (belowB y x && sndB t)) && itemsB x (seen ++ [y]) ks vs
  | _, _, _ => true
end
theorem snd_four (n : Int) (s : ByteArray) (x : Int) (ks : List Ky) (vs : List Tr) : sndB (.mk 4 n s x ks vs) = (decide (s.size = 0) && (decide (n = 0) && (nums.inr x 0 1000000001 && itemsB x [] ks vs))) := by rw [sndB, if_pos rfl]
theorem snd_not {k n : Int} {s : ByteArray} {x : Int} {ks : List Ky} {vs : List Tr} (h : k ≠ 4) : sndB (.mk k n s x ks vs) = restB k n s x vs.length := by rw [sndB, if_neg h]
theorem items_cons (x : Int) (seen : List Ky) (y : Ky) (ks : List Ky) (t : Tr) (vs : List Tr) : itemsB x seen (y :: ks) (t :: vs) = ((!decide (y ∈ seen) && (belowB y x && sndB t)) && itemsB x (seen ++ [y]) ks vs) := by rw [itemsB]
theorem items_nil (x : Int) (seen ks : List Ky) : itemsB x seen ks [] = true := by cases ks <;> rw [itemsB] <;> simp
theorem items_drop {x : Int} {ks : List Ky} {vs : List Tr} {j : Nat} {y : Ky} {t : Tr} (hk : ks[j]? = some y) (hv : vs[j]? = some t) :
    itemsB x (ks.take j) (ks.drop j) (vs.drop j) = ((!decide (y ∈ ks.take j) && (belowB y x && sndB t)) && itemsB x (ks.take (j + 1)) (ks.drop (j + 1)) (vs.drop (j + 1))) := by
  obtain ⟨hj, rfl⟩ := List.getElem?_eq_some_iff.1 hk
  obtain ⟨hj', rfl⟩ := List.getElem?_eq_some_iff.1 hv
  rw [List.drop_eq_getElem_cons hj, List.drop_eq_getElem_cons hj', items_cons, List.take_succ_eq_append_getElem hj]
theorem tots_item : ∀ {ks : List Ky} {vs : List Tr} {j : Nat} {y : Ky} {t : Tr}, ks[j]? = some y → vs[j]? = some t → y.str.size + tot t ≤ tots ks vs
  | [], _, _, _, _, h, _ => by simp at h
  | _ :: _, [], _, _, _, _, h => by simp at h
  | z :: ks, u :: vs, 0, y, t, h, h' => by
    simp at h h'
    subst h h'
    rw [tots_cons]
    omega
  | z :: ks, u :: vs, j + 1, y, t, h, h' => by
    have := tots_item (ks := ks) (vs := vs) (j := j) (by simpa using h) (by simpa using h')
    rw [tots_cons]
    omega

theorem rest_str {k n : Int} {s : ByteArray} {x : Int} {L : Nat} (h : ¬ k = 3) (hs : ¬ s.size = 0) : restB k n s x L = false := by
  unfold restB
  simp [h, hs]
theorem rest_next {k n : Int} {s : ByteArray} {x : Int} {L : Nat} (h : ¬ x = 0) : restB k n s x L = false := by
  unfold restB
  simp [h]
theorem rest_items {k n : Int} {s : ByteArray} {x : Int} {L : Nat} (h : ¬ L = 0) : restB k n s x L = false := by
  unfold restB
  simp [h]
theorem rest_ok {k n : Int} {s : ByteArray} (h : k = 3 ∨ s.size = 0) : restB k n s 0 0 = scalB k n s := by
  unfold restB
  rcases h with h | h <;> simp [h]
theorem ret_dec {p q : Prop} [Decidable p] [Decidable q] (h : p ↔ q) : Ending.returned (.bool (decide p)) = .returned (.bool (decide q)) := by rw [decide_eq_decide.2 h]
theorem inRange_i (n l h : Int) (q : Bool) (hq : nums.inr n l h = q) (w : World) : Calls Tryz.prog 95 #[.int .i64 n, .int .i64 l, .int .i64 h] w fun e w' => e = .returned (.bool q) ∧ w = w' := hq ▸ nums.implInRange n l h w

theorem scal_i (k n : Int) (s : ByteArray) (A : Option Addr) (c : Nat) (h4 : ¬ k = 4) (hs : k = 3 ∨ s.size = 0) (hm : s.size ≤ maxLen) (w : World) :
    Calls Tryz.prog 90 #[vV k n s 0 A 0 c] w (BoQ w (scalB k n s)) := by
  unfold maxLen at hm
  by_cases h3 : k = 3
  · subst h3
    clear h4 hs
    by_cases hn : n = 0
    · subst hn
      have e : scalB 3 0 s = decide (s.size ≤ 400) := by simp [scalB]
      rw [e]
      clear e
      go_enter Tryz.func90, Tryz.ntmps90
      go_wp2_with (fail)
      go_ret
      exact ⟨ret_dec (p := (s.size : Int) ≤ 400) (by omega), b1 _ _⟩
    · have e : scalB 3 n s = false := by simp [scalB, hn]
      rw [e]
      clear e
      go_enter Tryz.func90, Tryz.ntmps90
      go_wp2_with (fail)
      go_ret
      exact ⟨rfl, b1 _ _⟩
  · obtain rfl := empty_of (hs.resolve_left h3)
    clear hs hm
    by_cases h0 : k = 0
    · subst h0
      have e : scalB 0 n ⟨#[]⟩ = decide (n = 0) := rfl
      rw [e]
      clear e h3 h4
      go_enter Tryz.func90, Tryz.ntmps90
      go_wp2_with (fail)
      go_ret
      exact ⟨rfl, b1 _ _⟩
    by_cases h1 : k = 1
    · subst h1
      obtain ⟨q, hq⟩ : ∃ q, scalB 1 n ⟨#[]⟩ = q := ⟨_, rfl⟩
      have IR := inRange_i n 0 1 q hq
      rw [hq]
      clear hq h3 h4 h0
      go_enter Tryz.func90, Tryz.ntmps90
      go_wp2_with (fail)
      refine (IR _).mono ?_
      rintro e w1 ⟨rfl, rfl⟩
      go_wp2_with (fail)
      go_ret
      exact ⟨rfl, b1 _ _⟩
    by_cases h2 : k = 2
    · subst h2
      obtain ⟨q, hq⟩ : ∃ q, scalB 2 n ⟨#[]⟩ = q := ⟨_, rfl⟩
      have IR := inRange_i n (-1000000000) 1000000000 q hq
      rw [hq]
      clear hq h3 h4 h0 h1
      go_enter Tryz.func90, Tryz.ntmps90
      go_wp2_with (fail)
      refine (IR _).mono ?_
      rintro e w1 ⟨rfl, rfl⟩
      go_wp2_with (fail)
      go_ret
      exact ⟨rfl, b1 _ _⟩
    by_cases h678 : k = 6 ∨ k = 7 ∨ k = 8
    · obtain ⟨q, hq⟩ : ∃ q, nums.inr n 0 255 = q := ⟨_, rfl⟩
      have IR := inRange_i n 0 255 q hq
      have e : scalB k n ⟨#[]⟩ = q := by
        unfold scalB
        rw [if_neg h0, if_neg h1, if_neg h2, if_neg h3, if_pos h678, hq]
      rw [e]
      clear hq e h3 h4 h0 h1 h2
      rcases h678 with rfl | rfl | rfl
      all_goals
        go_enter Tryz.func90, Tryz.ntmps90
        go_wp2_with (fail)
        refine (IR _).mono ?_
        rintro e w1 ⟨rfl, rfl⟩
        go_wp2_with (fail)
        go_ret
        exact ⟨rfl, b1 _ _⟩
    · have e : scalB k n ⟨#[]⟩ = false := by
        unfold scalB
        rw [if_neg h0, if_neg h1, if_neg h2, if_neg h3, if_neg h678]
      rw [e]
      clear e
      have h6 : ¬ k = 6 := fun h => h678 (.inl h)
      have h7 : ¬ k = 7 := fun h => h678 (.inr (.inl h))
      have h8 : ¬ k = 8 := fun h => h678 (.inr (.inr h))
      clear h678
      go_enter Tryz.func90, Tryz.ntmps90
      go_wp2_with (fail)
      go_ret
      exact ⟨rfl, b1 _ _⟩

theorem rest_i (k n : Int) (s : ByteArray) (x : Int) (A : Option Addr) (L c : Nat) (h4 : ¬ k = 4) (hm : s.size ≤ maxLen) (hL : L ≤ maxLen) (w : World) :
    Calls Tryz.prog 90 #[vV k n s x A L c] w (BoQ w (restB k n s x L)) := by
  by_cases hs : k = 3 ∨ s.size = 0
  · by_cases hx : x = 0
    · subst hx
      by_cases h0 : L = 0
      · subst h0
        rw [rest_ok hs]
        exact scal_i k n s A c h4 hs hm w
      · rw [rest_items h0]
        unfold maxLen at hL
        have h0' : ((L : Int) != 0) = true := by simp; omega
        have h4' : (k != 4) = true := by simp [h4]
        by_cases h3 : k = 3
        · subst h3
          clear hs h4'
          go_enter Tryz.func90, Tryz.ntmps90
          go_wp2_with (fail)
          go_ret
          exact ⟨rfl, b1 _ _⟩
        · obtain rfl := empty_of (hs.resolve_left h3)
          clear hs hm
          go_enter Tryz.func90, Tryz.ntmps90
          go_wp2_with (fail)
          go_ret
          exact ⟨rfl, b1 _ _⟩
    · rw [rest_next hx]
      by_cases h3 : k = 3
      · subst h3
        clear hs
        go_enter Tryz.func90, Tryz.ntmps90
        go_wp2_with (fail)
        go_ret
        exact ⟨rfl, b1 _ _⟩
      · obtain rfl := empty_of (hs.resolve_left h3)
        clear hs hm
        go_enter Tryz.func90, Tryz.ntmps90
        go_wp2_with (fail)
        go_ret
        exact ⟨rfl, b1 _ _⟩
  · have h3 : ¬ k = 3 := fun h => hs (.inl h)
    have h0 : ¬ s.size = 0 := fun h => hs (.inr h)
    rw [rest_str h3 h0]
    obtain ⟨l1, l2⟩ := list_of h0
    clear hs
    go_enter Tryz.func90, Tryz.ntmps90
    go_wp2_with (fail)
    go_ret
    exact ⟨rfl, b1 _ _⟩

end Go.Proofs.YtdglmnmalfpipaaGreatDoor.tree

/-
  Whether a light value is valid, of the project: the items of an array.
  Conditions: the keys' texts have at most 2^48 bytes; the package variables of the library's reading of numbers hold what the program's text lays.
-/
namespace Go.Proofs.YtdglmnmalfpipaaGreatDoor.tree
open Go.ChangeShapes Go.WideShapes Go.ChangeAt Go.RowKit
set_option linter.unusedVariables false

theorem kzero (w : World) : (zeroValue 4).run Tryz.prog w = .ok (.bool false) w := by kernel_rfl
theorem kgot_some (z v : Value) : raw.Got false z (some v) = v := rfl
theorem kgot_none (z : Value) : raw.Got false z none = z := rfl
theorem kalH {w : World} {b : Nat} {f : Value → Option Value} (h : raw.Holds w GK b f) (o : Obj) : raw.Holds (w.alloc o) GK b f :=
  h.kept (Below.heap_alloc w o b h.lt) (fun _ hx => hx)
def SeenK (l : List Ky) (e : Value → Option Value) : Prop := ∀ y : Ky, e (kyV y) = if y ∈ l then some (.bool true) else none
theorem SeenK.push {l : List Ky} {e : Value → Option Value} (h : SeenK l e) (y : Ky) : SeenK (l ++ [y]) (raw.put e (kyV y) (.bool true)) := fun z => by
  by_cases hz : z = y
  · subst hz
    rw [raw.put_same]
    simp
  · rw [raw.put_other (fun e => hz (ky_inj e)), h z]
    simp [hz]

def SoI (t : Tr) : Prop := tot t ≤ 281474976710656 → ∀ (w : World) (S : Nat → Prop) (v : Value), prs.Env w → TIn w S t v → Calls Tryz.prog 90 #[v] w (BoQ w (sndB t))

set_option maxHeartbeats 1000000 in
theorem soundItems (n : Int) (s : ByteArray) (x : Int) (ks : List Ky) (vs : List Tr) (ih : ∀ t ∈ vs, SoI t) (A : Option Addr) (c : Nat) (w : World) (S : Nat → Prop) (hE : prs.Env w) (h : IsIn w S ks vs A) (hN : tots ks vs ≤ 281474976710656) :
    Calls Tryz.prog 161 #[vV 4 n s x A vs.length c] w (BoQ w (itemsB x [] ks vs)) := by
  obtain ⟨L, HL⟩ : ∃ L, Hid (L = vs.length) := ⟨_, Lib.hid rfl⟩
  have hm : L ≤ maxLen := by rw [HL.out]; exact h.2.1
  unfold maxLen at hm
  have HKL : Hid (ks.length = L) := Lib.hid (by rw [HL.out]; exact h.1)
  rw [← HL.out]
  have HI := Lib.hid h
  have HEN := Lib.hid hE
  clear h hE
  obtain ⟨W, HW⟩ : ∃ W, Hid (itemsB x [] ks vs = W) := ⟨_, Lib.hid rfl⟩
  rw [HW.out]
  have hmm := @run_makeMap Tryz.prog
  go_enter Tryz.func161, Tryz.ntmps161
  go_wp2_with (fail)
  clear hmm
  go_loopg [10] (L + 1) (fun gk i wr => ∃ (j : Nat) (e : Value → Option Value), i = .int .i64 j ∧ gk + j = L + 1 ∧ j ≤ L ∧ Hid (itemsB x (ks.take j) (ks.drop j) (vs.drop j) = W) ∧
    Hid (wr.heap[w.heap.size]? = some (.cells #[.int .i64 4, .int .i64 n, .string s, .int .i64 x, .slice A L c] IV (0, 0))) ∧ Hid (SeenK (ks.take j) e) ∧ raw.Holds wr GK (w.heap.size + 1) e ∧ Below w.heap.size w wr ∧ w.heap.size + 1 < wr.heap.size)
  case atStart =>
    have h1 := raw.Holds.made (w.alloc (.cells #[.int .i64 4, .int .i64 n, .string s, .int .i64 x, .slice A L c] IV)) GK
    have z1 : (w.alloc (.cells #[.int .i64 4, .int .i64 n, .string s, .int .i64 x, .slice A L c] IV)).heap.size = w.heap.size + 1 := by simp
    rw [z1] at h1
    exact ⟨0, fun _ => none, rfl, by omega, by omega, Lib.hid HW.out, Lib.hid (heap_alloc2_old w _ _), Lib.hid (fun y => by simp), h1, b2 _ _ _, h1.lt⟩
  case round =>
    obtain ⟨j, e, rfl, hgj, hjL, HQ, HE, HS, hm1, hb, hz⟩ := hrel
    have HB := Lib.hid hb
    have HZ := Lib.hid hz
    clear hb hz
    obtain ⟨r0, -⟩ := rowc HE.out
    by_cases hlt : j < L
    · obtain ⟨a, y, k', n', s', x', ks', vs', A1, c1, rfl, hS, hky, hvs, ht, hyb, hkb, hin', hcell⟩ := (HI.out.below HB.out).item (i := j) (by rw [← HL.out]; exact hlt)
      have htm := tots_item hky hvs
      have hys : y.str.size ≤ 281474976710656 := by omega
      have htt : tot (.mk k' n' s' x' ks' vs') ≤ 281474976710656 := by omega
      have HD := Lib.hid ((items_drop (x := x) hky hvs).symm.trans HQ.out)
      have HTK : Hid (ks.take (j + 1) = ks.take j ++ [y]) := Lib.hid (by
        obtain ⟨hj, rfl⟩ := List.getElem?_eq_some_iff.1 hky
        exact List.take_succ_eq_append_getElem hj)
      have hm2 := fun o => kalH hm1 o
      have hkk : ∀ w' : World, GK w' (.agg #[.bool y.text, .int .i64 y.num, .string y.str]) := fun _ => ⟨y, rfl⟩
      obtain ⟨q1, HQ1⟩ : ∃ q, Hid (belowB y x = q) := ⟨_, Lib.hid rfl⟩
      obtain ⟨q2, HQ2⟩ : ∃ q, Hid (sndB (.mk k' n' s' x' ks' vs') = q) := ⟨_, Lib.hid rfl⟩
      have KB : ∀ w' : World, Below wr.heap.size wr w' → Calls Tryz.prog 191 #[.agg #[.bool y.text, .int .i64 y.num, .string y.str], .int .i64 x] w' (BoQ w' q1) := fun w' hb' => HQ1.out ▸ keyBelow_i y hys x w' (HEN.out.stays (bs HB.out hb'))
      have ihj : ∀ w' : World, Below wr.heap.size wr w' → Calls Tryz.prog 90 #[vV k' n' s' x' A1 vs'.length c1] w' (BoQ w' q2) := fun w' hb' => HQ2.out ▸ ih _ (List.mem_of_getElem? hvs) htt w' S _ (HEN.out.stays (bs HB.out hb')) (ht.below' hb')
      rw [HQ1.out, HQ2.out] at HD
      obtain ⟨L1, HL1⟩ : ∃ L1, Hid (L1 = vs'.length) := ⟨_, Lib.hid rfl⟩
      rw [← HL1.out] at hcell ihj
      clear hky hvs ht hin' hyb hkb hS htm hys htt
      obtain ⟨p0, p1, p2, p3, p4, p5, p6, p7⟩ := hcell
      obtain ⟨NI, hNI⟩ : ∃ N, N = wr.heap.size := ⟨_, rfl⟩
      by_cases hsn : y ∈ ks.take j
      · have hek : e (.agg #[.bool y.text, .int .i64 y.num, .string y.str]) = some (.bool true) := (HS.out y).trans (if_pos hsn)
        have HEK := Lib.hid hek
        have HF : Hid (false = W) := Lib.hid (by have := HD.out; rw [decide_eq_true hsn] at this; simpa using this)
        clear hsn hek hm1
        go_wp2_with (first | (at_lookup; refine raw.wpList_lookup_to _ rfl _ _ 206 false rfl (hm2 _) good_ky Tryz.underlying206 (kzero _) rfl rfl (hkk _) HEK.out (kgot_some _ _) ?_) | fail)
        go_ret
        exact ⟨by rw [← HF.out]; rfl, bs HB.out (b1 _ _)⟩
      · have hek : e (.agg #[.bool y.text, .int .i64 y.num, .string y.str]) = none := (HS.out y).trans (if_neg hsn)
        have HEK := Lib.hid hek
        have HD2 : Hid (((q1 && q2) && itemsB x (ks.take (j + 1)) (ks.drop (j + 1)) (vs.drop (j + 1))) = W) := Lib.hid (by have := HD.out; rw [decide_eq_false hsn] at this; simpa using this)
        clear hsn hek hm1 HD
        have bx : ∀ o, (wr.alloc o).cell? ⟨w.heap.size, 3, none⟩ = some (.int .i64 x) := fun o => (rowc (keepAlloc (o' := o) HE.out)).1 3
        go_wp2_with (first | (at_lookup; refine raw.wpList_lookup_to _ rfl _ _ 206 false rfl (hm2 _) good_ky Tryz.underlying206 (kzero _) rfl rfl (hkk _) HEK.out (kgot_none _) ?_) | fail)
        refine (KB _ (b1 _ _)).mono ?_
        rintro e1 w1 ⟨rfl, hb1⟩
        have eI := carry hb1 (heap_alloc_new wr _)
        rw [← hNI] at eI ⊢
        have EI := Lib.hid eI
        obtain ⟨rI, -⟩ := rowc eI
        have hB1 := bs (b1 wr _) hb1
        have HB1 := Lib.hid hB1
        have hm3 : raw.Holds w1 GK (w.heap.size + 1) e := (hm2 _).kept (hb1.block _ (hm2 _).lt) (fun _ hx => hx)
        have hbIH := Lib.hid hb1
        clear hb1 eI hB1 hm2 r0 bx hNI
        cases q1 with
        | false =>
          have HF : Hid (false = W) := HD2
          go_wp2_with (fail)
          go_ret
          exact ⟨by rw [← HF.out]; rfl, bs HB.out HB1.out⟩
        | true =>
          go_wp2_with (fail)
          refine (ihj _ HB1.out).mono ?_
          rintro e2 w2 ⟨rfl, hb2⟩
          have eI2 := carry hb2 EI.out
          have EI2 := Lib.hid eI2
          obtain ⟨rI2, -⟩ := rowc eI2
          have hm4 : raw.Holds w2 GK (w.heap.size + 1) e := hm3.kept (hb2.block _ hm3.lt) (fun _ hx => hx)
          have HB2 := Lib.hid (bs HB1.out hb2)
          clear hb2 eI2 rI hm3
          cases q2 with
          | false =>
            have HF : Hid (false = W) := HD2
            go_wp2_with (fail)
            go_ret
            exact ⟨by rw [← HF.out]; rfl, bs HB.out HB2.out⟩
          | true =>
            have HF : Hid (itemsB x (ks.take (j + 1)) (ks.drop (j + 1)) (vs.drop (j + 1)) = W) := HD2
            go_wp2_with (first
              | (at_mapUpdate; refine raw.wpList_update _ rfl _ _ _ 206 rfl hm4 good_ky gk_stays Tryz.underlying206 rfl rfl rfl (hkk _) ?_
                 intro w4 hm14 hgr4
                 have HM14 := Lib.hid hm14
                 have HGR4 := Lib.hid hgr4
                 clear hm14 hgr4)
              | fail)
            go_roundg (L - j)
            case rel =>
              have hE2 := carry HB2.out HE.out
              have z4 := HB2.out.size
              have z5 := HZ.out
              refine ⟨j + 1, _, by go_num, by omega, by omega, HF, Lib.hid ((HGR4.out.block _ (Array.getElem?_eq_some_iff.1 hE2).1 (by intro h; injection h; omega)).trans hE2), Lib.hid (by rw [HTK.out]; exact HS.out.push y), HM14.out, ?_, HM14.out.lt⟩
              exact (bs HB.out HB2.out).grown HGR4.out (by omega) (fun k hk => by obtain rfl := Option.some.inj hk; omega)
            case measure => omega
    · obtain rfl : j = L := by omega
      have HF : Hid (true = W) := Lib.hid (by rw [← HQ.out, show vs.drop j = [] from List.drop_eq_nil_of_le (Nat.le_of_eq HL.out.symm), items_nil])
      clear hm1
      go_wp2_with (fail)
      go_ret
      exact ⟨by rw [← HF.out]; rfl, HB.out⟩

end Go.Proofs.YtdglmnmalfpipaaGreatDoor.tree

/-
  IsValue of the project.
  Conditions: the value has at most 2^48 letters and items; the package variables of the library's reading of numbers hold what the program's text lays.
-/
namespace Go.Proofs.YtdglmnmalfpipaaGreatDoor.tree
open Go.ChangeShapes Go.WideShapes Go.ChangeAt Go.RowKit
set_option linter.unusedVariables false

theorem sound_i : ∀ t, SoI t := Tr.ind fun k n s x ks vs ih hN w S v hE h => by
  obtain ⟨A, c, rfl, ⟨-, -, -, hs⟩, hin⟩ := h.out
  clear h
  rw [tot] at hN
  by_cases h4 : k = 4
  · subst h4
    have SI : ∀ o, Calls Tryz.prog 161 #[vV 4 n s x A vs.length c] (w.alloc o) (BoQ (w.alloc o) (itemsB x [] ks vs)) := fun o => soundItems n s x ks vs ih A c _ S (hE.stays (b1 w o)) (hin.below (b1 w o)) (by omega)
    rw [snd_four]
    obtain ⟨q, HQ⟩ : ∃ q, Hid (itemsB x [] ks vs = q) := ⟨_, Lib.hid rfl⟩
    obtain ⟨q1, HQ1⟩ : ∃ q, Hid (nums.inr x 0 1000000001 = q) := ⟨_, Lib.hid rfl⟩
    have IR := inRange_i x 0 1000000001 q1 HQ1.out
    rw [HQ.out] at SI ⊢
    rw [HQ1.out]
    have hm : vs.length ≤ maxLen := hin.2.1
    obtain ⟨L, HL⟩ : ∃ L, Hid (L = vs.length) := ⟨_, Lib.hid rfl⟩
    rw [← HL.out] at SI hm ⊢
    unfold maxLen at hm hs
    clear hin hE hN ih
    by_cases h0 : s.size = 0
    · obtain rfl := empty_of h0
      by_cases hn : n = 0
      · subst hn
        cases q1 with
        | false =>
          go_enter Tryz.func90, Tryz.ntmps90
          go_wp2_with (fail)
          refine (IR _).mono ?_
          rintro e w1 ⟨rfl, rfl⟩
          go_wp2_with (fail)
          go_ret
          exact ⟨rfl, b1 _ _⟩
        | true =>
          go_enter Tryz.func90, Tryz.ntmps90
          go_wp2_with (fail)
          refine (IR _).mono ?_
          rintro e w1 ⟨rfl, rfl⟩
          go_wp2_with (fail)
          refine (SI _).mono ?_
          rintro e w2 ⟨rfl, hb2⟩
          have HB := Lib.hid (bs (b1 _ _) hb2)
          clear hb2
          go_wp2_with (fail)
          go_ret
          exact ⟨rfl, HB.out⟩
      · have e : (decide ((⟨#[]⟩ : ByteArray).size = 0) && (decide (n = 0) && (q1 && q))) = false := by rw [decide_eq_false hn]; simp
        rw [e]
        clear e
        go_enter Tryz.func90, Tryz.ntmps90
        go_wp2_with (fail)
        go_ret
        exact ⟨rfl, b1 _ _⟩
    · have e : (decide (s.size = 0) && (decide (n = 0) && (q1 && q))) = false := by rw [decide_eq_false h0]; rfl
      rw [e]
      obtain ⟨l1, l2⟩ := list_of h0
      clear e
      go_enter Tryz.func90, Tryz.ntmps90
      go_wp2_with (fail)
      go_ret
      exact ⟨rfl, b1 _ _⟩
  · rw [snd_not h4]
    exact rest_i k n s x A vs.length c h4 hs hin.2.1 w

def valB (t : Tr) : Bool := lightB t && sndB t
theorem isValue_i (t : Tr) (hN : tot t ≤ 281474976710656) (w : World) (S : Nat → Prop) (v : Value) (hE : prs.Env w) (h : TIn w S t v) : Calls Tryz.prog 32 #[v] w (BoQ w (valB t)) := by
  have LI : ∀ o, Calls Tryz.prog 89 #[v] (w.alloc o) (BoQ (w.alloc o) (lightB t)) := fun o => light_i t _ S v (h.below' (b1 w o))
  have SI : ∀ w', Below w.heap.size w w' → Calls Tryz.prog 90 #[v] w' (BoQ w' (sndB t)) := fun w' hb => sound_i t hN w' S v (hE.stays hb) (h.below' hb)
  unfold valB
  obtain ⟨q1, HQ1⟩ : ∃ q, Hid (lightB t = q) := ⟨_, Lib.hid rfl⟩
  obtain ⟨q2, HQ2⟩ : ∃ q, Hid (sndB t = q) := ⟨_, Lib.hid rfl⟩
  rw [HQ1.out] at LI ⊢
  rw [HQ2.out] at SI ⊢
  obtain ⟨k, n, s, x, ks, vs⟩ := t
  obtain ⟨A, c, rfl, hk, hin⟩ := h.out
  clear h hk hin hE hN
  cases q1 with
  | false =>
    go_enter Tryz.func32, Tryz.ntmps32
    go_wp2_with (fail)
    refine (LI _).mono ?_
    rintro e w1 ⟨rfl, hb1⟩
    have HB := Lib.hid (bs (b1 _ _) hb1)
    clear hb1
    go_wp2_with (fail)
    go_ret
    exact ⟨rfl, HB.out⟩
  | true =>
    go_enter Tryz.func32, Tryz.ntmps32
    go_wp2_with (fail)
    refine (LI _).mono ?_
    rintro e w1 ⟨rfl, hb1⟩
    obtain ⟨r1, -⟩ := rowc (carry hb1 (heap_alloc_new w _))
    have HB := Lib.hid (bs (b1 _ _) hb1)
    clear hb1
    go_wp2_with (fail)
    refine (SI _ HB.out).mono ?_
    rintro e w2 ⟨rfl, hb2⟩
    have HB2 := Lib.hid (bs HB.out hb2)
    clear hb2
    go_wp2_with (fail)
    go_ret
    exact ⟨rfl, HB2.out⟩

end Go.Proofs.YtdglmnmalfpipaaGreatDoor.tree

/-
  A text's copy; a part of what a list of items holds.
  Conditions: those that each theorem names.
-/
namespace Go.Proofs.YtdglmnmalfpipaaGreatDoor.tree
open Go.ChangeShapes Go.WideShapes Go.ChangeAt Go.RowKit
set_option linter.unusedVariables false

theorem implClone' (s : ByteArray) (hs : s.size ≤ 1099511627776) (w : World) : Calls Tryz.prog 63 #[.string s] w fun e w' => e = .returned (.string s) ∧ Below w.heap.size w w' := by
  go_enter Tryz.func63, Tryz.ntmps63
  go_wp2_with (fail)
  refine (Tryz.stringslite_Clone s _ (by omega)).mono ?_
  rintro e w1 ⟨rfl, hb⟩
  go_wp2
  go_ret
  exact ⟨rfl, hb⟩

theorem tots_key : ∀ {ks : List Ky} {vs : List Tr} {j : Nat} {y : Ky} {t : Tr}, ks[j]? = some y → vs[j]? = some t → y.str.size + tot t ≤ tots ks vs
  | [], _, j, _, _, h, _ => by simp at h
  | _, [], j, _, _, _, h => by simp at h
  | y :: ks, t :: vs, 0, _, _, h, h' => by
    simp at h h'
    subst h h'
    rw [tots]
    omega
  | y :: ks, t :: vs, j + 1, _, _, h, h' => by
    have := tots_key (ks := ks) (vs := vs) (j := j) (by simpa using h) (by simpa using h')
    rw [tots]
    omega

end Go.Proofs.YtdglmnmalfpipaaGreatDoor.tree

/-
  The other values that are made out of nothing.
  Conditions: those that each theorem names.
-/
namespace Go.Proofs.YtdglmnmalfpipaaGreatDoor.tree
open Go.ChangeShapes Go.WideShapes Go.ChangeAt Go.RowKit
set_option linter.unusedVariables false

def boolV (b : Bool) : Value := if b then vV 1 1 ⟨#[]⟩ 0 none 0 0 else vV 1 0 ⟨#[]⟩ 0 none 0 0
theorem boolValue_i (b : Bool) (w : World) : Calls Tryz.prog 103 #[.bool b] w (GivesQ w (boolV b)) := by
  cases b
  · go_enter Tryz.func103, Tryz.ntmps103
    go_wp2
    exact bodyPost_ret (v := vV 1 0 ⟨#[]⟩ 0 none 0 0) (by simp [results, Tryz.results103, go_sem]) rfl ⟨rfl, b1 _ _⟩
  · go_enter Tryz.func103, Tryz.ntmps103
    go_wp2
    exact bodyPost_ret (v := vV 1 1 ⟨#[]⟩ 0 none 0 0) (by simp [results, Tryz.results103, go_sem]) rfl ⟨rfl, b1 _ _⟩
theorem boolValue_s (b : Bool) (w : World) : Calls Tryz.prog 186 #[.bool b] w (GivesQ w (boolV b)) := by
  cases b
  · go_enter Tryz.func186, Tryz.ntmps186
    go_wp2
    exact bodyPost_ret (v := vV 1 0 ⟨#[]⟩ 0 none 0 0) (by simp [results, Tryz.results186, go_sem]) rfl ⟨rfl, b1 _ _⟩
  · go_enter Tryz.func186, Tryz.ntmps186
    go_wp2
    exact bodyPost_ret (v := vV 1 1 ⟨#[]⟩ 0 none 0 0) (by simp [results, Tryz.results186, go_sem]) rfl ⟨rfl, b1 _ _⟩

theorem arrayValue_s (w : World) : Calls Tryz.prog 131 #[] w (GivesQ w (vV 4 0 ⟨#[]⟩ 0 none 0 0)) := by
  go_enter Tryz.func131, Tryz.ntmps131
  go_wp2
  exact bodyPost_ret (v := vV 4 0 ⟨#[]⟩ 0 none 0 0) (by simp [results, Tryz.results131, go_sem]) rfl ⟨rfl, b1 _ _⟩

end Go.Proofs.YtdglmnmalfpipaaGreatDoor.tree

/-
  Whether two values are the same, every field, without the program.
  Conditions: those that each theorem names.
-/
namespace Go.Proofs.YtdglmnmalfpipaaGreatDoor.tree
open Go.ChangeShapes Go.WideShapes Go.ChangeAt Go.RowKit
set_option linter.unusedVariables false

/-- Kind, Num, Str, Next and the number of items. -/
def alikeX (t t' : Tr) : Bool :=
  match t, t' with
  | .mk k n s x _ vs, .mk k' n' s' x' _ vs' => decide (k = k') && (decide (n = n') && (decide (s.data.toList = s'.data.toList) && (decide (x = x') && decide (vs.length = vs'.length))))
mutual
def sameB : Tr → Tr → Bool
  | .mk k n s x ks vs, .mk k' n' s' x' ks' vs' => (decide (k = k') && (decide (n = n') && (decide (s.data.toList = s'.data.toList) && (decide (x = x') && decide (vs.length = vs'.length))))) && sameL ks vs ks' vs'
def sameL : List Ky → List Tr → List Ky → List Tr → Bool
  | y :: ks, t :: vs, y' :: ks', t' :: vs' => (decide (y = y') && sameB t t') && sameL ks vs ks' vs'
  | _, _, _, _ => true
end

theorem sameB_mk (k n : Int) (s : ByteArray) (x : Int) (ks : List Ky) (vs : List Tr) (k' n' : Int) (s' : ByteArray) (x' : Int) (ks' : List Ky) (vs' : List Tr) :
    sameB (.mk k n s x ks vs) (.mk k' n' s' x' ks' vs') = (alikeX (.mk k n s x ks vs) (.mk k' n' s' x' ks' vs') && sameL ks vs ks' vs') := by rw [sameB]; rfl
theorem sameL_drop {ks : List Ky} {vs : List Tr} {ks' : List Ky} {vs' : List Tr} {j : Nat} {y y' : Ky} {t t' : Tr} (h1 : ks[j]? = some y) (h2 : vs[j]? = some t) (h3 : ks'[j]? = some y') (h4 : vs'[j]? = some t') :
    sameL (ks.drop j) (vs.drop j) (ks'.drop j) (vs'.drop j) = ((decide (y = y') && sameB t t') && sameL (ks.drop (j + 1)) (vs.drop (j + 1)) (ks'.drop (j + 1)) (vs'.drop (j + 1))) := by
  obtain ⟨a1, rfl⟩ := List.getElem?_eq_some_iff.1 h1
  obtain ⟨a2, rfl⟩ := List.getElem?_eq_some_iff.1 h2
  obtain ⟨a3, rfl⟩ := List.getElem?_eq_some_iff.1 h3
  obtain ⟨a4, rfl⟩ := List.getElem?_eq_some_iff.1 h4
  rw [List.drop_eq_getElem_cons a1, List.drop_eq_getElem_cons a2, List.drop_eq_getElem_cons a3, List.drop_eq_getElem_cons a4, sameL]

theorem sameB_same : ∀ t, fits t → sameB t t = true := Tr.ind fun k n s x ks vs ih hf => by
  rw [sameB_mk, Bool.and_eq_true]
  refine ⟨by unfold alikeX; simp, ?_⟩
  rw [fits] at hf
  obtain ⟨h1, h2⟩ := hf
  clear n s x k
  induction ks generalizing vs with
  | nil => cases vs <;> rw [sameL] <;> simp
  | cons y ks ihk =>
    cases vs with
    | nil => rw [sameL]; simp
    | cons t vs =>
      rw [fitss] at h2
      rw [sameL, ih t List.mem_cons_self h2.1, ihk vs (fun u hu => ih u (List.mem_cons_of_mem _ hu)) (by simpa using h1) h2.2]
      simp

end Go.Proofs.YtdglmnmalfpipaaGreatDoor.tree

/-
  Worlds behind draws that change nothing.
  Conditions: none.
-/
namespace Go.Proofs.YtdglmnmalfpipaaGreatDoor.tree
open Go.ChangeShapes Go.WideShapes Go.ChangeAt Go.RowKit
set_option linter.unusedVariables false

theorem drewN_heap (w : World) : ∀ n, (w.drewN n).heap = w.heap
  | 0 => rfl
  | n + 1 => (drewN_heap w n)
theorem below_drewN (w : World) : ∀ n, Below w.heap.size w (w.drewN n)
  | 0 => Below.refl _ _
  | n + 1 => (below_drewN w n).drew

end Go.Proofs.YtdglmnmalfpipaaGreatDoor.tree

/-
  The model's cursor over the bytes of a draw: what its functions return, and that they write nothing but the cursor.
  Conditions: the cursor is one that the draw has made; the texts and numbers of a list are of bounded size.
-/
namespace Go.Proofs.YtdglmnmalfpipaaGreatDoor.draw
open Go.ChangeShapes Go.WideShapes Go.ChangeAt Go.RowKit
set_option linter.unusedVariables false

theorem and255 (n : Int) : bits .and .i64 n 255 = n % 256 := by
  have h255 : (BitVec.ofInt 64 255).toNat = 2 ^ 8 - 1 := by decide
  have key : (BitVec.ofInt 64 n &&& BitVec.ofInt 64 255).toNat = (n % ((2 ^ 64 : Nat) : Int)).toNat % 2 ^ 8 := by
    rw [BitVec.toNat_and, BitVec.toNat_ofInt, h255, Nat.and_two_pow_sub_one_eq_mod]
  show IntKind.i64.wrap ((BitVec.ofInt 64 n &&& BitVec.ofInt 64 255).toNat : Nat) = n % 256
  rw [key, IntKind.wrap_i64]
  omega

/-- A slice of bytes that lies below block N. -/
def Code (w : World) (N : Nat) (A : Option Addr) (n : Nat) : Prop :=
  0 < n → ∃ a, A = some a ∧ a.block < N ∧ ∀ j, j < n → ∃ v : Int, 0 ≤ v ∧ v ≤ 255 ∧ w.cell? (a.add j) = some (.int .u8 v)

theorem Code.at_ {w : World} {N n k : Nat} {A : Option Addr} (h : Code w N A n) (hk : k < n) : ∃ (a : Addr) (v : Int), A = some a ∧ 0 ≤ v ∧ v ≤ 255 ∧ w.cell? (a.add k) = some (.int .u8 v) := by
  obtain ⟨a, e, _, hc⟩ := h (by omega)
  obtain ⟨v, h0, h1, h2⟩ := hc k hk
  exact ⟨a, v, e, h0, h1, h2⟩

theorem add_block (a : Addr) (n : Nat) : (a.add n).block = a.block := by unfold Addr.add; split <;> rfl

theorem Code.grown {w w' : World} {N n : Nat} {A : Option Addr} (h : Code w N A n) (hN : N ≤ w.heap.size) (hg : w.grownBy w' (some N)) : Code w' N A n := fun hn => by
  obtain ⟨a, e, hb, hc⟩ := h hn
  refine ⟨a, e, hb, fun j hj => ?_⟩
  obtain ⟨v, h0, h1, h2⟩ := hc j hj
  exact ⟨v, h0, h1, (World.cell?_of_block (hg.block _ (by rw [add_block]; omega) (by rw [add_block]; intro e; injection e; omega))).trans h2⟩

/-- Block N is a cursor. -/
def Cur (w : World) (N : Nat) : Prop :=
  ∃ (A : Option Addr) (n c : Nat) (i h : Int), w.heap[N]? = some (.cells #[.slice A n c, .int .i64 i, .int .i64 h] 158 (0, 0)) ∧ Code w N A n ∧ n ≤ 9223372036854775807 ∧ 0 ≤ i ∧ i ≤ (n : Int)

def ByteQ (N : Nat) (w : World) (e : Ending) (w' : World) : Prop :=
  ∃ x : Int, e = .returned (.int .i64 x) ∧ 0 ≤ x ∧ x ≤ 255 ∧ Cur w' N ∧ w.grownBy w' (some N)

theorem only_set {a w : World} {N : Nat} (h : a.grownBy w (some N)) (o : Nat) (u : Value) : a.grownBy (w.setCell ⟨N, o, none⟩ u) (some N) :=
  ⟨h.os, h.tape, h.output, by simpa [World.setCell] using h.size, fun k hk hne => (Below.heap_setCell w ⟨N, o, none⟩ u k (fun e => hne (by rw [e]))).trans (h.block k hk hne)⟩
theorem only_draws {a w : World} {r : Option Nat} (h : a.grownBy w r) (n : Nat) : a.grownBy (w.drewN n) r := ⟨h.os, h.tape, h.output, h.size, h.block⟩
theorem only_new {a w : World} {r : Option Nat} (h : a.grownBy w r) (o : Obj) : a.grownBy (w.alloc o) r :=
  ⟨h.os, h.tape, h.output, Nat.le_trans h.size (by simp), fun k hk hne => (Below.heap_alloc w o k (Nat.lt_of_lt_of_le hk h.size)).trans (h.block k hk hne)⟩
theorem only_trans {a b c : World} {r : Option Nat} (h : a.grownBy b r) (k : b.grownBy c r) : a.grownBy c r :=
  ⟨k.os.trans h.os, k.tape.trans h.tape, k.output.trans h.output, Nat.le_trans h.size k.size, fun j hj hne => (k.block j (Nat.lt_of_lt_of_le hj h.size) hne).trans (h.block j hj hne)⟩
theorem block_lt {w : World} {N : Nat} {o : Obj} (h : w.heap[N]? = some o) : N < w.heap.size := by
  rcases Nat.lt_or_ge N w.heap.size with hlt | hge
  · exact hlt
  · rw [Array.getElem?_eq_none hge] at h; cases h

theorem byte (N : Nat) (w : World) (hC : Cur w N) :
    Calls Tryz.prog 162 #[.pointer (some ⟨N, 0, none⟩)] w (ByteQ N w) := by
  obtain ⟨A, n, c, i, h, hb, hcode, hn, hi0, hi1⟩ := hC
  have c0 : w.cell? ⟨N, 0, none⟩ = some (.slice A n c) := Joins.cell_of_block hb 0
  have c1 : w.cell? ⟨N, 1, none⟩ = some (.int .i64 i) := Joins.cell_of_block hb 1
  have c2 : w.cell? ⟨N, 2, none⟩ = some (.int .i64 h) := Joins.cell_of_block hb 2
  have f1 : w.frozen? ⟨N, 1, none⟩ = false := Joins.unfrozen_of_block hb 1
  have f2 : w.frozen? ⟨N, 2, none⟩ = false := Joins.unfrozen_of_block hb 2
  have hs : ∀ v m, ((w.setCell ⟨N, 2, none⟩ v).drewN m).heap[N]? = some (.cells #[.slice A n c, .int .i64 i, v] 158 (0, 0)) := fun v m => Joins.block_setCell hb v
  have hg : ∀ v m, w.grownBy ((w.setCell ⟨N, 2, none⟩ v).drewN m) (some N) := fun v m => only_draws (only_set (World.grownBy.refl _ _) 2 v) m
  have hN := block_lt hb
  have HS := Lib.hid hs; have HC := Lib.hid hcode; clear hs hb hcode
  go_enter Tryz.func162, Tryz.ntmps162
  go_wp2
  go_quiet (fail)
  rw [and255]
  have hs1 := HS.out (Value.int IntKind.i64 (wrap64 (wrap64 (h * 6364136223846793005) + 1442695040888963407))) nq
  have hg1 := hg (Value.int IntKind.i64 (wrap64 (wrap64 (h * 6364136223846793005) + 1442695040888963407))) nq
  generalize wrap64 (wrap64 (h * 6364136223846793005) + 1442695040888963407) = h1 at *
  generalize wrap64 (h * 6364136223846793005) = h2 at *
  generalize hx : (bits BinOp.xor IntKind.i64 (h1 / 8589934592) (h1 / 140737488355328)) % 256 = x at *
  have x0 : 0 ≤ x := by omega
  have x1 : x ≤ 255 := by omega
  clear hx
  have hcode1 := HC.out.grown (by omega) hg1
  generalize ((w.setCell ⟨N, 2, none⟩ (.int .i64 h1)).drewN nq) = w1 at *
  clear c0 c1 c2 f1 f2 hg HS HC
  have c0 : w1.cell? ⟨N, 0, none⟩ = some (.slice A n c) := Joins.cell_of_block hs1 0
  have c1 : w1.cell? ⟨N, 1, none⟩ = some (.int .i64 i) := Joins.cell_of_block hs1 1
  have f1 : w1.frozen? ⟨N, 1, none⟩ = false := Joins.unfrozen_of_block hs1 1
  by_cases hlt : i < (n : Int)
  · obtain ⟨k, rfl⟩ := Int.eq_ofNat_of_zero_le hi0
    obtain ⟨a, v, rfl, v0, v1, hv⟩ := hcode1.at_ (k := k) (by omega)
    have HS1 := Lib.hid hs1; have HC1 := Lib.hid hcode1; have HG1 := Lib.hid hg1; clear hs1 hcode1 hg1
    go_wp2
    go_quiet (fail)
    go_wp2
    go_quiet (fail)
    rw [and255]
    generalize hy : (x + v) % 256 = y at *
    have y0 : 0 ≤ y := by omega
    have y1 : y ≤ 255 := by omega
    clear hy
    go_wp2
    go_ret
    refine ⟨y, rfl, y0, y1, ⟨some a, n, c, (k : Int) + 1, h1, Joins.block_setCell HS1.out _, HC1.out.grown (block_lt HS1.out |> Nat.le_of_lt) (only_draws (only_set (World.grownBy.refl _ _) 1 _) _), hn, by omega, by omega⟩, only_draws (only_set HG1.out 1 _) _⟩
  · have HS1 := Lib.hid hs1; have HC1 := Lib.hid hcode1; have HG1 := Lib.hid hg1; clear hs1 hcode1 hg1
    go_wp2
    go_quiet (fail)
    go_wp2
    go_ret
    exact ⟨x, rfl, x0, x1, ⟨A, n, c, i, h1, HS1.out, HC1.out, hn, hi0, hi1⟩, only_draws HG1.out _⟩

def IntQ (lo hi : Int) (N : Nat) (w : World) (e : Ending) (w' : World) : Prop :=
  ∃ r : Int, e = .returned (.int .i64 r) ∧ lo ≤ r ∧ r ≤ hi ∧ Cur w' N ∧ w.grownBy w' (some N)

theorem IntQ.mono {lo hi lo' hi' : Int} {N : Nat} {w w' : World} {e : Ending} (h : IntQ lo hi N w e w') (h0 : lo' ≤ lo) (h1 : hi ≤ hi') : IntQ lo' hi' N w e w' := by
  obtain ⟨r, he, a, b, c, d⟩ := h
  exact ⟨r, he, by omega, by omega, c, d⟩

/-- A number from 0 to n - 1; 0 where n is not above 0. -/
theorem below (N : Nat) (n : Int) (hn : n ≤ 1000000000) (w : World) (hC : Cur w N) :
    Calls Tryz.prog 93 #[.pointer (some ⟨N, 0, none⟩), .int .i64 n] w (IntQ 0 (max (n - 1) 0) N w) := by
  have HC := Lib.hid hC; clear hC
  by_cases h0 : n ≤ 0
  · go_enter Tryz.func93, Tryz.ntmps93
    go_wp2
    go_ret
    exact ⟨0, rfl, by omega, by omega, HC.out, World.grownBy.refl _ _⟩
  · by_cases h1 : n ≤ 256
    · go_enter Tryz.func93, Tryz.ntmps93
      go_wp2_with (fail)
      refine (byte N _ HC.out).mono ?_
      rintro e w1 ⟨x, rfl, x0, x1, hC1, hg1⟩
      have m0 := Int.emod_nonneg x (b := n) (by omega)
      have m1 := Int.emod_lt_of_pos x (b := n) (by omega)
      have HC1 := Lib.hid hC1; have HG1 := Lib.hid hg1; clear hC1 hg1
      go_wp2
      go_ret
      exact ⟨x % n, rfl, m0, by omega, HC1.out, HG1.out⟩
    · go_enter Tryz.func93, Tryz.ntmps93
      go_wp2_with (fail)
      refine (byte N _ HC.out).mono ?_
      rintro e w1 ⟨x, rfl, x0, x1, hC1, hg1⟩
      have HC1 := Lib.hid hC1; have HG1 := Lib.hid hg1; clear hC1 hg1
      go_wp2_with (fail)
      refine (byte N _ HC1.out).mono ?_
      rintro e w2 ⟨y, rfl, y0, y1, hC2, hg2⟩
      have HC2 := Lib.hid hC2; have HG2 := Lib.hid hg2; clear hC2 hg2
      go_wp2_with (fail)
      refine (byte N _ HC2.out).mono ?_
      rintro e w3 ⟨z, rfl, z0, z1, hC3, hg3⟩
      have m0 := Int.emod_nonneg (x * 65536 + y * 256 + z) (b := n) (by omega)
      have m1 := Int.emod_lt_of_pos (x * 65536 + y * 256 + z) (b := n) (by omega)
      have HC3 := Lib.hid hC3; have HG3 := Lib.hid hg3; clear hC3 hg3
      go_wp2
      go_ret
      exact ⟨(x * 65536 + y * 256 + z) % n, rfl, m0, by omega, HC3.out, only_trans (only_trans HG1.out HG2.out) HG3.out⟩

def BoolQ (N : Nat) (w : World) (e : Ending) (w' : World) : Prop :=
  ∃ b : Bool, e = .returned (.bool b) ∧ Cur w' N ∧ w.grownBy w' (some N)

theorem once (N : Nat) (n : Int) (hn : n ≤ 1000000000) (w : World) (hC : Cur w N) :
    Calls Tryz.prog 56 #[.pointer (some ⟨N, 0, none⟩), .int .i64 n] w (BoolQ N w) := by
  have HC := Lib.hid hC; clear hC
  go_enter Tryz.func56, Tryz.ntmps56
  go_wp2_with (fail)
  refine (below N n hn _ HC.out).mono ?_
  rintro e w1 ⟨x, rfl, x0, x1, hC1, hg1⟩
  have HC1 := Lib.hid hC1; have HG1 := Lib.hid hg1; clear hC1 hg1
  go_wp2
  go_ret
  exact ⟨_, rfl, HC1.out, HG1.out⟩

/-- A slice of numbers between lo and hi in a block other than the cursor's. -/
def Ints (lo hi : Int) (w : World) (N L n : Nat) : Prop := L ≠ N ∧ L < w.heap.size ∧ ∀ j, j < n → ∃ v : Int, lo ≤ v ∧ v ≤ hi ∧ w.cell? ⟨L, j, none⟩ = some (.int .i64 v)

theorem pickInt (lo hi : Int) (N L n c : Nat) (hn : 1 ≤ n) (hn2 : n ≤ 1000000) (w : World) (hC : Cur w N) (hL : Ints lo hi w N L n) :
    Calls Tryz.prog 128 #[.pointer (some ⟨N, 0, none⟩), .slice (some ⟨L, 0, none⟩) n c] w (IntQ lo hi N w) := by
  have HC := Lib.hid hC; have HL := Lib.hid hL; clear hC hL
  go_enter Tryz.func128, Tryz.ntmps128
  go_wp2_with (fail)
  refine (below N (n : Int) (by omega) _ HC.out).mono ?_
  rintro e w1 ⟨x, rfl, x0, x1, hC1, hg1⟩
  obtain ⟨k, rfl⟩ := Int.eq_ofNat_of_zero_le x0
  have hk : k < n := by omega
  have hcell : ∃ v : Int, lo ≤ v ∧ v ≤ hi ∧ w1.cell? ⟨L, k, none⟩ = some (.int .i64 v) := by
    obtain ⟨l1, l2, l3⟩ := HL.out
    obtain ⟨v, v0, v1, hv⟩ := l3 k hk
    exact ⟨v, v0, v1, hg1.cell hv (by intro e; injection e with e; exact l1 e)⟩
  obtain ⟨v, v0, v1, hv⟩ := hcell
  have HC1 := Lib.hid hC1; have HG1 := Lib.hid hg1; clear hC1 hg1
  go_wp2
  go_ret
  exact ⟨v, rfl, v0, v1, HC1.out, HG1.out⟩

/-- A slice of texts of at most m bytes in a block other than the cursor's. -/
def Strs (m : Nat) (w : World) (N L n : Nat) : Prop := L ≠ N ∧ L < w.heap.size ∧ ∀ j, j < n → ∃ s : ByteArray, s.size ≤ m ∧ w.cell? ⟨L, j, none⟩ = some (.string s)

def StrQ (m : Nat) (N : Nat) (w : World) (e : Ending) (w' : World) : Prop :=
  ∃ s : ByteArray, e = .returned (.string s) ∧ s.size ≤ m ∧ Cur w' N ∧ w.grownBy w' (some N)

theorem pickStr (m N L n c : Nat) (hn : 1 ≤ n) (hn2 : n ≤ 1000000) (w : World) (hC : Cur w N) (hL : Strs m w N L n) :
    Calls Tryz.prog 86 #[.pointer (some ⟨N, 0, none⟩), .slice (some ⟨L, 0, none⟩) n c] w (StrQ m N w) := by
  have HC := Lib.hid hC; have HL := Lib.hid hL; clear hC hL
  go_enter Tryz.func86, Tryz.ntmps86
  go_wp2_with (fail)
  refine (below N (n : Int) (by omega) _ HC.out).mono ?_
  rintro e w1 ⟨x, rfl, x0, x1, hC1, hg1⟩
  obtain ⟨k, rfl⟩ := Int.eq_ofNat_of_zero_le x0
  have hk : k < n := by omega
  have hcell : ∃ s : ByteArray, s.size ≤ m ∧ w1.cell? ⟨L, k, none⟩ = some (.string s) := by
    obtain ⟨l1, l2, l3⟩ := HL.out
    obtain ⟨v, v0, hv⟩ := l3 k hk
    exact ⟨v, v0, hg1.cell hv (by intro e; injection e with e; exact l1 e)⟩
  obtain ⟨v, v0, hv⟩ := hcell
  have HC1 := Lib.hid hC1; have HG1 := Lib.hid hg1; clear hC1 hg1
  go_wp2
  go_ret
  exact ⟨v, rfl, v0, HC1.out, HG1.out⟩

end Go.Proofs.YtdglmnmalfpipaaGreatDoor.draw

/-
  The model's draws of one number, and of a cursor: each changes nothing that was there but the cursor.
  Conditions: the bytes of the draw are at most 1048576.
-/
namespace Go.Proofs.YtdglmnmalfpipaaGreatDoor.draw
open Go.ChangeShapes Go.WideShapes Go.ChangeAt Go.RowKit
set_option linter.unusedVariables false

theorem and30 (n : Int) : bits .and .i64 n 1073741823 = n % 1073741824 := by
  have h30 : (BitVec.ofInt 64 1073741823).toNat = 2 ^ 30 - 1 := by decide
  have key : (BitVec.ofInt 64 n &&& BitVec.ofInt 64 1073741823).toNat = (n % ((2 ^ 64 : Nat) : Int)).toNat % 2 ^ 30 := by
    rw [BitVec.toNat_and, BitVec.toNat_ofInt, h30, Nat.and_two_pow_sub_one_eq_mod]
  show IntKind.i64.wrap ((BitVec.ofInt 64 n &&& BitVec.ofInt 64 1073741823).toNat : Nat) = n % 1073741824
  rw [key, IntKind.wrap_i64]
  omega

theorem Code.keep {w w' : World} {N n : Nat} {A : Option Addr} (h : Code w N A n) (hk : ∀ k, k < N → w'.heap[k]? = w.heap[k]?) : Code w' N A n := fun hn => by
  obtain ⟨a, e, hb, hc⟩ := h hn
  refine ⟨a, e, hb, fun j hj => ?_⟩
  obtain ⟨v, h0, h1, h2⟩ := hc j hj
  exact ⟨v, h0, h1, (World.cell?_of_block (hk _ (by rw [add_block]; omega))).trans h2⟩

theorem Code.later {w w' : World} {n : Nat} {A : Option Addr} (h : Code w w.heap.size A n) (hb : Below w.heap.size w w') : Code w' w'.heap.size A n := fun hn => by
  obtain ⟨a, e, hlt, hc⟩ := (h.keep fun k hk => hb.block k hk) hn
  exact ⟨a, e, Nat.lt_of_lt_of_le hlt hb.size, hc⟩

theorem Cur.keep {w w' : World} {N : Nat} (h : Cur w N) (hk : ∀ k, k < w.heap.size → w'.heap[k]? = w.heap[k]?) : Cur w' N := by
  obtain ⟨A, n, c, i, x, hb, hc, hn, i0, i1⟩ := h
  have hN := block_lt hb
  exact ⟨A, n, c, i, x, (hk N hN).trans hb, hc.keep fun k hlt => hk k (by omega), hn, i0, i1⟩
theorem Cur.new {w : World} {N : Nat} (h : Cur w N) (o : Obj) : Cur (w.alloc o) N := h.keep fun k hk => Below.heap_alloc w o k hk
theorem Cur.below {w w' : World} {N : Nat} (h : Cur w N) (hb : Below w.heap.size w w') : Cur w' N := h.keep hb.block
theorem Cur.lt {w : World} {N : Nat} (h : Cur w N) : N < w.heap.size := by
  obtain ⟨A, n, c, i, x, hb, _⟩ := h
  exact block_lt hb

theorem ints_new (lo hi : Int) (w : World) (t : TypeId) (zs : List Int) (h : ∀ z ∈ zs, lo ≤ z ∧ z ≤ hi) (N : Nat) (hN : N < w.heap.size) :
    Ints lo hi (w.alloc (.cells (zs.map (Value.int .i64)).toArray t)) N w.heap.size zs.length := by
  refine ⟨by omega, by simp, fun j hj => ?_⟩
  obtain ⟨a, b⟩ := h zs[j] (List.getElem_mem _)
  refine ⟨zs[j], a, b, ?_⟩
  rw [World.cell?_alloc_new]
  simp [hj]

theorem odd (N : Nat) (w : World) (hC : Cur w N) :
    Calls Tryz.prog 57 #[.pointer (some ⟨N, 0, none⟩)] w (IntQ (-9223372036854775808) 9223372036854775807 N w) := by
  have hN := hC.lt
  have HI := Lib.hid (ints_new (-9223372036854775808) 9223372036854775807 w 3 [-1, 0, 1, 2, 255, 256, 65535, 2147483647, 2147483648, 4294967295, 4294967296, -2147483648, 9223372036854775807, -9223372036854775808] (by decide) N hN)
  have HC := Lib.hid hC; clear hC
  go_enter Tryz.func57, Tryz.ntmps57
  go_wp2_with (fail)
  refine (pickInt (-9223372036854775808) 9223372036854775807 N w.heap.size 14 14 (by omega) (by omega) _ (HC.out.new _) HI.out).mono ?_
  rintro e w1 ⟨x, rfl, x0, x1, hC1, hg1⟩
  have HC1 := Lib.hid hC1; have HG1 := Lib.hid hg1; clear hC1 hg1
  go_wp2
  go_ret
  exact ⟨x, rfl, x0, x1, HC1.out, only_trans (World.grownBy_alloc _ _ _) HG1.out⟩

theorem numOf (N : Nat) (w : World) (hC : Cur w N) :
    Calls Tryz.prog 163 #[.pointer (some ⟨N, 0, none⟩)] w (IntQ 0 1000000000000 N w) := by
  have HC := Lib.hid hC; clear hC
  go_enter Tryz.func163, Tryz.ntmps163
  go_wp2_with (fail)
  refine (below N 4 (by omega) _ HC.out).mono ?_
  rintro e w1 ⟨x, rfl, x0, x1, hC1, hg1⟩
  have hN1 := hC1.lt
  have HC1 := Lib.hid hC1; have HG1 := Lib.hid hg1; clear hC1 hg1
  obtain rfl | rfl | rfl | rfl : x = 0 ∨ x = 1 ∨ x = 2 ∨ x = 3 := by omega
  · go_wp2_with (fail)
    refine (below N 2000 (by omega) _ HC1.out).mono ?_
    rintro e w2 ⟨y, rfl, y0, y1, hC2, hg2⟩
    have HC2 := Lib.hid hC2; have HG2 := Lib.hid hg2; clear hC2 hg2
    go_wp2
    go_ret
    exact ⟨y, rfl, y0, by omega, HC2.out, only_trans HG1.out HG2.out⟩
  · go_wp2_with (fail)
    have HI := Lib.hid (ints_new 0 1000000000000 w1 3 [0, 1, 127, 128, 999999999, 1000000000, 1000000001, 2147483647, 1000000000000] (by decide) N hN1)
    refine (pickInt 0 1000000000000 N w1.heap.size 9 9 (by omega) (by omega) _ (HC1.out.new _) HI.out).mono ?_
    rintro e w2 ⟨y, rfl, y0, y1, hC2, hg2⟩
    have HC2 := Lib.hid hC2; have HG2 := Lib.hid hg2; clear hC2 hg2
    go_wp2
    go_ret
    exact ⟨y, rfl, y0, by omega, HC2.out, only_trans (only_trans HG1.out (World.grownBy_alloc _ _ _)) HG2.out⟩
  · go_wp2_with (fail)
    refine (below N 1000000 (by omega) _ HC1.out).mono ?_
    rintro e w2 ⟨y, rfl, y0, y1, hC2, hg2⟩
    have HC2 := Lib.hid hC2; have HG2 := Lib.hid hg2; clear hC2 hg2
    go_wp2_with (fail)
    refine (below N 1000000 (by omega) _ HC2.out).mono ?_
    rintro e w3 ⟨z, rfl, z0, z1, hC3, hg3⟩
    have HC3 := Lib.hid hC3; have HG3 := Lib.hid hg3; clear hC3 hg3
    have p0 : 0 ≤ y * z := Int.mul_nonneg y0 z0
    have p1 : y * z ≤ 1000000 * 1000000 := Int.mul_le_mul (by omega) (by omega) z0 (by omega)
    have p2 : y * z ≤ 1000000000000 := by omega
    clear p1
    go_wp2
    go_ret
    exact ⟨y * z, rfl, p0, p2, HC3.out, only_trans (only_trans HG1.out HG2.out) HG3.out⟩
  · go_wp2_with (fail)
    refine (below N 20 (by omega) _ HC1.out).mono ?_
    rintro e w2 ⟨y, rfl, y0, y1, hC2, hg2⟩
    have HC2 := Lib.hid hC2; have HG2 := Lib.hid hg2; clear hC2 hg2
    go_wp2
    go_ret
    exact ⟨y, rfl, y0, by omega, HC2.out, only_trans HG1.out HG2.out⟩

theorem one (N : Nat) (w : World) (hC : Cur w N) :
    Calls Tryz.prog 94 #[.pointer (some ⟨N, 0, none⟩)] w (IntQ (-9223372036854775808) 9223372036854775807 N w) := by
  have HC := Lib.hid hC; clear hC
  go_enter Tryz.func94, Tryz.ntmps94
  go_wp2_with (fail)
  refine (below N 8 (by omega) _ HC.out).mono ?_
  rintro e w1 ⟨x, rfl, x0, x1, hC1, hg1⟩
  have HC1 := Lib.hid hC1; have HG1 := Lib.hid hg1; clear hC1 hg1
  by_cases e0 : x = 0
  · subst e0
    go_wp2_with (fail)
    refine (odd N _ HC1.out).mono ?_
    rintro e w2 ⟨y, rfl, y0, y1, hC2, hg2⟩
    have HC2 := Lib.hid hC2; have HG2 := Lib.hid hg2; clear hC2 hg2
    go_wp2
    go_ret
    exact ⟨y, rfl, y0, by omega, HC2.out, only_trans HG1.out HG2.out⟩
  · by_cases e1 : x = 1
    · subst e1
      go_wp2_with (fail)
      refine (numOf N _ HC1.out).mono ?_
      rintro e w2 ⟨y, rfl, y0, y1, hC2, hg2⟩
      have HC2 := Lib.hid hC2; have HG2 := Lib.hid hg2; clear hC2 hg2
      go_wp2
      go_ret
      exact ⟨-y, rfl, by omega, by omega, HC2.out, only_trans HG1.out HG2.out⟩
    · have b0 : (x == 0) = false := by rw [beq_eq_false_iff_ne]; exact e0
      have b1 : (x == 1) = false := by rw [beq_eq_false_iff_ne]; exact e1
      go_wp2_with (fail)
      refine (numOf N _ HC1.out).mono ?_
      rintro e w2 ⟨y, rfl, y0, y1, hC2, hg2⟩
      have HC2 := Lib.hid hC2; have HG2 := Lib.hid hg2; clear hC2 hg2
      go_wp2
      go_ret
      exact ⟨y, rfl, by omega, by omega, HC2.out, only_trans HG1.out HG2.out⟩

theorem cur_new (w : World) (A : Option Addr) (n c : Nat) (x : Int) (hn : n ≤ 1048576) (hA : Code w w.heap.size A n) :
    Cur (w.alloc (.cells #[.slice A n c, .int .i64 0, .int .i64 x] 158)) w.heap.size :=
  ⟨A, n, c, 0, x, by show (w.heap.push _)[w.heap.size]? = _; simp, hA.keep fun k hk => Below.heap_alloc w _ k hk, by omega, by omega, by omega⟩

def NewQ (w : World) (e : Ending) (w' : World) : Prop :=
  ∃ N : Nat, e = .returned (.pointer (some ⟨N, 0, none⟩)) ∧ w.heap.size ≤ N ∧ Cur w' N ∧ Below w.heap.size w w'

theorem new (A : Option Addr) (n c : Nat) (hn : n ≤ 1048576) (w : World) (hA : Code w w.heap.size A n) :
    Calls Tryz.prog 54 #[.slice A n c] w (NewQ w) := by
  have HA := Lib.hid hA; clear hA
  go_enter Tryz.func54, Tryz.ntmps54
  go_wp2
  go_loop [3, 4] (fun h i => ∃ (k : Nat) (x : Int), k ≤ n ∧ i = .int .i64 k ∧ 0 ≤ x ∧ x ≤ 1073741824 ∧ h = .int .i64 x) (fun _ i => n - (RowKit.intOf i).toNat)
  case atStart => exact ⟨0, 193017 + (n : Int), by omega, rfl, by omega, by omega, rfl⟩
  case round =>
    obtain ⟨k, x, hk, rfl, x0, x1, rfl⟩ := hrel
    by_cases hlt : k < n
    · obtain ⟨a, v, rfl, v0, v1, hv⟩ := HA.out.at_ hlt
      by_cases h4 : (k : Int) < 4000
      · go_wp2
        rw [and30]
        exact ⟨⟨k + 1, (x * 137 + v + 11) % 1073741824, by omega, by go_num, by omega, by omega, rfl⟩, by simp only [RowKit.intOf]; omega⟩
      · go_wp2
        go_ret
        exact ⟨w.heap.size, rfl, Nat.le_refl _, cur_new w _ n c x hn HA.out, Joins.below_alloc1 w _⟩
    · go_wp2
      go_ret
      exact ⟨w.heap.size, rfl, Nat.le_refl _, cur_new w _ n c x hn HA.out, Joins.below_alloc1 w _⟩

theorem below_of {B N : Nat} {a b c : World} (h : Below B a b) (hg : b.grownBy c (some N)) (hN : B ≤ N) (hs : B ≤ b.heap.size) : Below B a c :=
  h.grown hg hs (by intro k e; injection e with e; omega)


end Go.Proofs.YtdglmnmalfpipaaGreatDoor.draw

/-
  The last step of a law whose row says that package variables of the project read as they did.
  Conditions: those that each theorem names.
-/
namespace Go.Proofs.YtdglmnmalfpipaaGreatDoor.opn
open Go.ChangeShapes Go.WideShapes Go.ChangeAt Go.RowKit mem
set_option linter.unusedVariables false

section
variable {H : Type} {enc : TypeId × Value → H} {P : Program}

theorem vars_stay (hl : laidOutB P = true) {W W' : World} (hb : Below W.heap.size W W') : ∀ (ns : List String) (gs : List (DataW H)) (ps : List MemPlace),
    (∀ n ∈ ns, ∀ g t, P.globalNamed n = some g → (P.globals[g]?).map (·.type) = some t → P.readableRec t = true ∧ t < P.types.size) → (∀ x ∈ ps, x.block < W.heap.size) → DataW.TrodVars enc P W (fun _ => true) ns gs ps →
    DataW.TrodVars enc P W' (fun b => decide (b < W.heap.size)) ns gs ps
  | [], [], _, _, _, h => h
  | [], _ :: _, _, _, _, h => by cases h
  | _ :: _, [], _, _, _, h => by cases h
  | n :: ns, d :: ds, ps, hr, hlt, ⟨g, t, cs, fuel, p, q, h1, h2, h3, h4, hs, e⟩ => by
    obtain ⟨r1, r2⟩ := hr n List.mem_cons_self g t h1 h2
    have hT : DataW.Trod enc P W 0 (fun _ => true) true t (.agg cs) d p := ⟨fuel, h4⟩
    obtain ⟨fuel', h5⟩ := Below.trod hl r1 r2 hT hb (fun x hx => hlt x (by rw [e]; exact List.mem_append_left _ (List.mem_append_right _ hx)))
    exact ⟨g, t, cs, fuel', p, q, h1, h2, Joins.var_stays h1 h3 hb (Nat.le_refl _), h5, vars_stay hl hb ns ds q (fun m hm => hr m (List.mem_cons_of_mem _ hm)) (fun x hx => hlt x (by rw [e]; exact List.mem_append_right _ hx)) hs, e⟩

/-- A law's post, from what its walk gives; its row names package variables. -/
theorem post_true_vars {f : Func} {s : ChangeSpec} {W W' : World} {args : Array Value} {ds gs : List (DataW H)} {p q : List MemPlace} {tb : TypeId}
    (hW : DataW.Whole enc P f.params.toList s.vars false W args.toList ds gs (p ++ q)) (hp : DataW.TrodAll enc P W 0 (fun _ => true) true f.params.toList args.toList ds p) (hq : DataW.TrodVars enc P W (fun _ => true) s.vars gs q)
    (hfn : s.fn H (ds ++ gs) = { results := [.lit (.bool true)], args := ds, vars := gs }) (hr : f.resultTypes = #[tb]) (htb : P.underlying tb = some .bool)
    (hl : laidOutB P = true) (hrd : f.params.toList.all (fun t => P.readableRec t && decide (t < P.types.size)) = true)
    (hrv : s.vars.all (fun n => match P.globalNamed n with | none => true | some g => match (P.globals[g]?).map (·.type) with | none => true | some t => P.readableRec t && decide (t < P.types.size)) = true) (hb : Below W.heap.size W W') :
    s.post enc P f false true false false W args (.bool true) W' := by
  have hst := all_stay (enc := enc) hl hb f.params.toList args.toList ds p (fun t ht => by have := List.all_eq_true.1 hrd t ht; simpa using this) (fun x hx => hW.lt x (List.mem_append_left _ hx)) hp
  have hsv := vars_stay (enc := enc) hl hb s.vars gs q (fun n hn g t h1 h2 => by
    have := List.all_eq_true.1 hrv n hn
    rw [h1] at this
    simp only [h2] at this
    simpa using this) (fun x hx => hW.lt x (List.mem_append_right _ hx)) hq
  refine ⟨ds, gs, p ++ q, [], p, q, hW, ?_, ?_, ?_, hb.frame _, fun h => by cases h⟩
  · rw [hfn, hr]
    exact trodAll_mk1 (shut_bool htb _)
  · rw [hfn]
    exact hst
  · rw [hfn]
    exact hsv

end
end Go.Proofs.YtdglmnmalfpipaaGreatDoor.opn

/-
  What the package variables that the row of the law on writing lists hold gives what the library's writing of numbers wants.
  Conditions: the variables hold what the program's text lays.
-/
namespace Go.Proofs.YtdglmnmalfpipaaGreatDoor.sern
open Go.ChangeShapes Go.WideShapes Go.ChangeAt Go.RowKit

def laidOf : List (String × DataW Unit) := Rows.fnSerialRow.laid
theorem env_of {W : World} (h : laidMetH Tryz.prog laidOf W) : prs.Env W := by
  rw [MakeChecks.laidMetH_plain _ _ _ (by kernel_rfl)] at h
  refine ⟨Lib.tabIs_of_head fmt.gTab prs.tTab Tryz.underlying266 Tryz.underlying232 (by kernel_rfl) (by kernel_rfl) h.tail.tail, ?_, ?_⟩
  · obtain ⟨a1, s1, hv1, -, -, -⟩ := laid_sentinel h.tail.tail.tail.tail prs.gES prs.tES Tryz.underlying174 prs.rowErr Tryz.underlying270 Tryz.underlying272 rfl rfl Tryz.underlying9 prs.cellsErr prs.cellsStr
    exact ⟨_, _, hv1⟩
  · obtain ⟨a1, s1, hv1, -, -, -⟩ := laid_sentinel h.tail.tail.tail prs.gER prs.tER Tryz.underlying174 prs.rowErr Tryz.underlying270 Tryz.underlying272 rfl rfl Tryz.underlying9 prs.cellsErr prs.cellsStr
    exact ⟨_, _, hv1⟩

theorem door_met (os : Os) (args : Array Value) : laidMetH Tryz.prog laidOf ((World.doorLaid Tryz.prog 400 os).forCall (fun _ _ => 0) ⟨#[], args, []⟩).memory :=
  laidMetH_of_parts3 (fuel := 8) (laidMet_of_run' 8 (by kernel_rfl) (by kernel_rfl)) (by kernel_rfl) (by kernel_rfl)

end Go.Proofs.YtdglmnmalfpipaaGreatDoor.sern

