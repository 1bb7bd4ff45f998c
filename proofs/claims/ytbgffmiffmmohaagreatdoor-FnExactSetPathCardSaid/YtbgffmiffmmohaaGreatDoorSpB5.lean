/-
  What the texts behind this one use: 13 parts of one proof.
  Conditions: those that each theorem names.
-/
import Derived.Test.YtbgffmiffmmohaaGreatDoorSpSMarkA
import Derived.Test.YtbgffmiffmmohaaGreatDoorSpSHeld
import Derived.Test.YtbgffmiffmmohaaGreatDoorSpB2
import Derived.Test.YtbgffmiffmmohaaGreatDoorSpSCopyI
import Derived.Test.YtbgffmiffmmohaaGreatDoorSpB4
import Derived.Test.YtbgffmiffmmohaaGreatDoorSpB1
import Derived.Test.YtbgffmiffmmohaaGreatDoorSpB3
import Derived.Test.YtbgffmiffmmohaaGreatDoorSpSMarks
import Derived.Test.YtbgffmiffmmohaaGreatDoorSpSCopyS
import Derived.Test.YtbgffmiffmmohaaGreatDoorSpSTreeCp
/-
  What the walks of the exact laws on values ask for again and again: the words of blocks behind calls, marks that are put in and found again.
  Conditions: those that each theorem names.
-/
namespace Go.Proofs.YtbgffmiffmmohaaGreatDoor.tree
open Go.ChangeShapes Go.WideShapes Go.ChangeAt Go.RowKit
set_option linter.unusedVariables false

/-- How many items hang in a value. -/
def itm : Tr → Nat
  | .mk _ _ _ _ _ vs => cnts vs
theorem itm_cnt (t : Tr) : cnt t = 1 + itm t := by cases t; rw [cnt_mk', itm]
/-- A value with marks. -/
def mkI (m : Int) : Tr → Tr
  | .mk k n s x _ vs => .mk k n s x (mkK m vs) (mkV m vs)

/-- Blocks from lo on and below hi. -/
def Rg (lo hi : Nat) (b : Nat) : Prop := lo ≤ b ∧ b < hi
/-- A value in plain blocks from lo on: in those that are there. -/
theorem TIn.rg {w : World} {lo : Nat} {t : Tr} {v : Value} (h : TIn w (Nw lo w) t v) : TIn w (fun b => Rg lo w.heap.size b ∧ Plain w b) t v := h.stays (fun b hb => ⟨⟨hb.1, hb.2.lt⟩, hb.2⟩) (fun _ _ _ => rfl)

/-- Marks on an argument: all else stays. -/
theorem markArg (t : Tr) (v : Value) (m : Int) (hm0 : 1 ≤ m) (hm1 : m + 7 * cnt t ≤ 100000000000) (w w0 : World) (lo : Nat) (h : TIn w0 (Nw lo w0) t v) (hb : Below w0.heap.size w0 w) :
    Calls Tryz.prog 34 #[v, .int .i64 m] w (fun e w' => ∃ q, e = .returned (.int .i64 q) ∧ m ≤ q ∧ q ≤ m + 7 * cnt t ∧ Fr (Rg lo w0.heap.size) w w') := by
  have h1 := h.rg
  have h2 : TIn w (fun b => Rg lo w0.heap.size b ∧ Plain w0 b) t v := h1.below' hb
  refine (markVal t v m hm0 hm1 w _ h2 fun b hb' => ?_).mono fun e w' ⟨q, a, b, c, d⟩ => ⟨q, a, b, c, d.mono fun _ hb' => hb'.1⟩
  obtain ⟨_, cs, t, hc⟩ := hb'
  exact ⟨cs, t, carry hb hc⟩

/-- Nothing hangs but what is there. -/
theorem TPar.tight {w : World} {par : Nat → Nat × Nat} {R i : Nat} {t : Tr} {v : Value} (h : TPar w par (R, i) t v) : ∃ par', TPar w par' (R, i) t v ∧ ∀ b, Hang par' (R, i) b → Rg (R + 1) w.heap.size b := by
  refine ⟨fun b => if b < w.heap.size then par b else (b, 0), h.par_ fun b hb => if_pos hb, fun b hb => ⟨by have := hb.gt; simp at this; omega, ?_⟩⟩
  cases hb with
  | root _ e hlt =>
    by_cases hb : b < w.heap.size
    · exact hb
    · rw [if_neg hb] at e
      injection e with e1 e2
      simp at hlt
      omega
  | step _ g j e hlt hh =>
    by_cases hb : b < w.heap.size
    · exact hb
    · rw [if_neg hb] at e
      injection e with e1 e2
      omega

/-- Marks on a value whose lists lie apart. -/
theorem markSep (t : Tr) (v : Value) (m : Int) (hm0 : 1 ≤ m) (hm1 : m + 7 * itm t ≤ 100000000000) (w : World) (par : Nat → Nat × Nat) (R i lo hi : Nat) (h : TPar w par (R, i) t v) (hr : ∀ b, Hang par (R, i) b → Rg lo hi b) :
    Calls Tryz.prog 34 #[v, .int .i64 m] w (fun e w' => e = .returned (.int .i64 (m + 7 * itm t)) ∧ TPar w' par (R, i) (mkI m t) v ∧ Fr (Rg lo hi) w w') := by
  obtain ⟨k, n, s, x, ks, vs⟩ := t
  obtain ⟨A, c, rfl, hk, hl, hcap, hblk⟩ := h.out
  rw [itm] at hm1 ⊢
  rw [mkI]
  have M := markItems (.mk k n s x ks vs) k n s x ks vs rfl k n s x ks m hm0 hm1
  obtain ⟨L, HL⟩ : ∃ L, Hid (L = vs.length) := ⟨_, Lib.hid rfl⟩
  obtain ⟨Q, HQ⟩ : ∃ Q : Int, Hid (m + 7 * cnts vs = Q) := ⟨_, Lib.hid rfl⟩
  rw [HQ.out] at M ⊢
  have HH := Lib.hid h
  have HR := Lib.hid hr
  have HM := Lib.hid M
  have hsz : R < w.heap.size ∨ vs.length = 0 := by
    rcases Nat.eq_zero_or_pos vs.length with h0 | h0
    · exact .inr h0
    · obtain ⟨g, -, -, h2, arr, h3, -⟩ := hblk h0
      exact .inl (Nat.lt_trans (by simpa using h2) (Array.getElem?_eq_some_iff.1 h3).1)
  rw [← HL.out]
  clear h hr M hblk hl hcap hk hsz
  go_enter Tryz.func34, Tryz.ntmps34
  go_wp2_with (fail)
  have M2 := HM.out _ par (R, i) A c (HH.out.keep (w' := w.alloc (.cells #[.int .i64 k, .int .i64 n, .string s, .int .i64 x, .slice A vs.length c] IV)) fun b _ hb => (b1 w _).block b hb)
  rw [← HL.out] at M2
  refine M2.mono ?_
  rintro e w1 ⟨rfl, ht1, hf1⟩
  have HT1 := Lib.hid ht1
  have HF1 := Lib.hid hf1
  clear ht1 hf1 M2
  go_wp2_with (fail)
  go_ret
  exact ⟨rfl, HT1.out, (Fr.of (b1 w _)).trans (HF1.out.mono HR.out)⟩

theorem heldSep (t : Tr) (v : Value) (m : Int) (hm0 : 1 ≤ m) (hm1 : m + 7 * itm t ≤ 100000000000) (w : World) (S : Nat → Prop) (h : TIn w S (mkI m t) v) :
    Calls Tryz.prog 43 #[v, .int .i64 m] w (GivesQ w (.int .i64 (m + 7 * itm t))) := by
  obtain ⟨k, n, s, x, ks, vs⟩ := t
  rw [mkI] at h
  obtain ⟨A, c, rfl, hk, hin⟩ := h.out
  rw [itm] at hm1 ⊢
  have M := fun w h => heldItems (.mk k n s x ks vs) k n s x ks vs rfl m hm0 hm1 w S A c h
  obtain ⟨L, HL⟩ : ∃ L, Hid (L = vs.length) := ⟨_, Lib.hid rfl⟩
  obtain ⟨Q, HQ⟩ : ∃ Q : Int, Hid (m + 7 * cnts vs = Q) := ⟨_, Lib.hid rfl⟩
  have hQ : 0 ≤ Q := by rw [← HQ.out]; omega
  rw [HQ.out, ← HL.out] at M
  rw [HQ.out, mkV_len, ← HL.out]
  have HI := Lib.hid hin
  clear h hin hk
  go_enter Tryz.func43, Tryz.ntmps43
  go_wp2_with (fail)
  refine (M _ (HI.out.below (b1 _ _))).mono ?_
  rintro e w1 ⟨rfl, hb1⟩
  have HB := Lib.hid hb1
  clear hb1
  go_wp2_with (fail)
  go_ret
  exact ⟨rfl, bs (b1 _ _) HB.out⟩

end Go.Proofs.YtbgffmiffmmohaaGreatDoor.tree

/-
  Items that lie in one block, as a list; items without one of them.
  Conditions: those that each theorem names.
-/
namespace Go.Proofs.YtbgffmiffmmohaaGreatDoor.tree
open Go.ChangeShapes Go.WideShapes Go.ChangeAt Go.RowKit
set_option linter.unusedVariables false

theorem isin_row {w : World} {S : Nat → Prop} {g : Nat} {arr : Array Value} {ks : List Ky} {vs : List Tr} (hg : w.heap[g]? = some (.cells arr IE (0, 0))) (hS : S g) (hl : ks.length = vs.length) (hm : vs.length ≤ maxLen)
    (hit : ∀ i, i < vs.length → ∃ y k n s x ks' vs' A c, ks[i]? = some y ∧ vs[i]? = some (.mk k n s x ks' vs') ∧ (I64 y.num ∧ y.str.size ≤ maxLen) ∧ At8r arr i y k n s x A vs'.length c ∧ TIn w S (.mk k n s x ks' vs') (vV k n s x A vs'.length c)) :
    IsIn w S ks vs (some ⟨g, 0, none⟩) := by
  have each : ∀ i, ∃ C : Array Value, ∀ (hi : i < vs.length), KyAt w ⟨g, 0, none⟩ i (ks[i]'(hl ▸ hi)) ∧ C.size = 5 ∧ (∀ j, j < 5 → w.cell? ((⟨g, 0, none⟩ : Addr).add (8 * i + (3 + j))) = C[j]?) ∧ TIn w S (vs[i]) (.agg C) := by
    intro i
    by_cases hi : i < vs.length
    · obtain ⟨y, k, n, s, x, ks', vs', A, c, hy, ht, hyb, hat, hT⟩ := hit i hi
      have ey : ks[i]'(hl ▸ hi) = y := by rw [List.getElem?_eq_getElem (hl ▸ hi)] at hy; exact Option.some.inj hy
      have et : vs[i] = .mk k n s x ks' vs' := by rw [List.getElem?_eq_getElem hi] at ht; exact Option.some.inj ht
      have at_ : ∀ q, q < 8 → w.cell? ((⟨g, 0, none⟩ : Addr).add (8 * i + q)) = (eV y k n s x A vs'.length c).cells[q]? := fun q hq => by
        rw [Addr.add_lit, Nat.zero_add, cell_of_row w g _ arr IE _ hg, ← hat q hq, Nat.mul_comm]
      refine ⟨#[.int .i64 k, .int .i64 n, .string s, .int .i64 x, .slice A vs'.length c], fun _ => ?_⟩
      rw [ey, et]
      refine ⟨⟨at_ 0 (by omega), at_ 1 (by omega), at_ 2 (by omega), hyb⟩, rfl, fun j hj => ?_, hT⟩
      rw [at_ (3 + j) (by omega)]
      match j, hj with
      | 0, _ => rfl
      | 1, _ => rfl
      | 2, _ => rfl
      | 3, _ => rfl
      | 4, _ => rfl
    · exact ⟨#[], fun h => absurd h hi⟩
  exact ⟨hl, hm, fun i => (each i).choose, fun i hi => ⟨_, rfl, hS, ((each i).choose_spec hi).1, ((each i).choose_spec hi).2.1, ((each i).choose_spec hi).2.2.1⟩, fun i hi => ((each i).choose_spec hi).2.2.2⟩

/-- The cells of items, without those of item i. -/
theorem xAt8_drop {xs : List Value} {i j M : Nat} (hx : xs.length = M * 8) (hi : i < M) {y : Ky} {k n x : Int} {s : ByteArray} {A : Option Addr} {L c : Nat} (h : xAt8 xs (if j < i then j else j + 1) y k n s x A L c) : xAt8 (xs.take (i * 8) ++ xs.drop ((i + 1) * 8)) j y k n s x A L c := by
  intro q hq
  have := h q hq
  by_cases hj : j < i
  · rw [if_pos hj] at this
    rw [List.getElem?_append_left (by rw [List.length_take]; omega), List.getElem?_take_of_lt (by omega)]
    exact this
  · rw [if_neg hj] at this
    rw [List.getElem?_append_right (by rw [List.length_take]; omega), List.length_take, List.getElem?_drop, ← this]
    congr 1
    omega
theorem erase_get {α : Type} (l : List α) (i j : Nat) (hi : i < l.length) : (l.eraseIdx i)[j]? = l[if j < i then j else j + 1]? := by
  rw [List.getElem?_eraseIdx]
  split <;> rfl

theorem grown_below {w w1 w2 : World} {B k : Nat} (h : Below B w w1) (g : w1.grownBy w2 (some k)) (hk : B ≤ k) (hB : B ≤ w1.heap.size) : Below B w w2 :=
  ⟨g.os.trans h.os, g.tape.trans h.tape, g.output.trans h.output, Nat.le_trans h.size g.size, fun b hb => (g.block b (by omega) (by simp; omega)).trans (h.block b hb)⟩

theorem grown_below' {w w1 w2 : World} {B : Nat} {row : Option Nat} (h : Below B w w1) (g : w1.grownBy w2 row) (hB : B ≤ w1.heap.size) (hk : ∀ b, row = some b → B ≤ b) : Below B w w2 :=
  ⟨g.os.trans h.os, g.tape.trans h.tape, g.output.trans h.output, Nat.le_trans h.size g.size, fun b hb => (g.block b (by omega) (fun e => by have := hk b e.symm; omega)).trans (h.block b hb)⟩
def OutV (w : World) (t : Tr) (S : Nat → Prop) (e : Ending) (w' : World) : Prop := ∃ u, e = .returned u ∧ TIn w' S t u ∧ Below w.heap.size w w'

end Go.Proofs.YtbgffmiffmmohaaGreatDoor.tree

/-
  A value with the value of a key; items of a block of which one has a new value.
  Conditions: those that each theorem names.
-/
namespace Go.Proofs.YtbgffmiffmmohaaGreatDoor.tree
open Go.ChangeShapes Go.WideShapes Go.ChangeAt Go.RowKit
set_option linter.unusedVariables false

/-- The next free index behind a key. -/
def nxt (x : Int) (y : Ky) : Int := if y.text then x else if x < y.num + 1 then y.num + 1 else x
/-- A value with the value u at a key. -/
def setT : Tr → Ky → Tr → Tr
  | .mk k n s x ks vs, y, u => if posV (.mk k n s x ks vs) y = -1 then .mk k n s (nxt x y) (ks ++ [y]) (vs ++ [u]) else .mk k n s x ks (vs.set (posV (.mk k n s x ks vs) y).toNat u)
theorem setT_none {k n x : Int} {s : ByteArray} {ks : List Ky} {vs : List Tr} {y : Ky} {u : Tr} (h : posV (.mk k n s x ks vs) y = -1) : setT (.mk k n s x ks vs) y u = .mk k n s (nxt x y) (ks ++ [y]) (vs ++ [u]) := by rw [setT, if_pos h]
theorem setT_some {k n x : Int} {s : ByteArray} {ks : List Ky} {vs : List Tr} {y : Ky} {u : Tr} {i : Nat} (h : posV (.mk k n s x ks vs) y = i) : setT (.mk k n s x ks vs) y u = .mk k n s x ks (vs.set i u) := by
  rw [setT, if_neg (by omega), h, Int.toNat_natCast]
theorem cnts_append : ∀ (a b : List Tr), cnts (a ++ b) = cnts a + cnts b
  | [], b => by rw [List.nil_append, cnts]; omega
  | t :: a, b => by rw [List.cons_append, cnts_cons', cnts_cons', cnts_append a b]; omega
theorem cnts_set : ∀ (vs : List Tr) (i : Nat) (u : Tr), cnts (vs.set i u) ≤ cnts vs + cnt u
  | [], i, u => by rw [List.set_nil]; omega
  | t :: vs, 0, u => by rw [List.set_cons_zero, cnts_cons', cnts_cons']; omega
  | t :: vs, i + 1, u => by
    have := cnts_set vs i u
    rw [List.set_cons_succ, cnts_cons', cnts_cons']
    omega
theorem tots_append : ∀ (ks : List Ky) (vs : List Tr) (y : Ky) (u : Tr), ks.length = vs.length → tots (ks ++ [y]) (vs ++ [u]) = tots ks vs + (y.str.size + tot u)
  | [], [], y, u, _ => by rw [List.nil_append, List.nil_append, tots_cons]; omega
  | y0 :: ks, t :: vs, y, u, h => by
    have := tots_append ks vs y u (by simpa using h)
    rw [List.cons_append, List.cons_append, tots_cons, tots_cons, this]
    omega
theorem tots_set : ∀ (ks : List Ky) (vs : List Tr) (i : Nat) (u : Tr), tots ks (vs.set i u) ≤ tots ks vs + tot u
  | _, [], i, u => by rw [List.set_nil]; omega
  | [], t :: vs, i, u => by cases i <;> simp [List.set, tots]
  | y :: ks, t :: vs, 0, u => by rw [List.set_cons_zero, tots_cons, tots_cons]; omega
  | y :: ks, t :: vs, i + 1, u => by
    have := tots_set ks vs i u
    rw [List.set_cons_succ, tots_cons, tots_cons]
    omega
theorem setT_cnt (t : Tr) (y : Ky) (u : Tr) : cnt (setT t y u) ≤ cnt t + cnt u := by
  obtain ⟨k, n, s, x, ks, vs⟩ := t
  rcases posV_cases k n s x ks vs y with hp | ⟨i, hp, hi, rfl⟩
  · rw [setT_none hp, cnt_mk', cnt_mk', cnts_append, cnts_cons', cnts]; omega
  · have := cnts_set vs i u
    rw [setT_some hp, cnt_mk', cnt_mk']
    omega
theorem setT_tot (t : Tr) (y : Ky) (u : Tr) (hf : fits t) : tot (setT t y u) ≤ tot t + y.str.size + tot u + 1 := by
  obtain ⟨k, n, s, x, ks, vs⟩ := t
  rw [fits] at hf
  rcases posV_cases k n s x ks vs y with hp | ⟨i, hp, hi, rfl⟩
  · have := tots_append ks vs y u hf.1
    rw [setT_none hp, tot_mk, tot_mk, this, List.length_append]
    simp only [List.length_cons, List.length_nil]
    omega
  · have := tots_set ks vs i u
    rw [setT_some hp, tot_mk, tot_mk, List.length_set]
    omega
/-- Five cells in a row. -/
def put5c (arr : Array Value) (o : Nat) (c0 c1 c2 c3 c4 : Value) : Array Value := ((((arr.setIfInBounds o c0).setIfInBounds (o + 1) c1).setIfInBounds (o + 2) c2).setIfInBounds (o + 3) c3).setIfInBounds (o + 4) c4
theorem put5c_out (arr : Array Value) (o : Nat) (c0 c1 c2 c3 c4 : Value) (p : Nat) (h : p < o ∨ o + 5 ≤ p) : (put5c arr o c0 c1 c2 c3 c4)[p]? = arr[p]? := by
  unfold put5c
  iterate 5 rw [Array.getElem?_setIfInBounds_ne (by omega)]
theorem put5c_in (arr : Array Value) (o : Nat) (c0 c1 c2 c3 c4 : Value) (h : o + 5 ≤ arr.size) (q : Nat) (hq : q < 5) : (put5c arr o c0 c1 c2 c3 c4)[o + q]? = (#[c0, c1, c2, c3, c4] : Array Value)[q]? := by
  unfold put5c
  match q, hq with
  | 0, _ => iterate 4 rw [Array.getElem?_setIfInBounds_ne (by omega)]
            rw [Nat.add_zero, Array.getElem?_setIfInBounds_self_of_lt (by omega)]; rfl
  | 1, _ => iterate 3 rw [Array.getElem?_setIfInBounds_ne (by omega)]
            rw [Array.getElem?_setIfInBounds_self_of_lt (by simp; omega)]; rfl
  | 2, _ => iterate 2 rw [Array.getElem?_setIfInBounds_ne (by omega)]
            rw [Array.getElem?_setIfInBounds_self_of_lt (by simp; omega)]; rfl
  | 3, _ => rw [Array.getElem?_setIfInBounds_ne (by omega), Array.getElem?_setIfInBounds_self_of_lt (by simp; omega)]; rfl
  | 4, _ => rw [Array.getElem?_setIfInBounds_self_of_lt (by simp; omega)]; rfl

/-- An item as it lies in a row. -/
def ItAt (w : World) (S : Nat → Prop) (arr : Array Value) (ks : List Ky) (vs : List Tr) (j : Nat) : Prop :=
  ∃ y k n s x ks' vs' A c, ks[j]? = some y ∧ vs[j]? = some (.mk k n s x ks' vs') ∧ (I64 y.num ∧ y.str.size ≤ maxLen) ∧ At8r arr j y k n s x A vs'.length c ∧ TIn w S (.mk k n s x ks' vs') (vV k n s x A vs'.length c)

/-- A row of items, one of which has a new value. -/
theorem isin_put {w : World} {S : Nat → Prop} {g i : Nat} {arr : Array Value} {ks : List Ky} {vs : List Tr} {y : Ky} {k n x : Int} {s : ByteArray} {ks' : List Ky} {vs' : List Tr} {A : Option Addr} {c : Nat}
    (hg : w.heap[g]? = some (.cells (put5c arr (i * 8 + 3) (.int .i64 k) (.int .i64 n) (.string s) (.int .i64 x) (.slice A vs'.length c)) IE (0, 0))) (hS : S g) (hl : ks.length = vs.length) (hm : vs.length ≤ maxLen) (hsz : vs.length * 8 ≤ arr.size) (hi : i < vs.length)
    (hky : ks[i]? = some y) (hvs : vs[i]? = some (.mk k n s x ks' vs')) (hyb : I64 y.num ∧ y.str.size ≤ maxLen) (h0 : arr[i * 8]? = some (.bool y.text)) (h1 : arr[i * 8 + 1]? = some (.int .i64 y.num)) (h2 : arr[i * 8 + 2]? = some (.string y.str))
    (hT : TIn w S (.mk k n s x ks' vs') (vV k n s x A vs'.length c)) (ho : ∀ j, j < vs.length → j ≠ i → ItAt w S arr ks vs j) : IsIn w S ks vs (some ⟨g, 0, none⟩) := by
  refine isin_row hg hS hl hm fun j hj => ?_
  by_cases e : j = i
  · subst e
    refine ⟨y, k, n, s, x, ks', vs', A, c, hky, hvs, hyb, fun q hq => ?_, hT⟩
    by_cases hq3 : q < 3
    · rw [put5c_out _ _ _ _ _ _ _ _ (.inl (by omega))]
      match q, hq3 with
      | 0, _ => exact h0
      | 1, _ => exact h1
      | 2, _ => exact h2
    · obtain ⟨r, rfl⟩ : ∃ r, q = 3 + r := ⟨q - 3, by omega⟩
      rw [← Nat.add_assoc, put5c_in _ _ _ _ _ _ _ (by omega) r (by omega)]
      have hr : r < 5 := by omega
      match r, hr with
      | 0, _ => rfl
      | 1, _ => rfl
      | 2, _ => rfl
      | 3, _ => rfl
      | 4, _ => rfl
  · obtain ⟨y, k, n, s, x, ks', vs', A, c, a1, a2, a3, a4, a5⟩ := ho j hj e
    refine ⟨y, k, n, s, x, ks', vs', A, c, a1, a2, a3, fun q hq => ?_, a5⟩
    rw [put5c_out _ _ _ _ _ _ _ _ (by omega)]
    exact a4 q hq

/-- append at an operation of the walk, by what it runs to. -/
theorem wpList_append_eq {P : Program} {ops : Array Oper} {rest : List Oper} {o : Oper} {a : Act} {Q : Exit → Act → World → Prop} {w w' : World} (hgd : o.guard = none) (s x : Operand) (t : TypeId)
    (ho : o.op = .call { callee := .builtin .append, args := #[s, x], argTypes := #[t, t] }) {u v r : Value} (hrun : (Builtin.append_ #[t, t] o.type #[u, v]).run P w = .ok r w') (hs : a.eval s = u) (hx : a.eval x = v)
    (h : wpList P ops Q rest (a.put o.dst r) w') : wpList P ops Q (o :: rest) a w := by
  refine wpList_plain hgd fun K hK => ?_
  unfold Oper.wp execOp
  simp only [ho, resolve, invoke, builtin, Sem.run_bind, Sem.run_pure, Result.andThen_ok, List.map_toArray, List.map_cons, List.map_nil, hs, hx, hrun]
  exact hK _ _ h

theorem alc {w : World} {o : Obj} {p : Addr} {u : Value} (h : w.cell? p = some u) : (w.alloc o).cell? p = some u := cell_stays (fun hlt => (b1 w o).block _ hlt) h
theorem drc {w : World} {p : Addr} {u : Value} (h : w.cell? p = some u) : w.drew.cell? p = some u := h
theorem st5 {w : World} {b j B : Nat} {u c0 c1 c2 c3 c4 : Value} (h : w.cell? ⟨b, j, none⟩ = some u) (hne : B ≠ b) : (((((w.setCell ⟨B, 0, none⟩ c0).setCell ⟨B, 1, none⟩ c1).setCell ⟨B, 2, none⟩ c2).setCell ⟨B, 3, none⟩ c3).setCell ⟨B, 4, none⟩ c4).cell? ⟨b, j, none⟩ = some u :=
  cell_stays (fun _ => by
    have hn : b ≠ B := fun e => hne e.symm
    simp only []
    rw [set_other hn, set_other hn, set_other hn, set_other hn, set_other hn]) h
/-- Five cells of a block, written. -/
theorem put5_heap {w wF : World} {g o : Nat} {arr : Array Value} {t : TypeId} {c0 c1 c2 c3 c4 : Value} (h : w.heap[g]? = some (.cells arr t (0, 0)))
    (hF : (((((w.setCell ⟨g, o, none⟩ c0).setCell ⟨g, o + 1, none⟩ c1).setCell ⟨g, o + 2, none⟩ c2).setCell ⟨g, o + 3, none⟩ c3).setCell ⟨g, o + 4, none⟩ c4) = wF) :
    wF.heap[g]? = some (.cells (put5c arr o c0 c1 c2 c3 c4) t (0, 0)) ∧ (∀ q, q ≠ g → wF.heap[q]? = w.heap[q]?) ∧ ∀ (B : Nat) (w0 : World), B ≤ g → Below B w0 w → Below B w0 wF := by
  subst hF
  refine ⟨set_heap (set_heap (set_heap (set_heap (set_heap h _ _) _ _) _ _) _ _) _ _, fun q hq => ?_, fun B w0 hB hb => ?_⟩
  · rw [set_other hq, set_other hq, set_other hq, set_other hq, set_other hq]
  · exact ((((hb.setCell hB _).setCell hB _).setCell hB _).setCell hB _).setCell hB _
theorem max_nxt (x : Int) (y : Ky) (h : y.text = false) : nums.mx x (y.num + 1) = nxt x y := by
  unfold nums.mx nxt
  rw [h]
  simp

end Go.Proofs.YtbgffmiffmmohaaGreatDoor.tree

/-
  A value without the item at a key.
  Conditions: those that each theorem names.
-/
namespace Go.Proofs.YtbgffmiffmmohaaGreatDoor.tree
open Go.ChangeShapes Go.WideShapes Go.ChangeAt Go.RowKit
set_option linter.unusedVariables false

/-- A value without the item at a key. -/
def delT : Tr → Ky → Tr
  | .mk k n s x ks vs, y => if posV (.mk k n s x ks vs) y = -1 then .mk k n s x ks vs else .mk k n s x (ks.eraseIdx (posV (.mk k n s x ks vs) y).toNat) (vs.eraseIdx (posV (.mk k n s x ks vs) y).toNat)
theorem delT_none {t : Tr} {y : Ky} (h : posV t y = -1) : delT t y = t := by cases t; rw [delT, if_pos h]
theorem delT_some {k n x : Int} {s : ByteArray} {ks : List Ky} {vs : List Tr} {y : Ky} {i : Nat} (h : posV (.mk k n s x ks vs) y = i) : delT (.mk k n s x ks vs) y = .mk k n s x (ks.eraseIdx i) (vs.eraseIdx i) := by
  rw [delT, if_neg (by omega), h, Int.toNat_natCast]

/-- Items without one, whose cells lie in a new block. -/
theorem dropped {w wF : World} {S S' : Nat → Prop} {ks : List Ky} {vs : List Tr} {cs : List Value} {g i L : Nat} {arr : Array Value} (hcl : cs.length = L * 8) (hL : vs.length = L) (hkl : ks.length = L) (hm : L ≤ maxLen) (hi : i < L)
    (hit : ∀ i, i < L → ∃ y k n s x ks' vs' A c, ks[i]? = some y ∧ vs[i]? = some (.mk k n s x ks' vs') ∧ (I64 y.num ∧ y.str.size ≤ maxLen) ∧ (I64 k ∧ I64 n ∧ I64 x ∧ s.size ≤ maxLen) ∧ xAt8 cs i y k n s x A vs'.length c ∧ TIn w S (.mk k n s x ks' vs') (vV k n s x A vs'.length c))
    (hg : wF.heap[g]? = some (.cells arr IE (0, 0))) (ha : arr.toList = cs.take (i * 8) ++ cs.drop ((i + 1) * 8)) (hS : S' g) (hSS : ∀ b, S b → S' b) (hb : ∀ b, S b → b < w.heap.size → wF.heap[b]? = w.heap[b]?) :
    IsIn wF S' (ks.eraseIdx i) (vs.eraseIdx i) (some ⟨g, 0, none⟩) := by
  have e1 : (ks.eraseIdx i).length = L - 1 := by rw [List.length_eraseIdx, if_pos (by omega), hkl]
  have e2 : (vs.eraseIdx i).length = L - 1 := by rw [List.length_eraseIdx, if_pos (by omega), hL]
  refine isin_row hg hS (by rw [e1, e2]) (by rw [e2]; omega) fun j hj => ?_
  rw [e2] at hj
  obtain ⟨y, k, n, s, x, ks', vs', A, c, h1, h2, h3, -, h5, h6⟩ := hit (if j < i then j else j + 1) (by split <;> omega)
  refine ⟨y, k, n, s, x, ks', vs', A, c, by rw [erase_get _ _ _ (by omega), h1], by rw [erase_get _ _ _ (by omega), h2], h3, fun q hq => ?_, h6.stays hSS hb⟩
  rw [← xAt8_drop hcl hi h5 q hq, ← ha, Array.getElem?_toList]

end Go.Proofs.YtbgffmiffmmohaaGreatDoor.tree

/-
  Paths into a value, without the program: going along, writing, deleting; how large what is written is.
  Conditions: those that each theorem names.
-/
namespace Go.Proofs.YtbgffmiffmmohaaGreatDoor.tree
open Go.ChangeShapes Go.WideShapes Go.ChangeAt Go.RowKit
set_option linter.unusedVariables false

/-- The end of a path, and whether it is there. -/
def gp : Tr → List Ky → Tr × Bool
  | t, [] => (t, true)
  | t, y :: ys => if getB t y then gp (getR t y) ys else (nullT, false)
theorem gp_cons (t : Tr) (y : Ky) (ys : List Ky) : gp t (y :: ys) = if getB t y then gp (getR t y) ys else (nullT, false) := rfl
def arrT : Tr := .mk 4 0 ⟨#[]⟩ 0 [] []
def knd : Tr → Int
  | .mk k _ _ _ _ _ => k
def nex : Tr → Int
  | .mk _ _ _ x _ _ => x
/-- What a value counts as when something is written into it. -/
def opn (t : Tr) : Tr := if knd t = 0 then arrT else t
def pky (t : Tr) : Ky := ⟨false, nex t, ⟨#[]⟩⟩
/-- Writing at a path: the value and the error's number. -/
def setP : Tr → List Ky → Bool → Tr → Tr × Int
  | t, [], push, u => if push then (if knd (opn t) = 4 then (if nums.inr (nex (opn t)) 0 1000000000 then (setT (opn t) (pky (opn t)) u, 0) else (opn t, 7)) else (opn t, 6)) else (u, 0)
  | t, y :: ys, push, u => if knd (opn t) = 4 then (if (setP (getR (opn t) y) ys push u).2 = 0 then (setT (opn t) y (setP (getR (opn t) y) ys push u).1, 0) else (opn t, (setP (getR (opn t) y) ys push u).2)) else (opn t, 6)
theorem setP_cons (t : Tr) (y : Ky) (ys : List Ky) (push : Bool) (u : Tr) : setP t (y :: ys) push u = if knd (opn t) = 4 then (if (setP (getR (opn t) y) ys push u).2 = 0 then (setT (opn t) y (setP (getR (opn t) y) ys push u).1, 0) else (opn t, (setP (getR (opn t) y) ys push u).2)) else (opn t, 6) := rfl
theorem setP_nil (t : Tr) (push : Bool) (u : Tr) : setP t [] push u = if push then (if knd (opn t) = 4 then (if nums.inr (nex (opn t)) 0 1000000000 then (setT (opn t) (pky (opn t)) u, 0) else (opn t, 7)) else (opn t, 6)) else (u, 0) := rfl
/-- The way along a path, as the project goes: the arrays with their keys, and the end. -/
def stp : Tr → List Ky → Option (List (Tr × Ky) × Tr)
  | t, [] => some ([], t)
  | t, y :: ys => if knd (opn t) = 4 then (match stp (getR (opn t) y) ys with
    | some (l, e) => some ((opn t, y) :: l, e)
    | none => none) else none
theorem stp_cons (t : Tr) (y : Ky) (ys : List Ky) : stp t (y :: ys) = if knd (opn t) = 4 then (match stp (getR (opn t) y) ys with
    | some (l, e) => some ((opn t, y) :: l, e)
    | none => none) else none := rfl
/-- The way back. -/
def rew (l : List (Tr × Ky)) (u : Tr) : Tr := l.foldr (fun p x => setT p.1 p.2 x) u
theorem rew_cons (p : Tr × Ky) (l : List (Tr × Ky)) (u : Tr) : rew (p :: l) u = setT p.1 p.2 (rew l u) := rfl
theorem rew_snoc (l : List (Tr × Ky)) (p : Tr × Ky) (u : Tr) : rew (l ++ [p]) u = rew l (setT p.1 p.2 u) := by
  unfold rew
  rw [List.foldr_append]
  rfl
/-- Pushing onto the end. -/
def pushP (e u : Tr) : Tr × Int := if knd (opn e) = 4 then (if nums.inr (nex (opn e)) 0 1000000000 then (setT (opn e) (pky (opn e)) u, 0) else (opn e, 7)) else (opn e, 6)
/-- Both ways of writing are one. -/
theorem setP_stp : ∀ (ys : List Ky) (t : Tr) (push : Bool) (u : Tr),
    (stp t ys = none → (setP t ys push u).2 = 6) ∧
    ∀ l e, stp t ys = some (l, e) → (push = false → setP t ys push u = (rew l u, 0)) ∧
      (push = true → ((pushP e u).2 = 0 → setP t ys push u = (rew l (pushP e u).1, 0)) ∧ ((pushP e u).2 ≠ 0 → (setP t ys push u).2 = (pushP e u).2))
  | [], t, push, u => by
    refine ⟨fun h => by simp [stp] at h, fun l e h => ?_⟩
    obtain ⟨rfl, rfl⟩ : [] = l ∧ t = e := by simpa [stp] using h
    refine ⟨fun hp => by subst hp; rfl, fun hp => ?_⟩
    subst hp
    rw [setP_nil, if_pos rfl]
    refine ⟨fun h => ?_, fun h => rfl⟩
    show pushP t u = _
    rw [← h]
    rfl
  | y :: ys, t, push, u => by
    obtain ⟨ih1, ih2⟩ := setP_stp ys (getR (opn t) y) push u
    rw [stp_cons, setP_cons]
    by_cases h4 : knd (opn t) = 4
    · rw [if_pos h4, if_pos h4]
      cases hs : stp (getR (opn t) y) ys with
      | none =>
        refine ⟨fun _ => ?_, fun l e h => by simp at h⟩
        have := ih1 hs
        rw [if_neg (by omega)]
        exact this
      | some p =>
        obtain ⟨l0, e0⟩ := p
        refine ⟨fun h => by simp at h, fun l e h => ?_⟩
        obtain ⟨rfl, rfl⟩ : (opn t, y) :: l0 = l ∧ e0 = e := by simpa using h
        obtain ⟨a1, a2⟩ := ih2 l0 e0 hs
        refine ⟨fun hp => ?_, fun hp => ⟨fun hz => ?_, fun hz => ?_⟩⟩
        · rw [a1 hp, if_pos rfl, rew_cons]
        · rw [(a2 hp).1 hz, if_pos rfl, rew_cons]
        · have := (a2 hp).2 hz
          rw [if_neg (by rw [this]; exact hz)]
          exact this
    · rw [if_neg h4, if_neg h4]
      exact ⟨fun _ => rfl, fun l e h => by simp at h⟩

/-- A step further on the project's way. -/
theorem stp_snoc : ∀ (ys : List Ky) (t : Tr) (y : Ky) (l : List (Tr × Ky)) (e : Tr), stp t ys = some (l, e) → stp t (ys ++ [y]) = if knd (opn e) = 4 then some (l ++ [(opn e, y)], getR (opn e) y) else none
  | [], t, y, l, e, h => by
    obtain ⟨rfl, rfl⟩ : [] = l ∧ t = e := by simpa [stp] using h
    rw [List.nil_append, stp_cons]
    rfl
  | z :: ys, t, y, l, e, h => by
    rw [List.cons_append, stp_cons]
    rw [stp_cons] at h
    by_cases h4 : knd (opn t) = 4
    · rw [if_pos h4] at h ⊢
      cases hs : stp (getR (opn t) z) ys with
      | none => rw [hs] at h; simp at h
      | some p =>
        obtain ⟨l0, e0⟩ := p
        rw [hs] at h
        obtain ⟨rfl, rfl⟩ : (opn t, z) :: l0 = l ∧ e0 = e := by simpa using h
        rw [stp_snoc ys _ y l0 e0 hs]
        by_cases h5 : knd (opn e0) = 4
        · rw [if_pos h5, if_pos h5]; rfl
        · rw [if_neg h5, if_neg h5]
    · rw [if_neg h4] at h; simp at h
theorem stp_stop {t : Tr} {ys zs : List Ky} (h : stp t ys = none) : stp t (ys ++ zs) = none := by
  induction ys generalizing t with
  | nil => simp [stp] at h
  | cons y ys ih =>
    rw [List.cons_append, stp_cons]
    rw [stp_cons] at h
    by_cases h4 : knd (opn t) = 4
    · rw [if_pos h4] at h ⊢
      cases hs : stp (getR (opn t) y) ys with
      | none => rw [ih hs]
      | some p => rw [hs] at h; simp at h
    · rw [if_neg h4]

/-- Without the item at a path's end. -/
def delP : Tr → List Ky → Tr
  | t, [] => t
  | t, [y] => delT t y
  | t, y :: z :: ys => if getB t y then setT t y (delP (getR t y) (z :: ys)) else t
theorem delP_two (t : Tr) (y z : Ky) (ys : List Ky) : delP t (y :: z :: ys) = if getB t y then setT t y (delP (getR t y) (z :: ys)) else t := rfl

theorem getB_four {t : Tr} {y : Ky} (h : getB t y = true) : knd t = 4 := by
  obtain ⟨k, n, s, x, ks, vs⟩ := t
  rcases posV_cases k n s x ks vs y with hp | ⟨i, hp, hi, rfl⟩
  · unfold getB at h; rw [getT_none hp] at h; cases h
  · rfl
theorem opn_four {t : Tr} (h : knd t = 4) : opn t = t := by unfold opn; rw [if_neg (by omega)]
theorem knd_opn {t : Tr} (h : knd t = 4) : knd (opn t) = 4 := by rw [opn_four h]; exact h
/-- A value set where it stands is no change. -/
theorem setT_same {t : Tr} {y : Ky} (h : getB t y = true) : setT t y (getR t y) = t := by
  obtain ⟨k, n, s, x, ks, vs⟩ := t
  rcases posV_cases k n s x ks vs y with hp | ⟨i, hp, hi, rfl⟩
  · unfold getB at h; rw [getT_none hp] at h; cases h
  · rw [setT_some hp]
    have e : getR (.mk 4 n s x ks vs) y = (vs[i]?).getD nullT := by unfold getR; rw [getT_some hp]
    rw [e]
    congr 1
    by_cases hv : i < vs.length
    · rw [List.getElem?_eq_getElem hv]
      simp
    · rw [List.set_eq_of_length_le (by omega)]
theorem fitss_mem : ∀ {vs : List Tr} {t : Tr}, fitss vs → t ∈ vs → fits t
  | u :: vs, t, h, hm => by
    rw [fitss] at h
    rcases List.mem_cons.1 hm with rfl | hm
    · exact h.1
    · exact fitss_mem h.2 hm
theorem fits_null : fits nullT := by unfold nullT; rw [fits]; exact ⟨rfl, by rw [fitss]; trivial⟩
theorem fits_arr : fits arrT := by unfold arrT; rw [fits]; exact ⟨rfl, by rw [fitss]; trivial⟩
theorem fits_getR {t : Tr} (h : fits t) (y : Ky) : fits (getR t y) := by
  obtain ⟨k, n, s, x, ks, vs⟩ := t
  rcases posV_cases k n s x ks vs y with hp | ⟨i, hp, hi, rfl⟩
  · unfold getR; rw [getT_none hp]; exact fits_null
  · unfold getR; rw [getT_some hp]
    cases hv : vs[i]? with
    | none => exact fits_null
    | some u =>
      rw [fits] at h
      exact fitss_mem h.2 (List.mem_of_getElem? hv)
theorem fits_opn {t : Tr} (h : fits t) : fits (opn t) := by unfold opn; split; exact fits_arr; exact h
theorem getB_iff {t : Tr} (h : fits t) (y : Ky) : getB t y = true ↔ posV t y ≠ -1 := by
  obtain ⟨k, n, s, x, ks, vs⟩ := t
  rw [fits] at h
  rcases posV_cases k n s x ks vs y with hp | ⟨i, hp, hi, rfl⟩
  · unfold getB; rw [getT_none hp, hp]; simp
  · unfold getB; rw [getT_some hp, hp, List.getElem?_eq_getElem (by omega)]; simp
/-- What is not there is not deleted. -/
theorem delP_gone : ∀ (ys : List Ky) (t : Tr), fits t → (gp t ys).2 = false → delP t ys = t
  | [], t, _, h => rfl
  | [y], t, hf, h => by
    rw [gp_cons] at h
    by_cases hb : getB t y = true
    · rw [if_pos hb] at h; cases h
    · exact delT_none (Classical.not_not.1 (fun hn => hb ((getB_iff hf y).2 hn)))
  | y :: z :: ys, t, hf, h => by
    rw [delP_two]
    by_cases hb : getB t y = true
    · rw [if_pos hb]
      rw [gp_cons, if_pos hb] at h
      rw [delP_gone (z :: ys) _ (fits_getR hf y) h]
      exact setT_same hb
    · rw [if_neg hb]
/-- Deleting by the way back. -/
theorem delP_rew : ∀ (ys : List Ky) (t : Tr) (y : Ky), (gp t (ys ++ [y])).2 = true → ∃ l e, stp t ys = some (l, e) ∧ delP t (ys ++ [y]) = rew l (delT e y)
  | [], t, y, h => ⟨[], t, rfl, rfl⟩
  | [z], t, y, h => by
    rw [List.cons_append, gp_cons] at h
    by_cases hb : getB t z = true
    · rw [if_pos hb] at h
      have h4 := getB_four hb
      obtain ⟨l, e, h1, h2⟩ := delP_rew [] (getR t z) y h
      refine ⟨(opn t, z) :: l, e, ?_, ?_⟩
      · rw [stp_cons, if_pos (knd_opn h4), opn_four h4, h1]
      · rw [List.cons_append, List.nil_append, delP_two, if_pos hb, rew_cons, opn_four h4, ← h2]
        rfl
    · rw [if_neg hb] at h; cases h
  | z :: z2 :: ys, t, y, h => by
    rw [List.cons_append, gp_cons] at h
    by_cases hb : getB t z = true
    · rw [if_pos hb] at h
      have h4 := getB_four hb
      obtain ⟨l, e, h1, h2⟩ := delP_rew (z2 :: ys) (getR t z) y h
      refine ⟨(opn t, z) :: l, e, ?_, ?_⟩
      · rw [stp_cons, if_pos (knd_opn h4), opn_four h4, h1]
      · rw [List.cons_append, List.cons_append, delP_two, if_pos hb, rew_cons, opn_four h4, ← h2]
        rfl
    · rw [if_neg hb] at h; cases h
/-- How many values a tree holds that is written on the way back. -/
theorem wgt_getR (t : Tr) (y : Ky) : getB t y = true → wgt (getR t y) < wgt t := fun h => by
  obtain ⟨k, n, s, x, ks, vs⟩ := t
  rcases posV_cases k n s x ks vs y with hp | ⟨i, hp, hi, rfl⟩
  · unfold getB at h; rw [getT_none hp] at h; cases h
  · unfold getB at h
    rw [getT_some hp] at h
    unfold getR
    rw [getT_some hp]
    cases hv : vs[i]? with
    | none => rw [hv] at h; cases h
    | some u =>
      show wgt u < _
      rw [wgt_four]
      have : ∀ {vs : List Tr} {i : Nat} {u : Tr}, vs[i]? = some u → wgt u ≤ wgts vs := by
        intro vs
        induction vs with
        | nil => intro i u h; simp at h
        | cons a vs ih =>
          intro i u h
          rw [wgts_cons]
          cases i with
          | zero => simp at h; subst h; omega
          | succ i => have := ih (by simpa using h); omega
      have := this hv
      omega
/-- A setting's weight is more than that of what is set. -/
theorem wgts_append : ∀ (a b : List Tr), wgts (a ++ b) = wgts a + wgts b
  | [], b => by rw [List.nil_append, wgts_nil]; omega
  | t :: a, b => by rw [List.cons_append, wgts_cons, wgts_cons, wgts_append a b]; omega
theorem wgts_set_ge : ∀ (vs : List Tr) (i : Nat) (u : Tr), i < vs.length → wgt u ≤ wgts (vs.set i u)
  | t :: vs, 0, u, _ => by rw [List.set_cons_zero, wgts_cons]; omega
  | t :: vs, i + 1, u, h => by rw [List.set_cons_succ, wgts_cons]; have := wgts_set_ge vs i u (by simpa using h); omega
theorem wgt_setT {t : Tr} (hf : fits t) (h4 : knd t = 4) (y : Ky) (u : Tr) : wgt u < wgt (setT t y u) := by
  obtain ⟨k, n, s, x, ks, vs⟩ := t
  obtain rfl : k = 4 := h4
  rw [fits] at hf
  rcases posV_cases 4 n s x ks vs y with hp | ⟨i, hp, hi, -⟩
  · rw [setT_none hp, wgt_four, wgts_append, wgts_cons, wgts_nil]; omega
  · rw [setT_some hp, wgt_four]; have := wgts_set_ge vs i u (by omega); omega
/-- Behind as many keys as a value weighs there is nothing. -/
theorem stp_end : ∀ (ys : List Ky) (t : Tr) (l : List (Tr × Ky)) (e : Tr), wgt t ≤ ys.length → stp t ys = some (l, e) → e = nullT
  | [], t, l, e, h, _ => by have := wgt_pos t; simp at h; omega
  | y :: ys, t, l, e, h, hs => by
    rw [stp_cons] at hs
    by_cases h4 : knd (opn t) = 4
    · rw [if_pos h4] at hs
      cases hs1 : stp (getR (opn t) y) ys with
      | none => rw [hs1] at hs; simp at hs
      | some p =>
        obtain ⟨l0, e0⟩ := p
        rw [hs1] at hs
        obtain ⟨-, rfl⟩ : (opn t, y) :: l0 = l ∧ e0 = e := by simpa using hs
        by_cases hb : getB (opn t) y = true
        · have h1 := wgt_getR _ _ hb
          have h2 : wgt (opn t) ≤ wgt t := by
            unfold opn; split
            · unfold arrT; rw [wgt_four, wgts_nil]; exact wgt_pos t
            · exact Nat.le_refl _
          exact stp_end ys _ l0 e0 (by simp at h; omega) hs1
        · have e1 : getR (opn t) y = nullT := by
            unfold getR
            unfold getB at hb
            cases hg : getT (opn t) y with
            | none => rfl
            | some u => rw [hg] at hb; simp at hb
          rw [e1] at hs1
          exact stp_null ys l0 e0 hs1
    · rw [if_neg h4] at hs; simp at hs
where
  stp_null : ∀ (ys : List Ky) (l : List (Tr × Ky)) (e : Tr), stp nullT ys = some (l, e) → e = nullT
    | [], l, e, h => by simp [stp] at h; exact h.2.symm
    | y :: ys, l, e, h => by
      rw [stp_cons] at h
      have e0 : opn nullT = arrT := rfl
      have e1 : getR arrT y = nullT := by
        unfold getR arrT
        rw [getT_none (by rw [posV_four]; rfl)]; rfl
      rw [e0, if_pos (show knd arrT = 4 from rfl), e1] at h
      cases hs1 : stp nullT ys with
      | none => rw [hs1] at h; simp at h
      | some p =>
        obtain ⟨l0, e0⟩ := p
        rw [hs1] at h
        obtain ⟨-, rfl⟩ : (arrT, y) :: l0 = l ∧ e0 = e := by simpa using h
        exact stp_null ys l0 e0 hs1

theorem getR_none {t : Tr} {y : Ky} (hb : ¬ getB t y = true) : getR t y = nullT := by
  unfold getR
  unfold getB at hb
  cases hg : getT t y with
  | none => rfl
  | some u => rw [hg] at hb; simp at hb
/-- The way along more keys than a value weighs. -/
theorem stp_far : ∀ (zs : List Ky) (t : Tr) (ys : List Ky) (l : List (Tr × Ky)), stp t ys = some (l, nullT) → ∃ l', stp t (ys ++ zs) = some (l', nullT) ∧ l'.length = l.length + zs.length
  | [], t, ys, l, h => ⟨l, by simpa using h, rfl⟩
  | z :: zs, t, ys, l, h => by
    have h1 := stp_snoc ys t z l nullT h
    have e1 : getR arrT z = nullT := getR_none (by unfold getB arrT; rw [getT_none (by rw [posV_four]; rfl)]; simp)
    have e0 : opn nullT = arrT := rfl
    rw [e0, if_pos (show knd arrT = 4 from rfl), e1] at h1
    obtain ⟨l', h2, h3⟩ := stp_far zs t (ys ++ [z]) _ h1
    refine ⟨l', by simpa using h2, ?_⟩
    rw [h3]; simp; omega
theorem stp_len : ∀ (ys : List Ky) (t : Tr) (l : List (Tr × Ky)) (e : Tr), stp t ys = some (l, e) → l.length = ys.length
  | [], t, l, e, h => by
    obtain ⟨rfl, rfl⟩ : [] = l ∧ t = e := by simpa [stp] using h
    rfl
  | y :: ys, t, l, e, h => by
    rw [stp_cons] at h
    by_cases h4 : knd (opn t) = 4
    · rw [if_pos h4] at h
      cases hs : stp (getR (opn t) y) ys with
      | none => rw [hs] at h; simp at h
      | some p =>
        obtain ⟨l0, e0⟩ := p
        rw [hs] at h
        obtain ⟨rfl, rfl⟩ : (opn t, y) :: l0 = l ∧ e0 = e := by simpa using h
        have := stp_len ys _ l0 e0 hs
        simp [this]
    · rw [if_neg h4] at h; simp at h
/-- What lies along a way: arrays, each of which fits and is no more than the value. -/
theorem stp_mem : ∀ (ys : List Ky) (t : Tr) (l : List (Tr × Ky)) (e : Tr), fits t → stp t ys = some (l, e) → fits e ∧ ∀ p ∈ l, knd p.1 = 4 ∧ fits p.1 ∧ p.2 ∈ ys
  | [], t, l, e, hf, h => by
    obtain ⟨rfl, rfl⟩ : [] = l ∧ t = e := by simpa [stp] using h
    exact ⟨hf, fun p hp => by cases hp⟩
  | y :: ys, t, l, e, hf, h => by
    rw [stp_cons] at h
    by_cases h4 : knd (opn t) = 4
    · rw [if_pos h4] at h
      cases hs : stp (getR (opn t) y) ys with
      | none => rw [hs] at h; simp at h
      | some p =>
        obtain ⟨l0, e0⟩ := p
        rw [hs] at h
        obtain ⟨rfl, rfl⟩ : (opn t, y) :: l0 = l ∧ e0 = e := by simpa using h
        obtain ⟨a, b⟩ := stp_mem ys _ l0 e0 (fits_getR (fits_opn hf) y) hs
        refine ⟨a, fun p hp => ?_⟩
        rcases List.mem_cons.1 hp with rfl | hp
        · exact ⟨h4, fits_opn hf, by simp⟩
        · obtain ⟨b1, b2, b3⟩ := b p hp
          exact ⟨b1, b2, List.mem_cons_of_mem _ b3⟩
    · rw [if_neg h4] at h; simp at h
theorem wgt_rew : ∀ (l : List (Tr × Ky)) (u : Tr), (∀ p ∈ l, knd p.1 = 4 ∧ fits p.1) → l.length + wgt u ≤ wgt (rew l u)
  | [], u, _ => by simp [rew]
  | p :: l, u, h => by
    obtain ⟨h1, h2⟩ := h p (by simp)
    have ih := wgt_rew l u fun q hq => h q (List.mem_cons_of_mem _ hq)
    have := wgt_setT h2 h1 p.2 (rew l u)
    rw [rew_cons]
    simp
    omega
/-- Writing with the limit of weight. -/
def putP (t : Tr) (ys : List Ky) (push : Bool) (u : Tr) : Tr × Int :=
  if (setP t ys push u).2 = 0 then (if wgt (setP t ys push u).1 ≤ 200 then ((setP t ys push u).1, 0) else (t, 9)) else (t, (setP t ys push u).2)
theorem pushP_null (u : Tr) : pushP nullT u = (setT arrT (pky arrT) u, 0) := rfl
/-- Keys behind the two hundredth change nothing. -/
theorem putP_take (t : Tr) (ys : List Ky) (push : Bool) (u : Tr) (hf : fits t) (hw : wgt t ≤ 200) : putP t ys push u = putP t (ys.take 200) push u := by
  by_cases hl : ys.length ≤ 200
  · rw [List.take_of_length_le hl]
  · have hz : (ys.take 200).length = 200 := by rw [List.length_take]; omega
    have hs : ys.take 200 ++ ys.drop 200 = ys := List.take_append_drop 200 ys
    have far : ∀ (zs : List Ky) (l : List (Tr × Ky)), 200 ≤ zs.length → stp t zs = some (l, nullT) → putP t zs push u = (t, 9) := fun zs l hz h => by
      obtain ⟨-, b⟩ := setP_stp zs t push u
      have hm := stp_mem zs t l nullT hf h
      have hn := stp_len zs t l nullT h
      obtain ⟨b1, b2⟩ := b l nullT h
      have key : ∃ x, setP t zs push u = (rew l x, 0) := by
        cases push with
        | false => exact ⟨u, b1 rfl⟩
        | true => exact ⟨_, (b2 rfl).1 rfl⟩
      obtain ⟨x, hx⟩ := key
      have hg := wgt_rew l x fun p hp => ⟨(hm.2 p hp).1, (hm.2 p hp).2.1⟩
      have := wgt_pos x
      unfold putP
      rw [hx, if_pos rfl, if_neg (by show ¬ wgt (rew l x) ≤ 200; omega)]
    cases h : stp t (ys.take 200) with
    | none =>
      have h2 := stp_stop (zs := ys.drop 200) h
      rw [hs] at h2
      have e1 := (setP_stp ys t push u).1 h2
      have e2 := (setP_stp (ys.take 200) t push u).1 h
      unfold putP
      rw [e1, e2]
      rfl
    | some p =>
      obtain ⟨l, e⟩ := p
      obtain rfl := stp_end _ t l e (by rw [hz]; exact hw) h
      obtain ⟨l', h2, -⟩ := stp_far (ys.drop 200) t _ l h
      rw [hs] at h2
      rw [far _ _ (by omega) h, far _ _ (by omega) h2]

theorem cnts_setq : ∀ (vs : List Tr) (i : Nat) (u r : Tr), vs[i]? = some u → cnts (vs.set i r) + cnt u = cnts vs + cnt r
  | t :: vs, 0, u, r, h => by
    obtain rfl : t = u := by simpa using h
    rw [List.set_cons_zero, cnts_cons', cnts_cons']; omega
  | t :: vs, i + 1, u, r, h => by
    have := cnts_setq vs i u r (by simpa using h)
    rw [List.set_cons_succ, cnts_cons', cnts_cons']; omega
theorem tots_setq : ∀ (ks : List Ky) (vs : List Tr) (i : Nat) (u r : Tr), ks.length = vs.length → vs[i]? = some u → tots ks (vs.set i r) + tot u = tots ks vs + tot r
  | _, [], i, u, r, hl, h => by simp at h
  | [], t :: vs, i, u, r, hl, h => by simp at hl
  | y :: ks, t :: vs, 0, u, r, hl, h => by
    obtain rfl : t = u := by simpa using h
    rw [List.set_cons_zero, tots_cons, tots_cons]; omega
  | y :: ks, t :: vs, i + 1, u, r, hl, h => by
    have := tots_setq ks vs i u r (by simpa using hl) (by simpa using h)
    rw [List.set_cons_succ, tots_cons, tots_cons]; omega
/-- How large a value is behind a setting. -/
theorem setT_size {t : Tr} (hf : fits t) (y : Ky) (r : Tr) : (cnt (setT t y r) + cnt (getR t y) ≤ cnt t + cnt r + 1) ∧ tot (setT t y r) + tot (getR t y) ≤ tot t + tot r + (1 + y.str.size) := by
  obtain ⟨k, n, s, x, ks, vs⟩ := t
  rw [fits] at hf
  rcases posV_cases k n s x ks vs y with hp | ⟨i, hp, hi, rfl⟩
  · have e : getR (.mk k n s x ks vs) y = nullT := by unfold getR; rw [getT_none hp]; rfl
    have h2 := tots_append ks vs y r hf.1
    rw [setT_none hp, e]
    unfold nullT
    rw [cnt_mk', cnt_mk', cnt_mk', cnts_append, cnts_cons', cnts_nil, tot_mk, tot_mk, tot_mk, h2, List.length_append]
    simp [tots]
    have h0 : (⟨#[]⟩ : ByteArray).size = 0 := rfl
    omega
  · obtain ⟨u, hu⟩ : ∃ u, vs[i]? = some u := ⟨_, List.getElem?_eq_getElem (by omega)⟩
    have e : getR (.mk 4 n s x ks vs) y = u := by unfold getR; rw [getT_some hp, hu]; rfl
    have h1 := cnts_setq vs i u r hu
    have h2 := tots_setq ks vs i u r hf.1 hu
    rw [setT_some hp, e, cnt_mk', cnt_mk', tot_mk, tot_mk, List.length_set]
    omega
def ktot : List Ky → Nat
  | [] => 0
  | y :: ys => 1 + y.str.size + ktot ys
theorem cnt_opn (t : Tr) : cnt (opn t) ≤ cnt t ∧ tot (opn t) ≤ tot t := by
  obtain ⟨k, n, s, x, ks, vs⟩ := t
  unfold opn
  split
  · unfold arrT
    rw [cnt_mk', cnt_mk', tot_mk, tot_mk, cnts_nil]
    have h0 : (⟨#[]⟩ : ByteArray).size = 0 := rfl
    simp [tots]
    omega
  · exact ⟨Nat.le_refl _, Nat.le_refl _⟩
theorem push_size {e : Tr} (hf : fits e) (u : Tr) (h : (pushP e u).2 = 0) : cnt (pushP e u).1 ≤ cnt e + cnt u ∧ tot (pushP e u).1 ≤ tot e + tot u + 1 := by
  have ho := cnt_opn e
  unfold pushP at h ⊢
  by_cases h4 : knd (opn e) = 4
  · rw [if_pos h4] at h ⊢
    by_cases hi : nums.inr (nex (opn e)) 0 1000000000 = true
    · rw [if_pos hi]
      have h1 := setT_cnt (opn e) (pky (opn e)) u
      have h2 := setT_tot (opn e) (pky (opn e)) u (fits_opn hf)
      have h3 : (pky (opn e)).str.size = 0 := rfl
      show cnt (setT _ _ _) ≤ _ ∧ tot (setT _ _ _) ≤ _
      omega
    · rw [if_neg hi] at h; cases h
  · rw [if_neg h4] at h; cases h
/-- How large a value is that was written. -/
theorem setP_size : ∀ (ys : List Ky) (t : Tr) (push : Bool) (u : Tr), fits t → (setP t ys push u).2 = 0 → cnt (setP t ys push u).1 ≤ cnt t + cnt u + ys.length ∧ tot (setP t ys push u).1 ≤ tot t + tot u + ktot ys + 1
  | [], t, push, u, hf, h => by
    rw [setP_nil] at h ⊢
    cases push with
    | false => simp; omega
    | true =>
      rw [if_pos rfl] at h ⊢
      have := push_size hf u h
      show cnt (pushP t u).1 ≤ _ ∧ tot (pushP t u).1 ≤ _
      simp
      omega
  | y :: ys, t, push, u, hf, h => by
    have ho := cnt_opn t
    rw [setP_cons] at h ⊢
    by_cases h4 : knd (opn t) = 4
    · rw [if_pos h4] at h ⊢
      by_cases h0 : (setP (getR (opn t) y) ys push u).2 = 0
      · rw [if_pos h0]
        have ih := setP_size ys _ push u (fits_getR (fits_opn hf) y) h0
        have hs := setT_size (fits_opn hf) y (setP (getR (opn t) y) ys push u).1
        show cnt (setT _ _ _) ≤ _ ∧ tot (setT _ _ _) ≤ _
        rw [ktot, List.length_cons]
        omega
      · rw [if_neg h0] at h; exact absurd h h0
    · rw [if_neg h4] at h; cases h
theorem fits_setT {t : Tr} (hf : fits t) (y : Ky) {u : Tr} (hu : fits u) : fits (setT t y u) := by
  obtain ⟨k, n, s, x, ks, vs⟩ := t
  rw [fits] at hf
  have hm : ∀ a ∈ vs, fits a := fun a ha => fitss_mem hf.2 ha
  rcases posV_cases k n s x ks vs y with hp | ⟨i, hp, hi, rfl⟩
  · rw [setT_none hp, fits]
    refine ⟨by simp [hf.1], fitss_of fun a ha => ?_⟩
    rcases List.mem_append.1 ha with ha | ha
    · exact hm a ha
    · obtain rfl := List.mem_singleton.1 ha; exact hu
  · rw [setT_some hp, fits]
    refine ⟨by simp [hf.1], fitss_of fun a ha => ?_⟩
    rcases List.mem_or_eq_of_mem_set ha with ha | rfl
    · exact hm a ha
    · exact hu
theorem cnts_erase : ∀ (vs : List Tr) (i : Nat), cnts (vs.eraseIdx i) ≤ cnts vs
  | [], i => by simp
  | t :: vs, 0 => by rw [List.eraseIdx_cons_zero, cnts_cons']; omega
  | t :: vs, i + 1 => by
    have := cnts_erase vs i
    rw [List.eraseIdx_cons_succ, cnts_cons', cnts_cons']
    omega
theorem tots_erase : ∀ (ks : List Ky) (vs : List Tr) (i : Nat), ks.length = vs.length → tots (ks.eraseIdx i) (vs.eraseIdx i) ≤ tots ks vs
  | [], [], i, _ => by simp
  | y :: ks, t :: vs, 0, _ => by rw [List.eraseIdx_cons_zero, List.eraseIdx_cons_zero, tots_cons]; omega
  | y :: ks, t :: vs, i + 1, h => by
    have := tots_erase ks vs i (by simpa using h)
    rw [List.eraseIdx_cons_succ, List.eraseIdx_cons_succ, tots_cons, tots_cons]
    omega
theorem del_size {t : Tr} (hf : fits t) (y : Ky) : cnt (delT t y) ≤ cnt t ∧ tot (delT t y) ≤ tot t := by
  obtain ⟨k, n, s, x, ks, vs⟩ := t
  rw [fits] at hf
  rcases posV_cases k n s x ks vs y with hp | ⟨i, hp, hi, rfl⟩
  · rw [delT_none hp]; exact ⟨Nat.le_refl _, Nat.le_refl _⟩
  · have h1 := cnts_erase vs i
    have h2 := tots_erase ks vs i hf.1
    have h3 : (vs.eraseIdx i).length ≤ vs.length := by rw [List.length_eraseIdx]; split <;> omega
    rw [delT_some hp, cnt_mk', cnt_mk', tot_mk, tot_mk]
    omega
theorem setT_sizeB {t : Tr} (hf : fits t) (y : Ky) (r : Tr) (hb : getB t y = true) : (cnt (setT t y r) + cnt (getR t y) ≤ cnt t + cnt r) ∧ tot (setT t y r) + tot (getR t y) ≤ tot t + tot r := by
  obtain ⟨k, n, s, x, ks, vs⟩ := t
  rw [fits] at hf
  rcases posV_cases k n s x ks vs y with hp | ⟨i, hp, hi, rfl⟩
  · unfold getB at hb; rw [getT_none hp] at hb; cases hb
  · obtain ⟨u, hu⟩ : ∃ u, vs[i]? = some u := ⟨_, List.getElem?_eq_getElem (by omega)⟩
    have e : getR (.mk 4 n s x ks vs) y = u := by unfold getR; rw [getT_some hp, hu]; rfl
    have h1 := cnts_setq vs i u r hu
    have h2 := tots_setq ks vs i u r hf.1 hu
    rw [setT_some hp, e, cnt_mk', cnt_mk', tot_mk, tot_mk, List.length_set]
    omega
theorem delP_size : ∀ (ys : List Ky) (t : Tr), fits t → cnt (delP t ys) ≤ cnt t ∧ tot (delP t ys) ≤ tot t
  | [], t, hf => ⟨Nat.le_refl _, Nat.le_refl _⟩
  | [y], t, hf => del_size hf y
  | y :: z :: ys, t, hf => by
    rw [delP_two]
    by_cases hb : getB t y = true
    · rw [if_pos hb]
      have ih := delP_size (z :: ys) _ (fits_getR hf y)
      have hs := setT_sizeB hf y (delP (getR t y) (z :: ys)) hb
      omega
    · rw [if_neg hb]; exact ⟨Nat.le_refl _, Nat.le_refl _⟩

end Go.Proofs.YtbgffmiffmmohaaGreatDoor.tree

/-
  Keys in a row that a call has made.
  Conditions: those that each theorem names.
-/
namespace Go.Proofs.YtbgffmiffmmohaaGreatDoor.tree
open Go.ChangeShapes Go.WideShapes Go.ChangeAt Go.RowKit
set_option linter.unusedVariables false

/-- The cells of keys. -/
def kcs : List Ky → List Value
  | [] => []
  | y :: ks => .bool y.text :: .int .i64 y.num :: .string y.str :: kcs ks
theorem kcs_len : ∀ ks, (kcs ks).length = ks.length * 3
  | [] => rfl
  | y :: ks => by rw [kcs]; simp only [List.length_cons, kcs_len ks]; omega
theorem kcs_get : ∀ (ks : List Ky) (i : Nat) (y : Ky), ks[i]? = some y → ∀ q, q < 3 → (kcs ks)[i * 3 + q]? = (#[.bool y.text, .int .i64 y.num, .string y.str] : Array Value)[q]?
  | [], i, y, h, _, _ => by simp at h
  | y0 :: ks, 0, y, h, q, hq => by
    obtain rfl : y0 = y := by simpa using h
    rw [kcs]
    match q, hq with
    | 0, _ => rfl
    | 1, _ => rfl
    | 2, _ => rfl
  | y0 :: ks, i + 1, y, h, q, hq => by
    have := kcs_get ks i y (by simpa using h) q hq
    rw [kcs, show (i + 1) * 3 + q = (i * 3 + q) + 1 + 1 + 1 by omega, List.getElem?_cons_succ, List.getElem?_cons_succ, List.getElem?_cons_succ]
    exact this
theorem kcs_append : ∀ a b, kcs (a ++ b) = kcs a ++ kcs b
  | [], b => rfl
  | y :: a, b => by rw [List.cons_append, kcs, kcs, kcs_append a b]; rfl
/-- Keys of Go's type. -/
def okK (ks : List Ky) : Prop := ∀ y ∈ ks, I64 y.num ∧ y.str.size ≤ maxLen

/-- A row of the call's own holds the keys. -/
def KRow (w : World) (lo : Nat) (v : Value) (ks : List Ky) : Prop := w.ownsRow lo IK 3 v ks.length (kcs ks)
theorem KRow.below {w w' : World} {lo : Nat} {v : Value} {ks : List Ky} (h : KRow w lo v ks) (hb : Below w.heap.size w w') : KRow w' lo v ks := World.ownsRow.kept h (mem.none_of_below hb) ownBlock_keep
theorem KRow.lo {w : World} {lo lo' : Nat} {v : Value} {ks : List Ky} (h : KRow w lo v ks) (hl : lo' ≤ lo) : KRow w lo' v ks := by
  obtain ⟨h1, h2⟩ := h
  refine ⟨h1, ?_⟩
  rcases h2 with h | ⟨g, cap, cur, e, hg, hr⟩
  · exact .inl h
  · exact .inr ⟨g, cap, cur, e, by omega, hr⟩
theorem KRow.blk {w w' : World} {lo : Nat} {v : Value} {ks : List Ky} (h : KRow w lo v ks) (hs : ∀ b, v.ownBlock = some b → lo ≤ b → b < w.heap.size → w'.heap[b]? = w.heap[b]?) : KRow w' lo v ks := by
  obtain ⟨h1, h2⟩ := h
  refine ⟨h1, ?_⟩
  rcases h2 with h | ⟨g, cap, cur, rfl, hlo, hg, hr⟩
  · exact .inl h
  · exact .inr ⟨g, cap, cur, rfl, hlo, (hs g rfl hlo (Array.getElem?_eq_some_iff.1 hg).1).trans hg, hr⟩
theorem KRow.own {w : World} {lo : Nat} {v : Value} {ks : List Ky} (h : KRow w lo v ks) : ∀ b, v.ownBlock = some b → lo ≤ b ∧ b < w.heap.size := World.ownsRow.lt h
/-- A row of keys as a slice: its cells. -/
theorem KRow.out {w : World} {lo : Nat} {v : Value} {ks : List Ky} (h : KRow w lo v ks) : ∃ A c, v = .slice A ks.length c ∧ (ks.length ≤ c ∧ c ≤ maxLen) ∧ ∀ i y, ks[i]? = some y → ∃ g cur, A = some ⟨g, 0, none⟩ ∧ lo ≤ g ∧ w.heap[g]? = some (.cells cur IK (0, 0)) ∧ cur.size = c * 3 ∧
    ∀ q, q < 3 → cur[i * 3 + q]? = (#[.bool y.text, .int .i64 y.num, .string y.str] : Array Value)[q]? := by
  obtain ⟨h1, h2⟩ := h
  rcases h2 with ⟨rfl, h0⟩ | ⟨g, cap, cur, rfl, hlo, hg, hnc, hcm, hsz, htk⟩
  · rw [h0]
    exact ⟨none, 0, rfl, ⟨Nat.le_refl _, Nat.zero_le _⟩, fun i y hy => by
      have := (List.getElem?_eq_some_iff.1 hy).1
      omega⟩
  · refine ⟨some ⟨g, 0, none⟩, cap, rfl, ⟨hnc, hcm⟩, fun i y hy => ⟨g, cur, rfl, hlo, hg, hsz, fun q hq => ?_⟩⟩
    have hi := (List.getElem?_eq_some_iff.1 hy).1
    rw [← kcs_get ks i y hy q hq, ← htk, List.getElem?_take_of_lt (by omega), Array.getElem?_toList]

theorem ik_info : ∃ i, Tryz.prog.info? IK = some i ∧ (i.zero = some (.agg #[.bool false, .int .i64 0, .string ⟨#[]⟩]) ∧ i.size = 3 ∧ i.bytes = 32) := by
  have : (Tryz.prog.info? IK).map (fun i => (i.zero, i.size, i.bytes)) = some (some (.agg #[.bool false, .int .i64 0, .string ⟨#[]⟩]), 3, 32) := by kernel_rfl
  cases hq : Tryz.prog.info? IK with
  | none => rw [hq] at this; cases this
  | some i => rw [hq] at this; simp at this; exact ⟨i, rfl, this⟩
theorem three_one (b : Bool) (n : Int) (s : ByteArray) : ∀ u ∈ [Value.bool b, .int .i64 n, .string s], u.oneCell' = true := by simp [Value.oneCell']
theorem three_new (w : World) (c0 c1 c2 : Value) (t : TypeId) : ∀ j u, [c0, c1, c2][j]? = some u → (w.alloc (.cells #[c0, c1, c2] t)).cell? ((⟨w.heap.size, 0, none⟩ : Addr).add j) = some u := by
  intro j u hj
  rw [Addr.add_lit, Nat.zero_add, cell_of_row _ _ j _ t _ (heap_alloc_new w _)]
  simpa using hj

/-- The keys of a value. -/
def keysT : Tr → List Ky
  | .mk k _ _ _ ks _ => if k = 4 then ks else []
def KsQ (w : World) (ks : List Ky) (e : Ending) (w' : World) : Prop := ∃ v, e = .returned v ∧ KRow w' w.heap.size v ks ∧ Below w.heap.size w w'

end Go.Proofs.YtbgffmiffmmohaaGreatDoor.tree

/-
  The laws' comparison and marks of keys in a row.
  Conditions: those that each theorem names.
-/
namespace Go.Proofs.YtbgffmiffmmohaaGreatDoor.tree
open Go.ChangeShapes Go.WideShapes Go.ChangeAt Go.RowKit
set_option linter.unusedVariables false

theorem kcs_of {xs : List Value} {ks : List Ky} (hl : xs.length = ks.length * 3) (h : ∀ i y, ks[i]? = some y → ∀ q, q < 3 → xs[i * 3 + q]? = (#[.bool y.text, .int .i64 y.num, .string y.str] : Array Value)[q]?) : xs = kcs ks := by
  refine List.ext_getElem? fun p => ?_
  by_cases hp : p < ks.length * 3
  · have hi : p / 3 < ks.length := by omega
    have e : p / 3 * 3 + p % 3 = p := by omega
    have h1 := h (p / 3) ks[p / 3] (List.getElem?_eq_getElem hi) (p % 3) (by omega)
    have h2 := kcs_get ks (p / 3) ks[p / 3] (List.getElem?_eq_getElem hi) (p % 3) (by omega)
    rw [e] at h1 h2
    rw [h1, h2]
  · rw [List.getElem?_eq_none (by omega), List.getElem?_eq_none (by rw [kcs_len]; omega)]

/-- A row of keys: nothing, or a block. -/
theorem KRow.cases {w : World} {lo : Nat} {v : Value} {ks : List Ky} (h : KRow w lo v ks) : (v = .slice none 0 0 ∧ ks = []) ∨ ∃ g c cur, v = .slice (some ⟨g, 0, none⟩) ks.length c ∧ lo ≤ g ∧ w.heap[g]? = some (.cells cur IK (0, 0)) ∧ ks.length ≤ c ∧ c ≤ maxLen ∧ cur.size = c * 3 ∧
    ∀ i y, ks[i]? = some y → ∀ q, q < 3 → cur[i * 3 + q]? = (#[.bool y.text, .int .i64 y.num, .string y.str] : Array Value)[q]? := by
  obtain ⟨h1, h2⟩ := h
  rcases h2 with ⟨rfl, h0⟩ | ⟨g, cap, cur, rfl, hlo, hg, hnc, hcm, hsz, htk⟩
  · exact .inl ⟨rfl, List.eq_nil_of_length_eq_zero h0⟩
  · refine .inr ⟨g, cap, cur, rfl, hlo, hg, hnc, hcm, hsz, fun i y hy q hq => ?_⟩
    have hi := (List.getElem?_eq_some_iff.1 hy).1
    rw [← kcs_get ks i y hy q hq, ← htk, List.getElem?_take_of_lt (by omega), Array.getElem?_toList]
theorem KRow.of {w : World} {lo g c : Nat} {ks : List Ky} {cur : Array Value} (hlo : lo ≤ g) (hg : w.heap[g]? = some (.cells cur IK (0, 0))) (hn : ks.length ≤ c) (hc : c ≤ maxLen) (hs : cur.size = c * 3)
    (h : ∀ i y, ks[i]? = some y → ∀ q, q < 3 → cur[i * 3 + q]? = (#[.bool y.text, .int .i64 y.num, .string y.str] : Array Value)[q]?) : KRow w lo (.slice (some ⟨g, 0, none⟩) ks.length c) ks := by
  refine ⟨kcs_len ks, .inr ⟨g, c, cur, rfl, hlo, hg, hn, hc, hs, ?_⟩⟩
  rw [← Array.length_toList] at hs
  refine kcs_of (by rw [List.length_take]; omega) fun i y hy q hq => ?_
  have hi := (List.getElem?_eq_some_iff.1 hy).1
  rw [List.getElem?_take_of_lt (by omega), Array.getElem?_toList]
  exact h i y hy q hq

set_option maxRecDepth 100000 in
set_option maxHeartbeats 1600000 in
theorem eqKeyS (ks : List Ky) (hm : ks.length ≤ 1000000000) (w : World) (lo lo' : Nat) (v v' : Value) (h : KRow w lo v ks) (h' : KRow w lo' v' ks) : Calls Tryz.prog 41 #[v, v'] w (TrueQ w) := by
  obtain ⟨L, HL⟩ : ∃ L, Hid (L = ks.length) := ⟨_, Lib.hid rfl⟩
  obtain ⟨A, c, rfl, -, ha⟩ := h.out
  obtain ⟨A', c', rfl, -, ha'⟩ := h'.out
  have HA := Lib.hid ha
  have HA' := Lib.hid ha'
  rw [← HL.out] at hm ⊢
  clear h h' ha ha'
  go_enter Tryz.func41, Tryz.ntmps41
  go_wp2_with (fail)
  go_loopg [5] (L + 1) (fun gk i wr => ∃ j : Nat, i = .int .i64 j ∧ gk + j = L + 1 ∧ j ≤ L ∧ Below w.heap.size w wr)
  case atStart => exact ⟨0, rfl, by omega, by omega, Below.refl _ _⟩
  case round =>
    obtain ⟨j, rfl, hgj, hjL, hb⟩ := hrel
    have HB := Lib.hid hb
    clear hb
    by_cases hlt : j < L
    · obtain ⟨y, hy⟩ : ∃ y, ks[j]? = some y := ⟨_, List.getElem?_eq_getElem (by rw [← HL.out]; exact hlt)⟩
      obtain ⟨g, cur, rfl, -, hg, -, hc⟩ := HA.out j y hy
      obtain ⟨g', cur', rfl, -, hg', -, hc'⟩ := HA'.out j y hy
      obtain ⟨r, f⟩ := rowc (carry HB.out hg)
      obtain ⟨r', f'⟩ := rowc (carry HB.out hg')
      have EQ := eqKey y
      obtain ⟨yb, yn, ys⟩ := y
      have p0 := (r _).trans (hc 0 (by omega))
      have p1 := (r _).trans (hc 1 (by omega))
      have p2 := (r _).trans (hc 2 (by omega))
      have q0 := (r' _).trans (hc' 0 (by omega))
      have q1 := (r' _).trans (hc' 1 (by omega))
      have q2 := (r' _).trans (hc' 2 (by omega))
      rw [Nat.add_zero] at p0 q0
      simp only [List.getElem?_toArray, List.getElem?_cons_zero, List.getElem?_cons_succ] at p0 p1 p2 q0 q1 q2
      unfold kyV at EQ
      clear r r' f f' hc hc' hg hg' hy
      go_wp2_with (fail)
      go_region_with ((go_at_call 112; refine (EQ _).mono ?_; rintro e w1 ⟨rfl, hb1⟩; have HB1 := Lib.hid hb1; clear hb1))
      all_goals
        go_wp2_with (fail)
        go_roundg (L - j)
        case rel => exact ⟨j + 1, by go_num, by omega, by omega, bs (bs HB.out ((Below.refl _ _).drew)) HB1.out⟩
        case measure => omega
    · go_wp2_with (fail)
      go_ret
      exact ⟨rfl, HB.out⟩

/-- Keys with marks. -/
def kmk (m : Int) (n : Nat) : List Ky := (List.range n).map fun i : Nat => mkY (m + 3 * (i : Int))
theorem kmk_len (m : Int) (n : Nat) : (kmk m n).length = n := by simp [kmk]
theorem kmk_get (m : Int) (n i : Nat) (h : i < n) : (kmk m n)[i]? = some (mkY (m + 3 * i)) := by
  unfold kmk
  rw [List.getElem?_map, List.getElem?_range h]
  rfl


end Go.Proofs.YtbgffmiffmmohaaGreatDoor.tree

/-
  A list of keys that is read: where it came in, or a row of a call's own, or what is left of it.
  Conditions: those that each theorem names.
-/
namespace Go.Proofs.YtbgffmiffmmohaaGreatDoor.tree
open Go.ChangeShapes Go.WideShapes Go.ChangeAt Go.RowKit mem
set_option linter.unusedVariables false

/-- A key's three cells at a place. -/
structure At3 (w : World) (a : Addr) (y : Ky) : Prop where
  c0 : w.cell? a = some (.bool y.text)
  c1 : w.cell? ⟨a.block, a.off + 1, none⟩ = some (.int .i64 y.num)
  c2 : w.cell? ⟨a.block, a.off + 2, none⟩ = some (.string y.str)
theorem At3.below {w w' : World} {a : Addr} {y : Ky} (h : At3 w a y) (hb : Below w.heap.size w w') : At3 w' a y :=
  ⟨cell_stays (fun hl => hb.block _ hl) h.c0, cell_stays (a := ⟨a.block, _, none⟩) (fun hl => hb.block _ hl) h.c1, cell_stays (a := ⟨a.block, _, none⟩) (fun hl => hb.block _ hl) h.c2⟩
/-- The keys at A. -/
def KIn (w : World) (ys : List Ky) (A : Option Addr) : Prop := ∀ (i : Nat) (y : Ky), ys[i]? = some y → ∃ a, A = some a ∧ (I64 y.num ∧ y.str.size ≤ maxLen) ∧ At3 w (a.add (i * 3)) y
theorem KIn.below {w w' : World} {ys : List Ky} {A : Option Addr} (h : KIn w ys A) (hb : Below w.heap.size w w') : KIn w' ys A := fun i y hy => by
  obtain ⟨a, e, h1, h2⟩ := h i y hy
  exact ⟨a, e, h1, h2.below hb⟩
theorem KIn.nil (w : World) (A : Option Addr) : KIn w [] A := fun i y h => by simp at h
theorem KIn.tail {w : World} {y : Ky} {ys : List Ky} {a : Addr} (h : KIn w (y :: ys) (some a)) : KIn w ys (some (a.add 3)) := fun i z hz => by
  obtain ⟨b, e, h1, h2⟩ := h (i + 1) z (by simpa using hz)
  obtain rfl := Option.some.inj e
  refine ⟨_, rfl, h1, ?_⟩
  rw [add_add', show 3 + i * 3 = (i + 1) * 3 by omega]
  exact h2
theorem KIn.take {w : World} {ys : List Ky} {A : Option Addr} (h : KIn w ys A) (n : Nat) : KIn w (ys.take n) A := fun i y hy => by
  rw [List.getElem?_take] at hy
  split at hy
  · exact h i y hy
  · cases hy
theorem KIn.ok {w : World} {ys : List Ky} {A : Option Addr} (h : KIn w ys A) : okK ys := fun y hy => by
  obtain ⟨i, hi⟩ := List.mem_iff_getElem?.1 hy
  obtain ⟨_, _, h1, _⟩ := h i y hi
  exact h1
theorem KRow.kin {w : World} {lo : Nat} {v : Value} {ys : List Ky} (h : KRow w lo v ys) (hk : okK ys) : ∃ A c, v = .slice A ys.length c ∧ (ys.length ≤ c ∧ c ≤ maxLen) ∧ KIn w ys A := by
  obtain ⟨A, c, e, hc, hcell⟩ := h.out
  refine ⟨A, c, e, hc, fun i y hy => ?_⟩
  obtain ⟨g, cur, rfl, -, hg, hcs, hq⟩ := hcell i y hy
  refine ⟨_, rfl, hk y (List.mem_of_getElem? hy), ?_⟩
  have hr := (rowc hg).1
  have e0 : (⟨g, 0, none⟩ : Addr).add (i * 3) = ⟨g, i * 3, none⟩ := by
    rcases Nat.eq_zero_or_pos (i * 3) with h0 | h0
    · rw [h0]; rfl
    · rw [add_pos _ _ (by omega)]; simp
  rw [e0]
  exact ⟨(hr _).trans (hq 0 (by omega)), (hr _).trans (hq 1 (by omega)), (hr _).trans (hq 2 (by omega))⟩

section
variable {H : Type} {enc : TypeId × Value → H} {P : Program} {w : World} {base : Nat} {spare : Nat → Bool} {held : Bool}
theorem open_kyS {tV tE tK tS tKS : TypeId} (T : Types P tV tE tK tS) (hKS : P.underlying tKS = some (.slice tK)) {fuel : Nat} {c0 : Value} {x : DataW H × List MemPlace} (h : DataW.trod enc P w base spare held fuel tKS [c0] = some x) :
    ∃ A c ys, c0 = .slice A (List.length ys) c ∧ (ys.length ≤ c ∧ c ≤ maxLen) ∧ KIn w ys A := by
  rcases DataW.trod_slice hKS h with ⟨hc4, _⟩ | ⟨a, len, cap, elems, rest, m, hfm, hc4, _, hbs, hlc, hcm, hel, hat, _⟩
  · simp at hc4
    subst hc4
    exact ⟨none, 0, [], rfl, ⟨Nat.le_refl _, Nat.zero_le _⟩, KIn.nil _ _⟩
  · simp at hc4
    subst hc4
    have each : ∀ i, i < len → ∃ y : Ky, (I64 y.num ∧ y.str.size ≤ maxLen) ∧ At3 w (a.add (i * 3)) y := by
      intro i hi
      have hi2 := hat i hi
      rw [List.getElem?_eq_getElem (by omega)] at hi2
      obtain ⟨cs', hcs, htr⟩ := Option.bind_eq_some_iff.1 hi2
      rw [T.cK] at hcs
      obtain ⟨_, hcl, hcat⟩ := World.cells?_some hcs
      obtain ⟨y, rfl, hn, hy⟩ := tree.open_key T htr
      have at' : ∀ j, j < 3 → w.cell? (a.add (i * 3 + j)) = ([.bool y.text, .int .i64 y.num, .string y.str] : List Value)[j]? := fun j hj => by
        have := hcat j hj
        rwa [add_add'] at this
      have sp : ∀ j, j ≠ 0 → a.add (i * 3 + j) = ⟨(a.add (i * 3)).block, (a.add (i * 3)).off + j, none⟩ := fun j hj => by rw [← add_add', add_pos _ _ hj]
      exact ⟨y, ⟨hn, hy⟩, at' 0 (by omega), (congrArg w.cell? (sp 1 (by omega))).symm.trans (at' 1 (by omega)), (congrArg w.cell? (sp 2 (by omega))).symm.trans (at' 2 (by omega))⟩
    have hl : ((List.range len).map (fun i => if hi : i < len then (each i hi).choose else (⟨false, 0, ⟨#[]⟩⟩ : Ky))).length = len := by simp
    refine ⟨some a, cap, (List.range len).map (fun i => if hi : i < len then (each i hi).choose else (⟨false, 0, ⟨#[]⟩⟩ : Ky)), by rw [hl], ⟨by rw [hl]; exact hlc, hcm⟩, fun i t ht => ?_⟩
    rw [List.getElem?_map] at ht
    obtain ⟨i', hi', rfl⟩ := Option.map_eq_some_iff.1 ht
    have hil : i < len := by
      have := (List.getElem?_eq_some_iff.1 hi').1
      simpa using this
    rw [List.getElem?_range hil] at hi'
    obtain rfl := Option.some.inj hi'
    simp only [dif_pos hil]
    exact ⟨a, rfl, (each i hil).choose_spec⟩
end

set_option maxRecDepth 100000 in
theorem open_keys {H : Type} {enc : TypeId × Value → H} {W : World} {base : Nat} {v : Value} {d : DataW H} {ps : List MemPlace} (hval : Value.okWide Tryz.prog W .any base 62 v) (h : DataW.Trod enc Tryz.prog W 0 (fun _ => true) true 62 v d ps) :
    ∃ A c ys, v = .slice A (List.length ys) c ∧ (ys.length ≤ c ∧ c ≤ maxLen) ∧ KIn W ys A := by
  obtain ⟨A, n, c, rfl⟩ := okWide_slice Tryz.underlying62 hval
  obtain ⟨fuel, hf⟩ := h
  exact open_kyS opt.types Tryz.underlying62 hf

end Go.Proofs.YtbgffmiffmmohaaGreatDoor.tree

/-
  New blocks, and copies of lists of items, for setting a key.
  Conditions: those that each theorem names.
-/
namespace Go.Proofs.YtbgffmiffmmohaaGreatDoor.tree
open Go.ChangeShapes Go.WideShapes Go.ChangeAt Go.RowKit
set_option linter.unusedVariables false

/-- Four new blocks in a row. -/
theorem al4 (w : World) (c0 c1 c2 c3 : Array Value) (t0 t1 t2 t3 : TypeId) (W : World) (hW : W = (((w.alloc (.cells c0 t0)).alloc (.cells c1 t1)).alloc (.cells c2 t2)).alloc (.cells c3 t3)) :
    W.heap[w.heap.size]? = some (.cells c0 t0 (0, 0)) ∧ W.heap[w.heap.size + 1]? = some (.cells c1 t1 (0, 0)) ∧ W.heap[w.heap.size + 1 + 1]? = some (.cells c2 t2 (0, 0)) ∧ W.heap[w.heap.size + 1 + 1 + 1]? = some (.cells c3 t3 (0, 0)) ∧ W.heap.size = w.heap.size + 1 + 1 + 1 + 1 ∧ Below w.heap.size w W := by
  obtain ⟨h0, h1, h2, hs, hb⟩ := al3 w c0 c1 c2 t0 t1 t2
  subst hW
  have h3 := heap_alloc_new (((w.alloc (.cells c0 t0)).alloc (.cells c1 t1)).alloc (.cells c2 t2)) (.cells c3 t3)
  rw [hs] at h3
  exact ⟨keepAlloc h0, keepAlloc h1, keepAlloc h2, h3, by simp, hb.alloc hb.size _⟩

/-- The cells of a list of items, of none too. -/
theorem IsIn.cellsA {w : World} {S : Nat → Prop} {ks : List Ky} {vs : List Tr} {A : Option Addr} (h : IsIn w S ks vs A) :
    ∃ cs : List Value, cs.length = vs.length * 8 ∧ (∀ j v, cs[j]? = some v → ∃ a, A = some a ∧ w.cell? (a.add j) = some v) ∧ (∀ v ∈ cs, v.oneCell' = true) ∧
      ∀ i, i < vs.length → ∃ y k n s x ks' vs' A c, ks[i]? = some y ∧ vs[i]? = some (.mk k n s x ks' vs') ∧ (I64 y.num ∧ y.str.size ≤ maxLen) ∧ (I64 k ∧ I64 n ∧ I64 x ∧ s.size ≤ maxLen) ∧ xAt8 cs i y k n s x A vs'.length c ∧ TIn w S (.mk k n s x ks' vs') (vV k n s x A vs'.length c) := by
  cases A with
  | some a =>
    obtain ⟨cs, h1, h2, h3, h4⟩ := h.cells
    exact ⟨cs, h1, fun j v hv => ⟨a, rfl, h2 j v hv⟩, h3, h4⟩
  | none =>
    have h0 : vs.length = 0 := by
      rcases Nat.eq_zero_or_pos vs.length with h0 | h0
      · exact h0
      · obtain ⟨_, _, C, hc, -⟩ := h
        obtain ⟨a, ha, -⟩ := hc 0 h0
        cases ha
    exact ⟨[], by simp [h0], fun j v hv => by simp at hv, fun v hv => by simp at hv, fun i hi => by omega⟩

/-- 'copy' of items, of none too. -/
theorem run_copy_A {P : Program} (w : World) (dT sT ty elem : TypeId) (g dLen dCap : Nat) (A : Option Addr) (sLen sCap : Nat) (cur : Array Value) (t : TypeId) (cs : List Value) (n : Nat)
    (hu : P.underlying dT = some (.slice elem)) (hs : (P.info? elem).map (·.size) = some 8) (hg : w.heap[g]? = some (.cells cur t (0, 0))) (hn : n = Nat.min sLen dLen) (hl : cs.length = n * 8)
    (hsrc : ∀ j v, cs[j]? = some v → ∃ a, A = some a ∧ w.cell? (a.add j) = some v) (ho : cs.length ≤ cur.size) (h1 : ∀ v ∈ cs, v.oneCell' = true) (hA : A = none → sLen = 0) :
    (Builtin.copy_ #[dT, sT] ty #[.slice (some ⟨g, 0, none⟩) dLen dCap, .slice A sLen sCap]).run P w = .ok (goInt n) (w.setRow g (cs ++ cur.toList.drop cs.length).toArray) := by
  cases A with
  | some a =>
    have := run_copy_8 (P := P) w dT sT ty elem g 0 dLen dCap a sLen sCap cur t cs n hu hs hg hn hl (fun j v hv => by
      obtain ⟨a', e, h⟩ := hsrc j v hv
      obtain rfl := Option.some.inj e
      exact h) (by omega) h1
    simpa using this
  | none =>
    have h0 := hA rfl
    subst h0
    have hn0 : n = 0 := by rw [hn]; exact Nat.zero_min _
    subst hn0
    have hc : cs = [] := List.eq_nil_of_length_eq_zero (by omega)
    subst hc
    have e : w.setRow g ([] ++ cur.toList.drop ([] : List Value).length).toArray = w := by
      have := setRow_self w g cur t (0, 0) hg
      simpa using this
    rw [e]
    cases hq : P.info? elem with
    | none => simp [hq] at hs
    | some i =>
      have hi : i.size = 8 := by simpa [hq] using hs
      simp [Builtin.copy_, run_underlying hu, Builtin.lenOf, Builtin.firstCells, sizeOf, typeInfo, hq, storeCells]

end Go.Proofs.YtbgffmiffmmohaaGreatDoor.tree

/-
  An array with a value at a key, of the project: what is not the list of its items is shared with what came in.
  Conditions: the array holds at most 2^20 and two items; a new integer key lies within the integers that the document names.
-/
namespace Go.Proofs.YtbgffmiffmmohaaGreatDoor.tree
open Go.ChangeShapes Go.WideShapes Go.ChangeAt Go.RowKit
set_option linter.unusedVariables false

def OutN (w : World) (t : Tr) (e : Ending) (w' : World) : Prop := ∃ u, e = .returned u ∧ TIn w' (Nw 0 w') t u ∧ Below w.heap.size w w'
/-- Plain blocks but one. -/
def NoB (w : World) (q : Nat) (b : Nat) : Prop := Nw 0 w b ∧ b ≠ q
/-- Plain blocks of S, or new ones, but one. -/
def NoS (S : Nat → Prop) (P : Nat) (w : World) (q : Nat) (b : Nat) : Prop := (S b ∨ P ≤ b) ∧ Nw 0 w b ∧ b ≠ q
def OutG (w : World) (S : Nat → Prop) (t : Tr) (e : Ending) (w' : World) : Prop := ∃ u, e = .returned u ∧ TIn w' (fun b => (S b ∨ w.heap.size ≤ b) ∧ Nw 0 w' b) t u ∧ Below w.heap.size w w'

set_option maxRecDepth 100000 in
set_option maxHeartbeats 3200000 in
theorem withItem_g (t : Tr) (v : Value) (y : Ky) (u : Tr) (vu : Value) (w : World) (S : Nat → Prop) (hSN : ∀ b, S b → Nw 0 w b) (h : TIn w S t v) (hu : TIn w S u vu) (hy : I64 y.num ∧ y.str.size ≤ maxLen) (hk4 : ∀ k n s x ks vs, t = .mk k n s x ks vs → k = 4) (hN : cnt t ≤ 1048578) (hKB : posV t y = -1 → y.text = false → -1000000000 ≤ y.num ∧ y.num ≤ 1000000000) :
    Calls Tryz.prog 219 #[v, kyV y, vu] w (OutG w S (setT t y u)) := by
  have HSN := Lib.hid hSN
  clear hSN
  obtain ⟨k, n, s, x, ks, vs⟩ := t
  obtain rfl := hk4 _ _ _ _ _ _ rfl
  obtain ⟨ku, nu, su, xu, ksu, vsu⟩ := u
  obtain ⟨A, c, rfl, hk, hin⟩ := h.out
  obtain ⟨Au, cu, rfl, hku, hinu⟩ := hu.out
  have hcap := h.cap
  have FI := fun w' h => findKey_i (.mk 4 n s x ks vs) (vV 4 n s x A vs.length c) y w' S h
  obtain ⟨L, HL⟩ : ∃ L, Hid (vs.length = L) := ⟨_, Lib.hid rfl⟩
  obtain ⟨Lu, HLu⟩ : ∃ L, Hid (vsu.length = L) := ⟨_, Lib.hid rfl⟩
  have hm : L ≤ maxLen := by rw [← HL.out]; exact hin.2.1
  have HM := Lib.hid hm
  have hm3 : L ≤ 1048578 := by have := cnts_len vs; rw [cnt_mk'] at hN; rw [← HL.out]; omega
  have hkl : Hid (ks.length = L) := Lib.hid (by rw [← HL.out]; exact hin.1)
  have hcapH := Lib.hid hcap
  rw [HL.out] at h FI hcap
  rw [HLu.out] at hu
  have HT := Lib.hid h
  have HTu := Lib.hid hu
  have HI := Lib.hid hin
  have HF := Lib.hid FI
  have HK := Lib.hid hk
  have HY := Lib.hid hy
  clear h hu hin hN hcap hk FI hy hku hinu hm hk4
  rw [HL.out, HLu.out]
  obtain ⟨cs, hcl, hsrc, hone, hit⟩ := HI.out.cellsA
  rw [HL.out] at hcl hit
  have HCL := Lib.hid hcl
  have HSRC := Lib.hid hsrc
  have HONE := Lib.hid hone
  have HIT := Lib.hid hit
  have HAN : Hid (A = none → L = 0) := Lib.hid (fun e => by
    subst e
    rcases Nat.eq_zero_or_pos L with h0 | h0
    · exact h0
    · obtain ⟨_, _, C, hc, -⟩ := HI.out
      obtain ⟨a, ha, -⟩ := hc 0 (by rw [HL.out]; exact h0)
      cases ha)
  clear hcl hsrc hone hit
  have HLLc : Hid (L ≤ c) := Lib.hid (by have := hcapH.out.1; rw [HL.out] at this; exact this)
  rcases posV_cases 4 n s x ks vs y with hp | ⟨i, hp, hi, -⟩
  · have hKB2 := hKB hp
    rw [setT_none hp]
    rw [hp] at HF
    obtain ⟨X, HX⟩ : ∃ X, Hid (nxt x y = X) := ⟨_, Lib.hid rfl⟩
    rw [HX.out]
    clear hp hKB
    have HKB := Lib.hid hKB2
    clear hKB2
    obtain ⟨yb, yn, ys⟩ := y
    unfold kyV at HF ⊢
    go_enter Tryz.func219, Tryz.ntmps219
    go_wp2_with (fail)
    obtain ⟨a0, a1, a2, a3, az, ab⟩ := al4 w _ _ _ _ _ _ _ _ _ rfl
    refine (HF.out _ (HT.out.below' ab)).mono ?_
    rintro e w2 ⟨rfl, hb2⟩
    have A0 := Lib.hid (carry hb2 a0)
    have A1 := Lib.hid (carry hb2 a1)
    have A2 := Lib.hid (carry hb2 a2)
    have A3 := Lib.hid (carry hb2 a3)
    have HB1 := Lib.hid (bs ab hb2)
    clear a0 a1 a2 a3 az ab hb2
    have hg1 : w.heap.size ≤ w2.heap.size := HB1.out.size
    have hg2 : w.heap.size + 1 + 1 + 1 < w2.heap.size := (Array.getElem?_eq_some_iff.1 A3.out).1
    obtain ⟨i0, hi, hz⟩ := ie_info
    have hmk := run_make (P := Tryz.prog) w2 30 IE i0 _ Tryz.underlying30 hi hz.1 .i64 .i64 L ((L : Int) + 1) (by omega) (by omega) (by rw [hz.2.2]; omega) (by omega)
    rw [hz.2.1] at hmk
    rw [show ((L : Int) + 1).toNat = L + 1 by omega] at hmk
    simp only [Int.toNat_natCast] at hmk
    have hwr : IntKind.i64.wrap ((L : Int) + 1) = (L : Int) + 1 := by rw [IntKind.wrap_i64]; omega
    obtain ⟨arr0, HA⟩ : ∃ a, Hid (a = madeCells (Value.agg #[.bool false, .int .i64 0, .string ⟨#[]⟩, .int .i64 0, .int .i64 0, .string ⟨#[]⟩, .int .i64 0, .slice none 0 0]).cells ((L + 1) * 8)) := ⟨_, Lib.hid rfl⟩
    rw [← HA.out] at hmk
    have hsz0 : arr0.size = (L + 1) * 8 := by rw [HA.out, madeSize]
    have hie : (Tryz.prog.info? IE).map (·.size) = some 8 := by rw [hi]; exact congrArg some hz.2.1
    have hcl := HCL.out
    have hBX : Below w.heap.size w (w2.alloc (.cells arr0 IE)) := bs HB1.out (b1 w2 _)
    have hc1 := run_copy_A (P := Tryz.prog) (w2.alloc (.cells arr0 IE)) 30 30 3 IE w2.heap.size L (L + 1) A L c arr0 IE cs L Tryz.underlying30 hie (heap_alloc_new w2 _) (by simp) hcl
      (fun j v hv => by
        obtain ⟨a, e, h⟩ := HSRC.out j v hv
        exact ⟨a, e, cell_stays (fun hlt => hBX.block _ hlt) h⟩) (by rw [hcl, hsz0]; omega) HONE.out HAN.out
    obtain ⟨arr1, HA1⟩ : ∃ b, Hid (b = (cs ++ arr0.toList.drop cs.length).toArray) := ⟨_, Lib.hid rfl⟩
    rw [← HA1.out] at hc1
    obtain ⟨W, HW⟩ : ∃ W, Hid (W = (w2.alloc (.cells arr0 IE)).setRow w2.heap.size arr1) := ⟨_, Lib.hid rfl⟩
    rw [← HW.out] at hc1
    have hsz1 : arr1.size = (L + 1) * 8 := by rw [HA1.out]; simp [hcl, hsz0]; omega
    have hBW : Below w.heap.size w W := by rw [HW.out]; exact setRow_below hBX hg1 _
    have kp : ∀ {q : Nat} {o : Obj}, w2.heap[q]? = some o → W.heap[q]? = some o := fun {q o} hq => by
      have := (Array.getElem?_eq_some_iff.1 hq).1
      rw [HW.out, setRow_other (by omega)]
      exact keepAlloc hq
    have AGW : W.heap[w2.heap.size]? = some (.cells arr1 IE (0, 0)) := by rw [HW.out]; exact setRow_heap _ _ _ _ _ _ (heap_alloc_new w2 _)
    have A0W := kp A0.out
    have A2W := kp A2.out
    have A3W := kp A3.out
    have A1W := kp A1.out
    have hhs := heap_alloc_new w2 (.cells arr0 IE)
    obtain ⟨rm, fm⟩ := rowc (keepAlloc (o' := .cells arr0 IE) A0.out)
    obtain ⟨r0, f0⟩ := rowc A0.out
    obtain ⟨r0W, f0W⟩ := rowc A0W
    obtain ⟨r1W, f1W⟩ := rowc A1W
    have hnum := HKB.out
    try simp only at hnum
    -- the append
    obtain ⟨V, HV⟩ : ∃ V, Hid (V = W.alloc (.cells #[.bool yb, .int .i64 yn, .string ys, .int .i64 0, .int .i64 0, .string ⟨#[]⟩, .int .i64 0, .slice none 0 0] IE)) := ⟨_, Lib.hid rfl⟩
    have hVs : V.heap.size = W.heap.size + 1 := by rw [HV.out]; simp
    have hWs : w2.heap.size < W.heap.size := (Array.getElem?_eq_some_iff.1 AGW).1
    have hBV : Below w.heap.size w V := by rw [HV.out]; exact bs hBW (b1 W _)
    have kv : ∀ {q : Nat} {o : Obj}, W.heap[q]? = some o → V.heap[q]? = some o := fun {q o} hq => by rw [HV.out]; exact keepAlloc hq
    have own0 : V.ownsRow w2.heap.size IE 8 (.slice (some ⟨w2.heap.size, 0, none⟩) L (L + 1)) L cs := ⟨hcl, .inr ⟨w2.heap.size, L + 1, arr1, rfl, Nat.le_refl _, kv AGW, by omega, by have := HM.out; unfold maxLen; omega, hsz1, by rw [HA1.out]; simp [hcl]⟩⟩
    obtain ⟨v5, W5, hr1, own1, gb1, hn1⟩ := run_append_own (P := Tryz.prog) V w2.heap.size 30 30 IE i0 _ 8 96 Tryz.underlying30 hi hz.1 hz.2.1 hz.2.2 rfl (by decide) _ L cs own0 ⟨W.heap.size, 0, none⟩ 1 1 [.bool yb, .int .i64 yn, .string ys, .int .i64 0, .int .i64 0, .string ⟨#[]⟩, .int .i64 0, .slice none 0 0] rfl
      (by rw [HV.out]; exact eight_new _ _ _ _ _ _ _ _ _ _) (eight_one _ _ _ _ _ _ _ _ _ _) (by have := HM.out; unfold maxLen; omega) (by omega) (by omega)
    rcases own1.2 with ⟨rfl, h0⟩ | ⟨g5, c5, cur5, rfl, hb5, hg5, hnc5, hcm5, hcs5, htk5⟩
    · exact absurd h0 (by omega)
    have k5 : ∀ {q : Nat} {o : Obj}, q < w2.heap.size → W.heap[q]? = some o → W5.heap[q]? = some o := fun {q o} hlt hq => (gb1.block q (by omega) (fun e => by simp [Value.ownBlock] at e; omega)).trans (kv hq)
    have hB5 : Below w.heap.size w W5 := grown_below hBV gb1 (by show w.heap.size ≤ w2.heap.size; exact hg1) (by omega)
    have A05 := k5 (by omega) A0W
    have A15 := k5 (by omega) A1W
    have A25 := k5 (by omega) A2W
    have A35 := k5 (by omega) A3W
    have n50 : g5 ≠ w.heap.size := by omega
    have n52 : g5 ≠ w.heap.size + 1 + 1 := by omega
    have n53 : g5 ≠ w.heap.size + 1 + 1 + 1 := by omega
    obtain ⟨r05, f05⟩ := rowc A05
    obtain ⟨r15, f15⟩ := rowc A15
    obtain ⟨r25, f25⟩ := rowc A25
    obtain ⟨rg5, fg5⟩ := rowc hg5
    have hat : ∀ p, p < (L + 1) * 8 → cur5[p]? = (cs ++ [.bool yb, .int .i64 yn, .string ys, .int .i64 0, .int .i64 0, .string ⟨#[]⟩, .int .i64 0, .slice none 0 0])[p]? := fun p hp => by
      rw [← htk5, List.getElem?_take_of_lt (by omega), Array.getElem?_toList]
    have zg : ∀ q, q < 5 → ∃ u, W5.cell? ⟨g5, L * 8 + 3 + q, none⟩ = some u := fun q hq => ⟨_, (rg5 _).trans (Array.getElem?_eq_getElem (by omega))⟩
    obtain ⟨z3, hz3⟩ := zg 0 (by omega)
    obtain ⟨z4, hz4⟩ := zg 1 (by omega)
    obtain ⟨z5, hz5⟩ := zg 2 (by omega)
    obtain ⟨z6, hz6⟩ := zg 3 (by omega)
    obtain ⟨z7, hz7⟩ := zg 4 (by omega)
    rw [Nat.add_zero] at hz3
    rw [HV.out] at hr1
    unfold IE at hr1
    have HAT := Lib.hid hat
    have HG5 := Lib.hid hg5
    have HC5 := Lib.hid (And.intro hnc5 hcm5)
    have HCS5 := Lib.hid hcs5
    have HB5 := Lib.hid hB5
    have HLE := Lib.hid hb5
    have HA05 := Lib.hid A05
    have HA25 := Lib.hid A25
    have HA35 := Lib.hid A35
    have HHG1 := Lib.hid hg1
    have HHG2 := Lib.hid hg2
    clear rg5 zg hat hg5 hnc5 hcm5 hcs5 htk5 hb5 hB5 own0 own1 gb1 hn1 kv k5 kp A0W A1W A2W A3W A05 A15 A25 A35 AGW hVs hWs hBV hBW hBX hsz0 hsz1 hie hcl hhs hg1 hg2
    cases yb with
    | true =>
      have eN : x = X := HX.out
      subst eN
      clear hnum
      obtain ⟨W3, HW3⟩ : ∃ W3, Hid (W3 = ((((W5.setCell ⟨g5, L * 8 + 3, none⟩ (.int .i64 ku)).setCell ⟨g5, L * 8 + 3 + 1, none⟩ (.int .i64 nu)).setCell ⟨g5, L * 8 + 3 + 2, none⟩ (.string su)).setCell ⟨g5, L * 8 + 3 + 3, none⟩ (.int .i64 xu)).setCell ⟨g5, L * 8 + 3 + 4, none⟩ (.slice Au Lu cu)) := ⟨_, Lib.hid rfl⟩
      obtain ⟨AG3, o3, b3'⟩ := put5_heap HG5.out HW3.out.symm
      have hle := HLE.out
      have hg1 := HHG1.out
      have HB3 := Lib.hid (b3' _ _ (show w.heap.size ≤ g5 by omega) HB5.out)
      obtain ⟨W4, HW4⟩ : ∃ W4, Hid (W4 = W3.setCell ⟨w.heap.size, 4, none⟩ (.slice (some ⟨g5, 0, none⟩) (L + 1) c5)) := ⟨_, Lib.hid rfl⟩
      have A04 : W4.heap[w.heap.size]? = some (.cells #[.int .i64 4, .int .i64 n, .string s, .int .i64 x, .slice (some ⟨g5, 0, none⟩) (L + 1) c5] IV (0, 0)) := by rw [HW4.out]; exact set_heap ((o3 _ (by omega)).trans HA05.out) 4 _
      obtain ⟨r04, f04⟩ := rowc A04
      have HA04 := Lib.hid A04
      have HBC : Hid (Below w.heap.size w W4) := Lib.hid (by rw [HW4.out]; exact HB3.out.setCell (Nat.le_refl _) _)
      have A3H : Hid (W4.heap[w.heap.size + 1 + 1 + 1]? = some (.cells #[.int .i64 0, .int .i64 0, .string ⟨#[]⟩, .int .i64 0, .slice none 0 0] IV (0, 0))) := Lib.hid (by rw [HW4.out, set_other (by omega), o3 _ (by omega)]; exact HA35.out)
      have HAG4 := Lib.hid ((by rw [HW4.out, set_other (by omega)] : W4.heap[g5]? = W3.heap[g5]?).trans AG3)
      rw [HW4.out] at r04
      clear AG3 o3 b3' A04 f04 hle hg1
      go_upto_region 11 with (first
        | (at_builtin; refine wpList_append_eq (by rfl) _ _ _ (by rfl) (by with_reducible exact hr1) (by rfl) (by rfl) ?_)
        | fail)
      rw [← HW3.out, ← HW4.out]
      have hT4 : TIn W4 (NoS S w.heap.size W4 (w.heap.size + 1 + 1 + 1)) (.mk 4 n s x (ks ++ [⟨true, yn, ys⟩]) (vs ++ [.mk ku nu su xu ksu vsu])) (vV 4 n s x (some ⟨g5, 0, none⟩) (L + 1) c5) := by
        have hBC := HBC.out
        have hat := HAT.out
        have hcl := HCL.out
        have hsS : ∀ b, S b → NoS S w.heap.size W4 (w.heap.size + 1 + 1 + 1) b := fun b hS => ⟨.inl hS, (HSN.out b hS).keep (Nat.le_refl _) (hBC.block b (HSN.out b hS).2.lt), by have := (HSN.out b hS).2.lt; omega⟩
        have hsB : ∀ b, S b → b < w.heap.size → W4.heap[b]? = w.heap[b]? := fun b _ hlt => hBC.block b hlt
        have uT := HTu.out
        have hvl : (vs ++ [Tr.mk ku nu su xu ksu vsu]).length = L + 1 := by rw [List.length_append, HL.out]; rfl
        have hc5 := HC5.out
        have hE : ∀ q, q < 8 → cur5[L * 8 + q]? = ([.bool true, .int .i64 yn, .string ys, .int .i64 0, .int .i64 0, .string ⟨#[]⟩, .int .i64 0, .slice none 0 0] : List Value)[q]? := fun q hq => by
          rw [hat _ (by omega), List.getElem?_append_right (by omega), hcl, Nat.add_sub_cancel_left]
        have hin4 := isin_put (w := W4) (S := NoS S w.heap.size W4 (w.heap.size + 1 + 1 + 1)) (g := g5) (i := L) (arr := cur5) (ks := ks ++ [⟨true, yn, ys⟩]) (vs := vs ++ [.mk ku nu su xu ksu vsu]) (y := ⟨true, yn, ys⟩) (k := ku) (n := nu) (x := xu) (s := su) (ks' := ksu) (vs' := vsu) (A := Au) (c := cu)
          (by rw [HLu.out]; exact HAG4.out) ⟨.inr (by have := HHG1.out; have := HLE.out; omega), ⟨Nat.zero_le _, _, _, HAG4.out⟩, by have := HHG2.out; have := HLE.out; omega⟩ (by rw [hvl, List.length_append, hkl.out]; rfl) (by rw [hvl]; omega) (by rw [hvl, HCS5.out]; omega) (by rw [hvl]; omega)
          (by rw [List.getElem?_append_right (by rw [hkl.out]; omega), hkl.out]; simp) (by rw [List.getElem?_append_right (by rw [HL.out]; omega), HL.out]; simp) HY.out
          (hE 0 (by omega)) (hE 1 (by omega)) (hE 2 (by omega))
          (by rw [HLu.out]; exact uT.stays hsS hsB)
          (fun j hj hne => by
            rw [hvl] at hj
            obtain ⟨y1, k1, n1, s1, x1, ks1, vs1, A1', c1', q1, q2, q3, -, q5, q6⟩ := HIT.out j (by omega)
            refine ⟨y1, k1, n1, s1, x1, ks1, vs1, A1', c1', by rw [List.getElem?_append_left (by rw [hkl.out]; omega)]; exact q1, by rw [List.getElem?_append_left (by rw [HL.out]; omega)]; exact q2, q3, fun q hq => ?_, q6.stays hsS hsB⟩
            rw [hat _ (by omega), List.getElem?_append_left (by omega)]
            exact q5 q hq)
        have := TIn.of c5 HK.out hin4 (by rw [hvl]; exact hc5)
        rw [hvl] at this
        exact this
      clear hz3 hz4 hz5 hz6 hz7
      have HT4 := Lib.hid hT4
      clear r05 f05 r15 f15 r25 f25 r0 f0 r0W f0W r1W f1W r04 rm fm fg5 hmk hc1 hr1 hwr hi hz hT4
      obtain ⟨r4, f4⟩ := rowc HA04.out
      obtain ⟨r6, f6⟩ := rowc A3H.out
      go_wp2_with (fail)
      generalize hwF : (((((W4.setCell ⟨w.heap.size + 1 + 1 + 1, 0, none⟩ (.int .i64 4)).setCell ⟨w.heap.size + 1 + 1 + 1, 1, none⟩ (.int .i64 n)).setCell ⟨w.heap.size + 1 + 1 + 1, 2, none⟩ (.string s)).setCell ⟨w.heap.size + 1 + 1 + 1, 3, none⟩ (.int .i64 x)).setCell ⟨w.heap.size + 1 + 1 + 1, 4, none⟩ (.slice (some ⟨g5, 0, none⟩) (L + 1) c5)) = wF
      obtain ⟨rF, oF, bF⟩ := fill5 A3H.out hwF
      have hBC := HBC.out
      refine bodyPost_ret (v := vV 4 n s x (some ⟨g5, 0, none⟩) (L + 1) c5) ?_ rfl ?_
      · simp [results, Tryz.results219, go_sem, rF]
      · refine ⟨_, rfl, HT4.out.stays (fun b hb => ⟨hb.1, hb.2.1.keep (Nat.le_refl _) (oF b hb.2.2)⟩) (fun b hb _ => oF b hb.2.2), bF _ _ (by omega) hBC⟩
    | false =>
      have hyn := hnum rfl
      have MX := nums.implMax x (yn + 1)
      rw [max_nxt x ⟨false, yn, ys⟩ rfl] at MX
      rw [HX.out] at MX
      clear hnum
      have HA0N : (W5.setCell ⟨w.heap.size, 3, none⟩ (.int .i64 X)).heap[w.heap.size]? = some (.cells #[.int .i64 4, .int .i64 n, .string s, .int .i64 X, .slice A L c] IV (0, 0)) := set_heap HA05.out 3 _
      have HA3N : (W5.setCell ⟨w.heap.size, 3, none⟩ (.int .i64 X)).heap[w.heap.size + 1 + 1 + 1]? = some (.cells #[.int .i64 0, .int .i64 0, .string ⟨#[]⟩, .int .i64 0, .slice none 0 0] IV (0, 0)) := by rw [set_other (by omega)]; exact HA35.out
      have HGN : (W5.setCell ⟨w.heap.size, 3, none⟩ (.int .i64 X)).heap[g5]? = some (.cells cur5 IE (0, 0)) := by rw [set_other n50]; exact HG5.out
      have HBN : Below w.heap.size w (W5.setCell ⟨w.heap.size, 3, none⟩ (.int .i64 X)) := HB5.out.setCell (Nat.le_refl _) _
      have HKN : Hid (I64 4 ∧ I64 n ∧ I64 X ∧ s.size ≤ maxLen) := Lib.hid (by
        have h := HK.out
        refine ⟨h.1, h.2.1, ?_, h.2.2.2⟩
        have hx := h.2.2.1
        rw [← HX.out]
        unfold nxt I64 at *
        simp only
        split
        · exact hx
        · split
          · omega
          · exact hx)
      have hwy : IntKind.i64.wrap (yn + 1) = yn + 1 := by rw [IntKind.wrap_i64]; omega
      obtain ⟨W3, HW3⟩ : ∃ W3, Hid (W3 = (((((W5.setCell ⟨w.heap.size, 3, none⟩ (.int .i64 X)).setCell ⟨g5, L * 8 + 3, none⟩ (.int .i64 ku)).setCell ⟨g5, L * 8 + 3 + 1, none⟩ (.int .i64 nu)).setCell ⟨g5, L * 8 + 3 + 2, none⟩ (.string su)).setCell ⟨g5, L * 8 + 3 + 3, none⟩ (.int .i64 xu)).setCell ⟨g5, L * 8 + 3 + 4, none⟩ (.slice Au Lu cu)) := ⟨_, Lib.hid rfl⟩
      obtain ⟨AG3, o3, b3'⟩ := put5_heap HGN HW3.out.symm
      have hle := HLE.out
      have hg1 := HHG1.out
      have HB3 := Lib.hid (b3' _ _ (show w.heap.size ≤ g5 by omega) HBN)
      obtain ⟨W4, HW4⟩ : ∃ W4, Hid (W4 = W3.setCell ⟨w.heap.size, 4, none⟩ (.slice (some ⟨g5, 0, none⟩) (L + 1) c5)) := ⟨_, Lib.hid rfl⟩
      have A04 : W4.heap[w.heap.size]? = some (.cells #[.int .i64 4, .int .i64 n, .string s, .int .i64 X, .slice (some ⟨g5, 0, none⟩) (L + 1) c5] IV (0, 0)) := by rw [HW4.out]; exact set_heap ((o3 _ (by omega)).trans HA0N) 4 _
      obtain ⟨r04, f04⟩ := rowc A04
      have HA04 := Lib.hid A04
      have HBC : Hid (Below w.heap.size w W4) := Lib.hid (by rw [HW4.out]; exact HB3.out.setCell (Nat.le_refl _) _)
      have A3H : Hid (W4.heap[w.heap.size + 1 + 1 + 1]? = some (.cells #[.int .i64 0, .int .i64 0, .string ⟨#[]⟩, .int .i64 0, .slice none 0 0] IV (0, 0))) := Lib.hid (by rw [HW4.out, set_other (by omega), o3 _ (by omega)]; exact HA3N)
      have HAG4 := Lib.hid ((by rw [HW4.out, set_other (by omega)] : W4.heap[g5]? = W3.heap[g5]?).trans AG3)
      rw [HW4.out] at r04
      clear AG3 o3 b3' A04 f04 hle hg1
      go_wp2_with (first
        | (at_builtin; refine wpList_append_eq (by rfl) _ _ _ (by rfl) (by with_reducible exact hr1) (by rfl) (by rfl) ?_)
        | fail)
      refine (MX _).mono ?_
      rintro e w6 ⟨rfl, rfl⟩
      go_upto_region 11 with (fail)
      rw [← HW3.out, ← HW4.out]
      have hT4 : TIn W4 (NoS S w.heap.size W4 (w.heap.size + 1 + 1 + 1)) (.mk 4 n s X (ks ++ [⟨false, yn, ys⟩]) (vs ++ [.mk ku nu su xu ksu vsu])) (vV 4 n s X (some ⟨g5, 0, none⟩) (L + 1) c5) := by
        have hBC := HBC.out
        have hat := HAT.out
        have hcl := HCL.out
        have hsS : ∀ b, S b → NoS S w.heap.size W4 (w.heap.size + 1 + 1 + 1) b := fun b hS => ⟨.inl hS, (HSN.out b hS).keep (Nat.le_refl _) (hBC.block b (HSN.out b hS).2.lt), by have := (HSN.out b hS).2.lt; omega⟩
        have hsB : ∀ b, S b → b < w.heap.size → W4.heap[b]? = w.heap[b]? := fun b _ hlt => hBC.block b hlt
        have uT := HTu.out
        have hvl : (vs ++ [Tr.mk ku nu su xu ksu vsu]).length = L + 1 := by rw [List.length_append, HL.out]; rfl
        have hc5 := HC5.out
        have hE : ∀ q, q < 8 → cur5[L * 8 + q]? = ([.bool false, .int .i64 yn, .string ys, .int .i64 0, .int .i64 0, .string ⟨#[]⟩, .int .i64 0, .slice none 0 0] : List Value)[q]? := fun q hq => by
          rw [hat _ (by omega), List.getElem?_append_right (by omega), hcl, Nat.add_sub_cancel_left]
        have hin4 := isin_put (w := W4) (S := NoS S w.heap.size W4 (w.heap.size + 1 + 1 + 1)) (g := g5) (i := L) (arr := cur5) (ks := ks ++ [⟨false, yn, ys⟩]) (vs := vs ++ [.mk ku nu su xu ksu vsu]) (y := ⟨false, yn, ys⟩) (k := ku) (n := nu) (x := xu) (s := su) (ks' := ksu) (vs' := vsu) (A := Au) (c := cu)
          (by rw [HLu.out]; exact HAG4.out) ⟨.inr (by have := HHG1.out; have := HLE.out; omega), ⟨Nat.zero_le _, _, _, HAG4.out⟩, by have := HHG2.out; have := HLE.out; omega⟩ (by rw [hvl, List.length_append, hkl.out]; rfl) (by rw [hvl]; omega) (by rw [hvl, HCS5.out]; omega) (by rw [hvl]; omega)
          (by rw [List.getElem?_append_right (by rw [hkl.out]; omega), hkl.out]; simp) (by rw [List.getElem?_append_right (by rw [HL.out]; omega), HL.out]; simp) HY.out
          (hE 0 (by omega)) (hE 1 (by omega)) (hE 2 (by omega))
          (by rw [HLu.out]; exact uT.stays hsS hsB)
          (fun j hj hne => by
            rw [hvl] at hj
            obtain ⟨y1, k1, n1, s1, x1, ks1, vs1, A1', c1', q1, q2, q3, -, q5, q6⟩ := HIT.out j (by omega)
            refine ⟨y1, k1, n1, s1, x1, ks1, vs1, A1', c1', by rw [List.getElem?_append_left (by rw [hkl.out]; omega)]; exact q1, by rw [List.getElem?_append_left (by rw [HL.out]; omega)]; exact q2, q3, fun q hq => ?_, q6.stays hsS hsB⟩
            rw [hat _ (by omega), List.getElem?_append_left (by omega)]
            exact q5 q hq)
        have := TIn.of c5 HKN.out hin4 (by rw [hvl]; exact hc5)
        rw [hvl] at this
        exact this
      clear hz3 hz4 hz5 hz6 hz7
      have HT4 := Lib.hid hT4
      clear r05 f05 r15 f15 r25 f25 r0 f0 r0W f0W r1W f1W r04 rm fm fg5 hmk hc1 hr1 hwr hi hz hT4
      obtain ⟨r4, f4⟩ := rowc HA04.out
      obtain ⟨r6, f6⟩ := rowc A3H.out
      go_wp2_with (fail)
      generalize hwF : (((((W4.setCell ⟨w.heap.size + 1 + 1 + 1, 0, none⟩ (.int .i64 4)).setCell ⟨w.heap.size + 1 + 1 + 1, 1, none⟩ (.int .i64 n)).setCell ⟨w.heap.size + 1 + 1 + 1, 2, none⟩ (.string s)).setCell ⟨w.heap.size + 1 + 1 + 1, 3, none⟩ (.int .i64 X)).setCell ⟨w.heap.size + 1 + 1 + 1, 4, none⟩ (.slice (some ⟨g5, 0, none⟩) (L + 1) c5)) = wF
      obtain ⟨rF, oF, bF⟩ := fill5 A3H.out hwF
      have hBC := HBC.out
      refine bodyPost_ret (v := vV 4 n s X (some ⟨g5, 0, none⟩) (L + 1) c5) ?_ rfl ?_
      · simp [results, Tryz.results219, go_sem, rF]
      · refine ⟨_, rfl, HT4.out.stays (fun b hb => ⟨hb.1, hb.2.1.keep (Nat.le_refl _) (oF b hb.2.2)⟩) (fun b hb _ => oF b hb.2.2), bF _ _ (by omega) hBC⟩
  · rw [setT_some hp]
    clear hKB
    rw [hp] at HF
    have hiL : i < L := by rw [← hkl.out]; exact hi
    have HP := Lib.hid hp
    clear hp hi
    obtain ⟨yb, yn, ys⟩ := y
    unfold kyV at HF ⊢
    go_enter Tryz.func219, Tryz.ntmps219
    go_wp2_with (fail)
    obtain ⟨a0, a1, a2, a3, az, ab⟩ := al4 w _ _ _ _ _ _ _ _ _ rfl
    refine (HF.out _ (HT.out.below' ab)).mono ?_
    rintro e w2 ⟨rfl, hb2⟩
    have A0 := Lib.hid (carry hb2 a0)
    have A1 := Lib.hid (carry hb2 a1)
    have A2 := Lib.hid (carry hb2 a2)
    have A3 := Lib.hid (carry hb2 a3)
    have HB1 := Lib.hid (bs ab hb2)
    clear a0 a1 a2 a3 az ab hb2
    have hg1 : w.heap.size ≤ w2.heap.size := HB1.out.size
    have hg2 : w.heap.size + 1 + 1 + 1 < w2.heap.size := (Array.getElem?_eq_some_iff.1 A3.out).1
    obtain ⟨i0, hi, hz⟩ := ie_info
    have hmk := run_make (P := Tryz.prog) w2 30 IE i0 _ Tryz.underlying30 hi hz.1 .i64 .i64 L ((L : Int) + 1) (by omega) (by omega) (by rw [hz.2.2]; omega) (by omega)
    rw [hz.2.1] at hmk
    rw [show ((L : Int) + 1).toNat = L + 1 by omega] at hmk
    simp only [Int.toNat_natCast] at hmk
    have hwr : IntKind.i64.wrap ((L : Int) + 1) = (L : Int) + 1 := by rw [IntKind.wrap_i64]; omega
    obtain ⟨arr0, HA⟩ : ∃ a, Hid (a = madeCells (Value.agg #[.bool false, .int .i64 0, .string ⟨#[]⟩, .int .i64 0, .int .i64 0, .string ⟨#[]⟩, .int .i64 0, .slice none 0 0]).cells ((L + 1) * 8)) := ⟨_, Lib.hid rfl⟩
    rw [← HA.out] at hmk
    have hsz0 : arr0.size = (L + 1) * 8 := by rw [HA.out, madeSize]
    have hie : (Tryz.prog.info? IE).map (·.size) = some 8 := by rw [hi]; exact congrArg some hz.2.1
    have hcl := HCL.out
    have hBX : Below w.heap.size w (w2.alloc (.cells arr0 IE)) := bs HB1.out (b1 w2 _)
    have hc1 := run_copy_A (P := Tryz.prog) (w2.alloc (.cells arr0 IE)) 30 30 3 IE w2.heap.size L (L + 1) A L c arr0 IE cs L Tryz.underlying30 hie (heap_alloc_new w2 _) (by simp) hcl
      (fun j v hv => by
        obtain ⟨a, e, h⟩ := HSRC.out j v hv
        exact ⟨a, e, cell_stays (fun hlt => hBX.block _ hlt) h⟩) (by rw [hcl, hsz0]; omega) HONE.out HAN.out
    obtain ⟨arr1, HA1⟩ : ∃ b, Hid (b = (cs ++ arr0.toList.drop cs.length).toArray) := ⟨_, Lib.hid rfl⟩
    rw [← HA1.out] at hc1
    obtain ⟨W, HW⟩ : ∃ W, Hid (W = (w2.alloc (.cells arr0 IE)).setRow w2.heap.size arr1) := ⟨_, Lib.hid rfl⟩
    rw [← HW.out] at hc1
    have hsz1 : arr1.size = (L + 1) * 8 := by rw [HA1.out]; simp [hcl, hsz0]; omega
    have hBW : Below w.heap.size w W := by rw [HW.out]; exact setRow_below hBX hg1 _
    have kp : ∀ {q : Nat} {o : Obj}, w2.heap[q]? = some o → W.heap[q]? = some o := fun {q o} hq => by
      have := (Array.getElem?_eq_some_iff.1 hq).1
      rw [HW.out, setRow_other (by omega)]
      exact keepAlloc hq
    have AGW : W.heap[w2.heap.size]? = some (.cells arr1 IE (0, 0)) := by rw [HW.out]; exact setRow_heap _ _ _ _ _ _ (heap_alloc_new w2 _)
    have A0W := kp A0.out
    have A2W := kp A2.out
    have A3W := kp A3.out
    obtain ⟨G, HG⟩ : ∃ G, Hid (G = w2.heap.size) := ⟨_, Lib.hid rfl⟩
    have hhs := heap_alloc_new w2 (.cells arr0 IE)
    obtain ⟨rm, fm⟩ := rowc (keepAlloc (o' := .cells arr0 IE) A0.out)
    obtain ⟨r0, f0⟩ := rowc A0.out
    obtain ⟨r0W, f0W⟩ := rowc A0W
    obtain ⟨r2W, f2W⟩ := rowc A2W
    obtain ⟨rgW, fgW⟩ := rowc AGW
    have zg : ∀ q, q < 5 → ∃ u, W.cell? ⟨w2.heap.size, i * 8 + 3 + q, none⟩ = some u := fun q hq => ⟨_, (rgW _).trans (Array.getElem?_eq_getElem (by omega))⟩
    obtain ⟨z3, hz3⟩ := zg 0 (by omega)
    obtain ⟨z4, hz4⟩ := zg 1 (by omega)
    obtain ⟨z5, hz5⟩ := zg 2 (by omega)
    obtain ⟨z6, hz6⟩ := zg 3 (by omega)
    obtain ⟨z7, hz7⟩ := zg 4 (by omega)
    rw [Nat.add_zero] at hz3
    clear rgW zg
    have ne0 : w2.heap.size ≠ w.heap.size := by omega
    have ne2 : w2.heap.size ≠ w.heap.size + 1 + 1 := by omega
    have ne3 : w2.heap.size ≠ w.heap.size + 1 + 1 + 1 := by omega
    obtain ⟨W3, HW3⟩ : ∃ W3, Hid (W3 = ((((W.setCell ⟨w2.heap.size, i * 8 + 3, none⟩ (.int .i64 ku)).setCell ⟨w2.heap.size, i * 8 + 3 + 1, none⟩ (.int .i64 nu)).setCell ⟨w2.heap.size, i * 8 + 3 + 2, none⟩ (.string su)).setCell ⟨w2.heap.size, i * 8 + 3 + 3, none⟩ (.int .i64 xu)).setCell ⟨w2.heap.size, i * 8 + 3 + 4, none⟩ (.slice Au Lu cu)) := ⟨_, Lib.hid rfl⟩
    obtain ⟨AG3, o3, b3'⟩ := put5_heap AGW HW3.out.symm
    have HAG3 := Lib.hid AG3
    have HO3 := Lib.hid o3
    have HB3 := Lib.hid (b3' _ _ hg1 hBW)
    obtain ⟨W4, HW4⟩ : ∃ W4, Hid (W4 = W3.setCell ⟨w.heap.size, 4, none⟩ (.slice (some ⟨w2.heap.size, 0, none⟩) L (L + 1))) := ⟨_, Lib.hid rfl⟩
    have A04 : W4.heap[w.heap.size]? = some (.cells #[.int .i64 4, .int .i64 n, .string s, .int .i64 x, .slice (some ⟨w2.heap.size, 0, none⟩) L (L + 1)] IV (0, 0)) := by rw [HW4.out]; exact set_heap ((o3 _ (by omega)).trans A0W) 4 _
    obtain ⟨r04, f04⟩ := rowc A04
    have HA04 := Lib.hid A04
    have HBC : Hid (Below w.heap.size w W4) := Lib.hid (by rw [HW4.out]; exact HB3.out.setCell (Nat.le_refl _) _)
    have A3H : Hid (W4.heap[w.heap.size + 1 + 1 + 1]? = some (.cells #[.int .i64 0, .int .i64 0, .string ⟨#[]⟩, .int .i64 0, .slice none 0 0] IV (0, 0))) := Lib.hid (by rw [HW4.out, set_other (by omega), o3 _ (by omega)]; exact A3W)
    have HAG4 := Lib.hid ((by rw [HW4.out, set_other (by omega)] : W4.heap[w2.heap.size]? = W3.heap[w2.heap.size]?).trans AG3)
    have HSZ1 := Lib.hid hsz1
    have HHG1 := Lib.hid hg1
    have HHG2 := Lib.hid hg2
    have r04' := r04
    have f04' := f04
    rw [HW4.out] at r04'
    clear hsz0 hsz1 hie hcl hBX hBW kp AGW A0W A2W A3W hhs AG3 o3 b3' A04 hg2
    go_upto_region 11 with (fail)
    rw [← HW3.out, ← HW4.out]
    have hT4 : TIn W4 (NoS S w.heap.size W4 (w.heap.size + 1 + 1 + 1)) (.mk 4 n s x ks (vs.set i (.mk ku nu su xu ksu vsu))) (vV 4 n s x (some ⟨w2.heap.size, 0, none⟩) L (L + 1)) := by
      have hBC := HBC.out
      have hsS : ∀ b, S b → NoS S w.heap.size W4 (w.heap.size + 1 + 1 + 1) b := fun b hS => ⟨.inl hS, (HSN.out b hS).keep (Nat.le_refl _) (hBC.block b (HSN.out b hS).2.lt), by have := (HSN.out b hS).2.lt; omega⟩
      have hsB : ∀ b, S b → b < w.heap.size → W4.heap[b]? = w.heap[b]? := fun b _ hlt => hBC.block b hlt
      have hat : ∀ p, p < L * 8 → arr1[p]? = cs[p]? := fun p hp => by
        have := HCL.out
        rw [HA1.out]
        simp
        rw [List.getElem?_append_left (by omega)]
      obtain ⟨y0, k0, n0, s0, x0, ks0, vs0, A0', c0', g1, g2, g3, -, g5, -⟩ := HIT.out i hiL
      have uT := HTu.out
      have hin4 := isin_put (w := W4) (S := NoS S w.heap.size W4 (w.heap.size + 1 + 1 + 1)) (g := w2.heap.size) (i := i) (arr := arr1) (ks := ks) (vs := vs.set i (.mk ku nu su xu ksu vsu)) (y := y0) (k := ku) (n := nu) (x := xu) (s := su) (ks' := ksu) (vs' := vsu) (A := Au) (c := cu)
        (by rw [HLu.out]; exact HAG4.out) ⟨.inr HHG1.out, ⟨Nat.zero_le _, _, _, HAG4.out⟩, by have := HHG2.out; omega⟩ (by rw [List.length_set, hkl.out, HL.out]) (by rw [List.length_set, HL.out]; exact HM.out) (by rw [List.length_set, HL.out, HSZ1.out]; omega) (by rw [List.length_set, HL.out]; exact hiL)
        g1 (by rw [List.getElem?_set_self (by rw [HL.out]; exact hiL)]) g3
        ((hat _ (by omega)).trans (g5 0 (by omega))) ((hat _ (by omega)).trans (g5 1 (by omega))) ((hat _ (by omega)).trans (g5 2 (by omega)))
        (by rw [HLu.out]; exact uT.stays hsS hsB)
        (fun j hj hne => by
          rw [List.length_set, HL.out] at hj
          obtain ⟨y1, k1, n1, s1, x1, ks1, vs1, A1', c1', q1, q2, q3, -, q5, q6⟩ := HIT.out j hj
          exact ⟨y1, k1, n1, s1, x1, ks1, vs1, A1', c1', q1, by rw [List.getElem?_set_ne (fun e => hne e.symm)]; exact q2, q3, fun q hq => (hat _ (by omega)).trans (q5 q hq), q6.stays hsS hsB⟩)
      have := TIn.of (L + 1) HK.out hin4 ⟨by rw [List.length_set, HL.out]; omega, by have := HM.out; unfold maxLen; omega⟩
      rw [List.length_set, HL.out] at this
      exact this
    clear hz3 hz4 hz5 hz6 hz7
    have HT4 := Lib.hid hT4
    clear r0 f0 r0W f0W r2W f2W fgW r04 f04 r04' f04' rm fm hmk hc1 hwr ne0 ne2 ne3 hi hz hT4
    obtain ⟨r4, f4⟩ := rowc HA04.out
    obtain ⟨r6, f6⟩ := rowc A3H.out
    go_wp2_with (fail)
    generalize hwF : (((((W4.setCell ⟨w.heap.size + 1 + 1 + 1, 0, none⟩ (.int .i64 4)).setCell ⟨w.heap.size + 1 + 1 + 1, 1, none⟩ (.int .i64 n)).setCell ⟨w.heap.size + 1 + 1 + 1, 2, none⟩ (.string s)).setCell ⟨w.heap.size + 1 + 1 + 1, 3, none⟩ (.int .i64 x)).setCell ⟨w.heap.size + 1 + 1 + 1, 4, none⟩ (.slice (some ⟨w2.heap.size, 0, none⟩) L (L + 1))) = wF
    obtain ⟨rF, oF, bF⟩ := fill5 A3H.out hwF
    have hBC := HBC.out
    refine bodyPost_ret (v := vV 4 n s x (some ⟨w2.heap.size, 0, none⟩) L (L + 1)) ?_ rfl ?_
    · simp [results, Tryz.results219, go_sem, rF]
    · refine ⟨_, rfl, HT4.out.stays (fun b hb => ⟨hb.1, hb.2.1.keep (Nat.le_refl _) (oF b hb.2.2)⟩) (fun b hb _ => oF b hb.2.2), bF _ _ (by omega) hBC⟩
theorem withItem_i (t : Tr) (v : Value) (y : Ky) (u : Tr) (vu : Value) (w : World) (h : TIn w (Nw 0 w) t v) (hu : TIn w (Nw 0 w) u vu) (hy : I64 y.num ∧ y.str.size ≤ maxLen) (hk4 : ∀ k n s x ks vs, t = .mk k n s x ks vs → k = 4) (hN : cnt t ≤ 1048578) (hKB : posV t y = -1 → y.text = false → -1000000000 ≤ y.num ∧ y.num ≤ 1000000000) :
    Calls Tryz.prog 219 #[v, kyV y, vu] w (OutN w (setT t y u)) :=
  (withItem_g t v y u vu w _ (fun _ h => h) h hu hy hk4 hN hKB).mono fun e w' ⟨u, a, b, c⟩ => ⟨u, a, b.stays (fun _ h => h.2) (fun _ _ _ => rfl), c⟩

end Go.Proofs.YtbgffmiffmmohaaGreatDoor.tree

/-
  A value with the value of a key, if it is an array and the key may stand there.
  Conditions: those that each theorem names.
-/
namespace Go.Proofs.YtbgffmiffmmohaaGreatDoor.tree
open Go.ChangeShapes Go.WideShapes Go.ChangeAt Go.RowKit
set_option linter.unusedVariables false

def setB : Tr → Ky → Bool
  | .mk k _ _ _ _ _, y => decide (k = 4) && keyB y
theorem setB_mk (k n x : Int) (s : ByteArray) (ks : List Ky) (vs : List Tr) (y : Ky) : setB (.mk k n s x ks vs) y = (decide (k = 4) && keyB y) := rfl
def setR (t : Tr) (y : Ky) (u : Tr) : Tr := if setB t y then setT t y u else t
theorem setR_cnt (t : Tr) (y : Ky) (u : Tr) : cnt (setR t y u) ≤ cnt t + cnt u := by
  have := setT_cnt t y u
  unfold setR
  split <;> omega
theorem setR_tot (t : Tr) (y : Ky) (u : Tr) (hf : fits t) : tot (setR t y u) ≤ tot t + y.str.size + tot u + 1 := by
  have := setT_tot t y u hf
  unfold setR
  split <;> omega

end Go.Proofs.YtbgffmiffmmohaaGreatDoor.tree

/-
  The laws' marks put into keys in a row.
  Conditions: those that each theorem names.
-/
namespace Go.Proofs.YtbgffmiffmmohaaGreatDoor.tree
open Go.ChangeShapes Go.WideShapes Go.ChangeAt Go.RowKit
set_option linter.unusedVariables false

def set3k (arr : Array Value) (o : Nat) (c0 c1 c2 : Value) : Array Value := ((arr.setIfInBounds o c0).setIfInBounds (o + 1) c1).setIfInBounds (o + 2) c2
theorem set3k_size (arr : Array Value) (o : Nat) (c0 c1 c2 : Value) : (set3k arr o c0 c1 c2).size = arr.size := by simp [set3k]
theorem set3k_out (arr : Array Value) (o : Nat) (c0 c1 c2 : Value) (p : Nat) (h : p < o ∨ o + 3 ≤ p) : (set3k arr o c0 c1 c2)[p]? = arr[p]? := by
  unfold set3k
  iterate 3 rw [Array.getElem?_setIfInBounds_ne (by omega)]
theorem set3k_in (arr : Array Value) (o : Nat) (c0 c1 c2 : Value) (h : o + 3 ≤ arr.size) (q : Nat) (hq : q < 3) : (set3k arr o c0 c1 c2)[o + q]? = (#[c0, c1, c2] : Array Value)[q]? := by
  unfold set3k
  match q, hq with
  | 0, _ => iterate 2 rw [Array.getElem?_setIfInBounds_ne (by omega)]
            rw [Nat.add_zero, Array.getElem?_setIfInBounds_self_of_lt (by omega)]; rfl
  | 1, _ => rw [Array.getElem?_setIfInBounds_ne (by omega), Array.getElem?_setIfInBounds_self_of_lt (by simp; omega)]; rfl
  | 2, _ => rw [Array.getElem?_setIfInBounds_self_of_lt (by simp; omega)]; rfl

/-- The first j keys have marks. -/
def Mkd (w : World) (g c : Nat) (m : Int) (j : Nat) : Prop := ∃ cur, w.heap[g]? = some (.cells cur IK (0, 0)) ∧ cur.size = c * 3 ∧ ∀ i, i < j → ∀ q, q < 3 → cur[i * 3 + q]? = (#[.bool (mkY (m + 3 * i)).text, .int .i64 (mkY (m + 3 * i)).num, .string (mkY (m + 3 * i)).str] : Array Value)[q]?
theorem Mkd.step {w w2 : World} {g c j : Nat} {m : Int} (h : Mkd w g c m j) (hc : j < c) (h2 : ∀ cur, w.heap[g]? = some (.cells cur IK (0, 0)) → w2.heap[g]? = some (.cells (set3k cur (j * 3) (.bool (mkY (m + 3 * j)).text) (.int .i64 (mkY (m + 3 * j)).num) (.string (mkY (m + 3 * j)).str)) IK (0, 0))) : Mkd w2 g c m (j + 1) := by
  obtain ⟨cur, hg, hs, hi⟩ := h
  refine ⟨_, h2 cur hg, by rw [set3k_size, hs], fun i hij q hq => ?_⟩
  by_cases e : i = j
  · subst e
    rw [set3k_in _ _ _ _ _ (by omega) q hq]
  · rw [set3k_out _ _ _ _ _ _ (by omega)]
    exact hi i (by omega) q hq

def MksQ (w : World) (lo : Nat) (v : Value) (m : Int) (n : Nat) (e : Ending) (w' : World) : Prop := e = .returned (.int .i64 (m + 3 * n)) ∧ KRow w' lo v (kmk m n) ∧ Fr (fun b => v.ownBlock = some b) w w'

set_option maxRecDepth 100000 in
set_option maxHeartbeats 1600000 in
theorem markKeyS (ks : List Ky) (m : Int) (hm0 : 1 ≤ m) (hm1 : m + 3 * ks.length ≤ 100000000000) (w : World) (lo : Nat) (v : Value) (h : KRow w lo v ks) : Calls Tryz.prog 42 #[v, .int .i64 m] w (MksQ w lo v m ks.length) := by
  rcases h.cases with ⟨rfl, rfl⟩ | ⟨g, c, cur, rfl, hlo, hg, hn, hc, hs, -⟩
  · unfold MksQ
    have e0 : m + 3 * (([] : List Ky).length : Int) = m := by simp
    rw [e0]
    clear h
    go_enter Tryz.func42, Tryz.ntmps42
    go_wp2_with (fail)
    go_loopg [1, 5] 1 (fun gk l i wr => l = .int .i64 m ∧ i = .int .i64 0 ∧ gk = 1 ∧ w = wr)
    case atStart => exact ⟨rfl, rfl, rfl, rfl⟩
    case round =>
      obtain ⟨rfl, rfl, rfl, rfl⟩ := hrel
      go_wp2_with (fail)
      go_ret
      exact ⟨rfl, World.ownsRow_nil _ _ _ 3, Fr.refl _ _⟩
  · obtain ⟨n, HN⟩ : ∃ n, Hid (ks.length = n) := ⟨_, Lib.hid rfl⟩
    rw [HN.out] at hm1 hn ⊢
    have hnn : n ≤ 100000000000 := by omega
    have HM1 := Lib.hid hm1
    have HC := Lib.hid (And.intro hn hc)
    have HM0 : Hid (Mkd w g c m 0) := Lib.hid ⟨cur, hg, hs, fun i hi => absurd hi (by omega)⟩
    have HLO := Lib.hid hlo
    obtain ⟨W, HW⟩ : ∃ W : Int, Hid (m + 3 * n = W) := ⟨_, Lib.hid rfl⟩
    unfold MksQ
    rw [HW.out]
    clear h hg hn hc hs hm1 hlo
    go_enter Tryz.func42, Tryz.ntmps42
    go_wp2_with (fail)
    go_loopg [1, 5] (n + 1) (fun gk l i wr => ∃ (j : Nat) (q : Int), i = .int .i64 j ∧ l = .int .i64 q ∧ gk + j = n + 1 ∧ j ≤ n ∧ 1 ≤ q ∧ q ≤ 100000000000 ∧ Hid (q = m + 3 * j) ∧ Hid (Mkd wr g c m j) ∧ Hid (Fr (fun b => b = g) w wr))
    case atStart => exact ⟨0, m, rfl, rfl, by omega, by omega, hm0, by have := HM1.out; omega, Lib.hid (by simp), HM0, Lib.hid (Fr.refl _ _)⟩
    case round =>
      obtain ⟨j, q, rfl, rfl, hgj, hjL, hq0, hq1, HQ, HK, HF⟩ := hrel
      by_cases hlt : j < n
      · obtain ⟨cur1, hg1, hs1, -⟩ := HK.out
        have hcc := HC.out
        have hgl : g < wr.heap.size := (Array.getElem?_eq_some_iff.1 hg1).1
        obtain ⟨r, f⟩ := rowc hg1
        have z : ∀ p, p < 3 → ∃ u, wr.cell? ⟨g, j * 3 + p, none⟩ = some u := fun p hp => ⟨_, (r _).trans (Array.getElem?_eq_getElem (by omega))⟩
        obtain ⟨z0, hz0⟩ := z 0 (by omega)
        obtain ⟨z1, hz1⟩ := z 1 (by omega)
        rw [Nat.add_zero] at hz0
        have q3 : q + 3 ≤ 100000000000 := by have := HQ.out; have := HM1.out; omega
        have MT2 := markText (q + 2) (by omega) (by omega)
        obtain ⟨u2, HU2⟩ : ∃ u, Hid (mtx (q + 2) = u) := ⟨_, Lib.hid rfl⟩
        unfold MtQ at MT2
        rw [HU2.out] at MT2
        rw [show q + 2 = q + 1 + 1 by omega] at MT2
        have HS1 := Lib.hid hs1
        have HG1 := Lib.hid hg1
        have HGL := Lib.hid hgl
        have HQ2 : Hid (q + 1 + 1 + 1 = m + 3 * ((j + 1 : Nat) : Int)) := Lib.hid (by rw [HQ.out]; push_cast; omega)
        clear r z hs1 hg1 hgl hcc
        by_cases hmod : q % 3 = 0
        all_goals
          obtain ⟨bb, HBB⟩ : ∃ bb, Hid (decide (q % 3 = 0) = bb) := ⟨_, Lib.hid rfl⟩
          go_wp2_with (fail)
          refine (MT2 _).mono ?_
          rintro e w1 ⟨rfl, hb1⟩
          have hg2 := carry hb1 (set_heap (set_heap HG1.out (j * 3) _) (j * 3 + 1) _)
          obtain ⟨r, f1⟩ := rowc hg2
          obtain ⟨z2, hz2⟩ : ∃ u, w1.cell? ⟨g, j * 3 + 2, none⟩ = some u := ⟨_, (r _).trans (Array.getElem?_eq_getElem (by have h1 := HS1.out; have h2 := HC.out; simp; omega))⟩
          have HB1 := Lib.hid hb1
          clear r hb1 hg2
          go_wp2_with (fail)
          go_roundg (n - j)
          case rel =>
            refine ⟨j + 1, q + 1 + 1 + 1, by go_num, rfl, by omega, by omega, by omega, by omega, HQ2, Lib.hid (HK.out.step (by have := HC.out; omega) fun cur hcur => ?_), Lib.hid ?_⟩
            · have hq := HQ.out
              have h3 := set_heap (carry HB1.out (set_heap (set_heap hcur (j * 3) _) (j * 3 + 1) _)) (j * 3 + 2) (.string u2)
              rw [h3, ← hq]
              unfold set3k mkY
              simp only
              rw [HU2.out]
              first | (rw [decide_eq_true hmod]) | rfl
            · refine HF.out.trans (((Fr.set (w := wr) (S := fun b => b = g) rfl _ _).trans (Fr.set (S := fun b => b = g) rfl _ _)).trans ((Fr.of HB1.out).trans (Fr.set (S := fun b => b = g) rfl _ _)))
          case measure => omega
      · obtain rfl : j = n := by omega
        have e : q = W := by rw [HQ.out, ← HW.out]
        subst e
        go_wp2_with (fail)
        go_ret
        refine ⟨rfl, ?_, HF.out.mono fun b hb => by rw [hb]; rfl⟩
        obtain ⟨cur1, hg1, hs1, hi1⟩ := HK.out
        have := KRow.of (ks := kmk m j) HLO.out hg1 (by rw [kmk_len]; exact HC.out.1) HC.out.2 hs1 fun i y hy p hp => by
          have hi : i < j := by have := (List.getElem?_eq_some_iff.1 hy).1; rwa [kmk_len] at this
          rw [kmk_get m j i hi] at hy
          obtain rfl := Option.some.inj hy
          exact hi1 i hi p hp
        rw [kmk_len] at this
        exact this

end Go.Proofs.YtbgffmiffmmohaaGreatDoor.tree

/-
  The laws' size and copy of a list of keys.
  Conditions: at most 2^20 keys.
-/
namespace Go.Proofs.YtbgffmiffmmohaaGreatDoor.tree
open Go.ChangeShapes Go.WideShapes Go.ChangeAt Go.RowKit
set_option linter.unusedVariables false

/-- The letters of keys. -/
def kst : List Ky → Nat
  | [] => 0
  | y :: ys => y.str.size + kst ys
theorem ktot_kst : ∀ ys : List Ky, ktot ys = ys.length + kst ys
  | [] => rfl
  | y :: ys => by rw [ktot, kst, ktot_kst ys, List.length_cons]; omega
theorem kst_drop {ys : List Ky} {j : Nat} {y : Ky} (h : ys[j]? = some y) : kst (ys.drop j) = y.str.size + kst (ys.drop (j + 1)) := by
  obtain ⟨hj, rfl⟩ := List.getElem?_eq_some_iff.1 h
  rw [List.drop_eq_getElem_cons hj, kst]

theorem set3k_heap {w : World} {g : Nat} {arr : Array Value} {t : TypeId} (h : w.heap[g]? = some (.cells arr t (0, 0))) (o : Nat) (c0 c1 c2 : Value) : (((w.setCell ⟨g, o, none⟩ c0).setCell ⟨g, o + 1, none⟩ c1).setCell ⟨g, o + 2, none⟩ c2).heap[g]? = some (.cells (set3k arr o c0 c1 c2) t (0, 0)) :=
  set_heap (set_heap (set_heap h o c0) (o + 1) c1) (o + 2) c2

set_option maxRecDepth 100000 in
set_option maxHeartbeats 2000000 in
theorem szKeyS (ys : List Ky) (hm : ys.length ≤ maxLen) (A : Option Addr) (c : Nat) (w : World) (h : KIn w ys A) (left : Int) (h0 : 0 ≤ left) (h1 : left ≤ 1048576) :
    Calls Tryz.prog 37 #[.slice A ys.length c, .int .i64 left] w (SzQ left (ys.length + kst ys) w) := by
  obtain ⟨L, HL⟩ : ∃ L, Hid (L = ys.length) := ⟨_, Lib.hid rfl⟩
  rw [← HL.out] at hm ⊢
  unfold maxLen at hm
  by_cases hlt : left - L < 0
  · go_enter Tryz.func37, Tryz.ntmps37
    go_wp2_with (fail)
    go_ret
    exact ⟨-1, rfl, ⟨by omega, by omega, fun h => by omega⟩, Below.refl _ _⟩
  have hge : ¬ (left < L) := by omega
  clear hlt
  have HK := Lib.hid h
  clear h
  go_enter Tryz.func37, Tryz.ntmps37
  go_wp2_with (fail)
  go_loopg [1, 5] (L + 1) (fun gk l i wr => ∃ (j : Nat) (r : Int), l = .int .i64 r ∧ i = .int .i64 j ∧ gk + j = L + 1 ∧ j ≤ L ∧ 0 ≤ r ∧ r ≤ left ∧ Hid (r + kst ys = left - L + kst (ys.drop j)) ∧ Below w.heap.size w wr)
  case atStart => exact ⟨0, left - L, rfl, rfl, by omega, by omega, by omega, by omega, Lib.hid (by simp), Below.refl _ _⟩
  case round =>
    obtain ⟨j, r, rfl, rfl, hgj, hjL, hr0, hr1, HR, hb⟩ := hrel
    have HB := Lib.hid hb
    clear hb
    by_cases hlt : j < L
    · obtain ⟨y, hy⟩ : ∃ y, ys[j]? = some y := ⟨_, List.getElem?_eq_getElem (by rw [← HL.out]; exact hlt)⟩
      have HT := Lib.hid (kst_drop hy)
      obtain ⟨a, rfl, hyb, p0, p1, p2⟩ := HK.out.below HB.out j y hy
      have CS : Hid (Calls Tryz.prog 105 #[kyV y, .int .i64 r] wr (SzQ r y.str.size wr)) := Lib.hid (szKey y hyb.2 r hr0 (by omega) wr)
      unfold kyV at CS
      clear hy hyb
      go_wp2_with (fail)
      refine CS.out.mono ?_
      rintro e w1 ⟨r2, rfl, ⟨hs1, hs2, hs3⟩, hb1⟩
      have HB1 := Lib.hid hb1
      have HR2 := Lib.hid hs3
      clear hb1 hs3 p0 p1 p2
      by_cases hq : r2 < 0
      · go_wp2_with (fail)
        go_ret
        exact ⟨-1, rfl, ⟨by omega, by omega, fun h => by omega⟩, bs HB.out HB1.out⟩
      · have hq0 : 0 ≤ r2 := by omega
        go_wp2_with (fail)
        go_roundg (L - j)
        case rel =>
          refine ⟨j + 1, r2, rfl, by go_num, by omega, by omega, hq0, by omega, Lib.hid ?_, bs HB.out HB1.out⟩
          have a1 := HR.out
          have a2 := HR2.out hq0
          have a3 := HT.out
          omega
        case measure => omega
    · obtain rfl : j = L := by omega
      have a1 := HR.out
      have a2 : kst (ys.drop j) = 0 := by rw [HL.out, List.drop_length]; rfl
      go_wp2_with (fail)
      go_ret
      exact ⟨r, rfl, ⟨by omega, hr1, fun _ => by omega⟩, HB.out⟩

def KsR (w : World) (ys : List Ky) (e : Ending) (w' : World) : Prop := ∃ g, e = .returned (.slice (some ⟨g, 0, none⟩) ys.length ys.length) ∧ KRow w' w.heap.size (.slice (some ⟨g, 0, none⟩) ys.length ys.length) ys ∧ w.heap.size ≤ g ∧ Below w.heap.size w w'

set_option maxRecDepth 100000 in
set_option maxHeartbeats 2000000 in
theorem toKeyS (ys : List Ky) (hm : ys.length ≤ 1048576) (A : Option Addr) (c : Nat) (w : World) (h : KIn w ys A) : Calls Tryz.prog 39 #[.slice A ys.length c] w (KsR w ys) := by
  obtain ⟨L, HL⟩ : ∃ L, Hid (ys.length = L) := ⟨_, Lib.hid rfl⟩
  unfold KsR
  rw [HL.out] at hm ⊢
  obtain ⟨i0, hi, hz⟩ := ik_info
  have hmk := run_make (P := Tryz.prog) w 66 IK i0 _ Tryz.underlying66 hi hz.1 .i64 .i64 L L (by omega) (Int.le_refl _) (by rw [hz.2.2]; omega) (by omega)
  rw [hz.2.1] at hmk
  simp only [Int.toNat_natCast] at hmk
  obtain ⟨arr0, HA⟩ : ∃ a, Hid (a = madeCells (Value.agg #[.bool false, .int .i64 0, .string ⟨#[]⟩]).cells (L * 3)) := ⟨_, Lib.hid rfl⟩
  rw [← HA.out] at hmk
  have HSZ0 : Hid (arr0.size = L * 3) := Lib.hid (by rw [HA.out, madeSize])
  have HV := Lib.hid h
  clear h hi hz
  go_enter Tryz.func39, Tryz.ntmps39
  go_wp2_with (fail)
  go_loopg [4] (L + 1) (fun gk i wr => ∃ (j : Nat) (arr : Array Value), i = .int .i64 j ∧ gk + j = L + 1 ∧ j ≤ L ∧ Hid (wr.heap[w.heap.size]? = some (.cells arr IK (0, 0))) ∧ Hid (arr.size = L * 3) ∧ Hid (∀ i y, i < j → ys[i]? = some y → ∀ q, q < 3 → arr[i * 3 + q]? = (#[.bool y.text, .int .i64 y.num, .string y.str] : Array Value)[q]?) ∧ Hid (Below w.heap.size w wr))
  case atStart => exact ⟨0, arr0, rfl, by omega, by omega, Lib.hid (heap_alloc_new w _), HSZ0, Lib.hid (fun i y hi => absurd hi (by omega)), Lib.hid (b1 w _)⟩
  case round =>
    obtain ⟨j, arr, rfl, hgj, hjL, HG, HSZ, HLI, HB⟩ := hrel
    by_cases hlt : j < L
    · obtain ⟨y, hy⟩ : ∃ y, ys[j]? = some y := ⟨_, List.getElem?_eq_getElem (by rw [HL.out]; exact hlt)⟩
      obtain ⟨a, rfl, hyb, p0, p1, p2⟩ := HV.out.below HB.out j y hy
      have CT : Hid (Calls Tryz.prog 108 #[kyV y] wr (fun e w' => e = .returned (kyV y) ∧ Below wr.heap.size wr w')) := Lib.hid (toKey y wr)
      have HVS := Lib.hid hy
      have hz := HSZ.out
      unfold kyV at CT
      clear hy hyb
      go_wp2_with (fail)
      refine CT.out.mono ?_
      rintro e w1 ⟨rfl, hb1⟩
      have hsm : w.heap.size < wr.heap.size := (Array.getElem?_eq_some_iff.1 HG.out).1
      have HG1 := Lib.hid (carry hb1 HG.out)
      have HB1 := Lib.hid (bs HB.out hb1)
      obtain ⟨rg, fg⟩ := rowc HG1.out
      have gx : ∀ q, q < 3 → ∃ u, w1.cell? ⟨w.heap.size, j * 3 + q, none⟩ = some u := fun q hq => ⟨_, (rg _).trans (Array.getElem?_eq_getElem (by omega))⟩
      obtain ⟨y0, z0⟩ := gx 0 (by omega)
      obtain ⟨y1, z1⟩ := gx 1 (by omega)
      obtain ⟨y2, z2⟩ := gx 2 (by omega)
      simp only [Nat.add_zero] at z0
      clear hb1 rg gx p0 p1 p2
      go_wp2_with (fail)
      go_roundg (L - j)
      case rel =>
        refine ⟨j + 1, _, by go_num, by omega, by omega, Lib.hid (set3k_heap HG1.out _ _ _ _), Lib.hid (by rw [set3k_size]; exact HSZ.out), Lib.hid (fun i z hi hz q hq => ?_), Lib.hid ?_⟩
        · by_cases e : i = j
          · subst e
            obtain rfl : y = z := by have := HVS.out; rw [this] at hz; exact Option.some.inj hz
            rw [set3k_in _ _ _ _ _ (by have := HSZ.out; omega) q hq]
          · rw [set3k_out _ _ _ _ _ _ (by omega)]
            exact HLI.out i z (by omega) hz q hq
        iterate 3 refine Below.setCell ?_ (show w.heap.size ≤ w.heap.size by omega) _
        exact HB1.out
      case measure => omega
    · obtain rfl : j = L := by omega
      have hL := KRow.of (ks := ys) (Nat.le_refl w.heap.size) HG.out (by rw [HL.out]; exact Nat.le_refl _) (by unfold maxLen; omega) HSZ.out (fun i y hy q hq => HLI.out i y (by have := (List.getElem?_eq_some_iff.1 hy).1; rw [HL.out] at this; exact this) hy q hq)
      rw [HL.out] at hL
      go_wp2_with (fail)
      go_ret
      exact ⟨w.heap.size, rfl, hL, Nat.le_refl _, HB.out⟩

end Go.Proofs.YtbgffmiffmmohaaGreatDoor.tree

