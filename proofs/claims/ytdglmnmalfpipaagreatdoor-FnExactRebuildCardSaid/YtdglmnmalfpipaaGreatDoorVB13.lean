/-
  What the texts behind this one use: 2 parts of one proof.
  Conditions: those that each theorem names.
-/
import Derived.Test.YtdglmnmalfpipaaGreatDoorVSCopyI
import Derived.Test.YtdglmnmalfpipaaGreatDoorVB4
import Derived.Test.YtdglmnmalfpipaaGreatDoorVB8
/-
  Items that lie in one block, as a list; items without one of them.
  Conditions: those that each theorem names.
-/
namespace Go.Proofs.YtdglmnmalfpipaaGreatDoor.tree
open Go.ChangeShapes Go.WideShapes Go.ChangeAt Go.RowKit
set_option linter.unusedVariables false

theorem isin_row {w : World} {S : Nat → Prop} {g : Nat} {arr : Array Value} {ks : List Ky} {vs : List Tr} (hg : w.heap[g]? = some (.cells arr IE (0, 0))) (hS : S g) (hl : ks.length = vs.length) (hm : vs.length ≤ maxLen)
    (hit : ∀ i, i < vs.length → ∃ y k n s x ks' vs' A c, ks[i]? = some y ∧ vs[i]? = some (.mk k n s x ks' vs') ∧ (I64 y.num ∧ y.str.size ≤ maxLen) ∧ At8r arr i y k n s x A vs'.length c ∧ TIn w S (.mk k n s x ks' vs') (vV k n s x A vs'.length c)) :
    IsIn w S ks vs (some ⟨g, 0, none⟩) := by
  have each : ∀ i, ∃ C : Array Value, ∀ (hi : i < vs.length), KyAt w ⟨g, 0, none⟩ i (ks[i]'(hl ▸ hi)) ∧ C.size = 5 ∧ (∀ j, j < 5 → w.cell? ((⟨g, 0, none⟩ : Addr).add (8 * i + (3 + j))) = C[j]?) ∧ TIn w S (vs[i]) (.agg C) := by
    intro i
    by_cases hi : i < vs.length
    · obtain ⟨y, k, n, s, x, ks', vs', A, c, hy, ht, hyb, hat, hT⟩ := hit i hi
      have ey : ks[i]'(hl ▸ hi) = y := by rw [List.getElem?_eq_getElem (hl ▸ hi)] at hy; exact Option.some.inj hy
      have et : vs[i] = .mk k n s x ks' vs' := by rw [List.getElem?_eq_getElem hi] at ht; exact Option.some.inj ht
      have at_ : ∀ q, q < 8 → w.cell? ((⟨g, 0, none⟩ : Addr).add (8 * i + q)) = (eV y k n s x A vs'.length c).cells[q]? := fun q hq => by
        rw [Addr.add_lit, Nat.zero_add, cell_of_row w g _ arr IE _ hg, ← hat q hq, Nat.mul_comm]
      refine ⟨#[.int .i64 k, .int .i64 n, .string s, .int .i64 x, .slice A vs'.length c], fun _ => ?_⟩
      rw [ey, et]
      refine ⟨⟨at_ 0 (by omega), at_ 1 (by omega), at_ 2 (by omega), hyb⟩, rfl, fun j hj => ?_, hT⟩
      rw [at_ (3 + j) (by omega)]
      match j, hj with
      | 0, _ => rfl
      | 1, _ => rfl
      | 2, _ => rfl
      | 3, _ => rfl
      | 4, _ => rfl
    · exact ⟨#[], fun h => absurd h hi⟩
  exact ⟨hl, hm, fun i => (each i).choose, fun i hi => ⟨_, rfl, hS, ((each i).choose_spec hi).1, ((each i).choose_spec hi).2.1, ((each i).choose_spec hi).2.2.1⟩, fun i hi => ((each i).choose_spec hi).2.2.2⟩

/-- The cells of items, without those of item i. -/
theorem xAt8_drop {xs : List Value} {i j M : Nat} (hx : xs.length = M * 8) (hi : i < M) {y : Ky} {k n x : Int} {s : ByteArray} {A : Option Addr} {L c : Nat} (h : xAt8 xs (if j < i then j else j + 1) y k n s x A L c) : xAt8 (xs.take (i * 8) ++ xs.drop ((i + 1) * 8)) j y k n s x A L c := by
  intro q hq
  have := h q hq
  by_cases hj : j < i
  · rw [if_pos hj] at this
    rw [List.getElem?_append_left (by rw [List.length_take]; omega), List.getElem?_take_of_lt (by omega)]
    exact this
  · rw [if_neg hj] at this
    rw [List.getElem?_append_right (by rw [List.length_take]; omega), List.length_take, List.getElem?_drop, ← this]
    congr 1
    omega
theorem erase_get {α : Type} (l : List α) (i j : Nat) (hi : i < l.length) : (l.eraseIdx i)[j]? = l[if j < i then j else j + 1]? := by
  rw [List.getElem?_eraseIdx]
  split <;> rfl

theorem grown_below {w w1 w2 : World} {B k : Nat} (h : Below B w w1) (g : w1.grownBy w2 (some k)) (hk : B ≤ k) (hB : B ≤ w1.heap.size) : Below B w w2 :=
  ⟨g.os.trans h.os, g.tape.trans h.tape, g.output.trans h.output, Nat.le_trans h.size g.size, fun b hb => (g.block b (by omega) (by simp; omega)).trans (h.block b hb)⟩

theorem grown_below' {w w1 w2 : World} {B : Nat} {row : Option Nat} (h : Below B w w1) (g : w1.grownBy w2 row) (hB : B ≤ w1.heap.size) (hk : ∀ b, row = some b → B ≤ b) : Below B w w2 :=
  ⟨g.os.trans h.os, g.tape.trans h.tape, g.output.trans h.output, Nat.le_trans h.size g.size, fun b hb => (g.block b (by omega) (fun e => by have := hk b e.symm; omega)).trans (h.block b hb)⟩
def OutV (w : World) (t : Tr) (S : Nat → Prop) (e : Ending) (w' : World) : Prop := ∃ u, e = .returned u ∧ TIn w' S t u ∧ Below w.heap.size w w'

end Go.Proofs.YtdglmnmalfpipaaGreatDoor.tree

/-
  A value with the value of a key; items of a block of which one has a new value.
  Conditions: those that each theorem names.
-/
namespace Go.Proofs.YtdglmnmalfpipaaGreatDoor.tree
open Go.ChangeShapes Go.WideShapes Go.ChangeAt Go.RowKit
set_option linter.unusedVariables false

/-- The next free index behind a key. -/
def nxt (x : Int) (y : Ky) : Int := if y.text then x else if x < y.num + 1 then y.num + 1 else x
/-- A value with the value u at a key. -/
def setT : Tr → Ky → Tr → Tr
  | .mk k n s x ks vs, y, u => if posV (.mk k n s x ks vs) y = -1 then .mk k n s (nxt x y) (ks ++ [y]) (vs ++ [u]) else .mk k n s x ks (vs.set (posV (.mk k n s x ks vs) y).toNat u)
theorem setT_none {k n x : Int} {s : ByteArray} {ks : List Ky} {vs : List Tr} {y : Ky} {u : Tr} (h : posV (.mk k n s x ks vs) y = -1) : setT (.mk k n s x ks vs) y u = .mk k n s (nxt x y) (ks ++ [y]) (vs ++ [u]) := by rw [setT, if_pos h]
theorem setT_some {k n x : Int} {s : ByteArray} {ks : List Ky} {vs : List Tr} {y : Ky} {u : Tr} {i : Nat} (h : posV (.mk k n s x ks vs) y = i) : setT (.mk k n s x ks vs) y u = .mk k n s x ks (vs.set i u) := by
  rw [setT, if_neg (by omega), h, Int.toNat_natCast]
def setB : Tr → Ky → Bool
  | .mk k _ _ _ _ _, y => decide (k = 4) && keyB y
theorem setB_mk (k n x : Int) (s : ByteArray) (ks : List Ky) (vs : List Tr) (y : Ky) : setB (.mk k n s x ks vs) y = (decide (k = 4) && keyB y) := rfl
def setR (t : Tr) (y : Ky) (u : Tr) : Tr := if setB t y then setT t y u else t

theorem cnts_append : ∀ (a b : List Tr), cnts (a ++ b) = cnts a + cnts b
  | [], b => by rw [List.nil_append, cnts]; omega
  | t :: a, b => by rw [List.cons_append, cnts_cons', cnts_cons', cnts_append a b]; omega
theorem cnts_set : ∀ (vs : List Tr) (i : Nat) (u : Tr), cnts (vs.set i u) ≤ cnts vs + cnt u
  | [], i, u => by rw [List.set_nil]; omega
  | t :: vs, 0, u => by rw [List.set_cons_zero, cnts_cons', cnts_cons']; omega
  | t :: vs, i + 1, u => by
    have := cnts_set vs i u
    rw [List.set_cons_succ, cnts_cons', cnts_cons']
    omega
theorem tots_append : ∀ (ks : List Ky) (vs : List Tr) (y : Ky) (u : Tr), ks.length = vs.length → tots (ks ++ [y]) (vs ++ [u]) = tots ks vs + (y.str.size + tot u)
  | [], [], y, u, _ => by rw [List.nil_append, List.nil_append, tots_cons]; omega
  | y0 :: ks, t :: vs, y, u, h => by
    have := tots_append ks vs y u (by simpa using h)
    rw [List.cons_append, List.cons_append, tots_cons, tots_cons, this]
    omega
theorem tots_set : ∀ (ks : List Ky) (vs : List Tr) (i : Nat) (u : Tr), tots ks (vs.set i u) ≤ tots ks vs + tot u
  | _, [], i, u => by rw [List.set_nil]; omega
  | [], t :: vs, i, u => by cases i <;> simp [List.set, tots]
  | y :: ks, t :: vs, 0, u => by rw [List.set_cons_zero, tots_cons, tots_cons]; omega
  | y :: ks, t :: vs, i + 1, u => by
    have := tots_set ks vs i u
    rw [List.set_cons_succ, tots_cons, tots_cons]
    omega
theorem setT_cnt (t : Tr) (y : Ky) (u : Tr) : cnt (setT t y u) ≤ cnt t + cnt u := by
  obtain ⟨k, n, s, x, ks, vs⟩ := t
  rcases posV_cases k n s x ks vs y with hp | ⟨i, hp, hi, rfl⟩
  · rw [setT_none hp, cnt_mk', cnt_mk', cnts_append, cnts_cons', cnts]; omega
  · have := cnts_set vs i u
    rw [setT_some hp, cnt_mk', cnt_mk']
    omega
theorem setT_tot (t : Tr) (y : Ky) (u : Tr) (hf : fits t) : tot (setT t y u) ≤ tot t + y.str.size + tot u + 1 := by
  obtain ⟨k, n, s, x, ks, vs⟩ := t
  rw [fits] at hf
  rcases posV_cases k n s x ks vs y with hp | ⟨i, hp, hi, rfl⟩
  · have := tots_append ks vs y u hf.1
    rw [setT_none hp, tot_mk, tot_mk, this, List.length_append]
    simp only [List.length_cons, List.length_nil]
    omega
  · have := tots_set ks vs i u
    rw [setT_some hp, tot_mk, tot_mk, List.length_set]
    omega
theorem setR_cnt (t : Tr) (y : Ky) (u : Tr) : cnt (setR t y u) ≤ cnt t + cnt u := by
  have := setT_cnt t y u
  unfold setR
  split <;> omega
theorem setR_tot (t : Tr) (y : Ky) (u : Tr) (hf : fits t) : tot (setR t y u) ≤ tot t + y.str.size + tot u + 1 := by
  have := setT_tot t y u hf
  unfold setR
  split <;> omega

/-- Five cells in a row. -/
def put5c (arr : Array Value) (o : Nat) (c0 c1 c2 c3 c4 : Value) : Array Value := ((((arr.setIfInBounds o c0).setIfInBounds (o + 1) c1).setIfInBounds (o + 2) c2).setIfInBounds (o + 3) c3).setIfInBounds (o + 4) c4
theorem put5c_out (arr : Array Value) (o : Nat) (c0 c1 c2 c3 c4 : Value) (p : Nat) (h : p < o ∨ o + 5 ≤ p) : (put5c arr o c0 c1 c2 c3 c4)[p]? = arr[p]? := by
  unfold put5c
  iterate 5 rw [Array.getElem?_setIfInBounds_ne (by omega)]
theorem put5c_in (arr : Array Value) (o : Nat) (c0 c1 c2 c3 c4 : Value) (h : o + 5 ≤ arr.size) (q : Nat) (hq : q < 5) : (put5c arr o c0 c1 c2 c3 c4)[o + q]? = (#[c0, c1, c2, c3, c4] : Array Value)[q]? := by
  unfold put5c
  match q, hq with
  | 0, _ => iterate 4 rw [Array.getElem?_setIfInBounds_ne (by omega)]
            rw [Nat.add_zero, Array.getElem?_setIfInBounds_self_of_lt (by omega)]; rfl
  | 1, _ => iterate 3 rw [Array.getElem?_setIfInBounds_ne (by omega)]
            rw [Array.getElem?_setIfInBounds_self_of_lt (by simp; omega)]; rfl
  | 2, _ => iterate 2 rw [Array.getElem?_setIfInBounds_ne (by omega)]
            rw [Array.getElem?_setIfInBounds_self_of_lt (by simp; omega)]; rfl
  | 3, _ => rw [Array.getElem?_setIfInBounds_ne (by omega), Array.getElem?_setIfInBounds_self_of_lt (by simp; omega)]; rfl
  | 4, _ => rw [Array.getElem?_setIfInBounds_self_of_lt (by simp; omega)]; rfl

/-- An item as it lies in a row. -/
def ItAt (w : World) (S : Nat → Prop) (arr : Array Value) (ks : List Ky) (vs : List Tr) (j : Nat) : Prop :=
  ∃ y k n s x ks' vs' A c, ks[j]? = some y ∧ vs[j]? = some (.mk k n s x ks' vs') ∧ (I64 y.num ∧ y.str.size ≤ maxLen) ∧ At8r arr j y k n s x A vs'.length c ∧ TIn w S (.mk k n s x ks' vs') (vV k n s x A vs'.length c)

/-- A row of items, one of which has a new value. -/
theorem isin_put {w : World} {S : Nat → Prop} {g i : Nat} {arr : Array Value} {ks : List Ky} {vs : List Tr} {y : Ky} {k n x : Int} {s : ByteArray} {ks' : List Ky} {vs' : List Tr} {A : Option Addr} {c : Nat}
    (hg : w.heap[g]? = some (.cells (put5c arr (i * 8 + 3) (.int .i64 k) (.int .i64 n) (.string s) (.int .i64 x) (.slice A vs'.length c)) IE (0, 0))) (hS : S g) (hl : ks.length = vs.length) (hm : vs.length ≤ maxLen) (hsz : vs.length * 8 ≤ arr.size) (hi : i < vs.length)
    (hky : ks[i]? = some y) (hvs : vs[i]? = some (.mk k n s x ks' vs')) (hyb : I64 y.num ∧ y.str.size ≤ maxLen) (h0 : arr[i * 8]? = some (.bool y.text)) (h1 : arr[i * 8 + 1]? = some (.int .i64 y.num)) (h2 : arr[i * 8 + 2]? = some (.string y.str))
    (hT : TIn w S (.mk k n s x ks' vs') (vV k n s x A vs'.length c)) (ho : ∀ j, j < vs.length → j ≠ i → ItAt w S arr ks vs j) : IsIn w S ks vs (some ⟨g, 0, none⟩) := by
  refine isin_row hg hS hl hm fun j hj => ?_
  by_cases e : j = i
  · subst e
    refine ⟨y, k, n, s, x, ks', vs', A, c, hky, hvs, hyb, fun q hq => ?_, hT⟩
    by_cases hq3 : q < 3
    · rw [put5c_out _ _ _ _ _ _ _ _ (.inl (by omega))]
      match q, hq3 with
      | 0, _ => exact h0
      | 1, _ => exact h1
      | 2, _ => exact h2
    · obtain ⟨r, rfl⟩ : ∃ r, q = 3 + r := ⟨q - 3, by omega⟩
      rw [← Nat.add_assoc, put5c_in _ _ _ _ _ _ _ (by omega) r (by omega)]
      have hr : r < 5 := by omega
      match r, hr with
      | 0, _ => rfl
      | 1, _ => rfl
      | 2, _ => rfl
      | 3, _ => rfl
      | 4, _ => rfl
  · obtain ⟨y, k, n, s, x, ks', vs', A, c, a1, a2, a3, a4, a5⟩ := ho j hj e
    refine ⟨y, k, n, s, x, ks', vs', A, c, a1, a2, a3, fun q hq => ?_, a5⟩
    rw [put5c_out _ _ _ _ _ _ _ _ (by omega)]
    exact a4 q hq

/-- append at an operation of the walk, by what it runs to. -/
theorem wpList_append_eq {P : Program} {ops : Array Oper} {rest : List Oper} {o : Oper} {a : Act} {Q : Exit → Act → World → Prop} {w w' : World} (hgd : o.guard = none) (s x : Operand) (t : TypeId)
    (ho : o.op = .call { callee := .builtin .append, args := #[s, x], argTypes := #[t, t] }) {u v r : Value} (hrun : (Builtin.append_ #[t, t] o.type #[u, v]).run P w = .ok r w') (hs : a.eval s = u) (hx : a.eval x = v)
    (h : wpList P ops Q rest (a.put o.dst r) w') : wpList P ops Q (o :: rest) a w := by
  refine wpList_plain hgd fun K hK => ?_
  unfold Oper.wp execOp
  simp only [ho, resolve, invoke, builtin, Sem.run_bind, Sem.run_pure, Result.andThen_ok, List.map_toArray, List.map_cons, List.map_nil, hs, hx, hrun]
  exact hK _ _ h

theorem alc {w : World} {o : Obj} {p : Addr} {u : Value} (h : w.cell? p = some u) : (w.alloc o).cell? p = some u := cell_stays (fun hlt => (b1 w o).block _ hlt) h
theorem drc {w : World} {p : Addr} {u : Value} (h : w.cell? p = some u) : w.drew.cell? p = some u := h
theorem st5 {w : World} {b j B : Nat} {u c0 c1 c2 c3 c4 : Value} (h : w.cell? ⟨b, j, none⟩ = some u) (hne : B ≠ b) : (((((w.setCell ⟨B, 0, none⟩ c0).setCell ⟨B, 1, none⟩ c1).setCell ⟨B, 2, none⟩ c2).setCell ⟨B, 3, none⟩ c3).setCell ⟨B, 4, none⟩ c4).cell? ⟨b, j, none⟩ = some u :=
  cell_stays (fun _ => by
    have hn : b ≠ B := fun e => hne e.symm
    simp only []
    rw [set_other hn, set_other hn, set_other hn, set_other hn, set_other hn]) h
/-- Five cells of a block, written. -/
theorem put5_heap {w wF : World} {g o : Nat} {arr : Array Value} {t : TypeId} {c0 c1 c2 c3 c4 : Value} (h : w.heap[g]? = some (.cells arr t (0, 0)))
    (hF : (((((w.setCell ⟨g, o, none⟩ c0).setCell ⟨g, o + 1, none⟩ c1).setCell ⟨g, o + 2, none⟩ c2).setCell ⟨g, o + 3, none⟩ c3).setCell ⟨g, o + 4, none⟩ c4) = wF) :
    wF.heap[g]? = some (.cells (put5c arr o c0 c1 c2 c3 c4) t (0, 0)) ∧ (∀ q, q ≠ g → wF.heap[q]? = w.heap[q]?) ∧ ∀ (B : Nat) (w0 : World), B ≤ g → Below B w0 w → Below B w0 wF := by
  subst hF
  refine ⟨set_heap (set_heap (set_heap (set_heap (set_heap h _ _) _ _) _ _) _ _) _ _, fun q hq => ?_, fun B w0 hB hb => ?_⟩
  · rw [set_other hq, set_other hq, set_other hq, set_other hq, set_other hq]
  · exact ((((hb.setCell hB _).setCell hB _).setCell hB _).setCell hB _).setCell hB _

end Go.Proofs.YtdglmnmalfpipaaGreatDoor.tree

