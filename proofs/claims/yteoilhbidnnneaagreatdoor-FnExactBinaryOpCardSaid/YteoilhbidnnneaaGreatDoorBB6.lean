/-
  What the texts behind this one use: 5 parts of one proof.
  Conditions: those that each theorem names.
-/
import Derived.Test.YteoilhbidnnneaaGreatDoorBSCopyI
import Derived.Test.YteoilhbidnnneaaGreatDoorBB2
import Derived.Test.YteoilhbidnnneaaGreatDoorBB4
import Derived.Test.YteoilhbidnnneaaGreatDoorBSMarkA
import Derived.Test.YteoilhbidnnneaaGreatDoorBSHeld
import Derived.Test.YteoilhbidnnneaaGreatDoorBSCmpF
/-
  Items that lie in one block, as a list; items without one of them.
  Conditions: those that each theorem names.
-/
namespace Go.Proofs.YteoilhbidnnneaaGreatDoor.tree
open Go.ChangeShapes Go.WideShapes Go.ChangeAt Go.RowKit
set_option linter.unusedVariables false

theorem isin_row {w : World} {S : Nat → Prop} {g : Nat} {arr : Array Value} {ks : List Ky} {vs : List Tr} (hg : w.heap[g]? = some (.cells arr IE (0, 0))) (hS : S g) (hl : ks.length = vs.length) (hm : vs.length ≤ maxLen)
    (hit : ∀ i, i < vs.length → ∃ y k n s x ks' vs' A c, ks[i]? = some y ∧ vs[i]? = some (.mk k n s x ks' vs') ∧ (I64 y.num ∧ y.str.size ≤ maxLen) ∧ At8r arr i y k n s x A vs'.length c ∧ TIn w S (.mk k n s x ks' vs') (vV k n s x A vs'.length c)) :
    IsIn w S ks vs (some ⟨g, 0, none⟩) := by
  have each : ∀ i, ∃ C : Array Value, ∀ (hi : i < vs.length), KyAt w ⟨g, 0, none⟩ i (ks[i]'(hl ▸ hi)) ∧ C.size = 5 ∧ (∀ j, j < 5 → w.cell? ((⟨g, 0, none⟩ : Addr).add (8 * i + (3 + j))) = C[j]?) ∧ TIn w S (vs[i]) (.agg C) := by
    intro i
    by_cases hi : i < vs.length
    · obtain ⟨y, k, n, s, x, ks', vs', A, c, hy, ht, hyb, hat, hT⟩ := hit i hi
      have ey : ks[i]'(hl ▸ hi) = y := by rw [List.getElem?_eq_getElem (hl ▸ hi)] at hy; exact Option.some.inj hy
      have et : vs[i] = .mk k n s x ks' vs' := by rw [List.getElem?_eq_getElem hi] at ht; exact Option.some.inj ht
      have at_ : ∀ q, q < 8 → w.cell? ((⟨g, 0, none⟩ : Addr).add (8 * i + q)) = (eV y k n s x A vs'.length c).cells[q]? := fun q hq => by
        rw [Addr.add_lit, Nat.zero_add, cell_of_row w g _ arr IE _ hg, ← hat q hq, Nat.mul_comm]
      refine ⟨#[.int .i64 k, .int .i64 n, .string s, .int .i64 x, .slice A vs'.length c], fun _ => ?_⟩
      rw [ey, et]
      refine ⟨⟨at_ 0 (by omega), at_ 1 (by omega), at_ 2 (by omega), hyb⟩, rfl, fun j hj => ?_, hT⟩
      rw [at_ (3 + j) (by omega)]
      match j, hj with
      | 0, _ => rfl
      | 1, _ => rfl
      | 2, _ => rfl
      | 3, _ => rfl
      | 4, _ => rfl
    · exact ⟨#[], fun h => absurd h hi⟩
  exact ⟨hl, hm, fun i => (each i).choose, fun i hi => ⟨_, rfl, hS, ((each i).choose_spec hi).1, ((each i).choose_spec hi).2.1, ((each i).choose_spec hi).2.2.1⟩, fun i hi => ((each i).choose_spec hi).2.2.2⟩

/-- The cells of items, without those of item i. -/
theorem xAt8_drop {xs : List Value} {i j M : Nat} (hx : xs.length = M * 8) (hi : i < M) {y : Ky} {k n x : Int} {s : ByteArray} {A : Option Addr} {L c : Nat} (h : xAt8 xs (if j < i then j else j + 1) y k n s x A L c) : xAt8 (xs.take (i * 8) ++ xs.drop ((i + 1) * 8)) j y k n s x A L c := by
  intro q hq
  have := h q hq
  by_cases hj : j < i
  · rw [if_pos hj] at this
    rw [List.getElem?_append_left (by rw [List.length_take]; omega), List.getElem?_take_of_lt (by omega)]
    exact this
  · rw [if_neg hj] at this
    rw [List.getElem?_append_right (by rw [List.length_take]; omega), List.length_take, List.getElem?_drop, ← this]
    congr 1
    omega
theorem erase_get {α : Type} (l : List α) (i j : Nat) (hi : i < l.length) : (l.eraseIdx i)[j]? = l[if j < i then j else j + 1]? := by
  rw [List.getElem?_eraseIdx]
  split <;> rfl

theorem grown_below {w w1 w2 : World} {B k : Nat} (h : Below B w w1) (g : w1.grownBy w2 (some k)) (hk : B ≤ k) (hB : B ≤ w1.heap.size) : Below B w w2 :=
  ⟨g.os.trans h.os, g.tape.trans h.tape, g.output.trans h.output, Nat.le_trans h.size g.size, fun b hb => (g.block b (by omega) (by simp; omega)).trans (h.block b hb)⟩

theorem grown_below' {w w1 w2 : World} {B : Nat} {row : Option Nat} (h : Below B w w1) (g : w1.grownBy w2 row) (hB : B ≤ w1.heap.size) (hk : ∀ b, row = some b → B ≤ b) : Below B w w2 :=
  ⟨g.os.trans h.os, g.tape.trans h.tape, g.output.trans h.output, Nat.le_trans h.size g.size, fun b hb => (g.block b (by omega) (fun e => by have := hk b e.symm; omega)).trans (h.block b hb)⟩
def OutV (w : World) (t : Tr) (S : Nat → Prop) (e : Ending) (w' : World) : Prop := ∃ u, e = .returned u ∧ TIn w' S t u ∧ Below w.heap.size w w'

end Go.Proofs.YteoilhbidnnneaaGreatDoor.tree

/-
  A value with the value of a key; items of a block of which one has a new value.
  Conditions: those that each theorem names.
-/
namespace Go.Proofs.YteoilhbidnnneaaGreatDoor.tree
open Go.ChangeShapes Go.WideShapes Go.ChangeAt Go.RowKit
set_option linter.unusedVariables false

/-- The next free index behind a key. -/
def nxt (x : Int) (y : Ky) : Int := if y.text then x else if x < y.num + 1 then y.num + 1 else x
/-- A value with the value u at a key. -/
def setT : Tr → Ky → Tr → Tr
  | .mk k n s x ks vs, y, u => if posV (.mk k n s x ks vs) y = -1 then .mk k n s (nxt x y) (ks ++ [y]) (vs ++ [u]) else .mk k n s x ks (vs.set (posV (.mk k n s x ks vs) y).toNat u)
theorem setT_none {k n x : Int} {s : ByteArray} {ks : List Ky} {vs : List Tr} {y : Ky} {u : Tr} (h : posV (.mk k n s x ks vs) y = -1) : setT (.mk k n s x ks vs) y u = .mk k n s (nxt x y) (ks ++ [y]) (vs ++ [u]) := by rw [setT, if_pos h]
theorem setT_some {k n x : Int} {s : ByteArray} {ks : List Ky} {vs : List Tr} {y : Ky} {u : Tr} {i : Nat} (h : posV (.mk k n s x ks vs) y = i) : setT (.mk k n s x ks vs) y u = .mk k n s x ks (vs.set i u) := by
  rw [setT, if_neg (by omega), h, Int.toNat_natCast]
def setB : Tr → Ky → Bool
  | .mk k _ _ _ _ _, y => decide (k = 4) && keyB y
theorem setB_mk (k n x : Int) (s : ByteArray) (ks : List Ky) (vs : List Tr) (y : Ky) : setB (.mk k n s x ks vs) y = (decide (k = 4) && keyB y) := rfl
def setR (t : Tr) (y : Ky) (u : Tr) : Tr := if setB t y then setT t y u else t

theorem cnts_append : ∀ (a b : List Tr), cnts (a ++ b) = cnts a + cnts b
  | [], b => by rw [List.nil_append, cnts]; omega
  | t :: a, b => by rw [List.cons_append, cnts_cons', cnts_cons', cnts_append a b]; omega
theorem cnts_set : ∀ (vs : List Tr) (i : Nat) (u : Tr), cnts (vs.set i u) ≤ cnts vs + cnt u
  | [], i, u => by rw [List.set_nil]; omega
  | t :: vs, 0, u => by rw [List.set_cons_zero, cnts_cons', cnts_cons']; omega
  | t :: vs, i + 1, u => by
    have := cnts_set vs i u
    rw [List.set_cons_succ, cnts_cons', cnts_cons']
    omega
theorem tots_append : ∀ (ks : List Ky) (vs : List Tr) (y : Ky) (u : Tr), ks.length = vs.length → tots (ks ++ [y]) (vs ++ [u]) = tots ks vs + (y.str.size + tot u)
  | [], [], y, u, _ => by rw [List.nil_append, List.nil_append, tots_cons]; omega
  | y0 :: ks, t :: vs, y, u, h => by
    have := tots_append ks vs y u (by simpa using h)
    rw [List.cons_append, List.cons_append, tots_cons, tots_cons, this]
    omega
theorem tots_set : ∀ (ks : List Ky) (vs : List Tr) (i : Nat) (u : Tr), tots ks (vs.set i u) ≤ tots ks vs + tot u
  | _, [], i, u => by rw [List.set_nil]; omega
  | [], t :: vs, i, u => by cases i <;> simp [List.set, tots]
  | y :: ks, t :: vs, 0, u => by rw [List.set_cons_zero, tots_cons, tots_cons]; omega
  | y :: ks, t :: vs, i + 1, u => by
    have := tots_set ks vs i u
    rw [List.set_cons_succ, tots_cons, tots_cons]
    omega
theorem setT_cnt (t : Tr) (y : Ky) (u : Tr) : cnt (setT t y u) ≤ cnt t + cnt u := by
  obtain ⟨k, n, s, x, ks, vs⟩ := t
  rcases posV_cases k n s x ks vs y with hp | ⟨i, hp, hi, rfl⟩
  · rw [setT_none hp, cnt_mk', cnt_mk', cnts_append, cnts_cons', cnts]; omega
  · have := cnts_set vs i u
    rw [setT_some hp, cnt_mk', cnt_mk']
    omega
theorem setT_tot (t : Tr) (y : Ky) (u : Tr) (hf : fits t) : tot (setT t y u) ≤ tot t + y.str.size + tot u + 1 := by
  obtain ⟨k, n, s, x, ks, vs⟩ := t
  rw [fits] at hf
  rcases posV_cases k n s x ks vs y with hp | ⟨i, hp, hi, rfl⟩
  · have := tots_append ks vs y u hf.1
    rw [setT_none hp, tot_mk, tot_mk, this, List.length_append]
    simp only [List.length_cons, List.length_nil]
    omega
  · have := tots_set ks vs i u
    rw [setT_some hp, tot_mk, tot_mk, List.length_set]
    omega
theorem setR_cnt (t : Tr) (y : Ky) (u : Tr) : cnt (setR t y u) ≤ cnt t + cnt u := by
  have := setT_cnt t y u
  unfold setR
  split <;> omega
theorem setR_tot (t : Tr) (y : Ky) (u : Tr) (hf : fits t) : tot (setR t y u) ≤ tot t + y.str.size + tot u + 1 := by
  have := setT_tot t y u hf
  unfold setR
  split <;> omega

/-- Five cells in a row. -/
def put5c (arr : Array Value) (o : Nat) (c0 c1 c2 c3 c4 : Value) : Array Value := ((((arr.setIfInBounds o c0).setIfInBounds (o + 1) c1).setIfInBounds (o + 2) c2).setIfInBounds (o + 3) c3).setIfInBounds (o + 4) c4
theorem put5c_out (arr : Array Value) (o : Nat) (c0 c1 c2 c3 c4 : Value) (p : Nat) (h : p < o ∨ o + 5 ≤ p) : (put5c arr o c0 c1 c2 c3 c4)[p]? = arr[p]? := by
  unfold put5c
  iterate 5 rw [Array.getElem?_setIfInBounds_ne (by omega)]
theorem put5c_in (arr : Array Value) (o : Nat) (c0 c1 c2 c3 c4 : Value) (h : o + 5 ≤ arr.size) (q : Nat) (hq : q < 5) : (put5c arr o c0 c1 c2 c3 c4)[o + q]? = (#[c0, c1, c2, c3, c4] : Array Value)[q]? := by
  unfold put5c
  match q, hq with
  | 0, _ => iterate 4 rw [Array.getElem?_setIfInBounds_ne (by omega)]
            rw [Nat.add_zero, Array.getElem?_setIfInBounds_self_of_lt (by omega)]; rfl
  | 1, _ => iterate 3 rw [Array.getElem?_setIfInBounds_ne (by omega)]
            rw [Array.getElem?_setIfInBounds_self_of_lt (by simp; omega)]; rfl
  | 2, _ => iterate 2 rw [Array.getElem?_setIfInBounds_ne (by omega)]
            rw [Array.getElem?_setIfInBounds_self_of_lt (by simp; omega)]; rfl
  | 3, _ => rw [Array.getElem?_setIfInBounds_ne (by omega), Array.getElem?_setIfInBounds_self_of_lt (by simp; omega)]; rfl
  | 4, _ => rw [Array.getElem?_setIfInBounds_self_of_lt (by simp; omega)]; rfl

/-- An item as it lies in a row. -/
def ItAt (w : World) (S : Nat → Prop) (arr : Array Value) (ks : List Ky) (vs : List Tr) (j : Nat) : Prop :=
  ∃ y k n s x ks' vs' A c, ks[j]? = some y ∧ vs[j]? = some (.mk k n s x ks' vs') ∧ (I64 y.num ∧ y.str.size ≤ maxLen) ∧ At8r arr j y k n s x A vs'.length c ∧ TIn w S (.mk k n s x ks' vs') (vV k n s x A vs'.length c)

/-- A row of items, one of which has a new value. -/
theorem isin_put {w : World} {S : Nat → Prop} {g i : Nat} {arr : Array Value} {ks : List Ky} {vs : List Tr} {y : Ky} {k n x : Int} {s : ByteArray} {ks' : List Ky} {vs' : List Tr} {A : Option Addr} {c : Nat}
    (hg : w.heap[g]? = some (.cells (put5c arr (i * 8 + 3) (.int .i64 k) (.int .i64 n) (.string s) (.int .i64 x) (.slice A vs'.length c)) IE (0, 0))) (hS : S g) (hl : ks.length = vs.length) (hm : vs.length ≤ maxLen) (hsz : vs.length * 8 ≤ arr.size) (hi : i < vs.length)
    (hky : ks[i]? = some y) (hvs : vs[i]? = some (.mk k n s x ks' vs')) (hyb : I64 y.num ∧ y.str.size ≤ maxLen) (h0 : arr[i * 8]? = some (.bool y.text)) (h1 : arr[i * 8 + 1]? = some (.int .i64 y.num)) (h2 : arr[i * 8 + 2]? = some (.string y.str))
    (hT : TIn w S (.mk k n s x ks' vs') (vV k n s x A vs'.length c)) (ho : ∀ j, j < vs.length → j ≠ i → ItAt w S arr ks vs j) : IsIn w S ks vs (some ⟨g, 0, none⟩) := by
  refine isin_row hg hS hl hm fun j hj => ?_
  by_cases e : j = i
  · subst e
    refine ⟨y, k, n, s, x, ks', vs', A, c, hky, hvs, hyb, fun q hq => ?_, hT⟩
    by_cases hq3 : q < 3
    · rw [put5c_out _ _ _ _ _ _ _ _ (.inl (by omega))]
      match q, hq3 with
      | 0, _ => exact h0
      | 1, _ => exact h1
      | 2, _ => exact h2
    · obtain ⟨r, rfl⟩ : ∃ r, q = 3 + r := ⟨q - 3, by omega⟩
      rw [← Nat.add_assoc, put5c_in _ _ _ _ _ _ _ (by omega) r (by omega)]
      have hr : r < 5 := by omega
      match r, hr with
      | 0, _ => rfl
      | 1, _ => rfl
      | 2, _ => rfl
      | 3, _ => rfl
      | 4, _ => rfl
  · obtain ⟨y, k, n, s, x, ks', vs', A, c, a1, a2, a3, a4, a5⟩ := ho j hj e
    refine ⟨y, k, n, s, x, ks', vs', A, c, a1, a2, a3, fun q hq => ?_, a5⟩
    rw [put5c_out _ _ _ _ _ _ _ _ (by omega)]
    exact a4 q hq

/-- append at an operation of the walk, by what it runs to. -/
theorem wpList_append_eq {P : Program} {ops : Array Oper} {rest : List Oper} {o : Oper} {a : Act} {Q : Exit → Act → World → Prop} {w w' : World} (hgd : o.guard = none) (s x : Operand) (t : TypeId)
    (ho : o.op = .call { callee := .builtin .append, args := #[s, x], argTypes := #[t, t] }) {u v r : Value} (hrun : (Builtin.append_ #[t, t] o.type #[u, v]).run P w = .ok r w') (hs : a.eval s = u) (hx : a.eval x = v)
    (h : wpList P ops Q rest (a.put o.dst r) w') : wpList P ops Q (o :: rest) a w := by
  refine wpList_plain hgd fun K hK => ?_
  unfold Oper.wp execOp
  simp only [ho, resolve, invoke, builtin, Sem.run_bind, Sem.run_pure, Result.andThen_ok, List.map_toArray, List.map_cons, List.map_nil, hs, hx, hrun]
  exact hK _ _ h

theorem alc {w : World} {o : Obj} {p : Addr} {u : Value} (h : w.cell? p = some u) : (w.alloc o).cell? p = some u := cell_stays (fun hlt => (b1 w o).block _ hlt) h
theorem drc {w : World} {p : Addr} {u : Value} (h : w.cell? p = some u) : w.drew.cell? p = some u := h
theorem st5 {w : World} {b j B : Nat} {u c0 c1 c2 c3 c4 : Value} (h : w.cell? ⟨b, j, none⟩ = some u) (hne : B ≠ b) : (((((w.setCell ⟨B, 0, none⟩ c0).setCell ⟨B, 1, none⟩ c1).setCell ⟨B, 2, none⟩ c2).setCell ⟨B, 3, none⟩ c3).setCell ⟨B, 4, none⟩ c4).cell? ⟨b, j, none⟩ = some u :=
  cell_stays (fun _ => by
    have hn : b ≠ B := fun e => hne e.symm
    simp only []
    rw [set_other hn, set_other hn, set_other hn, set_other hn, set_other hn]) h
/-- Five cells of a block, written. -/
theorem put5_heap {w wF : World} {g o : Nat} {arr : Array Value} {t : TypeId} {c0 c1 c2 c3 c4 : Value} (h : w.heap[g]? = some (.cells arr t (0, 0)))
    (hF : (((((w.setCell ⟨g, o, none⟩ c0).setCell ⟨g, o + 1, none⟩ c1).setCell ⟨g, o + 2, none⟩ c2).setCell ⟨g, o + 3, none⟩ c3).setCell ⟨g, o + 4, none⟩ c4) = wF) :
    wF.heap[g]? = some (.cells (put5c arr o c0 c1 c2 c3 c4) t (0, 0)) ∧ (∀ q, q ≠ g → wF.heap[q]? = w.heap[q]?) ∧ ∀ (B : Nat) (w0 : World), B ≤ g → Below B w0 w → Below B w0 wF := by
  subst hF
  refine ⟨set_heap (set_heap (set_heap (set_heap (set_heap h _ _) _ _) _ _) _ _) _ _, fun q hq => ?_, fun B w0 hB hb => ?_⟩
  · rw [set_other hq, set_other hq, set_other hq, set_other hq, set_other hq]
  · exact ((((hb.setCell hB _).setCell hB _).setCell hB _).setCell hB _).setCell hB _

end Go.Proofs.YteoilhbidnnneaaGreatDoor.tree

/-
  The union of two arrays, without the program.
  Conditions: those that each theorem names.
-/
namespace Go.Proofs.YteoilhbidnnneaaGreatDoor.tree
open Go.ChangeShapes Go.WideShapes Go.ChangeAt Go.RowKit
set_option linter.unusedVariables false

/-- The keys of the right list that the left one does not have. -/
def uk (K : List Ky) : List Ky → List Tr → List Ky
  | y :: ks, t :: vs => if y ∈ K then uk K ks vs else y :: uk K ks vs
  | _, _ => []
/-- Their values. -/
def uv (K : List Ky) : List Ky → List Tr → List Tr
  | y :: ks, t :: vs => if y ∈ K then uv K ks vs else t :: uv K ks vs
  | _, _ => []
theorem uk_nil (K ks : List Ky) : uk K ks [] = [] := by cases ks <;> rfl
theorem uv_nil (K ks : List Ky) : uv K ks [] = [] := by cases ks <;> rfl
theorem uk_len (K : List Ky) : ∀ (ks : List Ky) (vs : List Tr), (uk K ks vs).length = (uv K ks vs).length
  | [], vs => by cases vs <;> rfl
  | _ :: _, [] => rfl
  | y :: ks, t :: vs => by
    have := uk_len K ks vs
    rw [uk, uv]
    split
    · exact this
    · simp [this]
theorem u_drop {K ks : List Ky} {vs : List Tr} {j : Nat} {y : Ky} {t : Tr} (hk : ks[j]? = some y) (hv : vs[j]? = some t) :
    (uk K (ks.drop j) (vs.drop j) = if y ∈ K then uk K (ks.drop (j + 1)) (vs.drop (j + 1)) else y :: uk K (ks.drop (j + 1)) (vs.drop (j + 1))) ∧
    uv K (ks.drop j) (vs.drop j) = if y ∈ K then uv K (ks.drop (j + 1)) (vs.drop (j + 1)) else t :: uv K (ks.drop (j + 1)) (vs.drop (j + 1)) := by
  obtain ⟨hj, rfl⟩ := List.getElem?_eq_some_iff.1 hk
  obtain ⟨hj', rfl⟩ := List.getElem?_eq_some_iff.1 hv
  rw [List.drop_eq_getElem_cons hj, List.drop_eq_getElem_cons hj', uk, uv]
  exact ⟨rfl, rfl⟩
theorem uv_cnts (K : List Ky) : ∀ (ks : List Ky) (vs : List Tr), cnts (uv K ks vs) ≤ cnts vs
  | [], vs => by cases vs <;> simp [uv, cnts]
  | _ :: _, [] => by simp [uv]
  | y :: ks, t :: vs => by
    have := uv_cnts K ks vs
    rw [uv, cnts_cons']
    split
    · omega
    · rw [cnts_cons']; omega
theorem uv_len (K : List Ky) : ∀ (ks : List Ky) (vs : List Tr), (uv K ks vs).length ≤ vs.length
  | [], vs => by cases vs <;> simp [uv]
  | _ :: _, [] => by simp [uv]
  | y :: ks, t :: vs => by
    have := uv_len K ks vs
    rw [uv, List.length_cons]
    split
    · omega
    · rw [List.length_cons]; omega
theorem u_tots (K : List Ky) : ∀ (ks : List Ky) (vs : List Tr), tots (uk K ks vs) (uv K ks vs) ≤ tots ks vs
  | [], vs => by cases vs <;> simp [uk, uv, tots]
  | _ :: _, [] => by simp [uk, uv, tots]
  | y :: ks, t :: vs => by
    have := u_tots K ks vs
    rw [uk, uv, tots_cons]
    split
    · omega
    · rw [tots_cons]; omega
theorem tots_join : ∀ (ks : List Ky) (vs : List Tr) (ks' : List Ky) (vs' : List Tr), ks.length = vs.length → tots (ks ++ ks') (vs ++ vs') = tots ks vs + tots ks' vs'
  | [], [], ks', vs', _ => by simp [tots]
  | y :: ks, t :: vs, ks', vs', h => by
    have := tots_join ks vs ks' vs' (by simpa using h)
    rw [List.cons_append, List.cons_append, tots_cons, tots_cons, this]
    omega
/-- The union of two arrays. -/
def uniT : Tr → Tr → Tr
  | .mk k n s x ks vs, .mk _ _ _ x' ks' vs' => .mk k n s (nums.mx x x') (ks ++ uk ks ks' vs') (vs ++ uv ks ks' vs')
theorem uni_mk (k n x k' n' x' : Int) (s s' : ByteArray) (ks ks' : List Ky) (vs vs' : List Tr) : uniT (.mk k n s x ks vs) (.mk k' n' s' x' ks' vs') = .mk k n s (nums.mx x x') (ks ++ uk ks ks' vs') (vs ++ uv ks ks' vs') := rfl
theorem uni_cnt (t u : Tr) : cnt (uniT t u) ≤ cnt t + cnt u := by
  obtain ⟨k, n, s, x, ks, vs⟩ := t
  obtain ⟨k', n', s', x', ks', vs'⟩ := u
  have := uv_cnts ks ks' vs'
  rw [uni_mk, cnt_mk', cnt_mk', cnt_mk', cnts_append]
  omega
theorem uni_tot (t u : Tr) (hf : fits t) : tot (uniT t u) ≤ tot t + tot u := by
  obtain ⟨k, n, s, x, ks, vs⟩ := t
  obtain ⟨k', n', s', x', ks', vs'⟩ := u
  rw [fits] at hf
  have h1 := u_tots ks ks' vs'
  have h2 := uv_len ks ks' vs'
  rw [uni_mk, tot_mk, tot_mk, tot_mk, tots_join _ _ _ _ hf.1, List.length_append]
  omega
/-- Whether a value is an array. -/
def isA : Tr → Bool
  | .mk k _ _ _ _ _ => decide (k = 4)
/-- Whether two values have a union. -/
def uniB (t u : Tr) : Bool := (isA t && isA u) && (valB t && valB u)
/-- The error of a union. -/
def uniC (t u : Tr) : Int := if uniB t u = true then (if wgt (uniT t u) ≤ 200 then 0 else 9) else 2
/-- The value of a union. -/
def uniR (t u : Tr) : Tr := if uniB t u = true then (if wgt (uniT t u) ≤ 200 then uniT t u else nullT) else nullT
theorem uni_not {t u : Tr} (h : uniB t u = false) : uniC t u = 2 ∧ uniR t u = nullT := by unfold uniC uniR; rw [h]; exact ⟨rfl, rfl⟩
theorem uni_big {t u : Tr} (h : uniB t u = true) (hw : ¬ wgt (uniT t u) ≤ 200) : uniC t u = 9 ∧ uniR t u = nullT := by unfold uniC uniR; rw [if_pos h, if_pos h, if_neg hw, if_neg hw]; exact ⟨rfl, rfl⟩
theorem uni_fits {t u : Tr} (h : uniB t u = true) (hw : wgt (uniT t u) ≤ 200) : uniC t u = 0 ∧ uniR t u = uniT t u := by unfold uniC uniR; rw [if_pos h, if_pos h, if_pos hw, if_pos hw]; exact ⟨rfl, rfl⟩
theorem cnt_null : cnt nullT = 1 := by unfold nullT; rw [cnt_mk']; rfl
theorem uniR_cnt (t u : Tr) : cnt (uniR t u) ≤ cnt t + cnt u := by
  have h1 := uni_cnt t u
  have h2 := cnt_null
  have h3 : 1 ≤ cnt t := by cases t; rw [cnt_mk']; omega
  unfold uniR
  split
  · split <;> omega
  · omega
theorem val_four {n x : Int} {s : ByteArray} {ks : List Ky} {vs : List Tr} (h : valB (.mk 4 n s x ks vs) = true) : s.size = 0 ∧ n = 0 ∧ (0 ≤ x ∧ x ≤ 1000000001) ∧ itemsB x [] ks vs = true := by
  unfold valB at h
  rw [Bool.and_eq_true, snd_four, Bool.and_eq_true, Bool.and_eq_true, Bool.and_eq_true] at h
  obtain ⟨-, h1, h2, h3, h4⟩ := h
  unfold nums.inr at h3
  rw [Bool.and_eq_true] at h3
  exact ⟨of_decide_eq_true h1, of_decide_eq_true h2, ⟨of_decide_eq_true h3.1, of_decide_eq_true h3.2⟩, h4⟩

end Go.Proofs.YteoilhbidnnneaaGreatDoor.tree

/-
  What the walks of the exact laws on values ask for again and again: the words of blocks behind calls, marks that are put in and found again.
  Conditions: those that each theorem names.
-/
namespace Go.Proofs.YteoilhbidnnneaaGreatDoor.tree
open Go.ChangeShapes Go.WideShapes Go.ChangeAt Go.RowKit
set_option linter.unusedVariables false

/-- How many items hang in a value. -/
def itm : Tr → Nat
  | .mk _ _ _ _ _ vs => cnts vs
theorem itm_cnt (t : Tr) : cnt t = 1 + itm t := by cases t; rw [cnt_mk', itm]
/-- A value with marks. -/
def mkI (m : Int) : Tr → Tr
  | .mk k n s x _ vs => .mk k n s x (mkK m vs) (mkV m vs)

/-- Blocks from lo on and below hi. -/
def Rg (lo hi : Nat) (b : Nat) : Prop := lo ≤ b ∧ b < hi
/-- A value in plain blocks from lo on: in those that are there. -/
theorem TIn.rg {w : World} {lo : Nat} {t : Tr} {v : Value} (h : TIn w (Nw lo w) t v) : TIn w (fun b => Rg lo w.heap.size b ∧ Plain w b) t v := h.stays (fun b hb => ⟨⟨hb.1, hb.2.lt⟩, hb.2⟩) (fun _ _ _ => rfl)

/-- Marks on an argument: all else stays. -/
theorem markArg (t : Tr) (v : Value) (m : Int) (hm0 : 1 ≤ m) (hm1 : m + 7 * cnt t ≤ 100000000000) (w w0 : World) (lo : Nat) (h : TIn w0 (Nw lo w0) t v) (hb : Below w0.heap.size w0 w) :
    Calls Tryz.prog 16 #[v, .int .i64 m] w (fun e w' => ∃ q, e = .returned (.int .i64 q) ∧ m ≤ q ∧ q ≤ m + 7 * cnt t ∧ Fr (Rg lo w0.heap.size) w w') := by
  have h1 := h.rg
  have h2 : TIn w (fun b => Rg lo w0.heap.size b ∧ Plain w0 b) t v := h1.below' hb
  refine (markVal t v m hm0 hm1 w _ h2 fun b hb' => ?_).mono fun e w' ⟨q, a, b, c, d⟩ => ⟨q, a, b, c, d.mono fun _ hb' => hb'.1⟩
  obtain ⟨_, cs, t, hc⟩ := hb'
  exact ⟨cs, t, carry hb hc⟩

/-- Nothing hangs but what is there. -/
theorem TPar.tight {w : World} {par : Nat → Nat × Nat} {R i : Nat} {t : Tr} {v : Value} (h : TPar w par (R, i) t v) : ∃ par', TPar w par' (R, i) t v ∧ ∀ b, Hang par' (R, i) b → Rg (R + 1) w.heap.size b := by
  refine ⟨fun b => if b < w.heap.size then par b else (b, 0), h.par_ fun b hb => if_pos hb, fun b hb => ⟨by have := hb.gt; simp at this; omega, ?_⟩⟩
  cases hb with
  | root _ e hlt =>
    by_cases hb : b < w.heap.size
    · exact hb
    · rw [if_neg hb] at e
      injection e with e1 e2
      simp at hlt
      omega
  | step _ g j e hlt hh =>
    by_cases hb : b < w.heap.size
    · exact hb
    · rw [if_neg hb] at e
      injection e with e1 e2
      omega

/-- Marks on a value whose lists lie apart. -/
theorem markSep (t : Tr) (v : Value) (m : Int) (hm0 : 1 ≤ m) (hm1 : m + 7 * itm t ≤ 100000000000) (w : World) (par : Nat → Nat × Nat) (R i lo hi : Nat) (h : TPar w par (R, i) t v) (hr : ∀ b, Hang par (R, i) b → Rg lo hi b) :
    Calls Tryz.prog 16 #[v, .int .i64 m] w (fun e w' => e = .returned (.int .i64 (m + 7 * itm t)) ∧ TPar w' par (R, i) (mkI m t) v ∧ Fr (Rg lo hi) w w') := by
  obtain ⟨k, n, s, x, ks, vs⟩ := t
  obtain ⟨A, c, rfl, hk, hl, hcap, hblk⟩ := h.out
  rw [itm] at hm1 ⊢
  rw [mkI]
  have M := markItems (.mk k n s x ks vs) k n s x ks vs rfl k n s x ks m hm0 hm1
  obtain ⟨L, HL⟩ : ∃ L, Hid (L = vs.length) := ⟨_, Lib.hid rfl⟩
  obtain ⟨Q, HQ⟩ : ∃ Q : Int, Hid (m + 7 * cnts vs = Q) := ⟨_, Lib.hid rfl⟩
  rw [HQ.out] at M ⊢
  have HH := Lib.hid h
  have HR := Lib.hid hr
  have HM := Lib.hid M
  have hsz : R < w.heap.size ∨ vs.length = 0 := by
    rcases Nat.eq_zero_or_pos vs.length with h0 | h0
    · exact .inr h0
    · obtain ⟨g, -, -, h2, arr, h3, -⟩ := hblk h0
      exact .inl (Nat.lt_trans (by simpa using h2) (Array.getElem?_eq_some_iff.1 h3).1)
  rw [← HL.out]
  clear h hr M hblk hl hcap hk hsz
  go_enter Tryz.func16, Tryz.ntmps16
  go_wp2_with (fail)
  have M2 := HM.out _ par (R, i) A c (HH.out.keep (w' := w.alloc (.cells #[.int .i64 k, .int .i64 n, .string s, .int .i64 x, .slice A vs.length c] IV)) fun b _ hb => (b1 w _).block b hb)
  rw [← HL.out] at M2
  refine M2.mono ?_
  rintro e w1 ⟨rfl, ht1, hf1⟩
  have HT1 := Lib.hid ht1
  have HF1 := Lib.hid hf1
  clear ht1 hf1 M2
  go_wp2_with (fail)
  go_ret
  exact ⟨rfl, HT1.out, (Fr.of (b1 w _)).trans (HF1.out.mono HR.out)⟩

theorem heldSep (t : Tr) (v : Value) (m : Int) (hm0 : 1 ≤ m) (hm1 : m + 7 * itm t ≤ 100000000000) (w : World) (S : Nat → Prop) (h : TIn w S (mkI m t) v) :
    Calls Tryz.prog 17 #[v, .int .i64 m] w (GivesQ w (.int .i64 (m + 7 * itm t))) := by
  obtain ⟨k, n, s, x, ks, vs⟩ := t
  rw [mkI] at h
  obtain ⟨A, c, rfl, hk, hin⟩ := h.out
  rw [itm] at hm1 ⊢
  have M := fun w h => heldItems (.mk k n s x ks vs) k n s x ks vs rfl m hm0 hm1 w S A c h
  obtain ⟨L, HL⟩ : ∃ L, Hid (L = vs.length) := ⟨_, Lib.hid rfl⟩
  obtain ⟨Q, HQ⟩ : ∃ Q : Int, Hid (m + 7 * cnts vs = Q) := ⟨_, Lib.hid rfl⟩
  have hQ : 0 ≤ Q := by rw [← HQ.out]; omega
  rw [HQ.out, ← HL.out] at M
  rw [HQ.out, mkV_len, ← HL.out]
  have HI := Lib.hid hin
  clear h hin hk
  go_enter Tryz.func17, Tryz.ntmps17
  go_wp2_with (fail)
  refine (M _ (HI.out.below (b1 _ _))).mono ?_
  rintro e w1 ⟨rfl, hb1⟩
  have HB := Lib.hid hb1
  clear hb1
  go_wp2_with (fail)
  go_ret
  exact ⟨rfl, bs (b1 _ _) HB.out⟩

end Go.Proofs.YteoilhbidnnneaaGreatDoor.tree

/-
  The list of arrays that are being compared, as it lies in memory.
  Conditions: those that each theorem names.
-/
namespace Go.Proofs.YteoilhbidnnneaaGreatDoor.tree
open Go.ChangeShapes Go.WideShapes Go.ChangeAt Go.RowKit
set_option linter.unusedVariables false

def CRow (w : World) (B : Nat) (way : Value) (G : List Mt) : Prop := w.ownsRow B MG 4 way G.length (G.reverse.flatMap Mt.cells)

theorem cells9_len (G : List Mt) : (G.flatMap Mt.cells).length = G.length * 4 := by
  induction G with
  | nil => rfl
  | cons V l ih => rw [List.flatMap_cons, List.length_append, ih, List.length_cons]; simp [Mt.cells]; omega
theorem cells9_rev (V : Mt) (l : List Mt) : (V :: l).reverse.flatMap Mt.cells = l.reverse.flatMap Mt.cells ++ V.cells := by simp

theorem CRow.top {w : World} {B : Nat} {way : Value} {V : Mt} {l : List Mt} (h : CRow w B way (V :: l)) :
    ∃ g c cur, way = .slice (some ⟨g, 0, none⟩) (l.length + 1) c ∧ B ≤ g ∧ w.heap[g]? = some (.cells cur MG (0, 0)) ∧ l.length + 1 ≤ c ∧ c ≤ maxLen ∧ cur.size = c * 4 ∧ ∀ q, q < 4 → cur[l.length * 4 + q]? = V.cells[q]? := by
  obtain ⟨h1, h2⟩ := h
  rcases h2 with ⟨_, h0⟩ | ⟨g, cap, cur, rfl, hB, hg, hn, hm, hs, htake⟩
  · simp at h0
  · refine ⟨g, cap, cur, rfl, hB, hg, hn, hm, hs, fun q hq => ?_⟩
    have hl : (l.reverse.flatMap Mt.cells).length = l.length * 4 := by rw [cells9_len, List.length_reverse]
    have e : (cur.toList.take ((V :: l).length * 4))[l.length * 4 + q]? = V.cells[q]? := by
      rw [htake, cells9_rev, List.getElem?_append_right (by omega), hl]
      congr 1
      omega
    rw [List.getElem?_take_of_lt (by simp; omega)] at e
    rw [← e]
    simp

theorem CRow.pop {w : World} {B g c : Nat} {n : Nat} {V : Mt} {l : List Mt} (h : CRow w B (.slice (some ⟨g, 0, none⟩) n c) (V :: l)) : CRow w B (.slice (some ⟨g, 0, none⟩) l.length c) l := by
  obtain ⟨h1, h2⟩ := h
  rcases h2 with ⟨h0, _⟩ | ⟨g', cap, cur, he, hB, hg, hn, hm, hs, htake⟩
  · cases h0
  · simp at he
    obtain ⟨rfl, -, rfl⟩ := he
    have hl : (l.reverse.flatMap Mt.cells).length = l.length * 4 := by rw [cells9_len, List.length_reverse]
    refine ⟨hl, .inr ⟨g, c, cur, rfl, hB, hg, by simp at hn; omega, hm, hs, ?_⟩⟩
    have := congrArg (List.take (l.length * 4)) htake
    rw [List.take_take, cells9_rev, List.take_append_of_le_length (by omega), List.take_of_length_le (l := List.flatMap _ _) (by omega)] at this
    rw [← this]
    congr 1
    simp


theorem CRow.nil {w : World} {B : Nat} {way : Value} (h : CRow w B way []) : ∃ A c, way = .slice A 0 c := by
  rcases h.2 with ⟨h0, _⟩ | ⟨g, cap, cur, h0, _⟩
  · exact ⟨none, 0, h0⟩
  · exact ⟨_, cap, h0⟩
theorem CRow.below {w w' : World} {B : Nat} {way : Value} {P : List Mt} (h : CRow w B way P) (hb : Below w.heap.size w w') : CRow w' B way P :=
  World.ownsRow.kept h (mem.none_of_below hb) (by
    cases e : way.ownBlock with
    | none => exact .inl rfl
    | some k => exact .inr (by simp))
theorem CRow.own {w : World} {B : Nat} {way : Value} {P : List Mt} (h : CRow w B way P) : ∀ k, way.ownBlock = some k → B ≤ k ∧ k < w.heap.size ∧ Plain w k := fun k e => by
  rcases h.2 with ⟨h0, _⟩ | ⟨g, cap, cur, h0, hB, hg, _⟩
  · rw [h0] at e; cases e
  · rw [h0] at e
    injection e with e
    obtain rfl : g = k := e
    exact ⟨hB, (Array.getElem?_eq_some_iff.1 hg).1, _, _, hg⟩
theorem CRow.keptN {w w' : World} {B b : Nat} {way : Value} {P : List Mt} (h : CRow w B way P) (hg : w.grownBy w' (some b)) (hb : ¬ Plain w b) : CRow w' B way P :=
  World.ownsRow.kept h hg (by
    cases e : way.ownBlock with
    | none => exact .inl rfl
    | some k =>
      refine .inr (fun h2 => ?_)
      have := (h.own k e).2.2
      injection h2 with h2
      exact hb (h2 ▸ this))
theorem CRow.set {w w' : World} {B g c n : Nat} {V V' : Mt} {l : List Mt} {cur arr : Array Value} (h : CRow w B (.slice (some ⟨g, 0, none⟩) n c) (V :: l)) (hg : w.heap[g]? = some (.cells cur MG (0, 0))) (hg' : w'.heap[g]? = some (.cells arr MG (0, 0)))
    (hs : arr.size = cur.size) (hlo : ∀ j, j < l.length * 4 → arr[j]? = cur[j]?) (hat : ∀ q, q < 4 → arr[l.length * 4 + q]? = V'.cells[q]?) : CRow w' B (.slice (some ⟨g, 0, none⟩) n c) (V' :: l) := by
  obtain ⟨h1, h2⟩ := h
  rcases h2 with ⟨h0, _⟩ | ⟨g', cap, cur', he, hB, hg2, hnc, hm, hsz, htake⟩
  · cases h0
  · simp at he
    obtain ⟨rfl, rfl, rfl⟩ := he
    rw [hg] at hg2
    simp at hg2
    obtain rfl := hg2
    have hl : (l.reverse.flatMap Mt.cells).length = l.length * 4 := by rw [cells9_len, List.length_reverse]
    refine ⟨by rw [cells9_rev, List.length_append, hl]; simp [Mt.cells]; omega, .inr ⟨g, c, arr, by simp, hB, hg', by simpa using hnc, hm, by omega, ?_⟩⟩
    refine List.ext_getElem? fun j => ?_
    simp only [List.length_cons] at htake hnc ⊢
    by_cases hj : j < l.length * 4
    · rw [List.getElem?_take_of_lt (by omega), cells9_rev, List.getElem?_append_left (by omega), Array.getElem?_toList, hlo j hj]
      have := congrArg (fun z => z[j]?) htake
      rw [List.getElem?_take_of_lt (by omega), cells9_rev, List.getElem?_append_left (by omega), Array.getElem?_toList] at this
      exact this
    · by_cases hj4 : j < l.length * 4 + 4
      · obtain ⟨q, rfl⟩ : ∃ q, j = l.length * 4 + q := ⟨j - l.length * 4, by omega⟩
        rw [List.getElem?_take_of_lt (by omega), cells9_rev, List.getElem?_append_right (by omega), hl, Array.getElem?_toList, hat q (by omega), Nat.add_sub_cancel_left]
      · rw [List.getElem?_eq_none (by simp; omega), List.getElem?_eq_none (by rw [cells9_rev, List.length_append, hl]; simp [Mt.cells]; omega)]

/-- What taking an item leaves, apart from what it gives. -/
structure Tk (wr w4 : World) (g m : Nat) (cur : Array Value) (F : Mt) (R1 : Option Addr) (L1 c1 : Nat) : Prop where
  fr : Fr (fun b => b = g ∨ b = F.b) wr w4
  st : ∃ (p : Nat) (arr : Array Value) (f : Value → Option Value), p ≤ F.vs'.length ∧ w4.heap[g]? = some (.cells arr MG (0, 0)) ∧ arr.size = cur.size ∧ arr[m * 4]? = some (.slice R1 L1 c1) ∧ arr[m * 4 + 2]? = some (.int .i64 p) ∧ (∀ j, j ≠ m * 4 → j ≠ m * 4 + 2 → arr[j]? = cur[j]?) ∧ raw.Holds w4 GK F.b f ∧ FirstK (F.ks'.take p) f
theorem hold_np {w : World} {G : World → Value → Prop} {b : Nat} {f : Value → Option Value} (h : raw.Holds w G b f) : ¬ Plain w b := fun ⟨cs, t, hc⟩ => by
  obtain ⟨es, ck, hb, -⟩ := h
  rw [hc] at hb
  cases hb

section
variable {R : Int} {B E : Nat} {w wr w4 : World} {F : Mt} {G : List Mt} {e : Value → Option Value} {g c n : Nat} {cur : Array Value} {y : Ky} {kt : List Ky} {t : Tr} {ts : List Tr} {R1 : Option Addr} {c1 : Nat}
theorem CSt.took (hst : CSt R B wr 0 (F :: G) e) (hrow : CRow wr B (.slice (some ⟨g, 0, none⟩) n c) (F :: G)) (hm1 : raw.Holds wr (G2 B) E e) (hE : ∀ X ∈ F :: G, E < X.b) (hB : w.heap.size ≤ B) (hEb : w.heap.size ≤ E) (hb : Below w.heap.size w wr)
    (hgB : B ≤ g) (hg : wr.heap[g]? = some (.cells cur MG (0, 0))) (hq : ∀ q, q < 4 → cur[G.length * 4 + q]? = F.cells[q]?) (hk0 : F.ks = y :: kt) (hv : F.vs = t :: ts)
    (hT : Tk wr w4 g G.length cur F R1 ts.length c1) (hR : IsIn wr (Lo B wr) kt ts R1) (hc : ts.length ≤ c1 ∧ c1 ≤ maxLen) :
    Below w.heap.size w w4 ∧ Kp B wr w4 ∧ (getL F.ks' F.vs' y = none → R = 2) ∧ ∀ u, getL F.ks' F.vs' y = some u → ∃ F' : Mt, CSt R B w4 (cmpT t u) (F' :: G) e ∧ CRow w4 B (.slice (some ⟨g, 0, none⟩) n c) (F' :: G) ∧ raw.Holds w4 (G2 B) E e ∧
      (∀ X ∈ F' :: G, E < X.b) ∧ left9 (F' :: G) + wk t = left9 (F :: G) ∧ (F'.ks = kt ∧ F'.vs = ts ∧ F'.ks' = F.ks' ∧ F'.vs' = F.vs') ∧ cnt t ≤ cnts F'.vs0 := by
  obtain ⟨p, arr, f, hp, hg4, hsz, ha0, ha2, hao, hmf, hff⟩ := hT.st
  have hF := hst.ok F List.mem_cons_self
  obtain ⟨f0, hf0, -⟩ := hF.map
  have hkp : Kp B wr w4 := fun b hbB hpl => hT.fr.block b hpl.lt (fun h => by
    rcases h with rfl | rfl
    · omega
    · exact hold_np hf0 hpl)
  have hEF := hE F List.mem_cons_self
  have hgp : Plain wr g := ⟨_, _, hg⟩
  have hbs : ∀ X ∈ G, w4.heap[X.b]? = wr.heap[X.b]? := fun X hX => by
    have hXok := hst.ok X (List.mem_cons_of_mem _ hX)
    refine hT.fr.block _ hXok.lt (fun h => ?_)
    rcases h with h | h
    · obtain ⟨f1, hf1, -⟩ := hXok.map
      rw [h] at hf1
      exact hold_np hf1 hgp
    · have := (hst.nest.1 X hX).2
      omega
  obtain ⟨h1, h2⟩ := hst.take hkp hbs hk0 hv (hR.kp hkp) hc hp ⟨f, hmf, hff⟩
  refine ⟨?_, hkp, h1, fun u hu => ⟨_, h2 u hu, ?_, ?_, ?_, ?_, ⟨rfl, rfl, rfl, rfl⟩, ?_⟩⟩
  · have := hT.fr.below (lo := w.heap.size) hb.size (fun b hb => by rcases hb with rfl | rfl <;> omega)
    exact ⟨this.os.trans hb.os, this.tape.trans hb.tape, this.output.trans hb.output, Nat.le_trans hb.size this.size, fun b hbb => (this.block b hbb).trans (hb.block b hbb)⟩
  · refine hrow.set hg hg4 hsz (fun j hj => hao j (by omega) (by omega)) (fun q hq4 => ?_)
    have e1 := hq q hq4
    match q, hq4 with
    | 0, _ => exact ha0
    | 1, _ => exact (hao _ (by omega) (by omega)).trans e1
    | 2, _ => exact ha2
    | 3, _ => exact (hao _ (by omega) (by omega)).trans e1
  · refine hm1.kept (hT.fr.block _ hm1.lt (fun h => ?_)) (fun x hx => hx.kp hkp)
    rcases h with h | h
    · rw [h] at hm1
      exact hold_np hm1 hgp
    · omega
  · intro X hX
    rcases List.mem_cons.1 hX with rfl | hX
    · exact hEF
    · exact hE X (List.mem_cons_of_mem _ hX)
  · simp only [left9, hv, wks_cons]
    omega
  · have := hF.le
    rw [hv, cnts_cons] at this
    show cnt t ≤ cnts F.vs0
    omega

/-- How large they may be. -/
def Tb (F : Mt) : Prop := tots F.ks F.vs ≤ 1000000000 ∧ tots F.ks' F.vs' ≤ 1000000000
/-- What holds at the head of the loop. -/
def CRel (R : Int) (B E : Nat) (w : World) (gk : Nat) (way : Value) (wr : World) : Prop :=
  ∃ G e, gk = left9 G ∧ CSt R B wr 0 G e ∧ CRow wr B way G ∧ raw.Holds wr (G2 B) E e ∧ (∀ X ∈ G, E < X.b) ∧ Below w.heap.size w wr ∧ ∀ X ∈ G, Tb X

/-- Two arrays are entered: the list behind it. -/
theorem CRel.push {w4' w5 w6 w7 : World} {ks1 ks2 : List Ky} {vs1 vs2 : List Tr} {A1 A2 : Option Addr} {c1 c2 b : Nat} {way : Value} {row : Option Nat} (hst : CSt R B w4 (cmpL ks1 vs1 ks2 vs2) (F :: G) e) (hm : raw.Holds w4 (G2 B) E e) (hE : ∀ X ∈ F :: G, E < X.b)
    (hB : w.heap.size ≤ B) (hEb : w.heap.size ≤ E) (hb : Below w.heap.size w w4) (hin1 : IsIn w4 (Lo B w4) ks1 vs1 A1) (hc1 : vs1.length ≤ c1 ∧ c1 ≤ maxLen) (hin2 : IsIn w4 (Lo B w4) ks2 vs2 A2) (hc2 : vs2.length ≤ c2 ∧ c2 ≤ maxLen) (hlt : cnts vs1 < cnts F.vs0)
    (h44 : Below w4.heap.size w4 w4') (hm4 : raw.Holds w4' (G2 B) E e) (hm5 : raw.Holds w5 (G2 B) E (raw.put e (pq (plc A1 vs1.length) (plc A2 vs2.length)) (.bool true))) (h5 : w4'.grownBy w5 (some E))
    (h56 : Below w5.heap.size w5 w6) (hbn : w5.heap.size ≤ b) (hmb : raw.Holds w6 GK b (fun _ => none))
    (hrow : w7.ownsRow B MG 4 way (G.length + 1 + 1) ((F :: G).reverse.flatMap Mt.cells ++ [.slice A1 vs1.length c1, .slice A2 vs2.length c2, .int .i64 0, .map (some b)])) (h67 : w6.grownBy w7 row) (hr : ∀ k, row = some k → B ≤ k ∧ Plain w6 k) (hTb : ∀ X ∈ F :: G, Tb X) (hTn : tots ks1 vs1 ≤ 1000000000 ∧ tots ks2 vs2 ≤ 1000000000) :
    CRel R B E w (1 + wks vs1 + left9 (F :: G)) way w7 := by
  have k5 : Kp B w4' w5 := Kp.grown h5 (fun k hk => .inr (by obtain rfl := Option.some.inj hk; exact hold_np hm4))
  have k6 : Kp B w5 w6 := Kp.below h56
  have k7 : Kp B w6 w7 := Kp.grown h67 (fun k hk => .inl (hr k hk).1)
  have hkp : Kp B w4 w7 := (((Kp.below h44).trans k5).trans k6).trans k7
  have sz4 := h44.size
  have sz5 := h5.size
  have sz6 := h56.size
  have np7 : ∀ k, ¬ Plain w6 k → k < w6.heap.size → w7.heap[k]? = w6.heap[k]? := fun k hk hlt => h67.block k hlt (fun h => hk (hr k h.symm).2)
  have hbX : ∀ X ∈ F :: G, w7.heap[X.b]? = w4.heap[X.b]? := fun X hX => by
    have hXok := hst.ok X hX
    have l4 := hXok.lt
    obtain ⟨f1, hf1, -⟩ := hXok.map
    have hEX := hE X hX
    have e5 : w6.heap[X.b]? = w4.heap[X.b]? := (h56.block _ (by omega)).trans ((h5.block _ (by omega) (by intro h; injection h; omega)).trans (h44.block _ l4))
    refine (np7 _ (fun ⟨cs, t, hc⟩ => hold_np hf1 ⟨cs, t, e5.symm.trans hc⟩) (by omega)).trans e5
  have l5 := hm5.lt
  have hm7 : raw.Holds w7 (G2 B) E (raw.put e (pq (plc A1 vs1.length) (plc A2 vs2.length)) (.bool true)) := by
    have m6 := hm5.kept (h56.block _ l5) (fun x hx => hx.kp k6)
    exact m6.kept (np7 _ (hold_np m6) m6.lt) (fun x hx => hx.kp k7)
  have hb7 : raw.Holds w7 GK b (fun _ => none) := hmb.kept (np7 _ (hold_np hmb) hmb.lt) (fun x hx => hx)
  have hst7 := hst.kp hkp hbX
  have hlE := hm.lt
  refine ⟨_, _, rfl, hst7.push (hin1.kp hkp) hc1 (hin2.kp hkp) hc2 hlt (fun X hX => ?_) hb7, ?_, hm7, fun X hX => ?_, ?_, fun X hX => ?_⟩
  · have := (hst.ok X hX).lt
    omega
  · show w7.ownsRow _ _ _ _ _ _
    rw [cells9_rev]
    exact hrow
  · rcases List.mem_cons.1 hX with rfl | hX
    · show E < b
      omega
    · exact hE X hX
  · have sz := hb.size
    have g1 := (bs hb h44).grown h5 (by omega) (fun k hk => by obtain rfl := Option.some.inj hk; omega)
    exact (bs g1 h56).grown h67 (by omega) (fun k hk => by have := (hr k hk).1; omega)
  · rcases List.mem_cons.1 hX with rfl | hX
    · exact hTn
    · exact hTb X hX
end

end Go.Proofs.YteoilhbidnnneaaGreatDoor.tree

