/-
  Slices of bytes in memory: one that reads as a list of numbers, one that the call itself has made, and how both are kept while memory grows.
  Conditions: those that each theorem names.
-/
import Derived.Test.YteoilhbidnnneaaDoorRows
import Derived.Test.YteoilhbidnnneaaDoorEnc
import Derived.Laws.OwnMore
import Derived.OwnWalk
import Derived.Deep.AppendLies
import Derived.Deep.Draws
import Derived.Lib.AppendStr
import Derived.Laws.AppendOwnNone
import Derived.Lib.SmallJoins
import Derived.Lib.Hide
import Derived.Laws.BytesArg
namespace Go.Proofs.YteoilhbidnnneaaDoor.mem
open Go.RowKit
set_option linter.unusedVariables false

theorem u8row : (Tryd.prog.info? 5).map (fun i => (i.zero, i.size, i.bytes)) = some (some (.int .u8 0), 1, 1) := by kernel_rfl

/-- The numbers as cells. -/
def cs (l : List Int) : List Value := l.map (Value.int .u8)
theorem cs_len (l : List Int) : (cs l).length = l.length := List.length_map _
theorem cs_app (a b : List Int) : cs (a ++ b) = cs a ++ cs b := List.map_append
theorem cs_get {l : List Int} {j : Nat} {v : Int} (h : l[j]? = some v) : (cs l)[j]? = some (.int .u8 v) := by unfold cs; rw [List.getElem?_map, h]; rfl
theorem cs_set (l : List Int) (j : Nat) (v : Int) : cs (l.set j v) = (cs l).set j (.int .u8 v) := List.map_set
theorem cs_one (l : List Int) : ∀ u ∈ cs l, u.oneCell' = true := ints_oneCell .u8 l
theorem cs_zero (n : Nat) : cs (List.replicate n 0) = List.replicate n (.int .u8 0) := List.map_replicate

theorem add_block (a : Addr) (n : Nat) : (a.add n).block = a.block := by unfold Addr.add; split <;> rfl
theorem add_add (a : Addr) (i j : Nat) : (a.add i).add j = a.add (i + j) := by
  unfold Addr.add
  by_cases hi : i = 0 <;> by_cases hj : j = 0 <;> simp [hi, hj, Nat.add_assoc]
theorem add_zero_lit (g j : Nat) : (⟨g, 0, none⟩ : Addr).add j = ⟨g, j, none⟩ := by rw [Addr.add_lit, Nat.zero_add]

/-- The slice at A of n bytes reads as l. -/
def Rd (w : World) (A : Option Addr) (n : Nat) (l : List Int) : Prop :=
  l.length = n ∧ enc.Bd l ∧ (0 < n → ∃ a, A = some a ∧ ∀ j v, l[j]? = some v → w.cell? (a.add j) = some (.int .u8 v))

theorem Rd.len {w : World} {A : Option Addr} {n : Nat} {l : List Int} (h : Rd w A n l) : l.length = n := h.1
theorem Rd.bd {w : World} {A : Option Addr} {n : Nat} {l : List Int} (h : Rd w A n l) : enc.Bd l := h.2.1
theorem Rd.at_ {w : World} {A : Option Addr} {n k : Nat} {l : List Int} (h : Rd w A n l) (hk : k < n) : ∃ a v, A = some a ∧ l[k]? = some v ∧ 0 ≤ v ∧ v ≤ 255 ∧ w.cell? (a.add k) = some (.int .u8 v) := by
  obtain ⟨h1, h2, h3⟩ := h
  obtain ⟨a, e, hc⟩ := h3 (by omega)
  have hl : k < l.length := by omega
  have hv := h2 l[k] (List.getElem_mem hl)
  exact ⟨a, l[k], e, List.getElem?_eq_getElem hl, hv.1, hv.2, hc k _ (List.getElem?_eq_getElem hl)⟩
/-- In the block of the slice, where it has a byte. -/
theorem Rd.lt {w : World} {A : Option Addr} {n : Nat} {l : List Int} (h : Rd w A n l) (hn : 0 < n) : ∃ a, A = some a ∧ a.block < w.heap.size := by
  obtain ⟨a, v, e, _, _, _, hc⟩ := h.at_ hn
  refine ⟨a, e, ?_⟩
  have := World.block_lt_of_cell? _ _ hc
  rwa [add_block] at this
/-- No byte of it lies in block row. -/
def Off (A : Option Addr) (n : Nat) (row : Option Nat) : Prop := 0 < n → ∀ a, A = some a → some a.block ≠ row
theorem Off.none_ (A : Option Addr) (n : Nat) : Off A n none := fun _ a _ h => by cases h
theorem Rd.grown {w w' : World} {A : Option Addr} {n : Nat} {l : List Int} {row : Option Nat} (h : Rd w A n l) (hg : w.grownBy w' row) (ho : Off A n row) : Rd w' A n l := by
  refine ⟨h.1, h.2.1, fun hn => ?_⟩
  obtain ⟨a, e, hc⟩ := h.2.2 hn
  exact ⟨a, e, fun j v hv => hg.cell (hc j v hv) (by rw [add_block]; exact ho hn a e)⟩
theorem none_of_below {w w' : World} (h : Below w.heap.size w w') : w.grownBy w' none := ⟨h.os, h.tape, h.output, h.size, fun k hk _ => h.block k hk⟩
theorem below_of_none {w w' : World} (h : w.grownBy w' none) : Below w.heap.size w w' := ⟨h.os, h.tape, h.output, h.size, fun k hk => h.block k hk (fun e => by cases e)⟩
theorem Rd.below {w w' : World} {A : Option Addr} {n : Nat} {l : List Int} (h : Rd w A n l) (hb : Below w.heap.size w w') : Rd w' A n l := h.grown (none_of_below hb) (Off.none_ _ _)
theorem Rd.alloc {w : World} {A : Option Addr} {n : Nat} {l : List Int} (h : Rd w A n l) (o : Obj) : Rd (w.alloc o) A n l := h.grown (World.grownBy_alloc w o none) (Off.none_ _ _)
theorem Rd.draws {w : World} {A : Option Addr} {n : Nat} {l : List Int} (h : Rd w A n l) (k : Nat) : Rd (w.drewN k) A n l := h

/-- A slice of bytes that the call has made: its block is lo or above. -/
def Own (w : World) (lo : Nat) (A : Option Addr) (n c : Nat) (l : List Int) : Prop :=
  l.length = n ∧ enc.Bd l ∧ w.ownsRow lo 5 1 (.slice A n c) n (cs l)

section
variable {w w' : World} {lo : Nat} {A : Option Addr} {n c : Nat} {l : List Int}
theorem Own.len (h : Own w lo A n c l) : l.length = n := h.1
theorem Own.bd (h : Own w lo A n c l) : enc.Bd l := h.2.1
theorem Own.row (h : Own w lo A n c l) : w.ownsRow lo 5 1 (.slice A n c) n (cs l) := h.2.2
theorem Own.form (h : Own w lo A n c l) : (A = none ∧ n = 0) ∨ ∃ g, A = some ⟨g, 0, none⟩ ∧ lo ≤ g ∧ g < w.heap.size := by
  rcases h.2.2.2 with ⟨e, h0⟩ | ⟨g, cap, cur, e, hb, hg, _⟩
  · injection e with e1
    exact .inl ⟨e1, h0⟩
  · injection e with e1
    exact .inr ⟨g, e1, hb, draw_lt hg⟩
where
  draw_lt {w : World} {N : Nat} {o : Obj} (h : w.heap[N]? = some o) : N < w.heap.size := by
    rcases Nat.lt_or_ge N w.heap.size with hlt | hge
    · exact hlt
    · rw [Array.getElem?_eq_none hge] at h; cases h
theorem Own.rd (h : Own w lo A n c l) : Rd w A n l := by
  refine ⟨h.1, h.2.1, fun hn => ?_⟩
  rcases h.form with ⟨_, h0⟩ | ⟨g, e, _⟩
  · omega
  · subst e
    exact ⟨_, rfl, fun j v hv => h.row.cells (g := g) rfl j _ (cs_get hv)⟩
theorem Own.block (h : Own w lo A n c l) : ∀ k, (Value.slice A n c).ownBlock = some k → lo ≤ k ∧ k < w.heap.size := h.row.lt
theorem Own.grown {row : Option Nat} (h : Own w lo A n c l) (hg : w.grownBy w' row) (ho : (Value.slice A n c).ownBlock = none ∨ (Value.slice A n c).ownBlock ≠ row) : Own w' lo A n c l :=
  ⟨h.1, h.2.1, h.row.kept hg ho⟩
theorem Own.none_ (h : Own w lo A n c l) (hg : w.grownBy w' none) : Own w' lo A n c l := h.grown hg (by
  cases e : (Value.slice A n c).ownBlock with
  | none => exact .inl rfl
  | some k => exact .inr (by simp))
theorem Own.below (h : Own w lo A n c l) (hb : Below w.heap.size w w') : Own w' lo A n c l := h.none_ (none_of_below hb)
theorem Own.alloc (h : Own w lo A n c l) (o : Obj) : Own (w.alloc o) lo A n c l := ⟨h.1, h.2.1, h.row.alloc o⟩
theorem Own.draws (h : Own w lo A n c l) (k : Nat) : Own (w.drewN k) lo A n c l := h
theorem Own.less {lo' : Nat} (h : Own w lo A n c l) (hl : lo' ≤ lo) : Own w lo' A n c l := ⟨h.1, h.2.1, Joins.ownsRow_le h.row hl⟩
/-- Where it has a byte it lies at the head of a block. -/
theorem Own.head (h : Own w lo A n c l) (hn : 0 < n) : ∃ g, A = some ⟨g, 0, none⟩ ∧ lo ≤ g ∧ g < w.heap.size ∧ (Value.slice A n c).ownBlock = some g := by
  rcases h.form with ⟨_, h0⟩ | ⟨g, e, h1, h2⟩
  · omega
  · subst e
    exact ⟨g, rfl, h1, h2, rfl⟩
/-- A write to another one's block. -/
theorem Own.far {lo' : Nat} {A' : Option Addr} {n' c' : Nat} {l' : List Int} (h : Own w lo A n c l) (h' : Own w lo' A' n' c' l') (hd : ∀ k, (Value.slice A n c).ownBlock = some k → (Value.slice A' n' c').ownBlock ≠ some k) :
    Off A' n' (Value.slice A n c).ownBlock := fun hn a ha e => by
  obtain ⟨g, e1, _, _, e2⟩ := h'.head hn
  have : a = ⟨g, 0, none⟩ := by rw [e1] at ha; injection ha with ha; exact ha.symm
  subst this
  exact hd g e.symm e2
/-- What came in before lies elsewhere. -/
theorem Own.off {B : Nat} {A' : Option Addr} {n' : Nat} (h : Own w lo A n c l) (hB : B ≤ lo) (hr : 0 < n' → ∃ a, A' = some a ∧ a.block < B) : Off A' n' (Value.slice A n c).ownBlock := fun hn a ha e => by
  obtain ⟨a', e1, hlt⟩ := hr hn
  have : a = a' := by rw [e1] at ha; injection ha with ha; exact ha.symm
  subst this
  have := (h.block _ e.symm).1
  omega
end

/-- Nothing yet. -/
theorem own_empty (w : World) (lo : Nat) {A : Option Addr} {n c : Nat} (h : w.ownsRow lo 5 1 (.slice A n c) n []) (hn : n = 0) : Own w lo A n c [] := ⟨by simp [hn], enc.Bd.nil, h⟩

/-- A law of a slice that the call has made, from a slice value. -/
theorem own_mk {w : World} {lo : Nat} {v : Value} {n : Nat} {l : List Int} (h : w.ownsRow lo 5 1 v n (cs l)) (hb : enc.Bd l) : ∃ A c, v = .slice A n c ∧ Own w lo A n c l := by
  have hl : l.length = n := by have := h.1; rw [cs_len] at this; omega
  rcases Joins.ownsRow_forms h with ⟨rfl, rfl⟩ | ⟨g, cap, rfl⟩
  · exact ⟨none, 0, rfl, hl, hb, h⟩
  · exact ⟨_, cap, rfl, hl, hb, h⟩

/-- The mark numbers from k on. -/
def marks (k : Int) : Nat → List Int
  | 0 => []
  | n + 1 => (k % 256) :: marks (k + 1) n
theorem marks_len : ∀ (n : Nat) (k : Int), (marks k n).length = n
  | 0, _ => rfl
  | n + 1, k => by rw [marks, List.length_cons, marks_len n]
theorem marks_bd : ∀ (n : Nat) (k : Int), enc.Bd (marks k n)
  | 0, _ => enc.Bd.nil
  | n + 1, k => enc.Bd.app (a := [_]) (enc.Bd.one (by omega) (by omega)) (marks_bd n (k + 1))
theorem marks_get : ∀ (n : Nat) (k : Int) (j : Nat), j < n → (marks k n)[j]? = some ((k + j) % 256)
  | 0, _, _, h => by omega
  | n + 1, k, 0, _ => by simp [marks]
  | n + 1, k, j + 1, h => by
    have e : k + 1 + (j : Int) = k + ((j + 1 : Nat) : Int) := by omega
    rw [marks, List.getElem?_cons_succ, marks_get n (k + 1) j (by omega), e]

/-- A list that is filled from the front: the first k are l's. -/
def Filled (l m : List Int) (k : Nat) : Prop := m.length = l.length ∧ m.take k = l.take k
theorem Filled.start (l m : List Int) (h : m.length = l.length) : Filled l m 0 := ⟨h, by simp⟩
theorem Filled.step {l m : List Int} {k : Nat} {v : Int} (h : Filled l m k) (hv : l[k]? = some v) : Filled l (m.set k v) (k + 1) := by
  refine ⟨by rw [List.length_set]; exact h.1, ?_⟩
  obtain ⟨hk, e⟩ := List.getElem?_eq_some_iff.1 hv
  have hm := h.1
  rw [List.take_succ_eq_append_getElem (by rw [List.length_set]; omega), List.take_succ_eq_append_getElem hk, List.take_set, List.set_eq_of_length_le (by rw [List.length_take]; omega), h.2, List.getElem_set_self, e]
theorem Filled.all {l m : List Int} {k : Nat} (h : Filled l m k) (hk : l.length ≤ k) : m = l := by
  have h2 := h.2
  rw [List.take_of_length_le hk, List.take_of_length_le (by rw [h.1]; exact hk)] at h2
  exact h2
theorem bd_set {m : List Int} (h : enc.Bd m) (k : Nat) {v : Int} (h0 : 0 ≤ v) (h1 : v ≤ 255) : enc.Bd (m.set k v) := fun x hx => by
  rcases List.mem_or_eq_of_mem_set hx with hx | rfl
  · exact h x hx
  · exact ⟨h0, h1⟩

/-- One byte of an own slice is written. -/
theorem Own.set {w : World} {lo g n c : Nat} {l : List Int} (h : Own w lo (some ⟨g, 0, none⟩) n c l) (k : Nat) {v : Int} (h0 : 0 ≤ v) (h1 : v ≤ 255) :
    Own (w.setCell ⟨g, k, none⟩ (.int .u8 v)) lo (some ⟨g, 0, none⟩) n c (l.set k v) ∧ w.grownBy (w.setCell ⟨g, k, none⟩ (.int .u8 v)) (some g) := by
  have hs := h.row.stored k (.int .u8 v)
  exact ⟨⟨by rw [List.length_set]; exact h.1, bd_set h.2.1 k h0 h1, by rw [cs_set]; exact hs.1⟩, hs.2⟩
theorem Own.cellk {w : World} {lo g n c k : Nat} {l : List Int} (h : Own w lo (some ⟨g, 0, none⟩) n c l) (hk : k < n) : (∃ v, w.cell? ⟨g, k, none⟩ = some (.int .u8 v)) ∧ w.frozen? ⟨g, k, none⟩ = false := by
  refine ⟨?_, h.row.frozenAt k⟩
  have hl : k < l.length := by rw [h.1]; exact hk
  exact ⟨l[k], by rw [h.row.cellAt k (by omega)]; exact cs_get (List.getElem?_eq_getElem hl)⟩

theorem grown_trans {a b c : World} {r : Option Nat} (h : a.grownBy b r) (k : b.grownBy c r) : a.grownBy c r :=
  ⟨k.os.trans h.os, k.tape.trans h.tape, k.output.trans h.output, Nat.le_trans h.size k.size, fun j hj hne => (k.block j (Nat.lt_of_lt_of_le hj h.size) hne).trans (h.block j hj hne)⟩
theorem grown_draws {a w : World} {r : Option Nat} (h : a.grownBy w r) (n : Nat) : a.grownBy (w.drewN n) r := ⟨h.os, h.tape, h.output, h.size, h.block⟩
theorem grown_new {a w : World} {r : Option Nat} (h : a.grownBy w r) (o : Obj) : a.grownBy (w.alloc o) r :=
  ⟨h.os, h.tape, h.output, Nat.le_trans h.size (by simp), fun k hk hne => (Below.heap_alloc w o k (Nat.lt_of_lt_of_le hk h.size)).trans (h.block k hk hne)⟩

theorem below_own {w w' : World} {lo : Nat} {A : Option Addr} {n c : Nat} {l : List Int} (h : Own w lo A n c l) (hg : w.grownBy w' (Value.slice A n c).ownBlock) (hlo : lo ≤ w.heap.size) : Below lo w w' :=
  (Below.refl lo w).grown hg hlo (fun k hk => (h.block k hk).1)

/-- A new block of one byte. -/
theorem rd_one (w : World) (v : Int) (h0 : 0 ≤ v) (h1 : v ≤ 255) (t : TypeId) : Rd (w.alloc (.cells #[.int .u8 v] t)) (some ⟨w.heap.size, 0, none⟩) 1 [v] := by
  refine ⟨rfl, enc.Bd.one h0 h1, fun _ => ⟨_, rfl, fun j x hx => ?_⟩⟩
  cases j with
  | zero =>
    have : v = x := by simpa using hx
    subst this
    rw [add_zero_lit, World.cell?_alloc_new]
    rfl
  | succ j => simp at hx
/-- A new block of none. -/
theorem own_none (w : World) (lo : Nat) (hlo : lo ≤ w.heap.size) : Own (w.alloc (.cells #[] 5)) lo (some ⟨w.heap.size, 0, none⟩) 0 0 [] :=
  own_empty _ _ (World.ownsRow_made w #[] 0 hlo (Nat.zero_le _) rfl) rfl
theorem own_nil (w : World) (lo : Nat) : Own w lo none 0 0 [] := own_empty _ _ (World.ownsRow_nil w lo _ 1) rfl

theorem run_none (P : Program) (w : World) (t ty : TypeId) (i : TypeInfo) (ht : P.underlying t = some (.slice 5)) (hi : P.info? 5 = some i) (lo : Nat) (v : Value) (n d : Nat) (xs : List Value) (hown : w.ownsRow lo 5 1 v n xs) :
    (Builtin.append_ #[t, t] ty #[v, .slice none 0 d]).run P w = .ok v w := by
  rcases hown.2 with ⟨rfl, rfl⟩ | ⟨g, cap, cur, rfl, _, _, hnc, _⟩
  · simp [Builtin.append_, run_underlying ht, sizeOf, typeInfo, hi, Builtin.lenOf, Builtin.firstCells]
  · simp [Builtin.append_, run_underlying ht, sizeOf, typeInfo, hi, Builtin.lenOf, Builtin.firstCells, hnc, storeCells]

/-- append of a slice that reads as r onto an own one. -/
theorem append_rd {P : Program} {w : World} {ops : Array Oper} {rest : List Oper} {o : Oper} {a : Act} {Q : Exit → Act → World → Prop} (hgd : o.guard = none) (s x : Operand) (t : TypeId)
    (ho : o.op = .call { callee := .builtin .append, args := #[s, x], argTypes := #[t, t] })
    (i : TypeInfo) (ht : P.underlying t = some (.slice 5)) (hi : P.info? 5 = some i) (hz : i.zero = some (.int .u8 0)) (hsize : i.size = 1) (hby : i.bytes = 1)
    (lo : Nat) (A : Option Addr) (n c : Nat) (l : List Int) (hs : a.eval s = .slice A n c) (hown : Own w lo A n c l)
    (B : Option Addr) (m d : Nat) (r : List Int) (hx : a.eval x = .slice B m d) (hr : Rd w B m r) (hb : n + m ≤ 140737488355328) (hlo : lo ≤ w.heap.size)
    (h : ∀ A' c' w', Own w' lo A' (n + m) c' (l ++ r) → Below lo w w' → wpList P ops Q rest (a.put o.dst (.slice A' (n + m) c')) w') : wpList P ops Q (o :: rest) a w := by
  have close : ∀ v' w', w'.ownsRow lo 5 1 v' (n + m) (cs l ++ cs r) → w.grownBy w' (Value.slice A n c).ownBlock → wpList P ops Q rest (a.put o.dst v') w' := fun v' w' h1 h2 => by
    rw [← cs_app] at h1
    obtain ⟨A', c', rfl, h3⟩ := own_mk h1 (hown.bd.app hr.bd)
    exact h A' c' w' h3 (below_own hown h2 hlo)
  have hl : (cs r).length = m * 1 := by rw [cs_len, hr.len, Nat.mul_one]
  have hmax : n + m ≤ maxLen := by unfold maxLen; omega
  cases B with
  | none =>
    have hm : m = 0 := by
      rcases Nat.eq_zero_or_pos m with h0 | h0
      · exact h0
      · obtain ⟨_, e, _⟩ := hr.2.2 h0
        cases e
    subst hm
    have hr0 : r = [] := List.eq_nil_of_length_eq_zero hr.len
    subst hr0
    have hrun := run_none P w t o.type i ht hi lo _ n d (cs l) hown.row
    refine wpList_plain hgd fun K hK => ?_
    unfold Oper.wp
    simp [execOp, ho, resolve, invoke, builtin, hs, hx, hrun, Result.andThen]
    exact hK _ _ (close _ _ (by simpa [cs] using hown.row) (World.grownBy.refl _ _))
  | some ad =>
    refine wpList_append_own w hgd s x t ho lo 5 i (.int .u8 0) 1 1 ht hi hz hsize hby rfl (by omega) (.slice A n c) n (cs l) hs hown.row ad m d (cs r) hx hl ?_ (cs_one r) hmax (by omega) hlo ?_
    · intro j u hu
      have hj : j < r.length := by
        have := (List.getElem?_eq_some_iff.1 hu).1
        rwa [cs_len] at this
      obtain ⟨_, e, hc⟩ := hr.2.2 (by have := hr.len; omega)
      obtain rfl := Option.some.inj e
      have hrj : r[j]? = some r[j] := List.getElem?_eq_getElem hj
      rw [cs_get hrj] at hu
      rw [← hu]
      exact hc j _ hrj
    · intro v' w' h1 h2 _
      exact close v' w' h1 h2

/-- A text's bytes as numbers. -/
def txt (s : ByteArray) : List Int := s.data.toList.map fun b => (b.toNat : Int)
theorem txt_len (s : ByteArray) : (txt s).length = s.size := by unfold txt; rw [List.length_map, Array.length_toList]; rfl
theorem txt_bd (s : ByteArray) : enc.Bd (txt s) := fun v hv => by
  unfold txt at hv
  obtain ⟨b, _, rfl⟩ := List.mem_map.1 hv
  have := b.toNat_lt
  omega
theorem strCells_cs (s : ByteArray) : Lib.strCells s = cs (txt s) := by unfold Lib.strCells cs txt; rw [List.map_map]; rfl
theorem strOf_txt (s : ByteArray) : strOfNums (txt s) = s := by
  unfold strOfNums txt
  rw [List.map_map]
  have e : s.data.toList.map ((fun n : Int => UInt8.ofNat n.toNat) ∘ fun b : UInt8 => (b.toNat : Int)) = s.data.toList := by
    rw [List.map_congr_left (g := id) (fun b _ => by simp), List.map_id]
  rw [e, Joins.bytes_eta]

/-- append of a text onto an own slice. -/
theorem append_txt {P : Program} {w : World} {ops : Array Oper} {rest : List Oper} {o : Oper} {a : Act} {Q : Exit → Act → World → Prop} (hgd : o.guard = none) (s x : Operand) (t u : TypeId)
    (ho : o.op = .call { callee := .builtin .append, args := #[s, x], argTypes := #[t, u] })
    (i : TypeInfo) (ht : P.underlying t = some (.slice 5)) (hu : P.underlying u = some .string) (hi : P.info? 5 = some i) (hz : i.zero = some (.int .u8 0)) (hsize : i.size = 1) (hby : i.bytes = 1)
    (lo : Nat) (A : Option Addr) (n c : Nat) (l : List Int) (hs : a.eval s = .slice A n c) (hown : Own w lo A n c l)
    (b : ByteArray) (hx : a.eval x = .string b) (hb : n + b.size ≤ 140737488355328) (hlo : lo ≤ w.heap.size)
    (h : ∀ A' c' w', Own w' lo A' (n + b.size) c' (l ++ txt b) → Below lo w w' → wpList P ops Q rest (a.put o.dst (.slice A' (n + b.size) c')) w') : wpList P ops Q (o :: rest) a w := by
  have hmax : n + b.size ≤ maxLen := by unfold maxLen; omega
  refine Lib.wpList_append_own_string w hgd s x t u ho lo 5 i ht hu hi hz hsize hby (.slice A n c) n (cs l) hs hown.row b hx hmax hb hlo ?_
  intro v' w' h1 h2 _
  rw [strCells_cs, ← cs_app] at h1
  obtain ⟨A', c', rfl, h3⟩ := own_mk h1 (hown.bd.app (txt_bd b))
  exact h A' c' w' h3 (below_own hown h2 hlo)

/-- Two own slices of which the one was made after the other. -/
theorem apart {w w' : World} {lo lo' : Nat} {A A' : Option Addr} {n n' c c' : Nat} {l l' : List Int} (h : Own w lo A n c l) (h' : Own w' lo' A' n' c' l') (hs : w.heap.size ≤ lo') :
    ∀ k, (Value.slice A n c).ownBlock = some k → (Value.slice A' n' c').ownBlock ≠ some k := fun k hk hk' => by
  have := (h.block k hk).2
  have := (h'.block k hk').1
  omega
theorem apart' {w w' : World} {lo lo' : Nat} {A A' : Option Addr} {n n' c c' : Nat} {l l' : List Int} (h : Own w lo A n c l) (h' : Own w' lo' A' n' c' l') (hs : w.heap.size ≤ lo') :
    ∀ k, (Value.slice A' n' c').ownBlock = some k → (Value.slice A n c).ownBlock ≠ some k := fun k hk hk' => apart h h' hs k hk' hk
theorem Own.keep {w w' : World} {lo : Nat} {A : Option Addr} {n c : Nat} {l : List Int} {row : Option Nat} (h : Own w lo A n c l) (hg : w.grownBy w' row) (hd : ∀ k, (Value.slice A n c).ownBlock = some k → row ≠ some k) : Own w' lo A n c l :=
  h.grown hg (by
    cases e : (Value.slice A n c).ownBlock with
    | none => exact .inl rfl
    | some k => exact .inr fun e' => hd k e e'.symm)
theorem below_mark {w w' : World} {W : World} {lo : Nat} {A : Option Addr} {n c : Nat} {l : List Int} (hb : Below W.heap.size W w) (h : Own w lo A n c l) (hg : w.grownBy w' (Value.slice A n c).ownBlock) (hlo : W.heap.size ≤ lo) : Below W.heap.size W w' :=
  hb.grown hg hb.size (fun k hk => Nat.le_trans hlo (h.block k hk).1)
theorem below_next {w w' W : World} (hb : Below W.heap.size W w) (hg : w.grownBy w' none) : Below W.heap.size W w' := hb.trans ((below_of_none hg).mono hb.size)

/-- A slice of bytes as a text. -/
theorem conv_rd {P : Program} (w : World) (src dst e : TypeId) (hs : P.underlying src = some (.slice e)) (he : P.underlying e = some (.int .u8)) (hd : P.underlying dst = some .string) {A : Option Addr} {q : Nat} {l : List Int} (h : Rd w A q l) (c : Nat) :
    (convert src dst (.slice A q c)).run P w = .ok (.string (strOfNums l)) w := by
  cases A with
  | none =>
    have hq : q = 0 := by
      rcases Nat.eq_zero_or_pos q with h0 | h0
      · exact h0
      · obtain ⟨_, e, _⟩ := h.2.2 h0
        cases e
    subst hq
    have hl : l = [] := List.eq_nil_of_length_eq_zero h.1
    subst hl
    exact run_convert_bytes_nil w src e hs he 0 c dst hd
  | some a =>
    have hl : (loadCells a q).run P w = .ok (l.map (Value.int .u8)).toArray w := by
      have := run_loadCells_list (P := P) w a (l.map (Value.int .u8)) (fun j v hj => by
        have hjl : j < l.length := by
          have := (List.getElem?_eq_some_iff.1 hj).1
          rwa [List.length_map] at this
        obtain ⟨_, e, hc⟩ := h.2.2 (by have := h.1; omega)
        obtain rfl := Option.some.inj e
        have hx : l[j]? = some l[j] := List.getElem?_eq_getElem hjl
        rw [hc j _ hx]
        rw [List.getElem?_map, hx] at hj
        exact hj)
      simpa [h.1] using this
    rw [run_convert_bytes_string w src dst e _ q c hs he hd, run_bytesToString w _ q c l hl, foldl_push_bytes]
    simp [strOfNums, ByteArray.empty, ByteArray.emptyWithCapacity]
    rfl

end Go.Proofs.YteoilhbidnnneaaDoor.mem
