/-
  Slices of integers in memory: one that reads as a list of numbers, one that the call itself has made, and how both are kept while memory grows.
  Conditions: those that each theorem names.
-/
import Derived.Test.YtlbkbcafkjgckaaDoorMem
namespace Go.Proofs.YtlbkbcafkjgckaaDoor.imem
open Go.RowKit mem
set_option linter.unusedVariables false

theorem i64row : (Tryd.prog.info? 3).map (fun i => (i.zero, i.size, i.bytes)) = some (some (.int .i64 0), 1, 8) := by kernel_rfl

/-- The numbers as cells. -/
def ics (l : List Int) : List Value := l.map (Value.int .i64)
theorem ics_len (l : List Int) : (ics l).length = l.length := List.length_map _
theorem ics_app (a b : List Int) : ics (a ++ b) = ics a ++ ics b := List.map_append
theorem ics_get {l : List Int} {j : Nat} {v : Int} (h : l[j]? = some v) : (ics l)[j]? = some (.int .i64 v) := by unfold ics; rw [List.getElem?_map, h]; rfl
theorem ics_set (l : List Int) (j : Nat) (v : Int) : ics (l.set j v) = (ics l).set j (.int .i64 v) := List.map_set
theorem ics_one (l : List Int) : ∀ u ∈ ics l, u.oneCell' = true := ints_oneCell .i64 l
theorem ics_zero (n : Nat) : ics (List.replicate n 0) = List.replicate n (.int .i64 0) := List.map_replicate

/-- The slice at A of n integers reads as l. -/
def RdI (w : World) (A : Option Addr) (n : Nat) (l : List Int) : Prop :=
  l.length = n ∧ (0 < n → ∃ a, A = some a ∧ ∀ j v, l[j]? = some v → w.cell? (a.add j) = some (.int .i64 v))

theorem RdI.len {w : World} {A : Option Addr} {n : Nat} {l : List Int} (h : RdI w A n l) : l.length = n := h.1
theorem RdI.at_ {w : World} {A : Option Addr} {n k : Nat} {l : List Int} (h : RdI w A n l) (hk : k < n) : ∃ a v, A = some a ∧ l[k]? = some v ∧ w.cell? (a.add k) = some (.int .i64 v) := by
  obtain ⟨h1, h3⟩ := h
  obtain ⟨a, e, hc⟩ := h3 (by omega)
  have hl : k < l.length := by omega
  exact ⟨a, l[k], e, List.getElem?_eq_getElem hl, hc k _ (List.getElem?_eq_getElem hl)⟩
/-- In the block of the slice, where it has a cell. -/
theorem RdI.lt {w : World} {A : Option Addr} {n : Nat} {l : List Int} (h : RdI w A n l) (hn : 0 < n) : ∃ a, A = some a ∧ a.block < w.heap.size := by
  obtain ⟨a, v, e, _, hc⟩ := h.at_ hn
  refine ⟨a, e, ?_⟩
  have := World.block_lt_of_cell? _ _ hc
  rwa [add_block] at this
theorem RdI.grown {w w' : World} {A : Option Addr} {n : Nat} {l : List Int} {row : Option Nat} (h : RdI w A n l) (hg : w.grownBy w' row) (ho : Off A n row) : RdI w' A n l := by
  refine ⟨h.1, fun hn => ?_⟩
  obtain ⟨a, e, hc⟩ := h.2 hn
  exact ⟨a, e, fun j v hv => hg.cell (hc j v hv) (by rw [add_block]; exact ho hn a e)⟩
theorem RdI.below {w w' : World} {A : Option Addr} {n : Nat} {l : List Int} (h : RdI w A n l) (hb : Below w.heap.size w w') : RdI w' A n l := h.grown (none_of_below hb) (Off.none_ _ _)
theorem RdI.alloc {w : World} {A : Option Addr} {n : Nat} {l : List Int} (h : RdI w A n l) (o : Obj) : RdI (w.alloc o) A n l := h.grown (World.grownBy_alloc w o none) (Off.none_ _ _)
theorem RdI.draws {w : World} {A : Option Addr} {n : Nat} {l : List Int} (h : RdI w A n l) (k : Nat) : RdI (w.drewN k) A n l := h
theorem RdI.nil_ (w : World) (A : Option Addr) : RdI w A 0 [] := ⟨rfl, fun h => absurd h (by omega)⟩

/-- A slice of integers that the call has made: its block is lo or above. -/
def OwnI (w : World) (lo : Nat) (A : Option Addr) (n c : Nat) (l : List Int) : Prop :=
  l.length = n ∧ w.ownsRow lo 3 1 (.slice A n c) n (ics l)

section
variable {w w' : World} {lo : Nat} {A : Option Addr} {n c : Nat} {l : List Int}
theorem OwnI.len (h : OwnI w lo A n c l) : l.length = n := h.1
theorem OwnI.row (h : OwnI w lo A n c l) : w.ownsRow lo 3 1 (.slice A n c) n (ics l) := h.2
theorem OwnI.form (h : OwnI w lo A n c l) : (A = none ∧ n = 0) ∨ ∃ g, A = some ⟨g, 0, none⟩ ∧ lo ≤ g ∧ g < w.heap.size := by
  rcases h.2.2 with ⟨e, h0⟩ | ⟨g, cap, cur, e, hb, hg, _⟩
  · injection e with e1
    exact .inl ⟨e1, h0⟩
  · injection e with e1
    exact .inr ⟨g, e1, hb, (Array.getElem?_eq_some_iff.1 hg).1⟩
theorem OwnI.rd (h : OwnI w lo A n c l) : RdI w A n l := by
  refine ⟨h.1, fun hn => ?_⟩
  rcases h.form with ⟨_, h0⟩ | ⟨g, e, _⟩
  · omega
  · subst e
    exact ⟨_, rfl, fun j v hv => h.row.cells (g := g) rfl j _ (ics_get hv)⟩
theorem OwnI.block (h : OwnI w lo A n c l) : ∀ k, (Value.slice A n c).ownBlock = some k → lo ≤ k ∧ k < w.heap.size := h.row.lt
theorem OwnI.grown {row : Option Nat} (h : OwnI w lo A n c l) (hg : w.grownBy w' row) (ho : (Value.slice A n c).ownBlock = none ∨ (Value.slice A n c).ownBlock ≠ row) : OwnI w' lo A n c l :=
  ⟨h.1, h.row.kept hg ho⟩
theorem OwnI.none_ (h : OwnI w lo A n c l) (hg : w.grownBy w' none) : OwnI w' lo A n c l := h.grown hg (by
  cases e : (Value.slice A n c).ownBlock with
  | none => exact .inl rfl
  | some k => exact .inr (by simp))
theorem OwnI.keep {row : Option Nat} (h : OwnI w lo A n c l) (hg : w.grownBy w' row) (hd : ∀ k, (Value.slice A n c).ownBlock = some k → row ≠ some k) : OwnI w' lo A n c l :=
  h.grown hg (by
    cases e : (Value.slice A n c).ownBlock with
    | none => exact .inl rfl
    | some k => exact .inr fun e' => hd k e e'.symm)
theorem OwnI.below (h : OwnI w lo A n c l) (hb : Below w.heap.size w w') : OwnI w' lo A n c l := h.none_ (none_of_below hb)
theorem OwnI.alloc (h : OwnI w lo A n c l) (o : Obj) : OwnI (w.alloc o) lo A n c l := ⟨h.1, h.row.alloc o⟩
theorem OwnI.draws (h : OwnI w lo A n c l) (k : Nat) : OwnI (w.drewN k) lo A n c l := h
theorem OwnI.less {lo' : Nat} (h : OwnI w lo A n c l) (hl : lo' ≤ lo) : OwnI w lo' A n c l := ⟨h.1, Joins.ownsRow_le h.row hl⟩
theorem OwnI.head (h : OwnI w lo A n c l) (hn : 0 < n) : ∃ g, A = some ⟨g, 0, none⟩ ∧ lo ≤ g ∧ g < w.heap.size ∧ (Value.slice A n c).ownBlock = some g := by
  rcases h.form with ⟨_, h0⟩ | ⟨g, e, h1, h2⟩
  · omega
  · subst e
    exact ⟨g, rfl, h1, h2, rfl⟩
end

theorem owni_empty (w : World) (lo : Nat) {A : Option Addr} {n c : Nat} (h : w.ownsRow lo 3 1 (.slice A n c) n []) (hn : n = 0) : OwnI w lo A n c [] := ⟨by simp [hn], h⟩
theorem owni_mk {w : World} {lo : Nat} {v : Value} {n : Nat} {l : List Int} (h : w.ownsRow lo 3 1 v n (ics l)) : ∃ A c, v = .slice A n c ∧ OwnI w lo A n c l := by
  have hl : l.length = n := by have := h.1; rw [ics_len] at this; omega
  rcases Joins.ownsRow_forms h with ⟨rfl, rfl⟩ | ⟨g, cap, rfl⟩
  · exact ⟨none, 0, rfl, hl, h⟩
  · exact ⟨_, cap, rfl, hl, h⟩

/-- One cell of an own slice is written. -/
theorem OwnI.set {w : World} {lo g n c : Nat} {l : List Int} (h : OwnI w lo (some ⟨g, 0, none⟩) n c l) (k : Nat) (v : Int) :
    OwnI (w.setCell ⟨g, k, none⟩ (.int .i64 v)) lo (some ⟨g, 0, none⟩) n c (l.set k v) ∧ w.grownBy (w.setCell ⟨g, k, none⟩ (.int .i64 v)) (some g) := by
  have hs := h.row.stored k (.int .i64 v)
  exact ⟨⟨by rw [List.length_set]; exact h.1, by rw [ics_set]; exact hs.1⟩, hs.2⟩
theorem OwnI.cellk {w : World} {lo g n c k : Nat} {l : List Int} (h : OwnI w lo (some ⟨g, 0, none⟩) n c l) (hk : k < n) : (∃ v, w.cell? ⟨g, k, none⟩ = some (.int .i64 v)) ∧ w.frozen? ⟨g, k, none⟩ = false := by
  refine ⟨?_, h.row.frozenAt k⟩
  have hl : k < l.length := by rw [h.1]; exact hk
  exact ⟨l[k], by rw [h.row.cellAt k (by omega)]; exact ics_get (List.getElem?_eq_getElem hl)⟩

theorem belowI_own {w w' : World} {lo : Nat} {A : Option Addr} {n c : Nat} {l : List Int} (h : OwnI w lo A n c l) (hg : w.grownBy w' (Value.slice A n c).ownBlock) (hlo : lo ≤ w.heap.size) : Below lo w w' :=
  (Below.refl lo w).grown hg hlo (fun k hk => (h.block k hk).1)

theorem heap_new_at (w : World) (o : Obj) : (w.alloc o).heap[w.heap.size]? = some o := by
  show (w.heap.push o)[w.heap.size]? = _
  simp

/-- A new block of one integer. -/
theorem rdi_one (w : World) (v : Int) (t : TypeId) : RdI (w.alloc (.cells #[.int .i64 v] t)) (some ⟨w.heap.size, 0, none⟩) 1 [v] := by
  refine ⟨rfl, fun _ => ⟨_, rfl, fun j x hx => ?_⟩⟩
  cases j with
  | zero =>
    have : v = x := by simpa using hx
    subst this
    rw [add_zero_lit, World.cell?_alloc_new]
    rfl
  | succ j => simp at hx
theorem owni_one (w : World) (v : Int) (lo : Nat) (hlo : lo ≤ w.heap.size) : OwnI (w.alloc (.cells #[.int .i64 v] 3)) lo (some ⟨w.heap.size, 0, none⟩) 1 1 [v] :=
  ⟨rfl, rfl, .inr ⟨w.heap.size, 1, #[.int .i64 v], rfl, hlo, heap_new_at w _, Nat.le_refl _, by unfold maxLen; omega, rfl, rfl⟩⟩
theorem owni_none (w : World) (lo : Nat) (hlo : lo ≤ w.heap.size) : OwnI (w.alloc (.cells #[] 3)) lo (some ⟨w.heap.size, 0, none⟩) 0 0 [] :=
  owni_empty _ _ (World.ownsRow_made w #[] 0 hlo (Nat.zero_le _) rfl) rfl
theorem owni_nil (w : World) (lo : Nat) : OwnI w lo none 0 0 [] := owni_empty _ _ (World.ownsRow_nil w lo _ 1) rfl

theorem run_noneI (P : Program) (w : World) (t ty : TypeId) (i : TypeInfo) (ht : P.underlying t = some (.slice 3)) (hi : P.info? 3 = some i) (lo : Nat) (v : Value) (n d : Nat) (xs : List Value) (hown : w.ownsRow lo 3 1 v n xs) :
    (Builtin.append_ #[t, t] ty #[v, .slice none 0 d]).run P w = .ok v w := by
  rcases hown.2 with ⟨rfl, rfl⟩ | ⟨g, cap, cur, rfl, _, _, hnc, _⟩
  · simp [Builtin.append_, run_underlying ht, sizeOf, typeInfo, hi, Builtin.lenOf, Builtin.firstCells]
  · simp [Builtin.append_, run_underlying ht, sizeOf, typeInfo, hi, Builtin.lenOf, Builtin.firstCells, hnc, storeCells]

/-- An operation whose guard, if it has one, says yes. -/
theorem wpList_wanted {P : Program} {w : World} {ops : Array Oper} {rest : List Oper} {o : Oper} {a : Act} {Q : Exit → Act → World → Prop} (hw : Region.wanted o (yielded ops a.tmps))
    (h : ∀ K : Act → World → Prop, (∀ a w, wpList P ops Q rest a w → K a w) → o.wp P a w K Q) : wpList P ops Q (o :: rest) a w :=
  wpList_step fun K hK => by rw [if_pos hw]; exact h K hK

/-- append of a slice that reads as r onto an own one. -/
theorem append_rdi_w {P : Program} {w : World} {ops : Array Oper} {rest : List Oper} {o : Oper} {a : Act} {Q : Exit → Act → World → Prop} (hgd : Region.wanted o (yielded ops a.tmps)) (s x : Operand) (t : TypeId)
    (ho : o.op = .call { callee := .builtin .append, args := #[s, x], argTypes := #[t, t] })
    (i : TypeInfo) (ht : P.underlying t = some (.slice 3)) (hi : P.info? 3 = some i) (hz : i.zero = some (.int .i64 0)) (hsize : i.size = 1) (hby : i.bytes = 8)
    (lo : Nat) (A : Option Addr) (n c : Nat) (l : List Int) (hs : a.eval s = .slice A n c) (hown : OwnI w lo A n c l)
    (B : Option Addr) (m d : Nat) (r : List Int) (hx : a.eval x = .slice B m d) (hr : RdI w B m r) (hb : n + m ≤ 17592186044416) (hlo : lo ≤ w.heap.size)
    (h : ∀ A' c' w', OwnI w' lo A' (n + m) c' (l ++ r) → Below lo w w' → w.grownBy w' (Value.slice A n c).ownBlock → wpList P ops Q rest (a.put o.dst (.slice A' (n + m) c')) w') : wpList P ops Q (o :: rest) a w := by
  have close : ∀ v' w', w'.ownsRow lo 3 1 v' (n + m) (ics l ++ ics r) → w.grownBy w' (Value.slice A n c).ownBlock → wpList P ops Q rest (a.put o.dst v') w' := fun v' w' h1 h2 => by
    rw [← ics_app] at h1
    obtain ⟨A', c', rfl, h3⟩ := owni_mk h1
    exact h A' c' w' h3 (belowI_own hown h2 hlo) h2
  have hl : (ics r).length = m * 1 := by rw [ics_len, hr.len, Nat.mul_one]
  have hmax : n + m ≤ maxLen := by unfold maxLen; omega
  cases B with
  | none =>
    have hm : m = 0 := by
      rcases Nat.eq_zero_or_pos m with h0 | h0
      · exact h0
      · obtain ⟨_, e, _⟩ := hr.2 h0
        cases e
    subst hm
    have hr0 : r = [] := List.eq_nil_of_length_eq_zero hr.len
    subst hr0
    have hrun := run_noneI P w t o.type i ht hi lo _ n d (ics l) hown.row
    refine wpList_wanted hgd fun K hK => ?_
    unfold Oper.wp
    simp [execOp, ho, resolve, invoke, builtin, hs, hx, hrun, Result.andThen]
    exact hK _ _ (close _ _ (by simpa [ics] using hown.row) (World.grownBy.refl _ _))
  | some ad =>
    refine wpList_wanted hgd fun K hK => wp_append_own w s x t ho lo 3 i (.int .i64 0) 1 8 ht hi hz hsize hby rfl (by omega) (.slice A n c) n (ics l) hs hown.row ad m d (ics r) hx hl ?_ (ics_one r) hmax (by omega) hlo ?_
    · intro j u hu
      have hj : j < r.length := by
        have := (List.getElem?_eq_some_iff.1 hu).1
        rwa [ics_len] at this
      obtain ⟨_, e, hc⟩ := hr.2 (by have := hr.len; omega)
      obtain rfl := Option.some.inj e
      have hrj : r[j]? = some r[j] := List.getElem?_eq_getElem hj
      rw [ics_get hrj] at hu
      rw [← hu]
      exact hc j _ hrj
    · intro v' w' h1 h2 _
      exact hK _ _ (close v' w' h1 h2)

theorem append_rdi {P : Program} {w : World} {ops : Array Oper} {rest : List Oper} {o : Oper} {a : Act} {Q : Exit → Act → World → Prop} (hgd : o.guard = none) (s x : Operand) (t : TypeId)
    (ho : o.op = .call { callee := .builtin .append, args := #[s, x], argTypes := #[t, t] })
    (i : TypeInfo) (ht : P.underlying t = some (.slice 3)) (hi : P.info? 3 = some i) (hz : i.zero = some (.int .i64 0)) (hsize : i.size = 1) (hby : i.bytes = 8)
    (lo : Nat) (A : Option Addr) (n c : Nat) (l : List Int) (hs : a.eval s = .slice A n c) (hown : OwnI w lo A n c l)
    (B : Option Addr) (m d : Nat) (r : List Int) (hx : a.eval x = .slice B m d) (hr : RdI w B m r) (hb : n + m ≤ 17592186044416) (hlo : lo ≤ w.heap.size)
    (h : ∀ A' c' w', OwnI w' lo A' (n + m) c' (l ++ r) → Below lo w w' → w.grownBy w' (Value.slice A n c).ownBlock → wpList P ops Q rest (a.put o.dst (.slice A' (n + m) c')) w') : wpList P ops Q (o :: rest) a w :=
  append_rdi_w (by simp [Region.wanted, hgd]) s x t ho i ht hi hz hsize hby lo A n c l hs hown B m d r hx hr hb hlo h

end Go.Proofs.YtlbkbcafkjgckaaDoor.imem
