/-
  Maps whose keys are structs or arrays, with addresses or without: what a look-up finds and what a store leaves.
  Conditions: those that each theorem names.
-/
import Derived.Maps.OwnOps
import Derived.WideKeyRuns
import Derived.Lib.Hide
namespace Go.Proofs.YtlbkbcafkjgckaaDoor.raw
open Go.MapKept
set_option linter.unusedVariables false

/-- Keys that compare by sameness. -/
structure Good (P : Program) (K : TypeId) (G : World → Value → Prop) : Prop where
  wide : (match P.underlying K with | some (.array _ _) | some (.struct _) => true | _ => false) = true
  check : ∀ (w : World) (em : Bool) (x : Value), G w x → (Instr.checkKey em 10000 K x).run P w = .ok () w
  eq : ∀ (w : World) (x y : Value), G w x → G w y → ∃ r : Bool, (Op.equal K x y).run P w = .ok r w ∧ (r = true ↔ x = y)
  same : ∀ (w : World) (x : Value), G w x → Instr.sameBits 10000 x x = true

open Classical in
noncomputable def look : List MapEntry → Value → Option Value
  | [], _ => none
  | e :: es, k => if e.key = k then some e.val else look es k

open Classical in
noncomputable def put (f : Value → Option Value) (k v : Value) : Value → Option Value := fun k' => if k' = k then some v else f k'
theorem put_same (f : Value → Option Value) (k v : Value) : put f k v k = some v := by simp [put]
theorem put_other {f : Value → Option Value} {k v k' : Value} (h : k' ≠ k) : put f k v k' = f k' := by simp [put, h]

/-- Block B is a map that holds f. -/
def Holds (w : World) (G : World → Value → Prop) (B : Nat) (f : Value → Option Value) : Prop :=
  ∃ es clock, w.heap[B]? = some (.map es clock) ∧ (∀ e ∈ es.toList, G w e.key) ∧ f = look es.toList

section
variable {P : Program} {K E T : TypeId} {G : World → Value → Prop} {w : World} {B : Nat} {f : Value → Option Value}

theorem look_push (l : List MapEntry) (e : MapEntry) (h : look l e.key = none) : look (l ++ [e]) = put (look l) e.key e.val := by
  funext k'
  induction l with
  | nil =>
    by_cases hk : e.key = k'
    · simp [look, put, hk]
    · simp [look, put, hk, Ne.symm hk]
  | cons x l ih =>
    simp only [look] at h
    split at h
    · cases h
    · rename_i hx
      have ih := ih h
      simp only [List.cons_append, look, put] at ih ⊢
      by_cases hxk : x.key = k'
      · have : k' ≠ e.key := fun e1 => hx (hxk.trans e1)
        simp [hxk, this]
      · simp only [if_neg hxk]
        exact ih

theorem look_modify (k v : Value) : ∀ (l : List MapEntry) (j : Nat) (e : MapEntry), l[j]? = some e → e.key = k → (∀ i, i < j → ∀ x, l[i]? = some x → x.key ≠ k) →
    look (l.modify j fun e => { e with key := k, val := v }) = put (look l) k v
  | [], j, e, h, _, _ => by simp at h
  | x :: l, 0, e, h, hk, _ => by
    simp at h
    subst h
    funext k'
    simp only [List.modify_zero_cons, look, put]
    by_cases h2 : k = k'
    · simp [h2]
    · have : x.key ≠ k' := fun e1 => h2 (hk.symm.trans e1)
      simp [h2, this, Ne.symm h2]
  | x :: l, j + 1, e, h, hk, hb => by
    have h' : l[j]? = some e := by simpa using h
    have ih := look_modify k v l j e h' hk (fun i hi y hy => hb (i + 1) (by omega) y (by simpa using hy))
    have hx : x.key ≠ k := hb 0 (by omega) x (by simp)
    funext k'
    have ihk := congrFun ih k'
    simp only [List.modify_succ_cons, look, put] at ihk ⊢
    by_cases h2 : x.key = k'
    · have : k' ≠ k := fun e1 => hx (h2.trans e1)
      simp [h2, this]
    · simp only [if_neg h2]
      exact ihk

theorem find (g : Good P K G) (w : World) {k : Value} (hk : G w k) : ∀ (l : List MapEntry) (i : Nat), (∀ e ∈ l, G w e.key) →
    ((Instr.findAsking K k l i).run P w = .ok none w ∧ look l k = none) ∨
    ∃ j e, (Instr.findAsking K k l i).run P w = .ok (some (i + j, e.val)) w ∧ l[j]? = some e ∧ e.key = k ∧ look l k = some e.val ∧ ∀ i, i < j → ∀ x, l[i]? = some x → x.key ≠ k
  | [], i, _ => .inl ⟨by simp [Instr.findAsking], rfl⟩
  | e :: l, i, hall => by
    obtain ⟨r, hr, hiff⟩ := g.eq w k e.key hk (hall e (by simp))
    cases r
    · have hne : e.key ≠ k := fun h => by
        have := hiff.2 h.symm
        cases this
      rcases find g w hk l (i + 1) (fun y hy => hall y (by simp [hy])) with ⟨h1, h2⟩ | ⟨j, e', h1, h2, h3, h4, h5⟩
      · exact .inl ⟨by simp [Instr.findAsking, hr, h1], by simp [look, hne, h2]⟩
      · refine .inr ⟨j + 1, e', by simp [Instr.findAsking, hr, h1, Nat.add_assoc, Nat.add_comm 1 j], by simpa using h2, h3, by simp [look, hne, h4], fun i hi x hx => ?_⟩
        match i, hi, hx with
        | 0, _, hx => simp at hx; subst hx; exact hne
        | i + 1, hi, hx => exact h5 i (by omega) x (by simpa using hx)
    · have he : e.key = k := (hiff.1 rfl).symm
      exact .inr ⟨0, e, by simp [Instr.findAsking, hr], rfl, he, by simp [look, he], fun i hi => absurd hi (by omega)⟩

/-- What 'm[k]' gives. -/
def Got (c : Bool) (z : Value) (r : Option Value) : Value := if c then .tuple #[r.getD z, .bool r.isSome] else r.getD z

theorem Holds.lookup (h : Holds w G B f) (g : Good P K G) (ht : P.underlying T = some (.map K E)) {z : Value} (hz : (zeroValue E).run P w = .ok z w) {k : Value} (hk : G w k) (c : Bool) :
    (Instr.lookup T (.map (some B)) k c).run P w = .ok (Got c z (f k)) w := by
  obtain ⟨es, clock, hb, hall, rfl⟩ := h
  have hchk := g.check w es.isEmpty k hk
  rcases find g w hk es.toList 0 hall with ⟨h1, h2⟩ | ⟨j, e, h1, h2, h3, h4, h5⟩
  · have hf := (run_findKey_eq w g.wide k es.toList).trans h1
    cases c <;> simp [Instr.lookup, run_underlying ht, MapKept.run_getObj_map hb, hchk, hf, hz, h2, Got, Result.andThen]
  · have hf := (run_findKey_eq w g.wide k es.toList).trans h1
    cases c <;> simp [Instr.lookup, run_underlying ht, MapKept.run_getObj_map hb, hchk, hf, h4, Got, Result.andThen]

/-- Keys stay keys while cells' blocks stay. -/
def Stays (G : World → Value → Prop) : Prop := ∀ (w w' : World) (B : Nat) (x : Value), (∃ es clock, w.heap[B]? = some (.map es clock)) → (∀ b, b ≠ B → b < w.heap.size → w'.heap[b]? = w.heap[b]?) → G w x → G w' x

theorem Holds.update (h : Holds w G B f) (g : Good P K G) (st : Stays G) (ht : P.underlying T = some (.map K E)) {k v : Value} (hk : G w k) :
    ∃ w', (Instr.mapUpdate T (.map (some B)) k v).run P w = .ok () w' ∧ Holds w' G B (put f k v) ∧ w.grownBy w' (some B) := by
  obtain ⟨es, clock, hb, hall, rfl⟩ := h
  have hchk := g.check w false k hk
  have gr : ∀ (o : Obj), w.grownBy { w with heap := w.heap.setIfInBounds B o } (some B) := fun o => ⟨rfl, rfl, rfl, by simp, fun i _ hi => (heap_set (o' := o) hb).2 i (fun e => hi (by rw [e]))⟩
  have keep : ∀ (o : Obj) x, G w x → G { w with heap := w.heap.setIfInBounds B o } x := fun o x hx => st w _ B x ⟨es, clock, hb⟩ (fun b hbne _ => (heap_set (o' := o) hb).2 b hbne) hx
  rcases find g w hk es.toList 0 hall with ⟨h1, h2⟩ | ⟨j, e, h1, h2, h3, h4, h5⟩
  · have hf := (run_findKey_eq w g.wide k es.toList).trans h1
    refine ⟨{ w with heap := w.heap.setIfInBounds B (.map (es.push { key := k, val := v, born := clock }) (clock + 1)) }, by simp [Instr.mapUpdate, run_underlying ht, MapKept.run_getObj_map hb, hchk, hf, MapKept.run_setObj_map _ hb, Result.andThen], ⟨_, _, (heap_set hb).1, ?_, ?_⟩, gr _⟩
    · intro x hx
      simp only [Array.toList_push, List.mem_append, List.mem_singleton] at hx
      rcases hx with hx | rfl
      · exact keep _ _ (hall x hx)
      · exact keep _ _ hk
    · rw [Array.toList_push]
      exact (look_push es.toList ⟨k, v, clock⟩ h2).symm
  · have hf := (run_findKey_eq w g.wide k es.toList).trans h1
    have hj : es[j]? = some e := by simpa using h2
    have hstay : (Instr.keyThatStays k k).run P w = .ok k w := by simp [Instr.keyThatStays, g.same w k hk]
    refine ⟨{ w with heap := w.heap.setIfInBounds B (.map (es.modify j fun e => { e with key := k, val := v }) clock) }, by simp [Instr.mapUpdate, run_underlying ht, MapKept.run_getObj_map hb, hchk, hf, hj, h3, hstay, MapKept.run_setObj_map _ hb, Result.andThen], ⟨_, _, (heap_set hb).1, ?_, ?_⟩, gr _⟩
    · intro x hx
      rw [Array.toList_modify] at hx
      obtain ⟨i, hi⟩ := List.mem_iff_getElem?.1 hx
      rw [List.getElem?_modify] at hi
      by_cases hij : j = i
      · subst hij
        rw [h2] at hi
        simp at hi
        subst hi
        exact keep _ _ hk
      · simp [hij] at hi
        cases hl : es.toList[i]? with
        | none => simp at hl; simp [hl] at hi
        | some y =>
          have : y = x := by simp at hl; simpa [hl] using hi
          exact keep _ _ (hall x (this ▸ List.mem_of_getElem? hl))
    · rw [Array.toList_modify]
      exact (look_modify k v es.toList j e h2 h3 h5).symm

/-- A new map. -/
theorem Holds.made (w : World) (G : World → Value → Prop) : Holds (w.alloc (.map #[] 0)) G w.heap.size (fun _ => none) :=
  ⟨#[], 0, (heap_alloc w _).1, by simp, rfl⟩
theorem Holds.lt (h : Holds w G B f) : B < w.heap.size := by
  obtain ⟨es, clock, hb, _⟩ := h
  exact (Array.getElem?_eq_some_iff.1 hb).1
/-- The map stays while it is not written. -/
theorem Holds.kept (h : Holds w G B f) {w' : World} (hb' : w'.heap[B]? = w.heap[B]?) (hG : ∀ x, G w x → G w' x) : Holds w' G B f := by
  obtain ⟨es, clock, hb, hall, rfl⟩ := h
  exact ⟨es, clock, hb'.trans hb, fun e he => hG _ (hall e he), rfl⟩
end

/-- 'm[k]' at the operation. -/
theorem wpList_lookup {P : Program} (w : World) {ops : Array Oper} {rest : List Oper} {o : Oper} {a : Act} {Q : Exit → Act → World → Prop}
    (hg : o.guard = none) (m x : Operand) (t : TypeId) (c : Bool) (hop : o.op = Op.lookup t m x c)
    {K E : TypeId} {G : World → Value → Prop} {B : Nat} {f : Value → Option Value} (hown : Holds w G B f) (g : Good P K G) (ht : P.underlying t = some (.map K E)) {z : Value} (hz : (zeroValue E).run P w = .ok z w)
    (hm : a.eval m = .map (some B)) {k : Value} (hx : a.eval x = k) (hk : G w k)
    (hK : wpList P ops Q rest (a.put o.dst (Got c z (f k))) w) :
    wpList P ops Q (o :: rest) a w := by
  refine wpList_plain hg fun K' hK' => ?_
  have hrun := hown.lookup g ht hz hk c
  unfold Oper.wp
  simp [execOp, hop, hm, hx, hrun, Result.andThen]
  exact hK' _ _ hK

theorem wpList_lookup_to {P : Program} (w : World) {ops : Array Oper} {rest : List Oper} {o : Oper} {a : Act} {Q : Exit → Act → World → Prop}
    (hg : o.guard = none) (m x : Operand) (t : TypeId) (c : Bool) (hop : o.op = Op.lookup t m x c)
    {K E : TypeId} {G : World → Value → Prop} {B : Nat} {f : Value → Option Value} (hown : Holds w G B f) (g : Good P K G) (ht : P.underlying t = some (.map K E)) {z : Value} (hz : (zeroValue E).run P w = .ok z w)
    (hm : a.eval m = .map (some B)) {k : Value} (hx : a.eval x = k) (hk : G w k) {r : Option Value} (hr : f k = r) {v : Value} (hv : Got c z r = v)
    (hK : wpList P ops Q rest (a.put o.dst v) w) :
    wpList P ops Q (o :: rest) a w :=
  wpList_lookup w hg m x t c hop hown g ht hz hm hx hk (by rw [hr, hv]; exact hK)

/-- An operation whose guard, if it has one, says yes. -/
theorem wpList_wanted {P : Program} {w : World} {ops : Array Oper} {rest : List Oper} {o : Oper} {a : Act} {Q : Exit → Act → World → Prop} (hw : Region.wanted o (yielded ops a.tmps))
    (h : ∀ K : Act → World → Prop, (∀ a w, wpList P ops Q rest a w → K a w) → o.wp P a w K Q) : wpList P ops Q (o :: rest) a w :=
  wpList_step fun K hK => by rw [if_pos hw]; exact h K hK
/-- 'm[k]' behind a guard that says yes. -/
theorem wpList_lookup_w {P : Program} (w : World) {ops : Array Oper} {rest : List Oper} {o : Oper} {a : Act} {Q : Exit → Act → World → Prop}
    (hw : Region.wanted o (yielded ops a.tmps)) (m x : Operand) (t : TypeId) (c : Bool) (hop : o.op = Op.lookup t m x c)
    {K E : TypeId} {G : World → Value → Prop} {B : Nat} {f : Value → Option Value} (hown : Holds w G B f) (g : Good P K G) (ht : P.underlying t = some (.map K E)) {z : Value} (hz : (zeroValue E).run P w = .ok z w)
    (hm : a.eval m = .map (some B)) {k : Value} (hx : a.eval x = k) (hk : G w k) {r : Option Value} (hr : f k = r) {v : Value} (hv : Got c z r = v)
    (hK : wpList P ops Q rest (a.put o.dst v) w) :
    wpList P ops Q (o :: rest) a w := by
  refine wpList_wanted hw fun K' hK' => ?_
  have hrun := hown.lookup g ht hz hk c
  rw [hr, hv] at hrun
  unfold Oper.wp
  simp [execOp, hop, hm, hx, hrun, Result.andThen]
  exact hK' _ _ hK

/-- 'm[k] = v' at the operation. -/
theorem wpList_update {P : Program} (w : World) {ops : Array Oper} {rest : List Oper} {o : Oper} {a : Act} {Q : Exit → Act → World → Prop}
    (hg : o.guard = none) (m x v : Operand) (t : TypeId) (hop : o.op = Op.mapUpdate t m x v)
    {K E : TypeId} {G : World → Value → Prop} {B : Nat} {f : Value → Option Value} (hown : Holds w G B f) (g : Good P K G) (st : Stays G) (ht : P.underlying t = some (.map K E))
    (hm : a.eval m = .map (some B)) {k val : Value} (hx : a.eval x = k) (hv : a.eval v = val) (hk : G w k)
    (hK : ∀ w', Holds w' G B (put f k val) → w.grownBy w' (some B) → wpList P ops Q rest (a.put o.dst undef) w') :
    wpList P ops Q (o :: rest) a w := by
  refine wpList_plain hg fun K' hK' => ?_
  obtain ⟨w', hrun, r1, r2⟩ := hown.update g st ht (v := val) hk
  unfold Oper.wp
  simp [execOp, hop, hm, hx, hv, hrun, Result.andThen]
  exact hK' _ _ (hK w' r1 r2)

end Go.Proofs.YtlbkbcafkjgckaaDoor.raw
