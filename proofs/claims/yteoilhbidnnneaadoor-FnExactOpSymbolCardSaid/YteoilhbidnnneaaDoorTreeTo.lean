/-
  The copies that the laws make of a value: a key, an item, a list of items, a value.
  Conditions: those that each theorem names.
-/
import Derived.Test.YteoilhbidnnneaaDoorTree
import Derived.WalkKit
import Derived.Laws.NewBlocks
import Derived.Laws.NewDeep
import Derived.Lib.Builder
import Derived.Lib.Hide
namespace Go.Proofs.YteoilhbidnnneaaDoor.tree
open Go.ChangeShapes Go.WideShapes Go.ChangeAt Go.RowKit
set_option linter.unusedVariables false

abbrev LK : TypeId := 85
abbrev IK : TypeId := 32
abbrev LE : TypeId := 87
abbrev IE : TypeId := 34
abbrev LV : TypeId := 45
abbrev IV : TypeId := 26

/-- Three new blocks in a row. -/
theorem al3 (w : World) (c0 c1 c2 : Array Value) (t0 t1 t2 : TypeId) :
    (((w.alloc (.cells c0 t0)).alloc (.cells c1 t1)).alloc (.cells c2 t2)).heap[w.heap.size]? = some (.cells c0 t0 (0, 0)) ∧
    (((w.alloc (.cells c0 t0)).alloc (.cells c1 t1)).alloc (.cells c2 t2)).heap[w.heap.size + 1]? = some (.cells c1 t1 (0, 0)) ∧
    (((w.alloc (.cells c0 t0)).alloc (.cells c1 t1)).alloc (.cells c2 t2)).heap[w.heap.size + 1 + 1]? = some (.cells c2 t2 (0, 0)) ∧
    (((w.alloc (.cells c0 t0)).alloc (.cells c1 t1)).alloc (.cells c2 t2)).heap.size = w.heap.size + 1 + 1 + 1 ∧
    Below w.heap.size w (((w.alloc (.cells c0 t0)).alloc (.cells c1 t1)).alloc (.cells c2 t2)) := by
  have e1 : (w.alloc (.cells c0 t0)).heap.size = w.heap.size + 1 := by simp
  have e2 : ((w.alloc (.cells c0 t0)).alloc (.cells c1 t1)).heap.size = w.heap.size + 1 + 1 := by simp
  refine ⟨?_, ?_, ?_, by simp, (((Below.refl w.heap.size w).alloc (Nat.le_refl _) _).alloc (by omega) _).alloc (by omega) _⟩
  · rw [Lib.alloc_old _ _ _ (by omega), Lib.alloc_old _ _ _ (by omega)]
    exact heap_alloc_new w _
  · rw [Lib.alloc_old _ _ _ (by omega)]
    have h := heap_alloc_new (w.alloc (.cells c0 t0)) (.cells c1 t1)
    rwa [e1] at h
  · have h := heap_alloc_new ((w.alloc (.cells c0 t0)).alloc (.cells c1 t1)) (.cells c2 t2)
    rwa [e2] at h
theorem set_heap {W : World} {g : Nat} {cs : Array Value} {t : TypeId} (h : W.heap[g]? = some (.cells cs t (0, 0))) (j : Nat) (v : Value) :
    (W.setCell ⟨g, j, none⟩ v).heap[g]? = some (.cells (cs.setIfInBounds j v) t (0, 0)) := by
  simp [World.setCell, Array.getElem?_modify, h]
theorem set_other {W : World} {g k j : Nat} {v : Value} (h : k ≠ g) : (W.setCell ⟨g, j, none⟩ v).heap[k]? = W.heap[k]? := Below.heap_setCell _ _ _ _ (fun e => h (by simpa using e))
theorem set_size {W : World} {a : Addr} {v : Value} : (W.setCell a v).heap.size = W.heap.size := by simp [World.setCell]

def kyV (k : Ky) : Value := .agg #[.bool k.text, .int .i64 k.num, .string k.str]

theorem toKey (k : Ky) (w : World) : Calls Tryd.prog 74 #[kyV k] w fun e w' => e = .returned (kyV k) ∧ Below w.heap.size w w' := by
  obtain ⟨b, n, s⟩ := k
  unfold kyV
  go_enter Tryd.func74, Tryd.ntmps74
  go_wp2
  refine bodyPost_ret (v := .agg #[.bool b, .int .i64 n, .string s]) (by simp [results, Tryd.results74, go_sem]) rfl ⟨rfl, (al3 w _ _ _ _ _ _).2.2.2.2⟩

/-- A copy in new memory. -/
def ToQ (w : World) (t : Tr) (e : Ending) (w' : World) : Prop := ∃ v, e = .returned v ∧ TIn w' (fun b => w.heap.size ≤ b) t v ∧ Below w.heap.size w w'
def Copies (t : Tr) : Prop := ∀ (w : World) (S : Nat → Prop) (v : Value), TIn w S t v → Calls Tryd.prog 20 #[v] w (ToQ w t)

/-- The eight cells of an item. -/
def enV (k : Ky) (v : Value) : Value := .agg (#[.bool k.text, .int .i64 k.num, .string k.str] ++ v.cells)
def EnQ (w : World) (k : Ky) (t : Tr) (e : Ending) (w' : World) : Prop := ∃ v, e = .returned (enV k v) ∧ TIn w' (fun b => w.heap.size ≤ b) t v ∧ Below w.heap.size w w'

end Go.Proofs.YteoilhbidnnneaaDoor.tree
