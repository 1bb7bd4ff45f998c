/-
  What the texts behind this one use: 3 parts of one proof.
  Conditions: those that each theorem names.
-/
import Derived.Test.YtbgffmiffmmohaaGreatDoorSpSTreeCp
import Derived.Test.YtbgffmiffmmohaaGreatDoorSpB2
/-
  What a call leaves as it was, but for some blocks.
  Conditions: none.
-/
namespace Go.Proofs.YtbgffmiffmmohaaGreatDoor.tree
open Go.ChangeShapes Go.WideShapes Go.ChangeAt Go.RowKit
set_option linter.unusedVariables false

/-- Nothing but blocks of S has changed. -/
structure Fr (S : Nat → Prop) (w w' : World) : Prop where
  os : w'.os = w.os
  tape : w'.tape = w.tape
  output : w'.output = w.output
  size : w.heap.size ≤ w'.heap.size
  block : ∀ b, b < w.heap.size → ¬ S b → w'.heap[b]? = w.heap[b]?
section
variable {S S' : Nat → Prop} {w w' w2 : World}
theorem Fr.refl (S : Nat → Prop) (w : World) : Fr S w w := ⟨rfl, rfl, rfl, Nat.le_refl _, fun _ _ _ => rfl⟩
theorem Fr.of (h : Below w.heap.size w w') : Fr S w w' := ⟨h.os, h.tape, h.output, h.size, fun b hb _ => h.block b hb⟩
theorem Fr.trans (h : Fr S w w') (k : Fr S w' w2) : Fr S w w2 := ⟨k.os.trans h.os, k.tape.trans h.tape, k.output.trans h.output, Nat.le_trans h.size k.size, fun b hb hs => (k.block b (Nat.lt_of_lt_of_le hb h.size) hs).trans (h.block b hb hs)⟩
theorem Fr.mono (h : Fr S w w') (hs : ∀ b, S b → S' b) : Fr S' w w' := ⟨h.os, h.tape, h.output, h.size, fun b hb hn => h.block b hb fun hh => hn (hs b hh)⟩
theorem Fr.below (h : Fr S w w') {lo : Nat} (hl : lo ≤ w.heap.size) (hs : ∀ b, S b → lo ≤ b) : Below lo w w' := ⟨h.os, h.tape, h.output, h.size, fun b hb => h.block b (Nat.lt_of_lt_of_le hb hl) fun hh => by have := hs b hh; omega⟩
theorem Fr.set {g : Nat} (hg : S g) (j : Nat) (v : Value) : Fr S w (w.setCell ⟨g, j, none⟩ v) := ⟨rfl, rfl, rfl, by rw [set_size]; exact Nat.le_refl _, fun b _ hn => set_other (fun e => hn (e ▸ hg))⟩
end

theorem TIn.lt' {w : World} {S : Nat → Prop} {t : Tr} {v : Value} (h : TIn w S t v) : TIn w (fun b => b < w.heap.size) t v := by
  induction h with
  | mk k n s x ks vs A cap C hk hl hm hcap hc ht ih =>
    refine TIn.mk k n s x ks vs A _ C hk hl hm hcap (fun i hi => ?_) ih
    obtain ⟨a, ha, hS, hky, hs, hj⟩ := hc i hi
    refine ⟨a, ha, ?_, hky, hs, hj⟩
    have := World.block_lt_of_cell? _ _ hky.1
    rwa [mem.add_block] at this

end Go.Proofs.YtbgffmiffmmohaaGreatDoor.tree

/-
  A result that lies in a box of five cells; the value of null.
  Conditions: those that each theorem names.
-/
namespace Go.Proofs.YtbgffmiffmmohaaGreatDoor.tree
open Go.ChangeShapes Go.WideShapes Go.ChangeAt Go.RowKit
set_option linter.unusedVariables false

/-- A result's five cells, written. -/
theorem fill5 {w wF : World} {R : Nat} {t : TypeId} {a b c d e c0 c1 c2 c3 c4 : Value} (h : w.heap[R]? = some (.cells #[a, b, c, d, e] t (0, 0)))
    (hF : (((((w.setCell ⟨R, 0, none⟩ c0).setCell ⟨R, 1, none⟩ c1).setCell ⟨R, 2, none⟩ c2).setCell ⟨R, 3, none⟩ c3).setCell ⟨R, 4, none⟩ c4) = wF) :
    (∀ j, wF.cell? ⟨R, j, none⟩ = (#[c0, c1, c2, c3, c4] : Array Value)[j]?) ∧ (∀ q, q ≠ R → wF.heap[q]? = w.heap[q]?) ∧ ∀ (B : Nat) (w0 : World), B ≤ R → Below B w0 w → Below B w0 wF := by
  subst hF
  refine ⟨fun j => ?_, fun q hq => ?_, fun B w0 hB hb => ?_⟩
  · have := set_heap (set_heap (set_heap (set_heap (set_heap h 0 c0) 1 c1) 2 c2) 3 c3) 4 c4
    rw [cell_of_row _ _ j _ _ _ this]
    simp
  · rw [set_other hq, set_other hq, set_other hq, set_other hq, set_other hq]
  · exact ((((hb.setCell hB _).setCell hB _).setCell hB _).setCell hB _).setCell hB _

theorem nullValue_i (w : World) : Calls Tryz.prog 127 #[] w (GivesQ w (vV 0 0 ⟨#[]⟩ 0 none 0 0)) := by
  go_enter Tryz.func127, Tryz.ntmps127
  go_wp2
  exact bodyPost_ret (v := vV 0 0 ⟨#[]⟩ 0 none 0 0) (by simp [results, Tryz.results127, go_sem]) rfl ⟨rfl, b1 _ _⟩

end Go.Proofs.YtbgffmiffmmohaaGreatDoor.tree

/-
  What stands at a key of a tree.
  Conditions: none.
-/
namespace Go.Proofs.YtbgffmiffmmohaaGreatDoor.tree
open Go.ChangeShapes Go.WideShapes Go.ChangeAt Go.RowKit
set_option linter.unusedVariables false

def nullT : Tr := .mk 0 0 ⟨#[]⟩ 0 [] []
/-- What stands at the key. -/
def getT : Tr → Ky → Option Tr
  | .mk k n s x ks vs, y => if posV (.mk k n s x ks vs) y = -1 then none else vs[(posV (.mk k n s x ks vs) y).toNat]?
def getB (t : Tr) (y : Ky) : Bool := (getT t y).isSome
def getR (t : Tr) (y : Ky) : Tr := (getT t y).getD nullT
theorem getT_none {t : Tr} {y : Ky} (h : posV t y = -1) : getT t y = none := by cases t; rw [getT, if_pos h]
theorem getT_some {k n x : Int} {s : ByteArray} {ks : List Ky} {vs : List Tr} {y : Ky} {i : Nat} (h : posV (.mk k n s x ks vs) y = i) : getT (.mk k n s x ks vs) y = vs[i]? := by
  rw [getT, if_neg (by omega), h, Int.toNat_natCast]

def OutT (w : World) (t : Tr) (b : Bool) (S : Nat → Prop) (e : Ending) (w' : World) : Prop := ∃ u, e = .returned (.tuple #[u, .bool b]) ∧ TIn w' S t u ∧ Below w.heap.size w w'

end Go.Proofs.YtbgffmiffmmohaaGreatDoor.tree

