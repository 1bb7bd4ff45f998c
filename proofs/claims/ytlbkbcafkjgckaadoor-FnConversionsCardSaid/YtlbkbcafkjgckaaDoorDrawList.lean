/-
  The model's draws of lists: a new slice of a bounded number of bytes or of integers; nothing that was there is changed but the cursor.
  Conditions: those that each theorem names.
-/
import Derived.Test.YtlbkbcafkjgckaaDoorDrawOne
import Derived.Test.YtlbkbcafkjgckaaDoorMem
import Derived.Test.YtlbkbcafkjgckaaDoorMemI
import Derived.Deep.LoopGhost
import Derived.Deep.RegionWith
namespace Go.Proofs.YtlbkbcafkjgckaaDoor.draw
open Go.ChangeShapes Go.WideShapes Go.ChangeAt Go.RowKit mem imem
set_option linter.unusedVariables false

theorem code_of_rd {w : World} {A : Option Addr} {n : Nat} {l : List Int} (h : Rd w A n l) : Code w w.heap.size A n := fun hn => by
  obtain ⟨a, e, hlt⟩ := h.lt hn
  refine ⟨a, e, hlt, fun j hj => ?_⟩
  obtain ⟨a', v, e', hv, v0, v1, hc⟩ := h.at_ hj
  rw [e] at e'
  obtain rfl := Option.some.inj e'
  exact ⟨v, v0, v1, hc⟩
theorem Cur.far {w w' : World} {N B : Nat} (h : Cur w N) (hb : Below B w w') (hN : N < B) : Cur w' N := by
  obtain ⟨A, n, c, i, x, hbk, hc, hn, i0, i1⟩ := h
  exact ⟨A, n, c, i, x, (hb.block N hN).trans hbk, hc.keep fun k hlt => hb.block k (by omega), hn, i0, i1⟩
theorem only_far {a w w' : World} {N : Nat} (h : a.grownBy w (some N)) (hb : Below a.heap.size w w') : a.grownBy w' (some N) :=
  ⟨hb.os.trans h.os, hb.tape.trans h.tape, hb.output.trans h.output, Nat.le_trans h.size hb.size, fun k hk hne => (hb.block k hk).trans (h.block k hk hne)⟩





end Go.Proofs.YtlbkbcafkjgckaaDoor.draw
