/-
  What the walks of the exact laws on values ask for again and again: the words of blocks behind calls, marks that are put in and found again.
  Conditions: those that each theorem names.
-/
import Derived.Test.YtbgffmiffmmohaaCrSMarkA
import Derived.Test.YtbgffmiffmmohaaCrSHeld
import Derived.Test.YtbgffmiffmmohaaCrB2
namespace Go.Proofs.Ytbgffmiffmmohaa.tree
open Go.ChangeShapes Go.WideShapes Go.ChangeAt Go.RowKit
set_option linter.unusedVariables false

/-- How many items hang in a value. -/
def itm : Tr → Nat
  | .mk _ _ _ _ _ vs => cnts vs
theorem itm_cnt (t : Tr) : cnt t = 1 + itm t := by cases t; rw [cnt_mk', itm]
/-- A value with marks. -/
def mkI (m : Int) : Tr → Tr
  | .mk k n s x _ vs => .mk k n s x (mkK m vs) (mkV m vs)

/-- Blocks from lo on and below hi. -/
def Rg (lo hi : Nat) (b : Nat) : Prop := lo ≤ b ∧ b < hi
/-- A value in plain blocks from lo on: in those that are there. -/
theorem TIn.rg {w : World} {lo : Nat} {t : Tr} {v : Value} (h : TIn w (Nw lo w) t v) : TIn w (fun b => Rg lo w.heap.size b ∧ Plain w b) t v := h.stays (fun b hb => ⟨⟨hb.1, hb.2.lt⟩, hb.2⟩) (fun _ _ _ => rfl)


/-- Nothing hangs but what is there. -/
theorem TPar.tight {w : World} {par : Nat → Nat × Nat} {R i : Nat} {t : Tr} {v : Value} (h : TPar w par (R, i) t v) : ∃ par', TPar w par' (R, i) t v ∧ ∀ b, Hang par' (R, i) b → Rg (R + 1) w.heap.size b := by
  refine ⟨fun b => if b < w.heap.size then par b else (b, 0), h.par_ fun b hb => if_pos hb, fun b hb => ⟨by have := hb.gt; simp at this; omega, ?_⟩⟩
  cases hb with
  | root _ e hlt =>
    by_cases hb : b < w.heap.size
    · exact hb
    · rw [if_neg hb] at e
      injection e with e1 e2
      simp at hlt
      omega
  | step _ g j e hlt hh =>
    by_cases hb : b < w.heap.size
    · exact hb
    · rw [if_neg hb] at e
      injection e with e1 e2
      omega



end Go.Proofs.Ytbgffmiffmmohaa.tree

