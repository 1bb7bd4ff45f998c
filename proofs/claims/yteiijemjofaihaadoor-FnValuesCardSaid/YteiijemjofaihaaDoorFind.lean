/-
  Whether a key may be one of an array, of the project.
  Conditions: those that each theorem names.
-/
import Derived.Test.YteiijemjofaihaaDoorPos
import Derived.Test.YteiijemjofaihaaDoorLight
import Derived.Test.YteiijemjofaihaaDoorIsKey
import Derived.Deep.RegionHeld3
import Derived.Deep.CutBlock
import Derived.Deep.DeepCutAuto
import Derived.Deep.LoopGhost
import Derived.BigQuiet
import Derived.Deep.QuietTactic
namespace Go.Proofs.YteiijemjofaihaaDoor.tree
open Go.ChangeShapes Go.WideShapes Go.ChangeAt Go.RowKit
set_option linter.unusedVariables false

def belowB (y : Ky) (x : Int) : Bool := keyB y && (y.text || decide (y.num < x))
theorem keyBelow_i (y : Ky) (hs : y.str.size ≤ 281474976710656) (x : Int) (w : World) (hE : prs.Env w) : Calls Tryd.prog 129 #[kyV y, .int .i64 x] w (BoQ w (belowB y x)) := by
  obtain ⟨q, HQ⟩ : ∃ q, Hid (keyB y = q) := ⟨_, Lib.hid rfl⟩
  have KI : ∀ o, Calls Tryd.prog 64 #[kyV y] (w.alloc o) (KeyQ (w.alloc o) q) := fun o => HQ.out ▸ isKey_i y hs _ (hE.stays (b1 w o))
  unfold belowB
  rw [HQ.out]
  obtain ⟨b, m, s⟩ := y
  unfold kyV at KI ⊢
  simp only at KI ⊢
  clear hE hs
  have key : ∀ r : Bool, decide (m < x) = r → Calls Tryd.prog 129 #[.agg #[.bool b, .int .i64 m, .string s], .int .i64 x] w (BoQ w (q && (b || r))) := fun r hr => by
    cases r with
    | true =>
      have hr := of_decide_eq_true hr
      cases q <;> cases b
      all_goals
        go_enter Tryd.func129, Tryd.ntmps129
        go_wp2_with (fail)
        refine (KI _).mono ?_
        rintro e w1 ⟨rfl, hb1⟩
        obtain ⟨r1, -⟩ := rowc (carry hb1 (heap_alloc_new w _))
        have HB := Lib.hid (bs (b1 w _) hb1)
        clear hb1
        go_wp2_with (fail)
        go_ret
        exact ⟨rfl, HB.out⟩
    | false =>
      have hr := of_decide_eq_false hr
      cases q <;> cases b
      all_goals
        go_enter Tryd.func129, Tryd.ntmps129
        go_wp2_with (fail)
        refine (KI _).mono ?_
        rintro e w1 ⟨rfl, hb1⟩
        obtain ⟨r1, -⟩ := rowc (carry hb1 (heap_alloc_new w _))
        have HB := Lib.hid (bs (b1 w _) hb1)
        clear hb1
        go_wp2_with (fail)
        go_ret
        exact ⟨rfl, HB.out⟩
  exact key _ rfl

end Go.Proofs.YteiijemjofaihaaDoor.tree
