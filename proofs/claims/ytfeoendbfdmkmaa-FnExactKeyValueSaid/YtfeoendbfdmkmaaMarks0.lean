/-
  The laws' marks on a value that has no items.
  Conditions: those that each theorem names.
-/
import Derived.Test.YtfeoendbfdmkmaaGives
namespace Go.Proofs.Ytfeoendbfdmkmaa.tree
open Go.ChangeShapes Go.WideShapes Go.ChangeAt Go.RowKit
set_option linter.unusedVariables false

theorem markItems0 (A : Option Addr) (c : Nat) (m : Int) (w : World) : Calls Try.prog 44 #[.slice A 0 c, .int .i64 m] w (GivesQ w (.int .i64 m)) := by
  go_enter Try.func44, Try.ntmps44
  go_wp2
  go_loopg [1, 5] 1 (fun gk l i wr => l = .int .i64 m ∧ i = .int .i64 0 ∧ gk = 1 ∧ w = wr)
  case atStart => exact ⟨rfl, rfl, rfl, rfl⟩
  case round =>
    obtain ⟨rfl, rfl, rfl, rfl⟩ := hrel
    go_wp2
    go_ret
    exact ⟨rfl, Below.refl _ _⟩

set_option maxRecDepth 100000 in
theorem heldItems0 (A : Option Addr) (c : Nat) (m : Int) (w : World) : Calls Try.prog 45 #[.slice A 0 c, .int .i64 m] w (GivesQ w (.int .i64 m)) := by
  go_enter Try.func45, Try.ntmps45
  go_wp2
  go_loopg [1, 5] 1 (fun gk l i wr => l = .int .i64 m ∧ i = .int .i64 0 ∧ gk = 1 ∧ w = wr)
  case atStart => exact ⟨rfl, rfl, rfl, rfl⟩
  case round =>
    obtain ⟨rfl, rfl, rfl, rfl⟩ := hrel
    go_wp2
    go_ret
    exact ⟨rfl, Below.refl _ _⟩

theorem markV0 (k n : Int) (s : ByteArray) (x : Int) (A : Option Addr) (c : Nat) (m : Int) (w : World) : Calls Try.prog 15 #[vV k n s x A 0 c, .int .i64 m] w (GivesQ w (.int .i64 m)) := by
  go_enter Try.func15, Try.ntmps15
  go_wp2_with (fail)
  refine (markItems0 A c m _).mono ?_
  rintro e w1 ⟨rfl, hb1⟩
  have HB := Lib.hid hb1
  clear hb1
  go_wp2_with (fail)
  go_ret
  exact ⟨rfl, bs (b1 _ _) HB.out⟩

theorem heldV0 (k n : Int) (s : ByteArray) (x : Int) (A : Option Addr) (c : Nat) (m : Int) (h0 : 0 ≤ m) (w : World) : Calls Try.prog 16 #[vV k n s x A 0 c, .int .i64 m] w (GivesQ w (.int .i64 m)) := by
  go_enter Try.func16, Try.ntmps16
  go_wp2_with (fail)
  refine (heldItems0 A c m _).mono ?_
  rintro e w1 ⟨rfl, hb1⟩
  have HB := Lib.hid hb1
  clear hb1
  go_wp2_with (fail)
  go_ret
  exact ⟨rfl, bs (b1 _ _) HB.out⟩

end Go.Proofs.Ytfeoendbfdmkmaa.tree
