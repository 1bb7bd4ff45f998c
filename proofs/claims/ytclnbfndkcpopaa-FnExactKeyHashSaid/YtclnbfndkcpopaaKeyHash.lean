/-
  The digest of a key, of the project and of the model.
  Conditions: the key's text has at most 2^47 bytes.
-/
import Derived.Test.YtclnbfndkcpopaaHashText
import Derived.Test.YtclnbfndkcpopaaTreeEq
namespace Go.Proofs.Ytclnbfndkcpopaa.tree
open Go.ChangeShapes Go.WideShapes Go.ChangeAt Go.RowKit
set_option linter.unusedVariables false

/-- The digest of a key. -/
def kh (y : Ky) : Int := if y.text then dig.fold 11 (mem.txt y.str) else y.num % 2147483647
theorem kh_in (y : Ky) : 0 ≤ kh y ∧ kh y ≤ 2147483646 := by
  unfold kh
  split
  · exact dig.fold_in dig.in11 _
  · omega
def KhQ (w : World) (x : Int) (e : Ending) (w' : World) : Prop := e = .returned (.int .i64 x) ∧ Below w.heap.size w w'

theorem keyHash_i (y : Ky) (hs : y.str.size ≤ 140737488355328) (w : World) : Calls Try.prog 13 #[kyV y] w (KhQ w (kh y)) := by
  obtain ⟨b, n, s⟩ := y
  replace hs : s.size ≤ 140737488355328 := hs
  have HT := hsh.implText s hs
  have HM := hsh.implMod31 n
  unfold kyV
  cases b
  · obtain ⟨q, HQ⟩ : ∃ q, Hid (n % 2147483647 = q) := ⟨_, Lib.hid rfl⟩
    rw [show kh ⟨false, n, s⟩ = q from HQ.out]
    rw [HQ.out] at HM
    go_enter Try.func13, Try.ntmps13
    go_wp2_with (fail)
    refine (HM _).mono ?_
    rintro e w1 ⟨rfl, rfl⟩
    go_wp2_with (fail)
    go_ret
    exact ⟨rfl, b1 _ _⟩
  · obtain ⟨q, HQ⟩ : ∃ q, Hid (dig.fold 11 (mem.txt s) = q) := ⟨_, Lib.hid rfl⟩
    rw [show kh ⟨true, n, s⟩ = q from HQ.out]
    rw [HQ.out] at HT
    go_enter Try.func13, Try.ntmps13
    go_wp2_with (fail)
    refine (HT _).mono ?_
    rintro e w1 ⟨rfl, hb⟩
    have HB := Lib.hid (bs (b1 w _) hb)
    clear hb
    go_wp2_with (fail)
    go_ret
    exact ⟨rfl, HB.out⟩

theorem keyHash_s (y : Ky) (hs : y.str.size ≤ 140737488355328) (w : World) : Calls Try.prog 11 #[kyV y] w (KhQ w (kh y)) := by
  obtain ⟨b, n, s⟩ := y
  replace hs : s.size ≤ 140737488355328 := hs
  have HT := hsh.specText s hs
  have HM := hsh.specMod31 n
  unfold kyV
  cases b
  · obtain ⟨q, HQ⟩ : ∃ q, Hid (n % 2147483647 = q) := ⟨_, Lib.hid rfl⟩
    rw [show kh ⟨false, n, s⟩ = q from HQ.out]
    rw [HQ.out] at HM
    go_enter Try.func11, Try.ntmps11
    go_wp2_with (fail)
    refine (HM _).mono ?_
    rintro e w1 ⟨rfl, rfl⟩
    go_wp2_with (fail)
    go_ret
    exact ⟨rfl, b1 _ _⟩
  · obtain ⟨q, HQ⟩ : ∃ q, Hid (dig.fold 11 (mem.txt s) = q) := ⟨_, Lib.hid rfl⟩
    rw [show kh ⟨true, n, s⟩ = q from HQ.out]
    rw [HQ.out] at HT
    go_enter Try.func11, Try.ntmps11
    go_wp2_with (fail)
    refine (HT _).mono ?_
    rintro e w1 ⟨rfl, rfl⟩
    go_wp2_with (fail)
    go_ret
    exact ⟨rfl, b1 _ _⟩

end Go.Proofs.Ytclnbfndkcpopaa.tree
