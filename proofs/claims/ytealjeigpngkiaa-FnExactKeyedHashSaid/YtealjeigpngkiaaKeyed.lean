/-
  What KeyedHash of the model returns: the fold of the key, the numbers and the key.
  Conditions: the slice has at most 2^43 numbers.
-/
import Derived.Test.YtealjeigpngkiaaHash
namespace Go.Proofs.Ytealjeigpngkiaa.hsh
open Go.ChangeShapes Go.WideShapes Go.ChangeAt Go.RowKit mem imem
set_option linter.unusedVariables false

def KeyQ (w : World) (x : Int) (e : Ending) (w' : World) : Prop := e = .returned (.int .i64 x) ∧ Below w.heap.size w w'

theorem specKeyed (key : Int) (A : Option Addr) (n c : Nat) (l : List Int) (hn : n ≤ 8796093022208) (w : World) (hA : RdI w A n l) :
    Calls Try.prog 12 #[.int .i64 key, .slice A n c] w (KeyQ w (dig.fold 11 (key :: l ++ [key]))) := by
  obtain ⟨i0, hi, hz0, hz1, hz2⟩ := info_parts i64row
  have HA := Lib.hid hA; clear hA
  go_enter Try.func12, Try.ntmps12
  go_wp2_with (at_builtin; refine append_rdi rfl (.tmp 6) (.tmp 7) _ rfl i0 Try.underlying22 hi hz0 hz1 hz2 w.heap.size _ _ _ _ rfl (owni_one w key _ (Nat.le_refl _)) A n c l rfl (HA.out.alloc _) (by omega) (by simp) ?_)
  intro A1 c1 w1 ho1 hb1 hg1
  have HB1 := Lib.hid ((Joins.below_alloc1 w _).trans hb1); have H1 := Lib.hid ho1; clear ho1 hb1 hg1
  go_wp2_with (at_builtin; refine append_rdi rfl (.tmp 8) (.tmp 10) _ rfl i0 Try.underlying22 hi hz0 hz1 hz2 w.heap.size _ _ _ _ rfl (H1.out.alloc _) _ 1 1 [key] rfl (rdi_one _ _ _) (by omega) (by have := HB1.out.size; simp; omega) ?_)
  intro A2 c2 w2 ho2 hb2 hg2
  have HB2 := Lib.hid ((HB1.out.alloc HB1.out.size _).trans hb2); have H2 := Lib.hid ho2; clear ho2 hb2 hg2
  go_wp2_with (fail)
  refine (specHash A2 _ c2 _ (by omega) _ H2.out.rd).mono ?_
  rintro e w3 ⟨rfl, rfl⟩
  go_wp2
  go_ret
  exact ⟨rfl, HB2.out⟩

end Go.Proofs.Ytealjeigpngkiaa.hsh
