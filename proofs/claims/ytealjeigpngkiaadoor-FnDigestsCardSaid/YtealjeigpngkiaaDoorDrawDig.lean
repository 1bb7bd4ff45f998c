/-
  The model's draws for the digests: a list of at most six integers, a text of at most eight bytes.
  Conditions: the bytes of the draw are at most 1048576.
-/
import Derived.Test.YtealjeigpngkiaaDoorDrawList
namespace Go.Proofs.YtealjeigpngkiaaDoor.draw
open Go.ChangeShapes Go.WideShapes Go.ChangeAt Go.RowKit mem imem
set_option linter.unusedVariables false

def DrawInts (m : Nat) (w : World) (e : Ending) (w' : World) : Prop :=
  ∃ A n c l, e = .returned (.slice A n c) ∧ n ≤ m ∧ OwnI w' w.heap.size A n c l ∧ Below w.heap.size w w'
def DrawText (m : Nat) (w : World) (e : Ending) (w' : World) : Prop :=
  ∃ s : ByteArray, e = .returned (.string s) ∧ s.size ≤ m ∧ Below w.heap.size w w'

theorem drawHash (A : Option Addr) (n c : Nat) (hn : n ≤ 1048576) (w : World) (hA : Code w w.heap.size A n) :
    Calls Tryd.prog 6 #[.slice A n c] w (DrawInts 6 w) := by
  have HA := Lib.hid hA; clear hA
  go_enter Tryd.func6, Tryd.ntmps6
  go_wp2_with (fail)
  refine (new A n c hn _ HA.out).mono ?_
  rintro e w1 ⟨N, rfl, hN, hC1, hb1⟩
  have hs1 := hb1.size
  have HC1 := Lib.hid hC1; have HB1 := Lib.hid hb1; clear hC1 hb1
  go_wp2_with (fail)
  refine (intsOf N 6 (by omega) _ HC1.out).mono ?_
  rintro e w3 ⟨A3, n3, c3, l3, rfl, hn3, ho3, hC3, hg3⟩
  have H3 := Lib.hid ho3; have HB3 := Lib.hid (below_of HB1.out hg3 hN hs1); clear ho3 hC3 hg3
  go_wp2
  go_ret
  exact ⟨_, _, _, _, rfl, hn3, H3.out.less hs1, HB3.out⟩

theorem drawHashText (A : Option Addr) (n c : Nat) (hn : n ≤ 1048576) (w : World) (hA : Code w w.heap.size A n) :
    Calls Tryd.prog 8 #[.slice A n c] w (DrawText 8 w) := by
  have HA := Lib.hid hA; clear hA
  go_enter Tryd.func8, Tryd.ntmps8
  go_wp2_with (fail)
  refine (new A n c hn _ HA.out).mono ?_
  rintro e w1 ⟨N, rfl, hN, hC1, hb1⟩
  have hs1 := hb1.size
  have HC1 := Lib.hid hC1; have HB1 := Lib.hid hb1; clear hC1 hb1
  go_wp2_with (fail)
  refine (below N 9 (by omega) _ HC1.out).mono ?_
  rintro e w2 ⟨x, rfl, x0, x1, hC2, hg2⟩
  have hs2 := hg2.size
  have HC2 := Lib.hid hC2; have HB2 := Lib.hid (below_of HB1.out hg2 hN hs1); clear hC2 hg2
  go_wp2_with (fail)
  refine (bytesOf N 8 (by omega) x (by omega) _ HC2.out).mono ?_
  rintro e w3 ⟨A3, n3, c3, l3, rfl, hn3, ho3, hC3, hg3⟩
  have hcv := conv_rd (P := Tryd.prog) w3 22 9 5 Tryd.underlying22 Tryd.underlying5 Tryd.underlying9 ho3.rd c3
  have HL := Lib.hid ho3.len
  have HB3 := Lib.hid (below_of HB2.out hg3 hN (by omega)); clear ho3 hC3 hg3
  go_wp2
  go_ret
  exact ⟨_, rfl, by rw [strOfNums_size, HL.out]; exact hn3, HB3.out⟩

end Go.Proofs.YtealjeigpngkiaaDoor.draw
