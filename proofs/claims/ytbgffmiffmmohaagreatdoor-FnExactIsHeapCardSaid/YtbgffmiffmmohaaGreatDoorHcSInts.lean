/-
  What the law's helpers on slices of integers return: a copy, and the test of two.
  Conditions: the slices have at most 2^44 integers.
-/
import Derived.Test.YtbgffmiffmmohaaGreatDoorHcB1
import Derived.WalkKit
import Derived.ProofKit
import Derived.IntWalk
import Derived.BigQuiet
import Derived.Deep.QuietTactic
import Derived.WalkLawsBesides
import Derived.Deep.LoopGhost
namespace Go.Proofs.YtbgffmiffmmohaaGreatDoor.ints
open Go.ChangeShapes Go.WideShapes Go.ChangeAt Go.RowKit mem imem
set_option linter.unusedVariables false

/-- A new slice of integers that reads as l. -/
def MadeI (w : World) (l : List Int) (e : Ending) (w' : World) : Prop := ∃ A n c, e = .returned (.slice A n c) ∧ OwnI w' w.heap.size A n c l ∧ w.grownBy w' none

theorem toInts (A : Option Addr) (n c : Nat) (l : List Int) (hn : n ≤ 17592186044416) (w : World) (hA : RdI w A n l) :
    Calls Tryz.prog 237 #[.slice A n c] w (MadeI w l) := by
  have hl := hA.len
  obtain ⟨i0, hi, hz0, hz1, hz2⟩ := info_parts i64row
  have HA := Lib.hid hA; have HL := Lib.hid hl; have HZ := Lib.hid hz2; clear hA hl hz2
  go_enter Tryz.func237, Tryz.ntmps237
  go_wp2_with (at_make; refine wpList_make_full _ rfl _ _ 24 rfl w.heap.size 3 i0 (.int .i64 0) 1 Tryz.underlying24 hi hz0 hz1 _ _ _ _ n rfl rfl rfl rfl (by have := HZ.out; rw [this]; omega) (by unfold maxLen; omega) (Nat.le_refl _) ?_)
  intro w1 hown hg
  have ho : OwnI w1 w.heap.size (some ⟨w.heap.size, 0, none⟩) n n (List.replicate n 0) := ⟨List.length_replicate, by rw [ics_zero, ← toList_madeCells_one, ← Nat.mul_one n]; simpa using hown⟩
  have HO := Lib.hid ho; have HG := Lib.hid hg; clear ho hown hg
  go_wp2
  go_loopg [4] n (fun gk i wr => ∃ (k : Nat) (m : List Int), i = .int .i64 k ∧ gk + k = n ∧ OwnI wr w.heap.size (some ⟨w.heap.size, 0, none⟩) n n m ∧ Filled l m k ∧ w.grownBy wr none)
  case atStart => exact ⟨0, _, rfl, by omega, HO.out, Filled.start _ _ (by rw [List.length_replicate]; exact HL.out.symm), HG.out⟩
  case round =>
    obtain ⟨k, m, rfl, hk, ho, hf, hg⟩ := hrel
    have hr := HA.out.grown hg (Off.none_ _ _)
    by_cases hlt : k < n
    · obtain ⟨a, v, rfl, hv, hc⟩ := hr.at_ hlt
      obtain ⟨⟨u, hcu⟩, hfu⟩ := ho.cellk hlt
      obtain ⟨ho1, hg1⟩ := ho.set k v
      have hf1 := hf.step hv
      have hgg : w.grownBy (wr.setCell ⟨w.heap.size, k, none⟩ (.int .i64 v)) none := ⟨hg1.os.trans hg.os, hg1.tape.trans hg.tape, hg1.output.trans hg.output, Nat.le_trans hg.size hg1.size, fun j hj hne => (hg1.block j (Nat.lt_of_lt_of_le hj hg.size) (by intro e; injection e with e; omega)).trans (hg.block j hj hne)⟩
      have H1 := Lib.hid ho1; have H2 := Lib.hid hf1; have H3 := Lib.hid hgg; have HK := Lib.hid hk
      clear ho hr hg hf ho1 hg1 hf1 hgg hv hk
      go_wp2
      go_roundg (n - (k + 1))
      case measure => have := HK.out; omega
      case rel => exact ⟨k + 1, _, by go_num, by have := HK.out; omega, H1.out, H2.out, H3.out⟩
    · have hm : m = l := hf.all (by have := HL.out; omega)
      subst hm
      have H1 := Lib.hid ho; have H3 := Lib.hid hg; have HK := Lib.hid hk
      clear ho hr hg hf hk
      go_wp2
      go_ret
      exact ⟨_, _, _, rfl, H1.out, H3.out⟩

/-- A call that answers b and only makes memory. -/
def BoolQ (w : World) (b : Bool) (e : Ending) (w' : World) : Prop := e = .returned (.bool b) ∧ w.grownBy w' none

/-- Two slices that read alike. -/
theorem eqInts (A B : Option Addr) (n c d : Nat) (l : List Int) (hn : n ≤ 17592186044416) (w : World) (hA : RdI w A n l) (hB : RdI w B n l) :
    Calls Tryz.prog 97 #[.slice A n c, .slice B n d] w (BoolQ w true) := by
  have HA := Lib.hid hA; have HB := Lib.hid hB; clear hA hB
  go_enter Tryz.func97, Tryz.ntmps97
  go_wp2
  go_loopg [5] n (fun gk i wr => ∃ (k : Nat), i = .int .i64 k ∧ gk + k = n ∧ w.grownBy wr none)
  case atStart => exact ⟨0, rfl, by omega, World.grownBy.refl _ _⟩
  case round =>
    obtain ⟨k, rfl, hk, hg⟩ := hrel
    by_cases hlt : k < n
    · obtain ⟨a, v, rfl, hv, hc⟩ := (HA.out.grown hg (Off.none_ _ _)).at_ hlt
      obtain ⟨b, v', rfl, hv', hc'⟩ := (HB.out.grown hg (Off.none_ _ _)).at_ hlt
      obtain rfl : v = v' := Option.some.inj (hv.symm.trans hv')
      have HG := Lib.hid hg; have HK := Lib.hid hk
      clear hg hk hv hv'
      go_wp2
      go_quiet (fail)
      go_wp2
      go_roundg (n - (k + 1))
      case measure => have := HK.out; omega
      case rel => exact ⟨k + 1, by go_num, by have := HK.out; omega, grown_draws HG.out _⟩
    · have HG := Lib.hid hg; have HK := Lib.hid hk
      clear hg hk
      go_wp2
      go_ret
      exact ⟨rfl, HG.out⟩

end Go.Proofs.YtbgffmiffmmohaaGreatDoor.ints

