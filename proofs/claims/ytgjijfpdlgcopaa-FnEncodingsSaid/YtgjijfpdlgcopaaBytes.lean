/-
  What the law's helpers on slices of bytes return: a copy, the test of two, the marks, the test of the marks.
  Conditions: the slices have at most 2^46 bytes; what is marked is the call's own.
-/
import Derived.Test.YtgjijfpdlgcopaaMem
import Derived.WalkKit
import Derived.ProofKit
import Derived.IntWalk
import Derived.BigQuiet
import Derived.Deep.QuietTactic
import Derived.WalkLawsBesides
import Derived.Deep.LoopGhost
import Derived.Laws.BitsLemmas
namespace Go.Proofs.Ytgjijfpdlgcopaa.byt
open Go.ChangeShapes Go.WideShapes Go.ChangeAt Go.RowKit mem
set_option linter.unusedVariables false

/-- A new slice of bytes that reads as l. -/
def MadeQ (w : World) (l : List Int) (e : Ending) (w' : World) : Prop := ∃ A n c, e = .returned (.slice A n c) ∧ Own w' w.heap.size A n c l ∧ w.grownBy w' none

theorem toBytes (A : Option Addr) (n c : Nat) (l : List Int) (hn : n ≤ 70368744177664) (w : World) (hA : Rd w A n l) :
    Calls Try.prog 21 #[.slice A n c] w (MadeQ w l) := by
  have hl := hA.len
  obtain ⟨i0, hi, hz0, hz1, hz2⟩ := info_parts u8row
  have HA := Lib.hid hA; have HL := Lib.hid hl; have HZ := Lib.hid hz2; clear hA hl hz2
  go_enter Try.func21, Try.ntmps21
  go_wp2_with (at_make; refine wpList_make_full _ rfl _ _ 22 rfl w.heap.size 5 i0 (.int .u8 0) 1 Try.underlying22 hi hz0 hz1 _ _ _ _ n rfl rfl rfl rfl (by have := HZ.out; rw [this]; omega) (by unfold maxLen; omega) (Nat.le_refl _) ?_)
  intro w1 hown hg
  have ho : Own w1 w.heap.size (some ⟨w.heap.size, 0, none⟩) n n (List.replicate n 0) := ⟨List.length_replicate, fun v hv => by rw [List.eq_of_mem_replicate hv]; omega, by rw [cs_zero, ← toList_madeCells_one, ← Nat.mul_one n]; simpa using hown⟩
  have HO := Lib.hid ho; have HG := Lib.hid hg; clear ho hown hg
  go_wp2
  go_loopg [4] n (fun gk i wr => ∃ (k : Nat) (m : List Int), i = .int .i64 k ∧ gk + k = n ∧ Own wr w.heap.size (some ⟨w.heap.size, 0, none⟩) n n m ∧ Filled l m k ∧ w.grownBy wr none)
  case atStart => exact ⟨0, _, rfl, by omega, HO.out, Filled.start _ _ (by rw [List.length_replicate]; exact HL.out.symm), HG.out⟩
  case round =>
    obtain ⟨k, m, rfl, hk, ho, hf, hg⟩ := hrel
    have hr := HA.out.grown hg (Off.none_ _ _)
    by_cases hlt : k < n
    · obtain ⟨a, v, rfl, hv, v0, v1, hc⟩ := hr.at_ hlt
      obtain ⟨⟨u, hcu⟩, hfu⟩ := ho.cellk hlt
      obtain ⟨ho1, hg1⟩ := ho.set k v0 v1
      have hf1 := hf.step hv
      have hgg : w.grownBy (wr.setCell ⟨w.heap.size, k, none⟩ (.int .u8 v)) none := ⟨hg1.os.trans hg.os, hg1.tape.trans hg.tape, hg1.output.trans hg.output, Nat.le_trans hg.size hg1.size, fun j hj hne => (hg1.block j (Nat.lt_of_lt_of_le hj hg.size) (by intro e; injection e with e; omega)).trans (hg.block j hj hne)⟩
      have H1 := Lib.hid ho1; have H2 := Lib.hid hf1; have H3 := Lib.hid hgg; have HK := Lib.hid hk
      clear ho hr hg hf ho1 hg1 hf1 hgg hv hk
      go_wp2
      go_roundg (n - (k + 1))
      case measure => have := HK.out; omega
      case rel => exact ⟨k + 1, _, by go_num, by have := HK.out; omega, H1.out, H2.out, H3.out⟩
    · have hm : m = l := hf.all (by have := HL.out; omega)
      subst hm
      have H1 := Lib.hid ho; have H3 := Lib.hid hg; have HK := Lib.hid hk
      clear ho hr hg hf hk
      go_wp2
      go_ret
      exact ⟨_, _, _, rfl, H1.out, H3.out⟩

/-- A call that answers b and only makes memory. -/
def BoolQ (w : World) (b : Bool) (e : Ending) (w' : World) : Prop := e = .returned (.bool b) ∧ w.grownBy w' none
def IntQ (w : World) (x : Int) (row : Option Nat) (e : Ending) (w' : World) : Prop := e = .returned (.int .i64 x) ∧ w.grownBy w' row

/-- Two slices that read alike. -/
theorem eqBytes (A B : Option Addr) (n c d : Nat) (l : List Int) (hn : n ≤ 70368744177664) (w : World) (hA : Rd w A n l) (hB : Rd w B n l) :
    Calls Try.prog 22 #[.slice A n c, .slice B n d] w (BoolQ w true) := by
  have HA := Lib.hid hA; have HB := Lib.hid hB; clear hA hB
  go_enter Try.func22, Try.ntmps22
  go_wp2
  go_loopg [5] n (fun gk i wr => ∃ (k : Nat), i = .int .i64 k ∧ gk + k = n ∧ w.grownBy wr none)
  case atStart => exact ⟨0, rfl, by omega, World.grownBy.refl _ _⟩
  case round =>
    obtain ⟨k, rfl, hk, hg⟩ := hrel
    by_cases hlt : k < n
    · obtain ⟨a, v, rfl, hv, v0, v1, hc⟩ := (HA.out.grown hg (Off.none_ _ _)).at_ hlt
      obtain ⟨b, v', rfl, hv', v0', v1', hc'⟩ := (HB.out.grown hg (Off.none_ _ _)).at_ hlt
      obtain rfl : v = v' := Option.some.inj (hv.symm.trans hv')
      have HG := Lib.hid hg; have HK := Lib.hid hk
      clear hg hk hv hv'
      go_wp2
      go_quiet (fail)
      go_wp2
      go_roundg (n - (k + 1))
      case measure => have := HK.out; omega
      case rel => exact ⟨k + 1, by go_num, by have := HK.out; omega, grown_draws HG.out _⟩
    · have HG := Lib.hid hg; have HK := Lib.hid hk
      clear hg hk
      go_wp2
      go_ret
      exact ⟨rfl, HG.out⟩

theorem u8wrap (x : Int) : IntKind.u8.wrap x = x % 256 := IntKind.wrap_u8 x

theorem markBytes (lo : Nat) (A : Option Addr) (n c : Nat) (l : List Int) (k0 : Int) (hn : n ≤ 70368744177664) (h0 : 0 ≤ k0) (h1 : k0 ≤ 1000000) (w : World) (hA : Own w lo A n c l) :
    Calls Try.prog 23 #[.slice A n c, .int .i64 k0] w (fun e w' => IntQ w (k0 + n) (Value.slice A n c).ownBlock e w' ∧ Own w' lo A n c (marks k0 n)) := by
  have hl := hA.len
  have HA := Lib.hid hA; have HL := Lib.hid hl; clear hA hl
  go_enter Try.func23, Try.ntmps23
  go_wp2
  go_loopg [1, 5] n (fun gk x i wr => ∃ (k : Nat) (m : List Int), i = .int .i64 k ∧ x = .int .i64 (k0 + k) ∧ gk + k = n ∧ Own wr lo A n c m ∧ Filled (marks k0 n) m k ∧ w.grownBy wr (Value.slice A n c).ownBlock)
  case atStart => exact ⟨0, l, rfl, by go_num, by omega, HA.out, Filled.start _ _ (by rw [marks_len]; exact HL.out), World.grownBy.refl _ _⟩
  case round =>
    obtain ⟨k, m, rfl, rfl, hk, ho, hf, hg⟩ := hrel
    by_cases hlt : k < n
    · obtain ⟨g, rfl, _, _, hob⟩ := ho.head (by omega)
      obtain ⟨⟨u, hcu⟩, hfu⟩ := ho.cellk hlt
      obtain ⟨ho1, hg1⟩ := ho.set k (v := (k0 + k) % 256) (by omega) (by omega)
      have hf1 := hf.step (marks_get n k0 k hlt)
      rw [hob] at hg
      have H1 := Lib.hid ho1; have H2 := Lib.hid hf1; have H3 := Lib.hid (grown_trans hg hg1); have HK := Lib.hid hk; have HB := Lib.hid hob
      clear ho hf hg ho1 hg1 hf1 hk hob
      go_wp2
      go_roundg (n - (k + 1))
      case measure => have := HK.out; omega
      case rel => exact ⟨k + 1, _, by go_num, by go_num, by have := HK.out; omega, H1.out, H2.out, by rw [HB.out]; exact H3.out⟩
    · have hm : m = marks k0 n := hf.all (by rw [marks_len]; omega)
      have hkn : k = n := by omega
      subst hm hkn
      have H1 := Lib.hid ho; have H3 := Lib.hid hg
      clear ho hf hg hk
      go_wp2
      go_ret
      exact ⟨⟨rfl, H3.out⟩, H1.out⟩

theorem heldBytes (A : Option Addr) (n c : Nat) (k0 : Int) (hn : n ≤ 70368744177664) (h0 : 0 ≤ k0) (h1 : k0 ≤ 1000000) (w : World) (hA : Rd w A n (marks k0 n)) :
    Calls Try.prog 24 #[.slice A n c, .int .i64 k0] w (IntQ w (k0 + n) none) := by
  have HA := Lib.hid hA; clear hA
  go_enter Try.func24, Try.ntmps24
  go_wp2
  go_loopg [1, 5] n (fun gk x i wr => ∃ (k : Nat), i = .int .i64 k ∧ x = .int .i64 (k0 + k) ∧ gk + k = n ∧ w.grownBy wr none)
  case atStart => exact ⟨0, rfl, by go_num, by omega, World.grownBy.refl _ _⟩
  case round =>
    obtain ⟨k, rfl, rfl, hk, hg⟩ := hrel
    by_cases hlt : k < n
    · obtain ⟨a, v, rfl, hv, v0, v1, hc⟩ := (HA.out.grown hg (Off.none_ _ _)).at_ hlt
      rw [marks_get n k0 k hlt] at hv
      obtain rfl := Option.some.inj hv
      have HG := Lib.hid hg; have HK := Lib.hid hk
      clear hg hk hv
      go_wp2
      go_roundg (n - (k + 1))
      case measure => have := HK.out; omega
      case rel => exact ⟨k + 1, by go_num, by go_num, by have := HK.out; omega, HG.out⟩
    · have hkn : k = n := by omega
      subst hkn
      have HG := Lib.hid hg
      clear hg hk
      go_wp2
      go_ret
      exact ⟨rfl, HG.out⟩

end Go.Proofs.Ytgjijfpdlgcopaa.byt
