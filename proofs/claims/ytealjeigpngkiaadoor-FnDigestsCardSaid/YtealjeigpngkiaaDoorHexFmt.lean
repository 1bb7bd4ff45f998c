/-
  What the library's FormatInt returns at base 16: the hexadecimal numeral.
  Conditions: the number is below 2^31 and not negative; the library's table for the count of trailing zeros holds what its text lays.
-/
import Derived.Test.YtealjeigpngkiaaDoorRows
import Derived.Test.YtealjeigpngkiaaDoorHexa
import Derived.Test.YtealjeigpngkiaaDoorMemI
import Derived.WalkKit
import Derived.ProofKit
import Derived.IntWalk
import Derived.Lib.Hide
import Derived.Lib.SmallJoins
import Derived.Lib.LaidTab
import Derived.Lib.TrailingZeros
import Derived.BigQuiet
import Derived.Deep.QuietTactic
import Derived.WalkLawsBesides
import Derived.Deep.LoopGhost
namespace Go.Proofs.YtealjeigpngkiaaDoor.hfm
open Go.ChangeShapes Go.WideShapes Go.ChangeAt Go.RowKit mem
set_option linter.unusedVariables false

def tab : List Int := Lib.deBruijn64tab.map fun n : Nat => (n : Int)
def Tab (w : World) : Prop := Lib.TabIs Tryd.prog w "math/bits.deBruijn64tab" .u8 tab
theorem gTab : Tryd.prog.globalNamed "math/bits.deBruijn64tab" = some 3 := by kernel_rfl
theorem Tab.stays {w w' : World} (h : Tab w) (hb : Below w.heap.size w w') : Tab w' := Joins.tab_stays gTab h hb (Nat.le_refl _)
theorem Tab.cell {w : World} (h : Tab w) : w.cell? ⟨3, 15, none⟩ = some (.int .u8 4) := Lib.TabIs.cell h gTab 15 (by decide)

theorem n16 : bits .and .u64 16 18446744073709551600 = 16 := by decide
theorem a16 : bits .and .i64 16 15 = 0 := by decide
theorem w16 : IntKind.u64.wrap (-16) = 18446744073709551600 := by decide
theorem k16 : IntKind.u64.wrap (16 * 285870213051353865) = 4573923408821661840 := by decide

theorem tz64 (w : World) (hT : Tab w) : Calls Tryd.prog 54 #[.int .u64 16] w fun e w' => e = .returned (.int .i64 4) ∧ w = w' := by
  have hc := hT.cell
  have e1 := n16; have e2 := w16; have e3 := k16
  clear hT
  go_enter Tryd.func54, Tryd.ntmps54
  go_wp2
  go_ret
  exact ⟨rfl, rfl⟩

theorem tz (w : World) (hT : Tab w) : Calls Tryd.prog 50 #[.int .u64 16] w fun e w' => e = .returned (.int .i64 4) ∧ w = w' := by
  have HT := Lib.hid hT; clear hT
  go_enter Tryd.func50, Tryd.ntmps50
  go_wp2_with (go_at_call 54; refine (tz64 _ HT.out).mono ?_; rintro e w' ⟨rfl, rfl⟩)
  go_ret
  exact ⟨rfl, rfl⟩

theorem pow2 (w : World) : Calls Tryd.prog 49 #[.int .i64 16] w fun e w' => e = .returned (.bool true) ∧ w = w' := by
  have e1 := a16
  go_enter Tryd.func49, Tryd.ntmps49
  go_wp2
  go_ret
  exact ⟨rfl, rfl⟩

/-- The library's row of 65 bytes, written from i on. -/
def Blk (w : World) (g i : Nat) (l : List UInt8) : Prop :=
  ∃ C : Array Value, w.heap[g]? = some (.cells C 75 (0, 0)) ∧ C.size = 65 ∧ i + l.length = 65 ∧ (∀ j : Nat, j < 65 → ∃ x : Int, C[j]? = some (.int .u8 x)) ∧ ∀ j b, l[j]? = some b → C[i + j]? = some (.int .u8 b.toNat)
theorem Blk.push {w : World} {g i : Nat} {l : List UInt8} (h : Blk w g (i + 1) l) (b : UInt8) : Blk (w.setCell ⟨g, i, none⟩ (.int .u8 b.toNat)) g i (b :: l) := by
  obtain ⟨C, h1, h2, h3, h4, h5⟩ := h
  refine ⟨_, Joins.block_setCell h1 _, by simpa using h2, by rw [List.length_cons]; omega, fun j hj => ?_, fun j x hx => ?_⟩
  · by_cases e : i = j
    · subst e
      exact ⟨_, by rw [Array.getElem?_setIfInBounds_self_of_lt (by omega)]⟩
    · rw [Array.getElem?_setIfInBounds_ne e]
      exact h4 j hj
  · cases j with
    | zero =>
      have : b = x := by simpa using hx
      subst this
      rw [Nat.add_zero, Array.getElem?_setIfInBounds_self_of_lt (by omega)]
    | succ j =>
      rw [Array.getElem?_setIfInBounds_ne (by omega), show i + (j + 1) = i + 1 + j by omega]
      exact h5 j x (by simpa using hx)
theorem Blk.put {w : World} {g i : Nat} {l : List UInt8} (h : Blk w g (i + 1) l) (b : UInt8) (v : Int) (hv : v = b.toNat) : Blk (w.setCell ⟨g, i, none⟩ (.int .u8 v)) g i (b :: l) := hv ▸ h.push b
theorem Blk.cell {w : World} {g i : Nat} {l : List UInt8} (h : Blk w g i l) (j : Nat) (hj : j < 65) : ∃ x : Int, w.cell? ⟨g, j, none⟩ = some (.int .u8 x) := by
  obtain ⟨C, h1, _, _, h4, _⟩ := h
  obtain ⟨x, hx⟩ := h4 j hj
  exact ⟨x, (Joins.cell_of_block h1 j).trans hx⟩
theorem Blk.free {w : World} {g i : Nat} {l : List UInt8} (h : Blk w g i l) (j : Nat) : w.frozen? ⟨g, j, none⟩ = false := by
  obtain ⟨C, h1, _⟩ := h
  exact Joins.unfrozen_of_block h1 j
theorem Blk.text {w : World} {g i : Nat} {l : List UInt8} (h : Blk w g i l) (m c : Nat) (hm : l.length = m) :
    (convert 22 9 (.slice (some ⟨g, i, none⟩) m c)).run Tryd.prog w = .ok (.string ⟨l.toArray⟩) w := by
  subst hm
  refine run_convert_bytes_back (P := Tryd.prog) w 22 9 5 ⟨g, i, none⟩ c l Tryd.underlying22 Tryd.underlying5 Tryd.underlying9 (fun j hj => ?_)
  obtain ⟨C, h1, _, _, _, h5⟩ := h
  rw [Addr.add_lit]
  exact (Joins.cell_of_block h1 _).trans (h5 j _ (List.getElem?_eq_getElem hj))

theorem zero65 : ∃ zs : Array Value, (∀ w, (zeroValue 75).run Tryd.prog w = .ok (.agg zs) w) ∧ zs ≠ #[] ∧ zs.size = 65 ∧ ∀ j : Nat, j < 65 → ∃ x : Int, zs[j]? = some (.int .u8 x) := by
  have h : (Tryd.prog.info? 75).map (fun i => i.zero) = some (some (.agg (Array.replicate 65 (.int .u8 0)))) := by kernel_rfl
  obtain ⟨i, hi, hz⟩ := Option.map_eq_some_iff.1 h
  refine ⟨Array.replicate 65 (.int .u8 0), fun w => ?_, fun e => ?_, by simp, fun j hj => ⟨0, by simp [hj]⟩⟩
  · simp [zeroValue, typeInfo, hi, hz]
  · have := congrArg Array.size e
    simp at this

theorem cut65 (g k : Nat) (hk : k ≤ 64) (W : World) : (Instr.sliceAt 75 (.pointer (some ⟨g, 0, none⟩)) (some (.int .i64 (k : Int))) none none).run Tryd.prog W = .ok (.slice (some ⟨g, k, none⟩) (65 - k) (65 - k)) W := by
  have hal : Tryd.prog.arrayLen 75 = 65 := by kernel_rfl
  have he : Tryd.prog.elem 75 = 5 := by kernel_rfl
  rw [run_sliceAt_array_l W 75 ⟨g, 0, none⟩ (by kernel_rfl) .i64 (k : Int) (by omega) (by rw [hal]; omega), he, hal]
  go_simp
  omega

/-- Nothing appended; the text. -/
def TextQ (w : World) (l : List UInt8) (e : Ending) (w' : World) : Prop := e = .returned (.tuple #[.slice none 0 0, .string ⟨l.toArray⟩]) ∧ Below w.heap.size w w'

set_option maxRecDepth 100000 in
set_option maxHeartbeats 4000000 in
theorem bits16 (n : Nat) (hn : n < 2147483648) (w : World) (hT : Tab w) :
    Calls Tryd.prog 39 #[.slice none 0 0, .int .u64 n, .int .i64 16, .bool false, .bool false] w (TextQ w (hexa.num n)) := by
  have HT := Lib.hid hT; clear hT
  obtain ⟨zs, hz0, hz1, hz2, hz3⟩ := zero65
  have HZ2 := Lib.hid hz2; have HZ3 := Lib.hid hz3; clear hz2 hz3
  go_enter Tryd.func39, Tryd.ntmps39
  go_wp2_with (first | (go_at_call 49; refine (pow2 _).mono ?_; rintro e w1 ⟨rfl, rfl⟩) | (go_at_call 50; refine (tz _ (HT.out.stays (Joins.below_alloc1 w _))).mono ?_; rintro e w2 ⟨rfl, rfl⟩))
  go_loopg [1, 13] 7 (fun gk x y wr => ∃ (f k u : Nat) (l : List UInt8), x = .int .u64 u ∧ y = .int .i64 ((k : Int) + 1) ∧ k = 57 + f ∧ gk = f ∧ u < 2147483648 ∧ Hid (hexa.Rest n f u l) ∧ Hid (Blk wr w.heap.size (k + 1) l) ∧ Hid (Below w.heap.size w wr))
  case atStart =>
    exact ⟨7, 64, n, [], rfl, rfl, rfl, rfl, hn, hexa.Rest.start n (by omega), ⟨_, imem.heap_new_at _ _, HZ2.out, rfl, HZ3.out, fun j b hb => by simp at hb⟩, Joins.below_alloc1 w _⟩
  case round =>
    obtain ⟨f, k, u, l, rfl, rfl, hk, rfl, hu, HR, HB, HL⟩ := hrel
    have hk64 : k ≤ 64 := by have := HR.out.2.2; omega
    obtain ⟨x0, hx0⟩ := HB.out.cell k (by omega)
    have hf0 := HB.out.free k
    by_cases h16 : 16 ≤ u
    · obtain ⟨g, rfl⟩ := HR.out.more h16
      obtain ⟨d, hd⟩ : ∃ d, u % 16 = d := ⟨_, rfl⟩
      have hand := hexa.and15 u (by omega)
      rw [hd] at hand
      have hd16 : d < 16 := by omega
      have HD := Lib.hid hd; have HK := Lib.hid hk; clear hd hk
      go_wp2
      go_roundg g
      case measure => omega
      case rel =>
        exact ⟨g, 57 + g, u / 16, hexa.dg d :: l, by rw [show ((u / 16 : Nat) : Int) = (u : Int) / 16 by omega], by rw [show (k : Int) = ((57 + g : Nat) : Int) + 1 by have := HK.out; omega], rfl, rfl, by omega, by rw [← HD.out]; exact HR.out.step h16,
          by rw [show 57 + g + 1 = k by have := HK.out; omega]; exact HB.out.put _ _ (congrArg (fun x : UInt8 => (x.toNat : Int)) (hexa.digit_at d hd16 _)), HL.out.setCell (Nat.le_refl _) _⟩
    · have hu16 : u < 16 := by omega
      have hdg := fun h => hexa.digit_at u hu16 h
      have hnum := HR.out.last hu16
      have hb1 := HB.out.push (hexa.dg u)
      have hm : 65 - k = (hexa.dg u :: l).length := by have := hb1.choose_spec.2.2.1; omega
      have hcv := hb1.text (65 - k) (65 - k) hm.symm
      have hsl := cut65 w.heap.size k hk64
      rw [hnum] at hcv
      dsimp only [hexa.digits] at hdg
      have HK := Lib.hid hk; have HN := Lib.hid hnum; have HM := Lib.hid hm; clear hk hnum hb1 hm
      go_wp2
      go_ret2
      exact ⟨rfl, HL.out.setCell (Nat.le_refl _) _⟩

/-- A call that returns a text and only makes memory. -/
def StrQ (w : World) (l : List UInt8) (e : Ending) (w' : World) : Prop := e = .returned (.string ⟨l.toArray⟩) ∧ Below w.heap.size w w'

theorem inner16 (n : Nat) (hn : n < 2147483648) (w : World) (hT : Tab w) :
    Calls Tryd.prog 27 #[.int .i64 n, .int .i64 16] w (StrQ w (hexa.num n)) := by
  have HT := Lib.hid hT; clear hT
  have h0 : ¬ (n : Int) < 0 := by omega
  go_enter Tryd.func27, Tryd.ntmps27
  go_wp2_with (go_at_call 39; refine (bits16 n hn _ HT.out).mono ?_; rintro e w' ⟨rfl, hb⟩)
  go_ret
  exact ⟨rfl, hb⟩

theorem outer16 (n : Nat) (hn : n < 2147483648) (w : World) (hT : Tab w) :
    Calls Tryd.prog 21 #[.int .i64 n, .int .i64 16] w (StrQ w (hexa.num n)) := by
  have HT := Lib.hid hT; clear hT
  go_enter Tryd.func21, Tryd.ntmps21
  go_wp2_with (go_at_call 27; refine (inner16 n hn _ HT.out).mono ?_; rintro e w' ⟨rfl, hb⟩)
  go_ret
  exact ⟨rfl, hb⟩

end Go.Proofs.YtealjeigpngkiaaDoor.hfm
