/-
  The model's draws for escaping: a context and a text of at most twenty bytes.
  Conditions: the bytes of the draw are at most 1048576.
-/
import Derived.Test.YtofdnpbmanonpaaDoorDrawOne
import Derived.Test.YtofdnpbmanonpaaDoorMem
namespace Go.Proofs.YtofdnpbmanonpaaDoor.draw
open Go.ChangeShapes Go.WideShapes Go.ChangeAt Go.RowKit
set_option linter.unusedVariables false

theorem code_rd {w : World} {A : Option Addr} {n : Nat} {l : List Int} (h : mem.Rd w A n l) : Code w w.heap.size A n := fun hn => by
  obtain ⟨a, e, hlt⟩ := h.lt hn
  refine ⟨a, e, hlt, fun j hj => ?_⟩
  obtain ⟨a', v, e', hv, v0, v1, hc⟩ := h.at_ hj
  rw [e] at e'
  obtain rfl := Option.some.inj e'
  exact ⟨v, v0, v1, hc⟩

theorem strs_laid (m : Nat) (w : World) (t : TypeId) (zs : List ByteArray) (h : ∀ z ∈ zs, z.size ≤ m) (N : Nat) (hN : N < w.heap.size) :
    Strs m (w.alloc (.cells (zs.map Value.string).toArray t)) N w.heap.size zs.length := by
  refine ⟨by omega, by simp, fun j hj => ?_⟩
  refine ⟨zs[j], h zs[j] (List.getElem_mem _), ?_⟩
  rw [World.cell?_alloc_new]
  simp [hj]

def pieces : List ByteArray := [⟨#[97]⟩, ⟨#[60, 98, 62]⟩, ⟨#[38]⟩, ⟨#[34]⟩, ⟨#[39]⟩, ⟨#[92]⟩, ⟨#[10]⟩, ⟨#[32]⟩, ⟨#[37]⟩, ⟨#[43]⟩, ⟨#[38, 97, 109, 112, 59]⟩, ⟨#[38, 35, 51, 57, 59]⟩, ⟨#[37, 52, 49]⟩, ⟨#[37, 52]⟩, ⟨#[92, 120, 51, 67]⟩, ⟨#[92, 120]⟩, ⟨#[126, 122]⟩, ⟨#[255]⟩, ⟨#[81, 57]⟩, ⟨#[38, 108, 116]⟩]
theorem pieces_le : ∀ z ∈ pieces, z.size ≤ 5 := by decide

theorem text4 (N : Nat) (w : World) (hC : Cur w N) :
    Calls Tryd.prog 29 #[.pointer (some ⟨N, 0, none⟩)] w (StrQ 20 N w) := by
  have HC := Lib.hid hC; clear hC
  go_enter Tryd.func29, Tryd.ntmps29
  go_wp2_with (fail)
  refine (below N 5 (by omega) _ HC.out).mono ?_
  rintro e w1 ⟨x, rfl, x0, x1, hC1, hg1⟩
  have HC1 := Lib.hid hC1; have HG1 := Lib.hid hg1; clear hC1 hg1
  go_wp2
  go_loopw [3, 4] (fun v k wr => ∃ (o : ByteArray) (z : Int), v = .string o ∧ k = .int .i64 z ∧ 0 ≤ z ∧ z ≤ 4 ∧ o.size ≤ 20 ∧ Hid ((o.size : Int) + 5 * z ≤ 20) ∧ Hid (Cur wr N) ∧ Hid (w.grownBy wr (some N))) (fun _ k _ => (intOf k).toNat)
  case atStart => exact ⟨⟨#[]⟩, x, rfl, rfl, x0, by omega, by decide, by show (0 : Int) + 5 * x ≤ 20; omega, HC1.out, HG1.out⟩
  case round =>
    obtain ⟨o, z, rfl, rfl, z0, z4, ho, HZ, HCr, HGr⟩ := hrel
    by_cases hz : 0 < z
    · have HI := Lib.hid (strs_laid 5 wr 9 pieces pieces_le N HCr.out.lt)
      have hsz := HGr.out.size
      go_wp2_with (fail)
      refine (pickStr 5 N wr.heap.size 20 20 (by omega) (by omega) _ (HCr.out.new _) HI.out).mono ?_
      rintro e w3 ⟨s, rfl, hs5, hC3, hg3⟩
      have HC3 := Lib.hid hC3; have HG3 := Lib.hid (only_trans (only_new HGr.out _) hg3); clear hC3 hg3
      have hsum : (o ++ s).size = o.size + s.size := ByteArray.size_append
      have HSum := Lib.hid hsum; clear hsum
      go_wp2
      go_roundw
      case measure => simp only [RowKit.intOf]; omega
      case rel => exact ⟨o ++ s, z - 1, rfl, rfl, by omega, by omega, by have := HSum.out; have := HZ.out; omega, by show _ ≤ _; have := HSum.out; have := HZ.out; omega, HC3.out, HG3.out⟩
    · go_wp2
      go_ret
      exact ⟨o, rfl, ho, HCr.out, HGr.out⟩

/-- A text of at most m bytes. -/
def DrawText4 (m : Nat) (w : World) (e : Ending) (w' : World) : Prop := ∃ s : ByteArray, e = .returned (.string s) ∧ s.size ≤ m ∧ Below w.heap.size w w'
def DrawIn (m : Nat) (w : World) (e : Ending) (w' : World) : Prop := ∃ (k : Int) (s : ByteArray), e = .returned (.tuple #[.int .i64 k, .string s]) ∧ -1 ≤ k ∧ k ≤ 4 ∧ s.size ≤ m ∧ Below w.heap.size w w'

theorem drawEscapeURL (A : Option Addr) (n c : Nat) (hn : n ≤ 1048576) (w : World) (hA : Code w w.heap.size A n) :
    Calls Tryd.prog 12 #[.slice A n c] w (DrawText4 20 w) := by
  have HA := Lib.hid hA; clear hA
  go_enter Tryd.func12, Tryd.ntmps12
  go_wp2_with (fail)
  refine (new A n c hn _ HA.out).mono ?_
  rintro e w1 ⟨N, rfl, hN, hC1, hb1⟩
  have hs1 := hb1.size
  have HC1 := Lib.hid hC1; have HB1 := Lib.hid hb1; clear hC1 hb1
  go_wp2_with (fail)
  refine (text4 N _ HC1.out).mono ?_
  rintro e w2 ⟨s, rfl, hs, hC2, hg2⟩
  have HB2 := Lib.hid (below_of HB1.out hg2 hN hs1); clear hC2 hg2
  go_wp2
  go_ret
  exact ⟨s, rfl, hs, HB2.out⟩

theorem drawEscapeIn (A : Option Addr) (n c : Nat) (hn : n ≤ 1048576) (w : World) (hA : Code w w.heap.size A n) :
    Calls Tryd.prog 11 #[.slice A n c] w (DrawIn 20 w) := by
  have HA := Lib.hid hA; clear hA
  go_enter Tryd.func11, Tryd.ntmps11
  go_wp2_with (fail)
  refine (new A n c hn _ HA.out).mono ?_
  rintro e w1 ⟨N, rfl, hN, hC1, hb1⟩
  have hs1 := hb1.size
  have HC1 := Lib.hid hC1; have HB1 := Lib.hid hb1; clear hC1 hb1
  go_wp2_with (fail)
  refine (below N 6 (by omega) _ HC1.out).mono ?_
  rintro e w2 ⟨x, rfl, x0, x1, hC2, hg2⟩
  have hs2 := hg2.size
  have HC2 := Lib.hid hC2; have HB2 := Lib.hid (below_of HB1.out hg2 hN hs1); clear hC2 hg2
  go_wp2_with (fail)
  refine (text4 N _ HC2.out).mono ?_
  rintro e w3 ⟨s, rfl, hs, hC3, hg3⟩
  have HB3 := Lib.hid (below_of HB2.out hg3 hN (by omega)); clear hC3 hg3
  go_wp2
  go_ret2
  exact ⟨x - 1, s, rfl, by omega, by omega, hs, HB3.out⟩

end Go.Proofs.YtofdnpbmanonpaaDoor.draw
