/-
  What the library's ParseUint returns at two bytes, base 16 and 8 bits, and what the project's reading of two digits returns.
  Conditions: the text has at most 2^40 bytes; the library's variable for a wrong form holds an error.
-/
import Derived.Test.YtofdnpbmanonpaaDoorHexLib
import Derived.Lib.ConvBytes
import Derived.Lib.AtoiErrMem
namespace Go.Proofs.YtofdnpbmanonpaaDoor.seq
open Go.ChangeShapes Go.WideShapes Go.ChangeAt Go.RowKit
set_option linter.unusedVariables false

def PubE (o : Option Nat) (e : Ending) : Prop :=
  (o = none ∧ ∃ N : Nat, e = .returned (.tuple #[.int .u64 0, .iface 82 (.pointer (some ⟨N, 0, none⟩))])) ∨ (∃ n : Nat, o = some n ∧ n ≤ 255 ∧ e = .returned (.tuple #[.int .u64 n, .nilIface]))
set_option maxRecDepth 100000 in
theorem pubHex (a b : UInt8) (w : World) (hE : ents.Err w) :
    Calls Tryd.prog 64 #[.string ⟨#[a, b]⟩, .int .i64 16, .int .i64 8] w fun e w' => PubE (sofar a b 2) e ∧ Below w.heap.size w w' := by
  have HE := Lib.hid hE; clear hE
  obtain ⟨s, hs⟩ : ∃ s : ByteArray, s = ⟨#[a, b]⟩ := ⟨_, rfl⟩
  have hsz : s.size = 2 := by rw [hs]; rfl
  have HS := Lib.hid hs
  rw [← hs]; clear hs
  go_enter Tryd.func64, Tryd.ntmps64
  go_wp2_with (fail)
  rw [HS.out]
  refine (libHex a b _).mono ?_
  rintro e w1 ⟨he, hb⟩
  have HB := Lib.hid hb; clear hb
  rcases he with ⟨hn, rfl⟩ | ⟨n, hn, hn255, rfl⟩
  · have HN := Lib.hid hn; clear hn
    obtain ⟨tp, p, hv⟩ := ents.staysErr _ _ HE.out HB.out
    have hcell : w1.cell? ⟨1, 0, none⟩ = some (.iface tp p) := by have h0 := World.var?_cell ents.gES hv 0; simpa using h0
    have HC := Lib.hid hcell; clear hcell hv
    go_wp2_with (fail)
    refine (Tryd.strconv_toError_syntax ⟨#[80, 97, 114, 115, 101, 85, 105, 110, 116]⟩ ⟨#[a, b]⟩ 16 8 (.iface tp p) _ (by show 2 ≤ _; omega) HC.out (Or.inr ⟨tp, p, rfl⟩)).mono ?_
    rintro e w2 ⟨N, rfl, _, _, hb⟩
    have HB2 := Lib.hid (HB.out.trans (hb.mono HB.out.size)); clear hb
    go_wp2
    go_ret2
    exact ⟨.inl ⟨HN.out, N, rfl⟩, HB2.out⟩
  · have HN := Lib.hid hn; clear hn
    go_wp2
    go_ret2
    exact ⟨.inr ⟨n, HN.out, hn255, rfl⟩, HB.out⟩

/-- Two digits at the front of a text. -/
def PairE (o : Option UInt8) (e : Ending) : Prop :=
  (o = none ∧ ∃ x : Int, e = .returned (.tuple #[.int .u8 x, .bool false])) ∨ (∃ c : UInt8, o = some c ∧ e = .returned (.tuple #[.int .u8 c.toNat, .bool true]))
set_option maxRecDepth 100000 in
theorem implHexPair (s : ByteArray) (hs : s.size ≤ 1099511627776) (w : World) (hE : ents.Err w) :
    Calls Tryd.prog 52 #[.string s] w fun e w' => PairE (esc.two true s.data.toList) e ∧ Below w.heap.size w w' := by
  have HE := Lib.hid hE; clear hE
  have hlen := len_eq s
  match hL : s.data.toList with
  | [] =>
    have h2 : s.size < 2 := by rw [hL] at hlen; simp at hlen; omega
    clear hlen
    go_enter Tryd.func52, Tryd.ntmps52
    go_wp2
    go_ret2
    exact ⟨.inl ⟨rfl, _, rfl⟩, Below.refl _ _⟩
  | [a] =>
    have h2 : s.size < 2 := by rw [hL] at hlen; simp at hlen; omega
    clear hlen
    go_enter Tryd.func52, Tryd.ntmps52
    go_wp2
    go_ret2
    exact ⟨.inl ⟨rfl, _, rfl⟩, Below.refl _ _⟩
  | a :: b :: r =>
    have h2 : 2 ≤ s.size := by rw [hL] at hlen; simp at hlen; omega
    have hx : s.extract 0 2 = ⟨#[a, b]⟩ := by rw [Lib.extract_eq, hL]; rfl
    have HX := Lib.hid hx
    have HT := Lib.hid (two_sofar a b r)
    clear hlen hL hx
    go_enter Tryd.func52, Tryd.ntmps52
    go_wp2_with (fail)
    rw [HX.out]
    refine (pubHex a b _ HE.out).mono ?_
    rintro e w1 ⟨he, hb⟩
    have HB := Lib.hid hb; clear hb
    rcases he with ⟨hn, N, rfl⟩ | ⟨n, hn, hn255, rfl⟩
    · have HN := Lib.hid hn; clear hn
      go_wp2
      go_region
      go_wp2
      go_ret2
      exact ⟨.inl ⟨by rw [HT.out, HN.out]; rfl, _, rfl⟩, HB.out.drew⟩
    · have HN := Lib.hid hn; clear hn
      go_wp2
      go_region
      go_wp2
      go_ret2
      refine ⟨.inr ⟨UInt8.ofNat n, by rw [HT.out, HN.out]; rfl, ?_⟩, HB.out.drew⟩
      rw [UInt8.toNat_ofNat', Nat.mod_eq_of_lt (by omega)]
      rfl

end Go.Proofs.YtofdnpbmanonpaaDoor.seq
