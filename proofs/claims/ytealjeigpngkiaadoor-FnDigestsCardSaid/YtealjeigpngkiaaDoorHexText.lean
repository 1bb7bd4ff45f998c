/-
  What HexText of the project and of the model return: eight hexadecimal digits, or nothing.
  Conditions: the argument is of Go's type int; the library's table for the count of trailing zeros holds what its text lays.
-/
import Derived.Test.YtealjeigpngkiaaDoorHexFmt
import Derived.Test.YtealjeigpngkiaaDoorMod
import Derived.Test.YtealjeigpngkiaaDoorShelf
namespace Go.Proofs.YtealjeigpngkiaaDoor.hfm
open Go.ChangeShapes Go.WideShapes Go.ChangeAt Go.RowKit mem
set_option linter.unusedVariables false

/-- The text of a number. -/
def hx (n : Int) : List UInt8 := if 0 ≤ n ∧ n ≤ 2147483647 then hexa.low 8 n.toNat else []
theorem hx_in {n : Int} (h0 : 0 ≤ n) (h1 : n ≤ 2147483647) : hx n = hexa.low 8 n.toNat := if_pos ⟨h0, h1⟩
theorem hx_out {n : Int} (h : ¬ (0 ≤ n ∧ n ≤ 2147483647)) : hx n = [] := if_neg h
theorem hx_len {n : Int} (h0 : 0 ≤ n) (h1 : n ≤ 2147483647) : (hx n).length = 8 := by rw [hx_in h0 h1, hexa.low_len]

theorem app_text (a b : List UInt8) : (⟨a.toArray⟩ : ByteArray) ++ ⟨b.toArray⟩ = ⟨(a ++ b).toArray⟩ := by
  apply ByteArray.ext
  apply Array.toList_inj.1
  rw [Joins.data_append]
theorem size_text (l : List UInt8) : (⟨l.toArray⟩ : ByteArray).size = l.length := rfl

theorem implHex (n : Int) (w : World) (hT : Tab w) :
    Calls Tryd.prog 11 #[.int .i64 n] w (StrQ w (hx n)) := by
  have HT := Lib.hid hT; clear hT
  by_cases h : 0 ≤ n ∧ n ≤ 2147483647
  · obtain ⟨h0, h1⟩ := h
    have HX := Lib.hid (hx_in h0 h1)
    have HI := Lib.hid (mdl.inr_of h0 h1)
    obtain ⟨m, rfl⟩ := Int.eq_ofNat_of_zero_le h0
    have hm : m < 2147483648 := by omega
    have hl := hexa.num_len m
    have HP := Lib.hid (hexa.pad8 m (by omega))
    obtain ⟨q, hq⟩ : ∃ q : Nat, 8 - (hexa.num m).length = q := ⟨_, rfl⟩
    have hq1 : q ≤ 7 := by omega
    obtain ⟨s, hs⟩ : ∃ s : ByteArray, s = ⟨(hexa.num m).toArray⟩ := ⟨_, rfl⟩
    have hsz : (8 : Int) - (s.size : Int) = (q : Int) := by rw [hs, size_text]; omega
    have hs8 : s.size ≤ 8 := by rw [hs, size_text]; omega
    obtain ⟨r, hr⟩ : ∃ r : ByteArray, r = ⟨(Lib.repeatL [48] q).toArray⟩ := ⟨_, rfl⟩
    have hr8 : r.size ≤ 8 := by rw [hr, size_text, hexa.rep_one, List.length_replicate]; omega
    have HR := Lib.hid hr; clear hr
    have HS := Lib.hid hs; have HQ := Lib.hid hq; have HZ := Lib.hid hsz; clear hs hq hsz hl
    go_enter Tryd.func11, Tryd.ntmps11
    go_wp2_with (go_at_call 19; refine (mdl.implInRange _ _ _ _).mono ?_; rintro e w1 ⟨rfl, rfl⟩; rw [HI.out])
    refine (outer16 m hm _ HT.out).mono ?_
    rintro e w2 ⟨rfl, hb⟩
    rw [← HS.out]
    have HB := Lib.hid hb; clear hb
    go_wp2_with (fail)
    rw [HZ.out]
    refine (Tryd.strings_Repeat ⟨#[48]⟩ q _ (by omega) (by show 1 * q ≤ _; omega)).mono ?_
    rintro e w3 ⟨he, hb2⟩
    obtain rfl : e = .returned (.string r) := he.trans (by rw [HR.out])
    clear he
    have HB2 := Lib.hid (HB.out.trans (hb2.mono HB.out.size)); clear hb2
    go_wp2
    go_ret
    refine ⟨?_, HB2.out⟩
    rw [HR.out, HS.out, app_text, HX.out]
    have hp := HP.out
    rw [HQ.out] at hp
    rw [hp]
    rfl
  · have HX := Lib.hid (hx_out h)
    have HI := Lib.hid (mdl.inr_not h)
    clear h
    go_enter Tryd.func11, Tryd.ntmps11
    go_wp2_with (go_at_call 19; refine (mdl.implInRange _ _ _ _).mono ?_; rintro e w1 ⟨rfl, rfl⟩; rw [HI.out])
    go_ret
    exact ⟨by rw [HX.out]; rfl, Below.refl _ _⟩

theorem bytes_cons (b : UInt8) (l : List UInt8) : (⟨#[b]⟩ : ByteArray) ++ ⟨l.toArray⟩ = ⟨(b :: l).toArray⟩ := app_text [b] l

theorem run_byte_string {P : Program} (src dst e : TypeId) (v : Int) (b : UInt8) (hb : v = (b.toNat : Int)) (hs : P.underlying src = some (.slice e)) (he : P.underlying e = some (.int .u8)) (hd : P.underlying dst = some .string) (w : World) :
    (convert src dst (.slice (some ⟨w.heap.size, 0, none⟩) 1 1)).run P (w.alloc (.cells #[.int .u8 v] e)) = .ok (.string ⟨#[b]⟩) (w.alloc (.cells #[.int .u8 v] e)) :=
  run_convert_bytes_back (P := P) _ src dst e ⟨w.heap.size, 0, none⟩ 1 [b] hs he hd (fun j hj => by
    obtain rfl : j = 0 := by simp at hj; omega
    simp only [List.getElem_cons_zero, ← hb]
    exact World.cell?_alloc_new _ _ _ 0)

theorem dg_toNat (d : Nat) (h : d < 16) : (d < 10 → ((hexa.dg d).toNat : Int) = 48 + d) ∧ (10 ≤ d → ((hexa.dg d).toNat : Int) = 87 + d) := by
  constructor
  · intro h1
    rw [← hexa.dg_small d h1, UInt8.toNat_ofNat']
    omega
  · intro h1
    rw [← hexa.dg_great d h1, UInt8.toNat_ofNat']
    omega

theorem and15i (n : Int) : bits .and .i64 n 15 = n % 16 := by
  have h15 : (BitVec.ofInt 64 15).toNat = 2 ^ 4 - 1 := by decide
  have key : (BitVec.ofInt 64 n &&& BitVec.ofInt 64 15).toNat = (n % ((2 ^ 64 : Nat) : Int)).toNat % 2 ^ 4 := by
    rw [BitVec.toNat_and, BitVec.toNat_ofInt, h15, Nat.and_two_pow_sub_one_eq_mod]
  show IntKind.i64.wrap ((BitVec.ofInt 64 n &&& BitVec.ofInt 64 15).toNat : Nat) = n % 16
  rw [key, IntKind.wrap_i64]
  omega
theorem digit_of (m k d : Nat) (y : Int) (hy : y = ((4 * k : Nat) : Int)) (hd : m / 16 ^ k % 16 = d) : bits .and .i64 ((m : Int) / 2 ^ y.toNat) 15 = (d : Int) := by
  have e : (2 : Nat) ^ (4 * k) = 16 ^ k := by rw [Nat.pow_mul]
  have e2 : (2 : Int) ^ (4 * k) = ((16 ^ k : Nat) : Int) := by rw [← e, Int.natCast_pow]; rfl
  rw [and15i, ← hd, hy, Int.toNat_natCast, e2, Int.natCast_emod, Int.natCast_ediv]
  rfl

set_option maxHeartbeats 1000000 in
theorem specHex (n : Int) (w : World) :
    Calls Tryd.prog 13 #[.int .i64 n] w (StrQ w (hx n)) := by
  by_cases h : 0 ≤ n ∧ n ≤ 2147483647
  · obtain ⟨h0, h1⟩ := h
    have HX := Lib.hid (hx_in h0 h1)
    have HI := Lib.hid (mdl.inr_of h0 h1)
    obtain ⟨m, rfl⟩ := Int.eq_ofNat_of_zero_le h0
    have hm : m < 2147483648 := by omega
    go_enter Tryd.func13, Tryd.ntmps13
    go_wp2_with (go_at_call 24; refine (mdl.l1In _ _ _ _).mono ?_; rintro e w1 ⟨rfl, rfl⟩; rw [HI.out])
    go_loopg [3, 4, 5] 8 (fun gk s i v wr => ∃ (k : Nat) (x : Int) (l : List UInt8), i = .int .i64 x ∧ s = .string ⟨l.toArray⟩ ∧ 0 ≤ x ∧ x ≤ 8 ∧ gk + k = 8 ∧ Hid (x = (k : Int)) ∧ Hid (l = hexa.low k m) ∧ Hid (Below w.heap.size w wr))
    case atStart => exact ⟨0, 0, [], rfl, rfl, by omega, by omega, by omega, rfl, rfl, Below.refl _ _⟩
    case round =>
      obtain ⟨k, x, l, rfl, rfl, x0, x8, hk, HXK, HL, HB⟩ := hrel
      have HK := Lib.hid hk; clear hk
      have hl8 : l.length ≤ 8 := by rw [HL.out, hexa.low_len]; have := HK.out; omega
      by_cases hlt : x < 8
      · obtain ⟨d, hd⟩ : ∃ d, m / 16 ^ k % 16 = d := ⟨_, rfl⟩
        obtain ⟨y, hy⟩ : ∃ y, 4 * x = y := ⟨_, rfl⟩
        have y0 : 0 ≤ y := by omega
        have y1 : y ≤ 64 := by omega
        have hand := digit_of m k d y (by have := HXK.out; omega) hd
        have hd16 : d < 16 := by omega
        have hlow : hexa.dg d :: l = hexa.low (k + 1) m := by rw [hexa.low, hd, HL.out]
        have hdg := dg_toNat d hd16
        have HLO := Lib.hid hlow; clear hd hlow
        by_cases hd10 : d < 10
        · have hcv := run_byte_string (P := Tryd.prog) 22 9 5 (48 + (d : Int)) (hexa.dg d) (hdg.1 hd10).symm Tryd.underlying22 Tryd.underlying5 Tryd.underlying9
          clear hdg
          go_wp2
          go_roundg (8 - (k + 1))
          case measure => have := HK.out; have := HXK.out; omega
          case rel => exact ⟨k + 1, x + 1, hexa.dg d :: l, rfl, congrArg Value.string (bytes_cons _ _), by omega, by omega, by have := HK.out; have := HXK.out; omega, by show _ = _; have := HXK.out; omega, HLO.out, HB.out.alloc HB.out.size _⟩
        · have hcv := run_byte_string (P := Tryd.prog) 22 9 5 (97 + (d : Int) - 10) (hexa.dg d) (by have := hdg.2 (by omega); omega) Tryd.underlying22 Tryd.underlying5 Tryd.underlying9
          clear hdg
          go_wp2
          go_roundg (8 - (k + 1))
          case measure => have := HK.out; have := HXK.out; omega
          case rel => exact ⟨k + 1, x + 1, hexa.dg d :: l, rfl, congrArg Value.string (bytes_cons _ _), by omega, by omega, by have := HK.out; have := HXK.out; omega, by show _ = _; have := HXK.out; omega, HLO.out, HB.out.alloc HB.out.size _⟩
      · have HE : Hid (l = hexa.low 8 m) := by show _ = _; rw [HL.out, show k = 8 by have := HK.out; have := HXK.out; omega]
        go_wp2
        go_ret
        exact ⟨by rw [HX.out, HE.out]; rfl, HB.out⟩
  · have HX := Lib.hid (hx_out h)
    have HI := Lib.hid (mdl.inr_not h)
    clear h
    go_enter Tryd.func13, Tryd.ntmps13
    go_wp2_with (go_at_call 24; refine (mdl.l1In _ _ _ _).mono ?_; rintro e w1 ⟨rfl, rfl⟩; rw [HI.out])
    go_ret
    exact ⟨by rw [HX.out]; rfl, Below.refl _ _⟩

end Go.Proofs.YtealjeigpngkiaaDoor.hfm
