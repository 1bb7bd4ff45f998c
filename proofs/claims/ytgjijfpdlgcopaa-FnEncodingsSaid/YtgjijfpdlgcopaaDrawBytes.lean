/-
  The model's draws of bytes: a new slice of a bounded number of bytes; nothing that was there is changed but the cursor.
  Conditions: the bytes of the draw are at most 1048576.
-/
import Derived.Test.YtgjijfpdlgcopaaDrawOne
import Derived.Test.YtgjijfpdlgcopaaBytes
import Derived.Deep.RegionWith
namespace Go.Proofs.Ytgjijfpdlgcopaa.draw
open Go.ChangeShapes Go.WideShapes Go.ChangeAt Go.RowKit mem byt
set_option linter.unusedVariables false

theorem code_of_rd {w : World} {A : Option Addr} {n : Nat} {l : List Int} (h : Rd w A n l) : Code w w.heap.size A n := fun hn => by
  obtain ⟨a, e, hlt⟩ := h.lt hn
  refine ⟨a, e, hlt, fun j hj => ?_⟩
  obtain ⟨a', v, e', hv, v0, v1, hc⟩ := h.at_ hj
  rw [e] at e'
  obtain rfl := Option.some.inj e'
  exact ⟨v, v0, v1, hc⟩
theorem Cur.far {w w' : World} {N B : Nat} (h : Cur w N) (hb : Below B w w') (hN : N < B) : Cur w' N := by
  obtain ⟨A, n, c, i, x, hbk, hc, hn, i0, i1⟩ := h
  exact ⟨A, n, c, i, x, (hb.block N hN).trans hbk, hc.keep fun k hlt => hb.block k (by omega), hn, i0, i1⟩
theorem only_far {a w w' : World} {N : Nat} (h : a.grownBy w (some N)) (hb : Below a.heap.size w w') : a.grownBy w' (some N) :=
  ⟨hb.os.trans h.os, hb.tape.trans h.tape, hb.output.trans h.output, Nat.le_trans h.size hb.size, fun k hk hne => (hb.block k hk).trans (h.block k hk hne)⟩

/-- A new slice of at most m bytes. -/
def BytesQ (m : Nat) (N : Nat) (w : World) (e : Ending) (w' : World) : Prop :=
  ∃ A n c l, e = .returned (.slice A n c) ∧ n ≤ m ∧ Own w' w.heap.size A n c l ∧ Cur w' N ∧ w.grownBy w' (some N)

theorem bytesOf (N : Nat) (m : Nat) (hm : m ≤ 1000000) (x : Int) (hx : x ≤ m) (w : World) (hC : Cur w N) :
    Calls Try.prog 31 #[.pointer (some ⟨N, 0, none⟩), .int .i64 x] w (BytesQ m N w) := by
  obtain ⟨i0, hi, hz0, hz1, hz2⟩ := info_parts u8row
  have hN := hC.lt
  have HC := Lib.hid (hC.new (.cells #[] 5)); clear hC
  go_enter Try.func31, Try.ntmps31
  go_wp2
  go_loopg [5, 6] x.toNat (fun gk v i wr => ∃ (A : Option Addr) (n c k : Nat) (l : List Int), v = .slice A n c ∧ i = .int .i64 k ∧ gk = x.toNat - k ∧ n = k ∧ k ≤ m ∧ Own wr w.heap.size A n c l ∧ Cur wr N ∧ w.grownBy wr (some N))
  case atStart => exact ⟨_, 0, 0, 0, [], rfl, rfl, rfl, rfl, by omega, own_none w _ (Nat.le_refl _), HC.out, World.grownBy_alloc _ _ _⟩
  case round =>
    obtain ⟨A, n, c, k, l, rfl, rfl, hk, hnk, hkm, ho, hC1, hg⟩ := hrel
    subst hnk
    by_cases hlt : (n : Int) < x
    · have HO := Lib.hid ho; have HC1 := Lib.hid hC1; have HG := Lib.hid hg; have HK := Lib.hid hk; clear ho hC1 hg hk
      go_wp2_with (fail)
      refine (byte N _ HC1.out).mono ?_
      rintro e w2 ⟨y, rfl, y0, y1, hC2, hg2⟩
      have HO2 := Lib.hid (HO.out.keep hg2 (fun b hb e => by injection e with e; have := (HO.out.block b hb).1; omega))
      have HC2 := Lib.hid hC2; have HG2 := Lib.hid (only_trans HG.out hg2); clear hC2 hg2
      have hsz := HG2.out.size
      go_wp2_with (at_builtin; refine append_rd rfl (.tmp 13) (.tmp 17) _ rfl i0 Try.underlying22 hi hz0 hz1 hz2 w.heap.size _ _ _ _ rfl (HO2.out.alloc _) _ 1 1 [y] rfl (rd_one _ _ (by omega) (by omega) _) (by omega) (by simp; omega) ?_)
      intro A3 c3 w3 ho3 hb3
      have H3 := Lib.hid ho3
      have HC3 := Lib.hid ((HC2.out.new _).far hb3 hN); have HG3 := Lib.hid (only_far (only_new HG2.out _) hb3); clear ho3 hb3
      go_wp2
      go_roundg (x.toNat - (n + 1))
      case measure => have := HK.out; omega
      case rel => exact ⟨_, _, _, n + 1, _, rfl, by go_num, rfl, rfl, by omega, H3.out, HC3.out, HG3.out⟩
    · have HO := Lib.hid ho; have HC1 := Lib.hid hC1; have HG := Lib.hid hg; clear ho hC1 hg hk
      go_wp2
      go_ret
      exact ⟨_, _, _, _, rfl, hkm, HO.out, HC1.out, HG.out⟩

/-- A slice of at most m bytes and an int. -/
def DrawBytesInt (m : Nat) (w : World) (e : Ending) (w' : World) : Prop :=
  ∃ A n c l k, e = .returned (.tuple #[.slice A n c, .int .i64 k]) ∧ n ≤ m ∧ Own w' w.heap.size A n c l ∧ -9223372036854775808 ≤ k ∧ k ≤ 9223372036854775807 ∧ Below w.heap.size w w'

theorem drawAppendUvarint (A : Option Addr) (n c : Nat) (hn : n ≤ 1048576) (w : World) (hA : Code w w.heap.size A n) :
    Calls Try.prog 11 #[.slice A n c] w (DrawBytesInt 2 w) := by
  have HA := Lib.hid hA; clear hA
  go_enter Try.func11, Try.ntmps11
  go_wp2_with (fail)
  refine (new A n c hn _ HA.out).mono ?_
  rintro e w1 ⟨N, rfl, hN, hC1, hb1⟩
  have hs1 := hb1.size
  have HC1 := Lib.hid hC1; have HB1 := Lib.hid hb1; clear hC1 hb1
  go_wp2_with (fail)
  refine (below N 3 (by omega) _ HC1.out).mono ?_
  rintro e w2 ⟨x, rfl, x0, x1, hC2, hg2⟩
  have hs2 := hg2.size
  have HC2 := Lib.hid hC2; have HB2 := Lib.hid (below_of HB1.out hg2 hN hs1); clear hC2 hg2
  go_wp2_with (fail)
  refine (bytesOf N 2 (by omega) x (by omega) _ HC2.out).mono ?_
  rintro e w3 ⟨A3, n3, c3, l3, rfl, hn3, ho3, hC3, hg3⟩
  have hs3 := hg3.size
  have H3 := Lib.hid ho3; have HC3 := Lib.hid hC3; have HB3 := Lib.hid (below_of HB2.out hg3 hN (by omega)); have HN2 := Lib.hid HC2.out.lt; clear ho3 hC3 hg3
  go_wp2_with (fail)
  refine (one N _ HC3.out).mono ?_
  rintro e w4 ⟨y, rfl, y0, y1, hC4, hg4⟩
  have H4 := Lib.hid (H3.out.keep hg4 (fun b hb e => by injection e with e; have := (H3.out.block b hb).1; have := HN2.out; omega))
  have HB4 := Lib.hid (below_of HB3.out hg4 hN (by omega)); clear hC4 hg4
  go_wp2
  go_ret2
  exact ⟨_, _, _, _, y, rfl, hn3, H4.out.less (by omega), y0, y1, HB4.out⟩

theorem drawAppendSigned (A : Option Addr) (n c : Nat) (hn : n ≤ 1048576) (w : World) (hA : Code w w.heap.size A n) :
    Calls Try.prog 14 #[.slice A n c] w (DrawBytesInt 2 w) := by
  have HA := Lib.hid hA; clear hA
  go_enter Try.func14, Try.ntmps14
  go_wp2_with (fail)
  refine (new A n c hn _ HA.out).mono ?_
  rintro e w1 ⟨N, rfl, hN, hC1, hb1⟩
  have hs1 := hb1.size
  have HC1 := Lib.hid hC1; have HB1 := Lib.hid hb1; clear hC1 hb1
  go_wp2_with (fail)
  refine (below N 3 (by omega) _ HC1.out).mono ?_
  rintro e w2 ⟨x, rfl, x0, x1, hC2, hg2⟩
  have hs2 := hg2.size
  have HC2 := Lib.hid hC2; have HB2 := Lib.hid (below_of HB1.out hg2 hN hs1); clear hC2 hg2
  go_wp2_with (fail)
  refine (bytesOf N 2 (by omega) x (by omega) _ HC2.out).mono ?_
  rintro e w3 ⟨A3, n3, c3, l3, rfl, hn3, ho3, hC3, hg3⟩
  have hs3 := hg3.size
  have H3 := Lib.hid ho3; have HC3 := Lib.hid hC3; have HB3 := Lib.hid (below_of HB2.out hg3 hN (by omega)); have HN2 := Lib.hid HC2.out.lt; clear ho3 hC3 hg3
  go_wp2_with (fail)
  refine (one N _ HC3.out).mono ?_
  rintro e w4 ⟨y, rfl, y0, y1, hC4, hg4⟩
  have H4 := Lib.hid (H3.out.keep hg4 (fun b hb e => by injection e with e; have := (H3.out.block b hb).1; have := HN2.out; omega))
  have HB4 := Lib.hid (below_of HB3.out hg4 hN (by omega)); clear hC4 hg4
  go_wp2
  go_ret2
  exact ⟨_, _, _, _, y, rfl, hn3, H4.out.less (by omega), y0, y1, HB4.out⟩

/-- A slice of at most m bytes and a text of at most q. -/
def DrawBytesStr (m q : Nat) (w : World) (e : Ending) (w' : World) : Prop :=
  ∃ A n c l s, e = .returned (.tuple #[.slice A n c, .string s]) ∧ n ≤ m ∧ s.size ≤ q ∧ Own w' w.heap.size A n c l ∧ Below w.heap.size w w'

theorem drawAppendText (A : Option Addr) (n c : Nat) (hn : n ≤ 1048576) (w : World) (hA : Code w w.heap.size A n) :
    Calls Try.prog 17 #[.slice A n c] w (DrawBytesStr 2 5 w) := by
  have HA := Lib.hid hA; clear hA
  go_enter Try.func17, Try.ntmps17
  go_wp2_with (fail)
  refine (new A n c hn _ HA.out).mono ?_
  rintro e w1 ⟨N, rfl, hN, hC1, hb1⟩
  have hs1 := hb1.size
  have HB1 := Lib.hid hb1; clear hb1
  go_wp2_with (fail)
  have tok1 : True := trivial
  have tok2 : True := trivial
  go_region_with (first | (go_at_call 32; have t1 := tok1; (refine (below N _ (by omega) _ (by assumption)).mono ?_); rintro e w2 ⟨xa, rfl, xa0, xa1, hC2, hg2⟩; clear tok1 t1) | (go_at_call 31; have t2 := tok2; (refine (bytesOf N 2 (by omega) _ (by omega) _ (by assumption)).mono ?_); rintro e w3 ⟨A3, n3, c3, l3, rfl, hn3, ho3, hC3, hg3⟩; clear tok2 t2) | (go_at_call 32; (refine (below N _ (by omega) _ (by assumption)).mono ?_); rintro e w4 ⟨xb, rfl, xb0, xb1, hC4, hg4⟩) | (go_at_call 31; (refine (bytesOf N 5 (by omega) _ (by omega) _ (by assumption)).mono ?_); rintro e w5 ⟨A5, n5, c5, l5, rfl, hn5, ho5, hC5, hg5⟩; have hcv := conv_rd (P := Try.prog) _ 22 9 5 Try.underlying22 Try.underlying5 Try.underlying9 ho5.rd c5))
  have hs2 := hg2.size
  have hs3 := hg3.size
  have hs4 := hg4.size
  have hs5 := hg5.size
  have hN2 := hC2.lt
  have hx3 : ∀ k, (Value.slice A3 n3 c3).ownBlock = some k → some N ≠ some k := fun b hb e => by
    injection e with e
    have := (ho3.block b hb).1
    omega
  have H5 := Lib.hid ((ho3.keep hg4 hx3).keep hg5 hx3)
  have HB5 := Lib.hid (below_of (below_of (below_of (below_of HB1.out.drew hg2 hN hs1) hg3 hN (by omega)) hg4 hN (by omega)) hg5 hN (by omega))
  have HL := Lib.hid ho5.len
  clear hg2 hg3 hg4 hg5 hC1 hC2 hC3 hC4 hC5 ho3 ho5 hcv hx3
  go_wp2
  go_ret2
  exact ⟨_, _, _, _, _, rfl, hn3, by rw [strOfNums_size, HL.out]; exact hn5, H5.out.less (by omega), HB5.out⟩

end Go.Proofs.Ytgjijfpdlgcopaa.draw
