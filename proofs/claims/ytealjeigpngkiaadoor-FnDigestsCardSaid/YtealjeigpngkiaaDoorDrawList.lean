/-
  The model's draws of lists: a new slice of a bounded number of bytes or of integers; nothing that was there is changed but the cursor.
  Conditions: those that each theorem names.
-/
import Derived.Test.YtealjeigpngkiaaDoorDrawOne
import Derived.Test.YtealjeigpngkiaaDoorMem
import Derived.Test.YtealjeigpngkiaaDoorMemI
import Derived.Deep.LoopGhost
import Derived.Deep.RegionWith
namespace Go.Proofs.YtealjeigpngkiaaDoor.draw
open Go.ChangeShapes Go.WideShapes Go.ChangeAt Go.RowKit mem imem
set_option linter.unusedVariables false

theorem code_of_rd {w : World} {A : Option Addr} {n : Nat} {l : List Int} (h : Rd w A n l) : Code w w.heap.size A n := fun hn => by
  obtain ⟨a, e, hlt⟩ := h.lt hn
  refine ⟨a, e, hlt, fun j hj => ?_⟩
  obtain ⟨a', v, e', hv, v0, v1, hc⟩ := h.at_ hj
  rw [e] at e'
  obtain rfl := Option.some.inj e'
  exact ⟨v, v0, v1, hc⟩
theorem Cur.far {w w' : World} {N B : Nat} (h : Cur w N) (hb : Below B w w') (hN : N < B) : Cur w' N := by
  obtain ⟨A, n, c, i, x, hbk, hc, hn, i0, i1⟩ := h
  exact ⟨A, n, c, i, x, (hb.block N hN).trans hbk, hc.keep fun k hlt => hb.block k (by omega), hn, i0, i1⟩
theorem only_far {a w w' : World} {N : Nat} (h : a.grownBy w (some N)) (hb : Below a.heap.size w w') : a.grownBy w' (some N) :=
  ⟨hb.os.trans h.os, hb.tape.trans h.tape, hb.output.trans h.output, Nat.le_trans h.size hb.size, fun k hk hne => (hb.block k hk).trans (h.block k hk hne)⟩

/-- A new slice of at most m bytes. -/
def BytesQ (m : Nat) (N : Nat) (w : World) (e : Ending) (w' : World) : Prop :=
  ∃ A n c l, e = .returned (.slice A n c) ∧ n ≤ m ∧ Own w' w.heap.size A n c l ∧ Cur w' N ∧ w.grownBy w' (some N)

theorem bytesOf (N : Nat) (m : Nat) (hm : m ≤ 1000000) (x : Int) (hx : x ≤ m) (w : World) (hC : Cur w N) :
    Calls Tryd.prog 17 #[.pointer (some ⟨N, 0, none⟩), .int .i64 x] w (BytesQ m N w) := by
  obtain ⟨i0, hi, hz0, hz1, hz2⟩ := info_parts u8row
  have hN := hC.lt
  have HC := Lib.hid (hC.new (.cells #[] 5)); clear hC
  go_enter Tryd.func17, Tryd.ntmps17
  go_wp2
  go_loopg [5, 6] x.toNat (fun gk v i wr => ∃ (A : Option Addr) (n c k : Nat) (l : List Int), v = .slice A n c ∧ i = .int .i64 k ∧ gk = x.toNat - k ∧ n = k ∧ k ≤ m ∧ Own wr w.heap.size A n c l ∧ Cur wr N ∧ w.grownBy wr (some N))
  case atStart => exact ⟨_, 0, 0, 0, [], rfl, rfl, rfl, rfl, by omega, own_none w _ (Nat.le_refl _), HC.out, World.grownBy_alloc _ _ _⟩
  case round =>
    obtain ⟨A, n, c, k, l, rfl, rfl, hk, hnk, hkm, ho, hC1, hg⟩ := hrel
    subst hnk
    by_cases hlt : (n : Int) < x
    · have HO := Lib.hid ho; have HC1 := Lib.hid hC1; have HG := Lib.hid hg; have HK := Lib.hid hk; clear ho hC1 hg hk
      go_wp2_with (fail)
      refine (byte N _ HC1.out).mono ?_
      rintro e w2 ⟨y, rfl, y0, y1, hC2, hg2⟩
      have HO2 := Lib.hid (HO.out.keep hg2 (fun b hb e => by injection e with e; have := (HO.out.block b hb).1; omega))
      have HC2 := Lib.hid hC2; have HG2 := Lib.hid (only_trans HG.out hg2); clear hC2 hg2
      have hsz := HG2.out.size
      go_wp2_with (at_builtin; refine append_rd rfl (.tmp 13) (.tmp 17) _ rfl i0 Tryd.underlying22 hi hz0 hz1 hz2 w.heap.size _ _ _ _ rfl (HO2.out.alloc _) _ 1 1 [y] rfl (rd_one _ _ (by omega) (by omega) _) (by omega) (by simp; omega) ?_)
      intro A3 c3 w3 ho3 hb3
      have H3 := Lib.hid ho3
      have HC3 := Lib.hid ((HC2.out.new _).far hb3 hN); have HG3 := Lib.hid (only_far (only_new HG2.out _) hb3); clear ho3 hb3
      go_wp2
      go_roundg (x.toNat - (n + 1))
      case measure => have := HK.out; omega
      case rel => exact ⟨_, _, _, n + 1, _, rfl, by go_num, rfl, rfl, by omega, H3.out, HC3.out, HG3.out⟩
    · have HO := Lib.hid ho; have HC1 := Lib.hid hC1; have HG := Lib.hid hg; clear ho hC1 hg hk
      go_wp2
      go_ret
      exact ⟨_, _, _, _, rfl, hkm, HO.out, HC1.out, HG.out⟩

/-- A new slice of at most m integers. -/
def IntsQ (m : Nat) (N : Nat) (w : World) (e : Ending) (w' : World) : Prop :=
  ∃ A n c l, e = .returned (.slice A n c) ∧ n ≤ m ∧ OwnI w' w.heap.size A n c l ∧ Cur w' N ∧ w.grownBy w' (some N)

theorem intsOf (N : Nat) (m : Nat) (hm : m ≤ 1000000) (w : World) (hC : Cur w N) :
    Calls Tryd.prog 15 #[.pointer (some ⟨N, 0, none⟩), .int .i64 m] w (IntsQ m N w) := by
  obtain ⟨i0, hi, hz0, hz1, hz2⟩ := info_parts i64row
  have hN := hC.lt
  have HC := Lib.hid (hC.new (.cells #[] 3)); clear hC
  go_enter Tryd.func15, Tryd.ntmps15
  go_wp2_with (fail)
  refine (below N ((m : Int) + 1) (by omega) _ HC.out).mono ?_
  rintro e w1 ⟨x, rfl, x0, x1, hC1, hg1⟩
  have hxm : x ≤ m := by omega
  have hs1 := hg1.size
  rw [World.size_alloc] at hs1
  have HC1 := Lib.hid hC1; have HG1 := Lib.hid (only_trans (World.grownBy_alloc w (.cells #[] 3) (some N)) hg1)
  have HO1 := Lib.hid ((owni_none w w.heap.size (Nat.le_refl _)).keep hg1 (fun b hb e => by injection e with e; injection hb with hb; simp at hb; omega)); clear hC1 hg1 x1
  go_wp2
  go_loopg [5, 6] x.toNat (fun gk v i wr => ∃ (A : Option Addr) (n c : Nat) (y : Int) (l : List Int), v = .slice A n c ∧ i = .int .i64 y ∧ gk = y.toNat ∧ 0 ≤ y ∧ n + y ≤ m ∧ OwnI wr w.heap.size A n c l ∧ Cur wr N ∧ w.grownBy wr (some N))
  case atStart => exact ⟨_, 0, 0, x, [], rfl, rfl, rfl, x0, by omega, HO1.out, HC1.out, HG1.out⟩
  case round =>
    obtain ⟨A, n, c, y, l, rfl, rfl, hk, y0, hyn, ho, hC1, hg⟩ := hrel
    have HO := Lib.hid ho; have HC1 := Lib.hid hC1; have HG := Lib.hid hg; have HK := Lib.hid hk; clear ho hC1 hg hk
    by_cases hlt : 0 < y
    · go_wp2_with (fail)
      refine (one N _ HC1.out).mono ?_
      rintro e w2 ⟨z, rfl, z0, z1, hC2, hg2⟩
      have HO2 := Lib.hid (HO.out.keep hg2 (fun b hb e => by injection e with e; have := (HO.out.block b hb).1; omega))
      have HC2 := Lib.hid hC2; have HG2 := Lib.hid (only_trans HG.out hg2); clear hC2 hg2
      have hsz := HG2.out.size
      go_wp2_with (at_builtin; refine append_rdi rfl (.tmp 16) (.tmp 19) _ rfl i0 Tryd.underlying24 hi hz0 hz1 hz2 w.heap.size _ _ _ _ rfl (HO2.out.alloc _) _ 1 1 [z] rfl (rdi_one _ _ _) (by omega) (by simp; omega) ?_)
      intro A3 c3 w3 ho3 hb3 hg3
      have H3 := Lib.hid ho3
      have HC3 := Lib.hid ((HC2.out.new _).far hb3 hN); have HG3 := Lib.hid (only_far (only_new HG2.out _) hb3); clear ho3 hb3 hg3
      go_wp2
      go_roundg (y - 1).toNat
      case measure => have := HK.out; omega
      case rel => exact ⟨_, _, _, y - 1, _, rfl, rfl, rfl, by omega, by omega, H3.out, HC3.out, HG3.out⟩
    · go_wp2
      go_ret
      exact ⟨_, _, _, _, rfl, by omega, HO.out, HC1.out, HG.out⟩

end Go.Proofs.YtealjeigpngkiaaDoor.draw
