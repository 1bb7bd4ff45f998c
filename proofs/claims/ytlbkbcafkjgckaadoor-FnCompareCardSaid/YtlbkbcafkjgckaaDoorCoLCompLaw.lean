/-
  For all bytes the law FnCompare returns true: comparing two scalars the other way round gives the opposite order; a valid value equals itself and what is identical with it.
  Conditions: the argument is of Go's type; the package variables that the row lists hold what the program's text lays, and the card ties that to the text.
-/
import Derived.Test.YtlbkbcafkjgckaaDoorRows
import Derived.Test.YtlbkbcafkjgckaaDoorCards
import Derived.Test.YtlbkbcafkjgckaaDoorTie
import Derived.LaidMore
import Derived.LaidHandle
import Derived.Stop.Joined
import Derived.SevenTiedAt
import Derived.Stop.LaidErr
import Derived.SizedLaws
import Derived.Deep.RegionWith
import Derived.Deep.DeepCutAuto
import Derived.WalkKit
import Derived.ProofKit
import Derived.OpenShut
import Derived.Test.YtlbkbcafkjgckaaDoorCmSCmpJ
import Derived.Test.YtlbkbcafkjgckaaDoorCoB1
import Derived.Test.YtlbkbcafkjgckaaDoorCoSValidN
import Derived.Test.YtlbkbcafkjgckaaDoorCoSIdentS
import Derived.Test.YtlbkbcafkjgckaaDoorCoB2
import Derived.Test.YtlbkbcafkjgckaaDoorCmB2
import Derived.Test.YtlbkbcafkjgckaaDoorCmSEnvCm
import Derived.Test.YtlbkbcafkjgckaaDoorSoB1
namespace Go.Proofs.YtlbkbcafkjgckaaDoor.fnCompare
open Go.ChangeShapes Go.WideShapes Go.ChangeAt Go.RowKit mem tree ers
open Go.ChangeMaps (open_string)
set_option linter.unusedVariables false

theorem own : ownKnob Tryd.prog.godebug = none := by kernel_rfl


theorem bigNo (A : Option Addr) (n c : Nat) (h : (n : Int) ≤ 1048576) (w : World) :
    Calls Tryd.prog 12 #[.slice A n c] w fun e w' => e = .returned (.bool false) ∧ w = w' := by
  have hd : decide ((1048576 : Int) < (n : Int)) = false := by rw [decide_eq_false_iff_not]; omega
  go_enter Tryd.func12, Tryd.ntmps12
  go_wp2
  go_ret
  exact ⟨rfl, rfl⟩
theorem snd_k {k n x : Int} {s : ByteArray} {ks : List Ky} {vs : List Tr} (h : sndB (.mk k n s x ks vs) = true) : 0 ≤ k := by
  by_cases h4 : k = 4
  · omega
  · rw [snd_not h4] at h
    unfold restB at h
    rw [Bool.and_eq_true] at h
    have h := h.2
    unfold scalB at h
    by_cases a0 : k = 0
    · omega
    · by_cases a1 : k = 1
      · omega
      · by_cases a2 : k = 2
        · omega
        · by_cases a3 : k = 3
          · omega
          · by_cases a6 : k = 6 ∨ k = 7 ∨ k = 8
            · omega
            · simp [a0, a1, a2, a3, a6] at h
def CutX (W : World) (b : Bool) (v : Value) (wx : World) : Prop := v = .bool b ∧ Below W.heap.size W wx

set_option maxHeartbeats 8000000 in
set_option maxRecDepth 100000 in
theorem walk (A0 : Option Addr) (n0 c0 : Nat) (l0 : List Int) (w : World) (hn0 : n0 ≤ maxLen) (hr0 : Rd w A0 n0 l0) (hE : CmE w) :
    Calls Tryd.prog 4 #[.slice A0 n0 c0] w fun e w' => e = .returned (.bool true) ∧ Below w.heap.size w w' := by
  unfold maxLen at hn0
  by_cases hbig : (1048576 : Int) < (n0 : Int)
  · go_enter Tryd.func4, Tryd.ntmps4
    go_wp2
    go_ret
    exact ⟨rfl, Below.refl _ _⟩
  have HA := Lib.hid hr0
  have HE := Lib.hid hE
  clear hr0 hE
  go_enter Tryd.func4, Tryd.ntmps4
  go_wp2_with (go_at_call 12; refine (bigNo A0 n0 c0 (by omega) _).mono ?_; rintro e w0 ⟨rfl, rfl⟩)
  refine (draw.drawCompare A0 n0 c0 (by omega) _ (draw.code_of_rd HA.out)).mono ?_
  rintro e w1 ⟨v, v', t, t', rfl, hT, hT', ht, ht', hb1⟩
  have hf := hT.fits
  have hf' := hT'.fits
  obtain ⟨W, HW⟩ : ∃ W, Hid (cmpT t t' = W) := ⟨_, Lib.hid rfl⟩
  obtain ⟨Y, HY⟩ : ∃ Y, Hid (cmpT t' t = Y) := ⟨_, Lib.hid rfl⟩
  obtain ⟨p1, HP1⟩ : ∃ p, Hid ((lightB t && sndB t) = p) := ⟨_, Lib.hid rfl⟩
  obtain ⟨p2, HP2⟩ : ∃ p, Hid ((lightB t' && sndB t') = p) := ⟨_, Lib.hid rfl⟩
  obtain ⟨ib, HIB⟩ : ∃ p, Hid (identB t t' = p) := ⟨_, Lib.hid rfl⟩
  have HF1 : Hid (p1 = true → cmpT t t = 0) := Lib.hid (fun h => by have := HP1.out.trans h; rw [Bool.and_eq_true] at this; exact cmp_same t hf this.2)
  have HF2 : Hid (p1 = true → ib = true → W = 0) := Lib.hid (fun h h2 => by have := HP1.out.trans h; rw [Bool.and_eq_true] at this; rw [← HW.out]; exact cmp_ident t hf this.2 t' hf' (HIB.out.trans h2))
  have CV1 : Hid (∀ w', Below w1.heap.size w1 w' → Calls Tryd.prog 24 #[v, v'] w' (GivesQ w' (.int .i64 W))) := Lib.hid (fun w' hb => by rw [← HW.out]; exact compare_i t t' (by omega) (by omega) w' _ _ _ _ (HE.out.stays (bs hb1 hb)) (hT.nwb hb) (hT'.nwb hb))
  have CV2 : Hid (∀ w', Below w1.heap.size w1 w' → Calls Tryd.prog 24 #[v', v] w' (GivesQ w' (.int .i64 Y))) := Lib.hid (fun w' hb => by rw [← HY.out]; exact compare_i t' t (by omega) (by omega) w' _ _ _ _ (HE.out.stays (bs hb1 hb)) (hT'.nwb hb) (hT.nwb hb))
  have LE1 : Hid (∀ w', Below w1.heap.size w1 w' → Calls Tryd.prog 25 #[v, v'] w' (GivesQ w' (.bool (decide (W = 0))))) := Lib.hid (fun w' hb => by rw [← HW.out]; exact loose_i t t' (by omega) (by omega) w' _ _ _ _ (HE.out.stays (bs hb1 hb)) (hT.nwb hb) (hT'.nwb hb))
  have LE2 : Hid (∀ w', Below w1.heap.size w1 w' → Calls Tryd.prog 25 #[v, v] w' (GivesQ w' (.bool (decide (cmpT t t = 0))))) := Lib.hid (fun w' hb => loose_i t t (by omega) (by omega) w' _ _ _ _ (HE.out.stays (bs hb1 hb)) (hT.nwb hb) (hT.nwb hb))
  have IV1 : Hid (∀ w', Below w1.heap.size w1 w' → Calls Tryd.prog 14 #[v] w' (BoQ w' p1)) := Lib.hid (fun w' hb => by rw [← HP1.out]; exact isValue_n t (by omega) w' _ _ (hT.below' hb))
  have IV2 : Hid (∀ w', Below w1.heap.size w1 w' → Calls Tryd.prog 14 #[v'] w' (BoQ w' p2)) := Lib.hid (fun w' hb => by rw [← HP2.out]; exact isValue_n t' (by omega) w' _ _ (hT'.below' hb))
  have ID : Hid (∀ w', Below w1.heap.size w1 w' → Calls Tryd.prog 26 #[v, v'] w' (GivesQ w' (.bool ib))) := Lib.hid (fun w' hb => by rw [← HIB.out]; exact ident_s t t' w' _ _ _ _ (hT.below' hb) (hT'.below' hb))
  obtain ⟨k, n, s, x, ks, vs⟩ := t
  obtain ⟨k', n', s', x', ks', vs'⟩ := t'
  have HF3 : Hid (p1 = true → p2 = true → k ≤ 3 → k' ≤ 3 → W ≠ 2 ∧ W = -Y) := Lib.hid (fun h1 h2 h3 h4 => by
    have e1 := HP1.out.trans h1
    have e2 := HP2.out.trans h2
    rw [Bool.and_eq_true] at e1 e2
    have := cmp_opp (n := n) (x := x) (s := s) (ks := ks) (vs := vs) (n' := n') (x' := x') (s' := s') (ks' := ks') (vs' := vs') ⟨snd_k e1.2, h3⟩ ⟨snd_k e2.2, h4⟩
    rw [HW.out, HY.out] at this
    exact ⟨this.2, this.1⟩)
  obtain ⟨A, c, rfl, -, -⟩ := hT.out
  obtain ⟨A', c', rfl, -, -⟩ := hT'.out
  obtain ⟨L, HL⟩ : ∃ L, Hid (vs.length = L) := ⟨_, Lib.hid rfl⟩
  obtain ⟨L', HL'⟩ : ∃ L, Hid (vs'.length = L) := ⟨_, Lib.hid rfl⟩
  rw [HL.out] at CV1 CV2 LE1 LE2 IV1 ID ⊢
  rw [HL'.out] at CV1 CV2 LE1 IV2 ID ⊢
  have HWN : Hid (IntKind.i64.wrap (-Y) = -Y) := Lib.hid (by have := cmp_rng (.mk k' n' s' x' ks' vs') (.mk k n s x ks vs); rw [HY.out] at this; rw [IntKind.wrap_i64]; omega)
  obtain ⟨M, HM⟩ : ∃ M, Hid (w1.heap.size = M) := ⟨_, Lib.hid rfl⟩
  have HB1 := Lib.hid hb1
  clear hT hT' hf hf' ht ht' hb1 HW HY HP1 HP2 HIB
  go_wp2_with (fail)
  rw [HM.out]
  obtain ⟨w2, hw2⟩ : ∃ w2, w2 = (w1.alloc (.cells #[.int .i64 k, .int .i64 n, .string s, .int .i64 x, .slice A L c] 26)).alloc (.cells #[.int .i64 k', .int .i64 n', .string s', .int .i64 x', .slice A' L' c'] 26) := ⟨_, rfl⟩
  rw [← hw2]
  have hb2 : Below w1.heap.size w1 w2 := hw2 ▸ b2 w1 _ _
  have HX : Hid (w2.heap[M]? = some (.cells #[.int .i64 k, .int .i64 n, .string s, .int .i64 x, .slice A L c] IV (0, 0))) := Lib.hid (by rw [hw2, ← HM.out]; exact heap_alloc2_old w1 _ _)
  have HY : Hid (w2.heap[M + 1]? = some (.cells #[.int .i64 k', .int .i64 n', .string s', .int .i64 x', .slice A' L' c'] IV (0, 0))) := Lib.hid (by rw [hw2, ← HM.out]; exact heap_alloc2_new w1 _ _)
  have HBB : Hid (Below w1.heap.size w1 w2) := Lib.hid hb2
  clear hb2 hw2
  have x := rowc HX.out
  have x0 := x.1 0; have x1 := x.1 1; have x2 := x.1 2; have x3 := x.1 3; have x4 := x.1 4
  have y := rowc HY.out
  have y0 := y.1 0; have y1 := y.1 1; have y2 := y.1 2; have y3 := y.1 3; have y4 := y.1 4
  simp at x0 x1 x2 x3 x4 y0 y1 y2 y3 y4
  clear x y
  refine (CV1.out _ HBB.out).mono ?_
  rintro e w3 ⟨rfl, hb⟩
  replace HX := Lib.hid (carry hb HX.out)
  replace HY := Lib.hid (carry hb HY.out)
  replace HBB := Lib.hid (bs HBB.out hb)
  clear x0 x1 x2 x3 x4 y0 y1 y2 y3 y4
  clear hb
  have x := rowc HX.out
  have x0 := x.1 0; have x1 := x.1 1; have x2 := x.1 2; have x3 := x.1 3; have x4 := x.1 4
  have y := rowc HY.out
  have y0 := y.1 0; have y1 := y.1 1; have y2 := y.1 2; have y3 := y.1 3; have y4 := y.1 4
  simp at x0 x1 x2 x3 x4 y0 y1 y2 y3 y4
  clear x y
  go_wp2_with (fail)
  refine (CV2.out _ HBB.out).mono ?_
  rintro e w4 ⟨rfl, hb⟩
  replace HX := Lib.hid (carry hb HX.out)
  replace HY := Lib.hid (carry hb HY.out)
  replace HBB := Lib.hid (bs HBB.out hb)
  clear x0 x1 x2 x3 x4 y0 y1 y2 y3 y4
  clear hb
  have x := rowc HX.out
  have x0 := x.1 0; have x1 := x.1 1; have x2 := x.1 2; have x3 := x.1 3; have x4 := x.1 4
  have y := rowc HY.out
  have y0 := y.1 0; have y1 := y.1 1; have y2 := y.1 2; have y3 := y.1 3; have y4 := y.1 4
  simp at x0 x1 x2 x3 x4 y0 y1 y2 y3 y4
  clear x y
  have hyw := HWN.out
  go_upto_region 6 with fail
  go_cut [45] (fun v wx => CutX w4 false v wx)
  case first =>
    have HB4 := Lib.hid (Below.refl w4.heap.size w4)
    go_wp2_with (fail)
    refine (IV1.out _ HBB.out).mono ?_
    rintro e w5 ⟨rfl, hb⟩
    replace HX := Lib.hid (carry hb HX.out)
    replace HY := Lib.hid (carry hb HY.out)
    replace HBB := Lib.hid (bs HBB.out hb)
    replace HB4 := Lib.hid (bs HB4.out hb)
    clear x0 x1 x2 x3 x4 y0 y1 y2 y3 y4
    clear hb
    have x := rowc HX.out
    have x0 := x.1 0; have x1 := x.1 1; have x2 := x.1 2; have x3 := x.1 3; have x4 := x.1 4
    have y := rowc HY.out
    have y0 := y.1 0; have y1 := y.1 1; have y2 := y.1 2; have y3 := y.1 3; have y4 := y.1 4
    simp at x0 x1 x2 x3 x4 y0 y1 y2 y3 y4
    clear x y
    cases p1 with
    | false =>
      go_wp2_with (fail)
      go_meet
      exact ⟨rfl, HB4.out⟩
    | true =>
      go_wp2_with (fail)
      refine (IV2.out _ HBB.out).mono ?_
      rintro e w6 ⟨rfl, hb⟩
      replace HX := Lib.hid (carry hb HX.out)
      replace HY := Lib.hid (carry hb HY.out)
      replace HBB := Lib.hid (bs HBB.out hb)
      replace HB4 := Lib.hid (bs HB4.out hb)
      clear x0 x1 x2 x3 x4 y0 y1 y2 y3 y4
      clear hb
      have x := rowc HX.out
      have x0 := x.1 0; have x1 := x.1 1; have x2 := x.1 2; have x3 := x.1 3; have x4 := x.1 4
      have y := rowc HY.out
      have y0 := y.1 0; have y1 := y.1 1; have y2 := y.1 2; have y3 := y.1 3; have y4 := y.1 4
      simp at x0 x1 x2 x3 x4 y0 y1 y2 y3 y4
      clear x y
      cases p2 with
      | false =>
        go_wp2_with (fail)
        go_meet
        exact ⟨rfl, HB4.out⟩
      | true =>
        by_cases h3 : k ≤ 3
        · by_cases h4 : k' ≤ 3
          · obtain ⟨g1, g2⟩ := HF3.out (by first | rfl | trivial) (by first | rfl | trivial) h3 h4
            have hd2 : (W == 2) = false := by simpa using g1
            have hd3 : (W != -Y) = false := by simp [g2]
            have hd4 : decide (W = 2) = false := decide_eq_false g1
            clear g1 g2
            go_wp2_with (fail)
            go_meet
            exact ⟨rfl, HB4.out⟩
          · have hd : decide (k' ≤ 3) = false := decide_eq_false h4
            go_wp2_with (fail)
            go_meet
            exact ⟨rfl, HB4.out⟩
        · have hd : decide (k ≤ 3) = false := decide_eq_false h3
          go_wp2_with (fail)
          go_meet
          exact ⟨rfl, HB4.out⟩
  case rest =>
    obtain ⟨rfl, hbc⟩ := hcut
    replace HX := Lib.hid (carry hbc HX.out)
    replace HY := Lib.hid (carry hbc HY.out)
    replace HBB := Lib.hid (bs HBB.out hbc)
    clear hbc x0 x1 x2 x3 x4 y0 y1 y2 y3 y4
    have x := rowc HX.out
    have x0 := x.1 0; have x1 := x.1 1; have x2 := x.1 2; have x3 := x.1 3; have x4 := x.1 4
    have y := rowc HY.out
    have y0 := y.1 0; have y1 := y.1 1; have y2 := y.1 2; have y3 := y.1 3; have y4 := y.1 4
    simp at x0 x1 x2 x3 x4 y0 y1 y2 y3 y4
    clear x y
    go_upto_region 8 with fail
    go_cut [64] (fun v wx => CutX wc false v wx)
    case first =>
      have HB4 := Lib.hid (Below.refl wc.heap.size wc)
      go_wp2_with (fail)
      refine (IV1.out _ HBB.out).mono ?_
      rintro e w7 ⟨rfl, hb⟩
      replace HX := Lib.hid (carry hb HX.out)
      replace HY := Lib.hid (carry hb HY.out)
      replace HBB := Lib.hid (bs HBB.out hb)
      replace HB4 := Lib.hid (bs HB4.out hb)
      clear x0 x1 x2 x3 x4 y0 y1 y2 y3 y4
      clear hb
      have x := rowc HX.out
      have x0 := x.1 0; have x1 := x.1 1; have x2 := x.1 2; have x3 := x.1 3; have x4 := x.1 4
      have y := rowc HY.out
      have y0 := y.1 0; have y1 := y.1 1; have y2 := y.1 2; have y3 := y.1 3; have y4 := y.1 4
      simp at x0 x1 x2 x3 x4 y0 y1 y2 y3 y4
      clear x y
      cases p1 with
      | false =>
        go_wp2_with (fail)
        go_meet
        exact ⟨rfl, HB4.out⟩
      | true =>
        have hz := HF1.out (by first | rfl | trivial)
        rw [hz] at LE2
        go_wp2_with (fail)
        refine (LE2.out _ HBB.out).mono ?_
        rintro e w8 ⟨rfl, hb⟩
        replace HX := Lib.hid (carry hb HX.out)
        replace HY := Lib.hid (carry hb HY.out)
        replace HBB := Lib.hid (bs HBB.out hb)
        replace HB4 := Lib.hid (bs HB4.out hb)
        clear x0 x1 x2 x3 x4 y0 y1 y2 y3 y4
        clear hb
        have x := rowc HX.out
        have x0 := x.1 0; have x1 := x.1 1; have x2 := x.1 2; have x3 := x.1 3; have x4 := x.1 4
        have y := rowc HY.out
        have y0 := y.1 0; have y1 := y.1 1; have y2 := y.1 2; have y3 := y.1 3; have y4 := y.1 4
        simp at x0 x1 x2 x3 x4 y0 y1 y2 y3 y4
        clear x y
        go_wp2_with (fail)
        refine (ID.out _ HBB.out).mono ?_
        rintro e w9 ⟨rfl, hb⟩
        replace HX := Lib.hid (carry hb HX.out)
        replace HY := Lib.hid (carry hb HY.out)
        replace HBB := Lib.hid (bs HBB.out hb)
        replace HB4 := Lib.hid (bs HB4.out hb)
        clear x0 x1 x2 x3 x4 y0 y1 y2 y3 y4
        clear hb
        have x := rowc HX.out
        have x0 := x.1 0; have x1 := x.1 1; have x2 := x.1 2; have x3 := x.1 3; have x4 := x.1 4
        have y := rowc HY.out
        have y0 := y.1 0; have y1 := y.1 1; have y2 := y.1 2; have y3 := y.1 3; have y4 := y.1 4
        simp at x0 x1 x2 x3 x4 y0 y1 y2 y3 y4
        clear x y
        cases ib with
        | false =>
          go_wp2_with (fail)
          go_meet
          exact ⟨rfl, HB4.out⟩
        | true =>
          rw [show decide (W = 0) = true from decide_eq_true (HF2.out (by first | rfl | trivial) (by first | rfl | trivial))] at LE1
          go_wp2_with (fail)
          refine (LE1.out _ HBB.out).mono ?_
          rintro e w10 ⟨rfl, hb⟩
          replace HX := Lib.hid (carry hb HX.out)
          replace HY := Lib.hid (carry hb HY.out)
          replace HBB := Lib.hid (bs HBB.out hb)
          replace HB4 := Lib.hid (bs HB4.out hb)
          clear x0 x1 x2 x3 x4 y0 y1 y2 y3 y4
          clear hb
          have x := rowc HX.out
          have x0 := x.1 0; have x1 := x.1 1; have x2 := x.1 2; have x3 := x.1 3; have x4 := x.1 4
          have y := rowc HY.out
          have y0 := y.1 0; have y1 := y.1 1; have y2 := y.1 2; have y3 := y.1 3; have y4 := y.1 4
          simp at x0 x1 x2 x3 x4 y0 y1 y2 y3 y4
          clear x y
          go_wp2_with (fail)
          go_meet
          exact ⟨rfl, HB4.out⟩
    case rest =>
      obtain ⟨rfl, hbd⟩ := hcut
      rename_i wd
      replace HX := Lib.hid (carry hbd HX.out)
      replace HY := Lib.hid (carry hbd HY.out)
      replace HBB := Lib.hid (bs HBB.out hbd)
      clear hbd x0 x1 x2 x3 x4 y0 y1 y2 y3 y4
      have x := rowc HX.out
      have x0 := x.1 0; have x1 := x.1 1; have x2 := x.1 2; have x3 := x.1 3; have x4 := x.1 4
      have y := rowc HY.out
      have y0 := y.1 0; have y1 := y.1 1; have y2 := y.1 2; have y3 := y.1 3; have y4 := y.1 4
      simp at x0 x1 x2 x3 x4 y0 y1 y2 y3 y4
      clear x y
      go_wp2_with (fail)
      refine (LE1.out _ HBB.out).mono ?_
      rintro e w5 ⟨rfl, hb⟩
      replace HX := Lib.hid (carry hb HX.out)
      replace HY := Lib.hid (carry hb HY.out)
      replace HBB := Lib.hid (bs HBB.out hb)
      clear x0 x1 x2 x3 x4 y0 y1 y2 y3 y4
      clear hb
      have x := rowc HX.out
      have x0 := x.1 0; have x1 := x.1 1; have x2 := x.1 2; have x3 := x.1 3; have x4 := x.1 4
      have y := rowc HY.out
      have y0 := y.1 0; have y1 := y.1 1; have y2 := y.1 2; have y3 := y.1 3; have y4 := y.1 4
      simp at x0 x1 x2 x3 x4 y0 y1 y2 y3 y4
      clear x y
      by_cases hw0 : W = 0
      · subst hw0
        go_wp2_with (fail)
        go_ret
        exact ⟨rfl, bs HB1.out HBB.out⟩
      · have hd0 : decide (W = 0) = false := decide_eq_false hw0
        have hd1 : (W == 0) = false := by simpa using hw0
        rw [hd0]
        go_wp2_with (fail)
        go_ret
        exact ⟨rfl, bs HB1.out HBB.out⟩


set_option maxRecDepth 100000 in
theorem lifted (os : Os) (started : os.Started) (H : Type) (enc : TypeId × Value → H) :
    ReturnsInHanded {} Tryd.checked os 4 .any (fun w args => (Rows.fnCompareSpec.pre enc Tryd.prog Tryd.f4 [] false w args ∧ laidMetH Tryd.prog ers.cmp.laidOf w) ∧ sizedMet enc Tryd.prog Tryd.f4 (OpenSpec.ofChange Rows.fnCompareSpec) false w args)
      (Rows.fnCompareSpec.post enc Tryd.prog Tryd.f4 false true false false) := by
  refine returnsInHanded_of_change_and (C := Tryd.checked) (X := fun w _ => laidMetH Tryd.prog ers.cmp.laidOf w) (fun _ _ _ hh h => h.of_heap hh) own started (by kernel_rfl) Tryd.func4
    (ChangeSpec.witness_shaped (enc := enc) (C := Tryd.checked) (os := os) (X := fun w _ => laidMetH Tryd.prog ers.cmp.laidOf w) false (World.doorLaid Tryd.prog 400 os) #[.slice none 0 0] 8 rfl (World.shaped_of_RefB (by kernel_rfl) (by kernel_rfl)) (by kernel_rfl) (by kernel_rfl) (by kernel_rfl) (ers.cmp.door_met os _)) ?_
  intro W base args ds gs before hval0 hW _ hsz0 hL _
  have hval : ∀ (j : Nat) t v, Tryd.f4.params[j]? = some t → args[j]? = some v → Value.okWide Tryd.prog W .any base t v := hval0
  have hW' := hW
  obtain ⟨p, q, hA0, hV, rfl, hfz, hnd⟩ := hW
  have hA : DataW.TrodAll enc Tryd.prog W 0 (fun _ => true) true Tryd.f4.params.toList args.toList ds p := hA0
  have hA2 := hA
  rw [Tryd.params4] at hA hval
  obtain ⟨v0, d0, rfl, rfl, h0⟩ := trodAll_one hA
  have hE := ers.cmp.env_of hL
  obtain ⟨-, ⟨a, hEa⟩, ⟨b, hEb⟩⟩ := id hE
  obtain ⟨rfl, rfl⟩ := hV.unique (readNT enc hEa hEb _)
  obtain ⟨A0, n0, c0, l0, rfl, hn0, hr0⟩ := opn.open_bytes Tryd.underlying22 Tryd.underlying5 (by kernel_rfl) (hval 0 22 v0 rfl rfl) h0
  clear hA0 hval0
  refine (walk A0 n0 c0 l0 W hn0 hr0 hE).mono fun e W' ⟨he, hb⟩ => ?_
  subst he
  exact ⟨_, rfl, opn.post_true_vars2 hW' hA2 rfl rfl Tryd.underlying4 (by kernel_rfl) (by kernel_rfl) hb (readNT enc (hEa.stays hb) (hEb.stays hb) _)⟩

theorem over : Rows.FnCompareSaid :=
  OpenClaim.holds_of_wide 4 Tryd.f4 rfl rfl rfl rfl rfl rfl rfl ⟨rfl, rfl, rfl, rfl, rfl⟩ rfl rfl rfl rfl rfl (by kernel_rfl) Tryd.func4 (by kernel_rfl)
    (of_decide_eq_true (by kernel_rfl)) (by unfold Func.isWrapper; first | (rw [if_pos (by decide +kernel)]; kernel_rfl) | (rw [if_neg (by decide +kernel)]; exact ⟨rfl, rfl⟩))
    (fun os started H enc _ => lifted os started H enc)

/-- The statement. -/
theorem proved : Rows.FnCompareCardSaid :=
  Claim7.holds_tied_plain_at .later [] Rows.fnCompareCard.laidKinds true Rows.fnCompareCard.stood.harness Rows.fnCompareCard.stood.looks
    over (fun _ h => by cases h) (by kernel_rfl) (fun _ h => by cases h) fnCompare_row_tie rfl ⟨rfl, rfl⟩ (by kernel_rfl) rfl
    (fun f fn hf hfn => by
      obtain rfl : f = 4 := Option.some.inj ((show Tryd.prog.funcNamed "loop.example/g03011/laws.FnCompare" = some 4 by kernel_rfl).symm.trans hf) |>.symm
      obtain rfl : fn = Tryd.f4 := (Option.some.inj (Tryd.func4.symm.trans hfn)).symm
      exact ⟨by kernel_rfl, fun j t ht => by
        rw [Tryd.params4] at ht
        have hm : t ∈ [22] := by simpa using Array.mem_of_getElem? ht
        have hall : ([22].all fun u => !Tryd.prog.wantsStandIn u) = true := by kernel_rfl
        exact (show Tryd.prog.wantsStandIn t = false by simpa using List.all_eq_true.1 hall t hm)⟩)
    (by kernel_rfl)
#print axioms proved
end Go.Proofs.YtlbkbcafkjgckaaDoor.fnCompare

