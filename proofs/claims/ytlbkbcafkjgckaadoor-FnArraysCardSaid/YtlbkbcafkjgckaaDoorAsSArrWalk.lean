/-
  For all bytes the law FnArrays returns true: what is set is found, what is deleted is not, other keys keep their values and their order, and the next index is always free.
  Conditions: the argument is of Go's type; the package variables that the row lists hold what the program's text lays, and the card ties that to the text.
-/
import Derived.Test.YtlbkbcafkjgckaaDoorRows
import Derived.Test.YtlbkbcafkjgckaaDoorCards
import Derived.Test.YtlbkbcafkjgckaaDoorTie
import Derived.LaidMore
import Derived.LaidHandle
import Derived.Stop.Joined
import Derived.SevenTiedAt
import Derived.Stop.LaidErr
import Derived.SizedLaws
import Derived.Deep.RegionWith
import Derived.Deep.RegionHeld3
import Derived.Deep.DeepCutAuto
import Derived.BigQuiet
import Derived.Deep.QuietTactic
import Derived.WalkKit
import Derived.ProofKit
import Derived.OpenShut
import Derived.Test.YtlbkbcafkjgckaaDoorAsSArrP
import Derived.Test.YtlbkbcafkjgckaaDoorAsSSetK
import Derived.Test.YtlbkbcafkjgckaaDoorAsSGetK
import Derived.Test.YtlbkbcafkjgckaaDoorAsSDelK
import Derived.Test.YtlbkbcafkjgckaaDoorCmB2
import Derived.Test.YtlbkbcafkjgckaaDoorAsB1
import Derived.Test.YtlbkbcafkjgckaaDoorAsSValuesOf
import Derived.Test.YtlbkbcafkjgckaaDoorAsSValidN
import Derived.Test.YtlbkbcafkjgckaaDoorSoSSame
import Derived.Test.YtlbkbcafkjgckaaDoorSoB2
import Derived.Test.YtlbkbcafkjgckaaDoorAsSDrawK
import Derived.Test.YtlbkbcafkjgckaaDoorAsSEnvKey
import Derived.Test.YtlbkbcafkjgckaaDoorSoB1
namespace Go.Proofs.YtlbkbcafkjgckaaDoor.fnArrays
open Go.ChangeShapes Go.WideShapes Go.ChangeAt Go.RowKit mem tree
open Go.ChangeMaps (open_string)
set_option linter.unusedVariables false

theorem own : ownKnob Tryd.prog.godebug = none := by kernel_rfl


theorem bigNo (A : Option Addr) (n c : Nat) (h : (n : Int) ≤ 1048576) (w : World) :
    Calls Tryd.prog 12 #[.slice A n c] w fun e w' => e = .returned (.bool false) ∧ w = w' := by
  have hd : decide ((1048576 : Int) < (n : Int)) = false := by rw [decide_eq_false_iff_not]; omega
  go_enter Tryd.func12, Tryd.ntmps12
  go_wp2
  go_ret
  exact ⟨rfl, rfl⟩
def CutY (W : World) (b : Bool) (v : Value) (wx : World) : Prop := v = .bool b ∧ Below W.heap.size W wx

set_option maxHeartbeats 8000000 in
set_option maxRecDepth 100000 in
theorem walk (A0 : Option Addr) (n0 c0 : Nat) (l0 : List Int) (w : World) (hn0 : n0 ≤ maxLen) (hr0 : Rd w A0 n0 l0) (hE : prs.Env w) :
    Calls Tryd.prog 3 #[.slice A0 n0 c0] w fun e w' => e = .returned (.bool true) ∧ Below w.heap.size w w' := by
  unfold maxLen at hn0
  by_cases hbig : (1048576 : Int) < (n0 : Int)
  · go_enter Tryd.func3, Tryd.ntmps3
    go_wp2
    go_ret
    exact ⟨rfl, Below.refl _ _⟩
  have HA := Lib.hid hr0
  have HE := Lib.hid hE
  clear hr0 hE
  go_enter Tryd.func3, Tryd.ntmps3
  go_wp2_with (go_at_call 12; refine (bigNo A0 n0 c0 (by omega) _).mono ?_; rintro e w0 ⟨rfl, rfl⟩)
  refine (draw.drawSetKey A0 n0 c0 (by omega) _ (draw.code_of_rd HA.out)).mono ?_
  rintro e w1 ⟨v, vx, t, u, y, rfl, hT, hU, ht, hu, hy, hb1⟩
  have hf := hT.fits
  have hfu := hU.fits
  have hct := cnt_tot t hf
  have hcu := cnt_tot u hfu
  obtain ⟨p1, HP1⟩ : ∃ p, Hid ((lightB t && sndB t) = p) := ⟨_, Lib.hid rfl⟩
  obtain ⟨q1, HQ1⟩ : ∃ p, Hid (keyB y = p) := ⟨_, Lib.hid rfl⟩
  have hTN : TIn w1 (Nw 0 w1) t v := hT.stays (fun b hb => ⟨Nat.zero_le _, hb.2⟩) (fun _ _ _ => rfl)
  have hUN : TIn w1 (Nw 0 w1) u vx := hU.stays (fun b hb => ⟨Nat.zero_le _, hb.2⟩) (fun _ _ _ => rfl)
  have IVA : Hid (∀ w', Below w1.heap.size w1 w' → Calls Tryd.prog 14 #[v] w' (BoQ w' p1)) := Lib.hid (fun w' hb => by rw [← HP1.out]; exact isValue_n t (by omega) w' _ _ (hT.below' hb))
  have IKA : Hid (∀ w', Calls Tryd.prog 15 #[kyV y] w' (KeyQ w' q1)) := Lib.hid (fun w' => by rw [← HQ1.out]; exact isKey_n y (by omega) w')
  have SK : Hid (∀ w', Below w1.heap.size w1 w' → Calls Tryd.prog 16 #[v, kyV y, vx] w' (OutI w' (setR t y u) (setB t y))) := Lib.hid (fun w' hb => setKey_i t v y u vx w' (hTN.nwb hb) (hUN.nwb hb) ⟨hy.1, by unfold maxLen; omega⟩ (by omega) (by omega) (HE.out.stays (bs hb1 hb)))
  have SA : Hid (∀ t w' S S' v v', fits t → TIn w' S t v → TIn w' S' t v' → Calls Tryd.prog 17 #[v, v'] w' (GivesQ w' (.bool true))) := Lib.hid (fun t w' S S' v v' hf h h' => by rw [← sameB_same t hf]; exact same_l t t w' S S' v v' h h')
  have HTN := Lib.hid hTN
  have HUN := Lib.hid hUN
  have HF := Lib.hid hf
  have HFU := Lib.hid hfu
  have HB := Lib.hid (And.intro ht (And.intro hu hy.2))
  obtain ⟨k, n, s, x, ks, vs⟩ := t
  obtain ⟨ku, nu, su, xu, ksu, vsu⟩ := u
  obtain ⟨A, c, rfl, -, -⟩ := hT.out
  obtain ⟨Au, cu, rfl, -, -⟩ := hU.out
  obtain ⟨L, HL⟩ : ∃ L, Hid (vs.length = L) := ⟨_, Lib.hid rfl⟩
  obtain ⟨Lu, HLu⟩ : ∃ L, Hid (vsu.length = L) := ⟨_, Lib.hid rfl⟩
  rw [HL.out] at IVA SK HTN ⊢
  rw [HLu.out] at SK HUN ⊢
  obtain ⟨yb, yn, ys⟩ := y
  unfold kyV at IKA SK ⊢
  simp only at IKA SK ⊢
  obtain ⟨M, HM⟩ : ∃ M, Hid (w1.heap.size = M) := ⟨_, Lib.hid rfl⟩
  have HB1 := Lib.hid hb1
  clear hT hU hf hfu hct hcu hTN hUN ht hu hy hb1
  go_upto_region 4 with fail
  rw [HM.out]
  generalize hw2 : ((w1.alloc (.cells #[.int .i64 k, .int .i64 n, .string s, .int .i64 x, .slice A L c] 26)).alloc (.cells #[.bool yb, .int .i64 yn, .string ys] 28)).alloc (.cells #[.int .i64 ku, .int .i64 nu, .string su, .int .i64 xu, .slice Au Lu cu] 26) = w2
  obtain ⟨a0, a1, a2, az, hb2⟩ := draw.al3' w1 _ _ _ _ _ _ w2 hw2
  rw [HM.out] at a0 a1 a2 az
  have HX : Hid (w2.heap[M]? = some (.cells #[.int .i64 k, .int .i64 n, .string s, .int .i64 x, .slice A L c] IV (0, 0))) := Lib.hid a0
  have HY : Hid (w2.heap[M + 1]? = some (.cells #[.bool yb, .int .i64 yn, .string ys] 28 (0, 0))) := Lib.hid a1
  have HZ : Hid (w2.heap[M + 2]? = some (.cells #[.int .i64 ku, .int .i64 nu, .string su, .int .i64 xu, .slice Au Lu cu] IV (0, 0))) := Lib.hid a2
  have HBB := Lib.hid hb2
  replace HTN := Lib.hid (HTN.out.nwb hb2)
  replace HUN := Lib.hid (HUN.out.nwb hb2)
  clear a0 a1 a2 az hb2 hw2
  have x := rowc HX.out
  have x0 := x.1 0; have x1 := x.1 1; have x2 := x.1 2; have x3 := x.1 3; have x4 := x.1 4
  have y_ := rowc HY.out
  have y_0 := y_.1 0; have y_1 := y_.1 1; have y_2 := y_.1 2
  have z := rowc HZ.out
  have z0 := z.1 0; have z1 := z.1 1; have z2 := z.1 2; have z3 := z.1 3; have z4 := z.1 4
  simp at x0 x1 x2 x3 x4 y_0 y_1 y_2 z0 z1 z2 z3 z4
  clear x y_ z
  go_cut [37] (fun v wx => CutY w2 (!(p1 && (decide (k = 4) && q1))) v wx)
  case first =>
    have HB4 := Lib.hid (Below.refl w2.heap.size w2)
    go_wp2_with (fail)
    refine (IVA.out _ HBB.out).mono ?_
    rintro e w3 ⟨rfl, hb⟩
    replace HX := Lib.hid (carry hb HX.out)
    replace HY := Lib.hid (carry hb HY.out)
    replace HZ := Lib.hid (carry hb HZ.out)
    replace HTN := Lib.hid (HTN.out.nwb hb)
    replace HUN := Lib.hid (HUN.out.nwb hb)
    replace HBB := Lib.hid (bs HBB.out hb)
    replace HB4 := Lib.hid (bs HB4.out hb)
    clear hb
    clear x0 x1 x2 x3 x4 y_0 y_1 y_2 z0 z1 z2 z3 z4
    have x := rowc HX.out
    have x0 := x.1 0; have x1 := x.1 1; have x2 := x.1 2; have x3 := x.1 3; have x4 := x.1 4
    have y_ := rowc HY.out
    have y_0 := y_.1 0; have y_1 := y_.1 1; have y_2 := y_.1 2
    have z := rowc HZ.out
    have z0 := z.1 0; have z1 := z.1 1; have z2 := z.1 2; have z3 := z.1 3; have z4 := z.1 4
    simp at x0 x1 x2 x3 x4 y_0 y_1 y_2 z0 z1 z2 z3 z4
    clear x y_ z
    cases p1 with
    | false =>
      go_wp2_with (fail)
      go_meet
      exact ⟨rfl, HB4.out⟩
    | true =>
      by_cases h4 : k = 4
      · subst h4
        go_wp2_with (fail)
        refine (IKA.out _).mono ?_
        rintro e w4 ⟨rfl, hb⟩
        replace HX := Lib.hid (carry hb HX.out)
        replace HY := Lib.hid (carry hb HY.out)
        replace HZ := Lib.hid (carry hb HZ.out)
        replace HTN := Lib.hid (HTN.out.nwb hb)
        replace HUN := Lib.hid (HUN.out.nwb hb)
        replace HBB := Lib.hid (bs HBB.out hb)
        replace HB4 := Lib.hid (bs HB4.out hb)
        clear hb
        clear x0 x1 x2 x3 x4 y_0 y_1 y_2 z0 z1 z2 z3 z4
        have x := rowc HX.out
        have x0 := x.1 0; have x1 := x.1 1; have x2 := x.1 2; have x3 := x.1 3; have x4 := x.1 4
        have y_ := rowc HY.out
        have y_0 := y_.1 0; have y_1 := y_.1 1; have y_2 := y_.1 2
        have z := rowc HZ.out
        have z0 := z.1 0; have z1 := z.1 1; have z2 := z.1 2; have z3 := z.1 3; have z4 := z.1 4
        simp at x0 x1 x2 x3 x4 y_0 y_1 y_2 z0 z1 z2 z3 z4
        clear x y_ z
        cases q1 with
        | false =>
          go_wp2_with (fail)
          go_meet
          exact ⟨rfl, HB4.out⟩
        | true =>
          go_wp2_with (fail)
          go_meet
          exact ⟨rfl, HB4.out⟩
      · have hd4 : decide (k = 4) = false := decide_eq_false h4
        have hb4 : (k == 4) = false := by simpa using h4
        have hn4 : (k != 4) = true := by simpa using h4
        go_wp2_with (fail)
        go_meet
        exact ⟨by simp [hd4], HB4.out⟩
  case rest =>
    obtain ⟨rfl, hb⟩ := hcut
    replace HX := Lib.hid (carry hb HX.out)
    replace HY := Lib.hid (carry hb HY.out)
    replace HZ := Lib.hid (carry hb HZ.out)
    replace HTN := Lib.hid (HTN.out.nwb hb)
    replace HUN := Lib.hid (HUN.out.nwb hb)
    replace HBB := Lib.hid (bs HBB.out hb)
    clear hb
    clear x0 x1 x2 x3 x4 y_0 y_1 y_2 z0 z1 z2 z3 z4
    have x := rowc HX.out
    have x0 := x.1 0; have x1 := x.1 1; have x2 := x.1 2; have x3 := x.1 3; have x4 := x.1 4
    have y_ := rowc HY.out
    have y_0 := y_.1 0; have y_1 := y_.1 1; have y_2 := y_.1 2
    have z := rowc HZ.out
    have z0 := z.1 0; have z1 := z.1 1; have z2 := z.1 2; have z3 := z.1 3; have z4 := z.1 4
    simp at x0 x1 x2 x3 x4 y_0 y_1 y_2 z0 z1 z2 z3 z4
    clear x y_ z
    cases hq : (p1 && (decide (k = 4) && q1))
    case false =>
      clear hq
      go_wp2_with (fail)
      refine (SK.out _ HBB.out).mono ?_
      rintro e w5 ⟨r, par, R, rfl, hr, hR, hb⟩
      replace HX := Lib.hid (carry hb HX.out)
      replace HY := Lib.hid (carry hb HY.out)
      replace HZ := Lib.hid (carry hb HZ.out)
      replace HTN := Lib.hid (HTN.out.nwb hb)
      replace HUN := Lib.hid (HUN.out.nwb hb)
      replace HBB := Lib.hid (bs HBB.out hb)
      have HRT := Lib.hid (hr.tin)
      clear hr hR hb
      clear x0 x1 x2 x3 x4 y_0 y_1 y_2 z0 z1 z2 z3 z4
      have x := rowc HX.out
      have x0 := x.1 0; have x1 := x.1 1; have x2 := x.1 2; have x3 := x.1 3; have x4 := x.1 4
      have y_ := rowc HY.out
      have y_0 := y_.1 0; have y_1 := y_.1 1; have y_2 := y_.1 2
      have z := rowc HZ.out
      have z0 := z.1 0; have z1 := z.1 1; have z2 := z.1 2; have z3 := z.1 3; have z4 := z.1 4
      simp at x0 x1 x2 x3 x4 y_0 y_1 y_2 z0 z1 z2 z3 z4
      clear x y_ z
      obtain ⟨RT, HRE⟩ : ∃ T, Hid (setR (.mk k n s x ks vs) ⟨yb, yn, ys⟩ (.mk ku nu su xu ksu vsu) = T) := ⟨_, Lib.hid rfl⟩
      rw [HRE.out] at HRT
      obtain ⟨kr, nr, sr, xr, ksr, vsr⟩ := RT
      obtain ⟨Ar, cr, rfl, -, -⟩ := HRT.out.out
      obtain ⟨Lr, HLr⟩ : ∃ L, Hid (vsr.length = L) := ⟨_, Lib.hid rfl⟩
      rw [HLr.out] at HRT ⊢
      rw [setB_mk, show keyB ⟨yb, yn, ys⟩ = q1 from HQ1.out]
      replace HRT := Lib.hid (HRT.out.stays (S' := Nw 0 w5) (fun b hb => ⟨Nat.zero_le _, hb.2⟩) (fun _ _ _ => rfl))
      go_upto_region 6 with fail
      obtain ⟨N1, HN1_⟩ : ∃ N, Hid (w5.heap.size = N) := ⟨_, Lib.hid rfl⟩
      rw [HN1_.out]
      generalize hwn : w5.alloc (.cells #[.int .i64 kr, .int .i64 nr, .string sr, .int .i64 xr, .slice Ar Lr cr] 26) = w6
      have hb : Below w5.heap.size w5 w6 := hwn ▸ b1 _ _
      have HW : Hid (w6.heap[N1]? = some (.cells #[.int .i64 kr, .int .i64 nr, .string sr, .int .i64 xr, .slice Ar Lr cr] IV (0, 0))) := Lib.hid (by rw [← hwn, ← HN1_.out]; exact heap_alloc_new _ _)
      replace HX := Lib.hid (carry hb HX.out)
      replace HY := Lib.hid (carry hb HY.out)
      replace HZ := Lib.hid (carry hb HZ.out)
      replace HTN := Lib.hid (HTN.out.nwb hb)
      replace HUN := Lib.hid (HUN.out.nwb hb)
      replace HRT := Lib.hid (HRT.out.nwb hb)
      replace HBB := Lib.hid (bs HBB.out hb)
      clear hwn hb
      clear x0 x1 x2 x3 x4 y_0 y_1 y_2 z0 z1 z2 z3 z4
      have x := rowc HX.out
      have x0 := x.1 0; have x1 := x.1 1; have x2 := x.1 2; have x3 := x.1 3; have x4 := x.1 4
      have y_ := rowc HY.out
      have y_0 := y_.1 0; have y_1 := y_.1 1; have y_2 := y_.1 2
      have z := rowc HZ.out
      have z0 := z.1 0; have z1 := z.1 1; have z2 := z.1 2; have z3 := z.1 3; have z4 := z.1 4
      have v := rowc HW.out
      have v0 := v.1 0; have v1 := v.1 1; have v2 := v.1 2; have v3 := v.1 3; have v4 := v.1 4
      simp at x0 x1 x2 x3 x4 y_0 y_1 y_2 z0 z1 z2 z3 z4 v0 v1 v2 v3 v4
      clear x y_ z v
      by_cases h4 : k = 4
      · subst h4
        go_wp2_with (fail)
        refine (IKA.out _).mono ?_
        rintro e w7 ⟨rfl, hb⟩
        replace HX := Lib.hid (carry hb HX.out)
        replace HY := Lib.hid (carry hb HY.out)
        replace HZ := Lib.hid (carry hb HZ.out)
        replace HTN := Lib.hid (HTN.out.nwb hb)
        replace HUN := Lib.hid (HUN.out.nwb hb)
        replace HRT := Lib.hid (HRT.out.nwb hb)
        replace HW := Lib.hid (carry hb HW.out)
        replace HBB := Lib.hid (bs HBB.out hb)
        clear hb
        clear x0 x1 x2 x3 x4 y_0 y_1 y_2 z0 z1 z2 z3 z4 v0 v1 v2 v3 v4
        have x := rowc HX.out
        have x0 := x.1 0; have x1 := x.1 1; have x2 := x.1 2; have x3 := x.1 3; have x4 := x.1 4
        have y_ := rowc HY.out
        have y_0 := y_.1 0; have y_1 := y_.1 1; have y_2 := y_.1 2
        have z := rowc HZ.out
        have z0 := z.1 0; have z1 := z.1 1; have z2 := z.1 2; have z3 := z.1 3; have z4 := z.1 4
        have v := rowc HW.out
        have v0 := v.1 0; have v1 := v.1 1; have v2 := v.1 2; have v3 := v.1 3; have v4 := v.1 4
        simp at x0 x1 x2 x3 x4 y_0 y_1 y_2 z0 z1 z2 z3 z4 v0 v1 v2 v3 v4
        clear x y_ z v
        cases q1 with
        | true =>
          go_wp2_with (fail)
          go_ret
          exact ⟨rfl, bs HB1.out HBB.out⟩
        | false =>
          have HSB : Hid (setB (.mk 4 n s x ks vs) ⟨yb, yn, ys⟩ = false) := Lib.hid (by rw [setB_mk, show keyB ⟨yb, yn, ys⟩ = false from HQ1.out]; rfl)
          go_wp2_with (fail)
          have hse : setR (.mk 4 n s x ks vs) ⟨yb, yn, ys⟩ (.mk ku nu su xu ksu vsu) = .mk 4 n s x ks vs := by unfold setR; rw [HSB.out]; rfl
          rw [HRE.out] at hse
          rw [hse] at HRT
          refine (SA.out _ _ _ _ _ _ HF.out HRT.out HTN.out).mono ?_
          rintro e w8 ⟨rfl, hb⟩
          replace HBB := Lib.hid (bs HBB.out hb)
          clear hb hse
          go_wp2_with (fail)
          go_ret
          exact ⟨rfl, bs HB1.out HBB.out⟩
      · have hd4 : decide (k = 4) = false := decide_eq_false h4
        have hb4 : (k == 4) = false := by simpa using h4
        have HSB : Hid (setB (.mk k n s x ks vs) ⟨yb, yn, ys⟩ = false) := Lib.hid (by rw [setB_mk, hd4]; rfl)
        rw [hd4]
        go_wp2_with (fail)
        have hse : setR (.mk k n s x ks vs) ⟨yb, yn, ys⟩ (.mk ku nu su xu ksu vsu) = .mk k n s x ks vs := by unfold setR; rw [HSB.out]; rfl
        rw [HRE.out] at hse
        rw [hse] at HRT
        refine (SA.out _ _ _ _ _ _ HF.out HRT.out HTN.out).mono ?_
        rintro e w8 ⟨rfl, hb⟩
        replace HBB := Lib.hid (bs HBB.out hb)
        clear hb hse
        go_wp2_with (fail)
        go_ret
        exact ⟨rfl, bs HB1.out HBB.out⟩
    case true =>
      have hp : p1 = true ∧ k = 4 ∧ q1 = true := by simpa using hq
      obtain ⟨rfl, rfl, rfl⟩ := hp
      have hfl := HF.out
      rw [fits] at hfl
      have hsn := HP1.out
      rw [Bool.and_eq_true, snd_four, Bool.and_eq_true, Bool.and_eq_true, Bool.and_eq_true] at hsn
      obtain ⟨X, ks', vs', ks2, vs2, HAF⟩ := arr_set (n := n) (s := s) (y := ⟨yb, yn, ys⟩) (.mk ku nu su xu ksu vsu) hfl.1 hsn.2.2.2.2
      have HAR := Lib.hid HAF
      have HKL : Hid (ks.length = vs.length) := Lib.hid hfl.1
      have HSR : Hid (setR (.mk 4 n s x ks vs) ⟨yb, yn, ys⟩ (.mk ku nu su xu ksu vsu) = .mk 4 n s X ks' vs') := Lib.hid (by unfold setR; rw [setB_mk, show keyB ⟨yb, yn, ys⟩ = true from HQ1.out, HAF.set_]; rfl)
      have HTB : Hid (tot (.mk 4 n s X ks' vs') ≤ 5000 ∧ cnt (.mk 4 n s X ks' vs') ≤ 6000 ∧ tot (.mk 4 n s X ks2 vs2) ≤ 5000 ∧ cnt (.mk 4 n s X ks2 vs2) ≤ 6000) := Lib.hid (by
        have h1 := setT_tot (.mk 4 n s x ks vs) ⟨yb, yn, ys⟩ (.mk ku nu su xu ksu vsu) HF.out
        have h2 := setT_cnt (.mk 4 n s x ks vs) ⟨yb, yn, ys⟩ (.mk ku nu su xu ksu vsu)
        rw [HAF.set_] at h1 h2
        have h3 := cnt_tot _ HF.out
        have h4 := cnt_tot _ HFU.out
        have h5 := HB.out
        simp only at h1 h5
        have h6 := HAF.less
        have h7 := HAF.cnt2
        have h8 := HAF.tot2
        have a1 : tot (.mk 4 n s X ks' vs') = s.size + (vs'.length + tots ks' vs') := tot_mk _ _ _ _ _ _
        have a2 : tot (.mk 4 n s X ks2 vs2) = s.size + (vs2.length + tots ks2 vs2) := tot_mk _ _ _ _ _ _
        have a3 : cnt (.mk 4 n s X ks' vs') = 1 + cnts vs' := cnt_mk' _ _ _ _ _ _
        have a4 : cnt (.mk 4 n s X ks2 vs2) = 1 + cnts vs2 := cnt_mk' _ _ _ _ _ _
        omega)
      clear hfl hsn hq HAF
      go_wp2_with (fail)
      refine (SK.out _ HBB.out).mono ?_
      rintro e w5 ⟨r, par, R, rfl, hr, hR, hb⟩
      replace HX := Lib.hid (carry hb HX.out)
      replace HY := Lib.hid (carry hb HY.out)
      replace HZ := Lib.hid (carry hb HZ.out)
      replace HTN := Lib.hid (HTN.out.nwb hb)
      replace HUN := Lib.hid (HUN.out.nwb hb)
      replace HBB := Lib.hid (bs HBB.out hb)
      have HRT := Lib.hid (hr.tin)
      clear hr hR hb
      clear x0 x1 x2 x3 x4 y_0 y_1 y_2 z0 z1 z2 z3 z4
      have x := rowc HX.out
      have x0 := x.1 0; have x1 := x.1 1; have x2 := x.1 2; have x3 := x.1 3; have x4 := x.1 4
      have y_ := rowc HY.out
      have y_0 := y_.1 0; have y_1 := y_.1 1; have y_2 := y_.1 2
      have z := rowc HZ.out
      have z0 := z.1 0; have z1 := z.1 1; have z2 := z.1 2; have z3 := z.1 3; have z4 := z.1 4
      simp at x0 x1 x2 x3 x4 y_0 y_1 y_2 z0 z1 z2 z3 z4
      clear x y_ z
      rw [HSR.out] at HRT
      obtain ⟨Ar, cr, rfl, -, -⟩ := HRT.out.out
      obtain ⟨Lr, HLr⟩ : ∃ L, Hid (vs'.length = L) := ⟨_, Lib.hid rfl⟩
      rw [HLr.out] at HRT ⊢
      rw [setB_mk, show keyB ⟨yb, yn, ys⟩ = true from HQ1.out]
      replace HRT := Lib.hid (HRT.out.stays (S' := Nw 0 w5) (fun b hb => ⟨Nat.zero_le _, hb.2⟩) (fun _ _ _ => rfl))
      go_upto_region 8 with fail
      obtain ⟨N1, HN1_⟩ : ∃ N, Hid (w5.heap.size = N) := ⟨_, Lib.hid rfl⟩
      rw [HN1_.out]
      generalize hwn : w5.alloc (.cells #[.int .i64 4, .int .i64 n, .string s, .int .i64 X, .slice Ar Lr cr] 26) = w6
      have hb : Below w5.heap.size w5 w6 := hwn ▸ b1 _ _
      have HW : Hid (w6.heap[N1]? = some (.cells #[.int .i64 4, .int .i64 n, .string s, .int .i64 X, .slice Ar Lr cr] IV (0, 0))) := Lib.hid (by rw [← hwn, ← HN1_.out]; exact heap_alloc_new _ _)
      replace HX := Lib.hid (carry hb HX.out)
      replace HY := Lib.hid (carry hb HY.out)
      replace HZ := Lib.hid (carry hb HZ.out)
      replace HTN := Lib.hid (HTN.out.nwb hb)
      replace HUN := Lib.hid (HUN.out.nwb hb)
      replace HRT := Lib.hid (HRT.out.nwb hb)
      replace HBB := Lib.hid (bs HBB.out hb)
      clear hwn hb
      clear x0 x1 x2 x3 x4 y_0 y_1 y_2 z0 z1 z2 z3 z4
      have x := rowc HX.out
      have x0 := x.1 0; have x1 := x.1 1; have x2 := x.1 2; have x3 := x.1 3; have x4 := x.1 4
      have y_ := rowc HY.out
      have y_0 := y_.1 0; have y_1 := y_.1 1; have y_2 := y_.1 2
      have z := rowc HZ.out
      have z0 := z.1 0; have z1 := z.1 1; have z2 := z.1 2; have z3 := z.1 3; have z4 := z.1 4
      have v := rowc HW.out
      have v0 := v.1 0; have v1 := v.1 1; have v2 := v.1 2; have v3 := v.1 3; have v4 := v.1 4
      simp at x0 x1 x2 x3 x4 y_0 y_1 y_2 z0 z1 z2 z3 z4 v0 v1 v2 v3 v4
      clear x y_ z v
      go_wp2_with (fail)
      refine (getKey_i (.mk 4 n s X ks' vs') _ ⟨yb, yn, ys⟩ _ _ HRT.out (by have := HTB.out; omega) (by have := HTB.out; omega)).mono ?_
      rintro e w7 ⟨r2, par2, R2, rfl, hr, hR, hb⟩
      replace HX := Lib.hid (carry hb HX.out)
      replace HY := Lib.hid (carry hb HY.out)
      replace HZ := Lib.hid (carry hb HZ.out)
      replace HTN := Lib.hid (HTN.out.nwb hb)
      replace HUN := Lib.hid (HUN.out.nwb hb)
      replace HRT := Lib.hid (HRT.out.nwb hb)
      replace HW := Lib.hid (carry hb HW.out)
      replace HBB := Lib.hid (bs HBB.out hb)
      have HGT := Lib.hid (hr.tin)
      clear hr hR hb
      clear x0 x1 x2 x3 x4 y_0 y_1 y_2 z0 z1 z2 z3 z4 v0 v1 v2 v3 v4
      have x := rowc HX.out
      have x0 := x.1 0; have x1 := x.1 1; have x2 := x.1 2; have x3 := x.1 3; have x4 := x.1 4
      have y_ := rowc HY.out
      have y_0 := y_.1 0; have y_1 := y_.1 1; have y_2 := y_.1 2
      have z := rowc HZ.out
      have z0 := z.1 0; have z1 := z.1 1; have z2 := z.1 2; have z3 := z.1 3; have z4 := z.1 4
      have v := rowc HW.out
      have v0 := v.1 0; have v1 := v.1 1; have v2 := v.1 2; have v3 := v.1 3; have v4 := v.1 4
      simp at x0 x1 x2 x3 x4 y_0 y_1 y_2 z0 z1 z2 z3 z4 v0 v1 v2 v3 v4
      clear x y_ z v
      rw [HAR.out.getr] at HGT
      obtain ⟨Ag, cg, rfl, -, -⟩ := HGT.out.out
      rw [HLu.out] at HGT ⊢
      rw [HAR.out.getb]
      replace HGT := Lib.hid (HGT.out.stays (S' := Nw 0 w7) (fun b hb => ⟨Nat.zero_le _, hb.2⟩) (fun _ _ _ => rfl))
      go_upto_region 9 with fail
      obtain ⟨N2, HN2_⟩ : ∃ N, Hid (w7.heap.size = N) := ⟨_, Lib.hid rfl⟩
      rw [HN2_.out]
      generalize hwn : w7.alloc (.cells #[.int .i64 ku, .int .i64 nu, .string su, .int .i64 xu, .slice Ag Lu cg] 26) = w8
      have hb : Below w7.heap.size w7 w8 := hwn ▸ b1 _ _
      have HG : Hid (w8.heap[N2]? = some (.cells #[.int .i64 ku, .int .i64 nu, .string su, .int .i64 xu, .slice Ag Lu cg] IV (0, 0))) := Lib.hid (by rw [← hwn, ← HN2_.out]; exact heap_alloc_new _ _)
      replace HX := Lib.hid (carry hb HX.out)
      replace HY := Lib.hid (carry hb HY.out)
      replace HZ := Lib.hid (carry hb HZ.out)
      replace HTN := Lib.hid (HTN.out.nwb hb)
      replace HUN := Lib.hid (HUN.out.nwb hb)
      replace HRT := Lib.hid (HRT.out.nwb hb)
      replace HW := Lib.hid (carry hb HW.out)
      replace HGT := Lib.hid (HGT.out.nwb hb)
      replace HBB := Lib.hid (bs HBB.out hb)
      clear hwn hb
      clear x0 x1 x2 x3 x4 y_0 y_1 y_2 z0 z1 z2 z3 z4 v0 v1 v2 v3 v4
      have x := rowc HX.out
      have x0 := x.1 0; have x1 := x.1 1; have x2 := x.1 2; have x3 := x.1 3; have x4 := x.1 4
      have y_ := rowc HY.out
      have y_0 := y_.1 0; have y_1 := y_.1 1; have y_2 := y_.1 2
      have z := rowc HZ.out
      have z0 := z.1 0; have z1 := z.1 1; have z2 := z.1 2; have z3 := z.1 3; have z4 := z.1 4
      have v := rowc HW.out
      have v0 := v.1 0; have v1 := v.1 1; have v2 := v.1 2; have v3 := v.1 3; have v4 := v.1 4
      have g := rowc HG.out
      have g0 := g.1 0; have g1 := g.1 1; have g2 := g.1 2; have g3 := g.1 3; have g4 := g.1 4
      simp at x0 x1 x2 x3 x4 y_0 y_1 y_2 z0 z1 z2 z3 z4 v0 v1 v2 v3 v4 g0 g1 g2 g3 g4
      clear x y_ z v g
      go_wp2_with (fail)
      refine (deleteKey_i (.mk 4 n s X ks' vs') _ ⟨yb, yn, ys⟩ _ _ HRT.out (by have := HTB.out; omega) (by have := HTB.out; omega) (by rw [HAR.out.del]; have := HTB.out; omega) (by rw [HAR.out.del]; have := HTB.out; omega)).mono ?_
      rintro e w9 ⟨r3, par3, R3, rfl, hr, hR, hb⟩
      replace HX := Lib.hid (carry hb HX.out)
      replace HY := Lib.hid (carry hb HY.out)
      replace HZ := Lib.hid (carry hb HZ.out)
      replace HTN := Lib.hid (HTN.out.nwb hb)
      replace HUN := Lib.hid (HUN.out.nwb hb)
      replace HRT := Lib.hid (HRT.out.nwb hb)
      replace HW := Lib.hid (carry hb HW.out)
      replace HGT := Lib.hid (HGT.out.nwb hb)
      replace HG := Lib.hid (carry hb HG.out)
      replace HBB := Lib.hid (bs HBB.out hb)
      have HDT := Lib.hid (hr.tin)
      clear hr hR hb
      clear x0 x1 x2 x3 x4 y_0 y_1 y_2 z0 z1 z2 z3 z4 v0 v1 v2 v3 v4 g0 g1 g2 g3 g4
      have x := rowc HX.out
      have x0 := x.1 0; have x1 := x.1 1; have x2 := x.1 2; have x3 := x.1 3; have x4 := x.1 4
      have y_ := rowc HY.out
      have y_0 := y_.1 0; have y_1 := y_.1 1; have y_2 := y_.1 2
      have z := rowc HZ.out
      have z0 := z.1 0; have z1 := z.1 1; have z2 := z.1 2; have z3 := z.1 3; have z4 := z.1 4
      have v := rowc HW.out
      have v0 := v.1 0; have v1 := v.1 1; have v2 := v.1 2; have v3 := v.1 3; have v4 := v.1 4
      have g := rowc HG.out
      have g0 := g.1 0; have g1 := g.1 1; have g2 := g.1 2; have g3 := g.1 3; have g4 := g.1 4
      simp at x0 x1 x2 x3 x4 y_0 y_1 y_2 z0 z1 z2 z3 z4 v0 v1 v2 v3 v4 g0 g1 g2 g3 g4
      clear x y_ z v g
      rw [HAR.out.del] at HDT
      obtain ⟨Ad, cd, rfl, -, -⟩ := HDT.out.out
      obtain ⟨Ld, HLd⟩ : ∃ L, Hid (vs2.length = L) := ⟨_, Lib.hid rfl⟩
      rw [HLd.out] at HDT ⊢
      replace HDT := Lib.hid (HDT.out.stays (S' := Nw 0 w9) (fun b hb => ⟨Nat.zero_le _, hb.2⟩) (fun _ _ _ => rfl))
      go_upto_region 10 with fail
      obtain ⟨N3, HN3_⟩ : ∃ N, Hid (w9.heap.size = N) := ⟨_, Lib.hid rfl⟩
      rw [HN3_.out]
      generalize hwn : w9.alloc (.cells #[.int .i64 4, .int .i64 n, .string s, .int .i64 X, .slice Ad Ld cd] 26) = w10
      have hb : Below w9.heap.size w9 w10 := hwn ▸ b1 _ _
      have HD : Hid (w10.heap[N3]? = some (.cells #[.int .i64 4, .int .i64 n, .string s, .int .i64 X, .slice Ad Ld cd] IV (0, 0))) := Lib.hid (by rw [← hwn, ← HN3_.out]; exact heap_alloc_new _ _)
      replace HX := Lib.hid (carry hb HX.out)
      replace HY := Lib.hid (carry hb HY.out)
      replace HZ := Lib.hid (carry hb HZ.out)
      replace HTN := Lib.hid (HTN.out.nwb hb)
      replace HUN := Lib.hid (HUN.out.nwb hb)
      replace HRT := Lib.hid (HRT.out.nwb hb)
      replace HW := Lib.hid (carry hb HW.out)
      replace HGT := Lib.hid (HGT.out.nwb hb)
      replace HG := Lib.hid (carry hb HG.out)
      replace HDT := Lib.hid (HDT.out.nwb hb)
      replace HBB := Lib.hid (bs HBB.out hb)
      clear hwn hb
      clear x0 x1 x2 x3 x4 y_0 y_1 y_2 z0 z1 z2 z3 z4 v0 v1 v2 v3 v4 g0 g1 g2 g3 g4
      have x := rowc HX.out
      have x0 := x.1 0; have x1 := x.1 1; have x2 := x.1 2; have x3 := x.1 3; have x4 := x.1 4
      have y_ := rowc HY.out
      have y_0 := y_.1 0; have y_1 := y_.1 1; have y_2 := y_.1 2
      have z := rowc HZ.out
      have z0 := z.1 0; have z1 := z.1 1; have z2 := z.1 2; have z3 := z.1 3; have z4 := z.1 4
      have v := rowc HW.out
      have v0 := v.1 0; have v1 := v.1 1; have v2 := v.1 2; have v3 := v.1 3; have v4 := v.1 4
      have g := rowc HG.out
      have g0 := g.1 0; have g1 := g.1 1; have g2 := g.1 2; have g3 := g.1 3; have g4 := g.1 4
      have d := rowc HD.out
      have d0 := d.1 0; have d1 := d.1 1; have d2 := d.1 2; have d3 := d.1 3; have d4 := d.1 4
      simp at x0 x1 x2 x3 x4 y_0 y_1 y_2 z0 z1 z2 z3 z4 v0 v1 v2 v3 v4 g0 g1 g2 g3 g4 d0 d1 d2 d3 d4
      clear x y_ z v g d
      go_wp2_with (fail)
      refine (getKey_i (.mk 4 n s X ks2 vs2) _ ⟨yb, yn, ys⟩ _ _ HDT.out (by have := HTB.out; omega) (by have := HTB.out; omega)).mono ?_
      rintro e w11 ⟨r4, par4, R4, rfl, hr, hR, hb⟩
      replace HX := Lib.hid (carry hb HX.out)
      replace HY := Lib.hid (carry hb HY.out)
      replace HZ := Lib.hid (carry hb HZ.out)
      replace HTN := Lib.hid (HTN.out.nwb hb)
      replace HUN := Lib.hid (HUN.out.nwb hb)
      replace HRT := Lib.hid (HRT.out.nwb hb)
      replace HW := Lib.hid (carry hb HW.out)
      replace HGT := Lib.hid (HGT.out.nwb hb)
      replace HG := Lib.hid (carry hb HG.out)
      replace HDT := Lib.hid (HDT.out.nwb hb)
      replace HD := Lib.hid (carry hb HD.out)
      replace HBB := Lib.hid (bs HBB.out hb)
      have HNT := hr.tin
      clear hr hR hb
      clear x0 x1 x2 x3 x4 y_0 y_1 y_2 z0 z1 z2 z3 z4 v0 v1 v2 v3 v4 g0 g1 g2 g3 g4 d0 d1 d2 d3 d4
      have x := rowc HX.out
      have x0 := x.1 0; have x1 := x.1 1; have x2 := x.1 2; have x3 := x.1 3; have x4 := x.1 4
      have y_ := rowc HY.out
      have y_0 := y_.1 0; have y_1 := y_.1 1; have y_2 := y_.1 2
      have z := rowc HZ.out
      have z0 := z.1 0; have z1 := z.1 1; have z2 := z.1 2; have z3 := z.1 3; have z4 := z.1 4
      have v := rowc HW.out
      have v0 := v.1 0; have v1 := v.1 1; have v2 := v.1 2; have v3 := v.1 3; have v4 := v.1 4
      have g := rowc HG.out
      have g0 := g.1 0; have g1 := g.1 1; have g2 := g.1 2; have g3 := g.1 3; have g4 := g.1 4
      have d := rowc HD.out
      have d0 := d.1 0; have d1 := d.1 1; have d2 := d.1 2; have d3 := d.1 3; have d4 := d.1 4
      simp at x0 x1 x2 x3 x4 y_0 y_1 y_2 z0 z1 z2 z3 z4 v0 v1 v2 v3 v4 g0 g1 g2 g3 g4 d0 d1 d2 d3 d4
      clear x y_ z v g d
      obtain ⟨NT, hNT⟩ : ∃ T, getR (.mk 4 n s X ks2 vs2) ⟨yb, yn, ys⟩ = T := ⟨_, rfl⟩
      rw [hNT] at HNT
      obtain ⟨kq, nq, sq, xq, ksq, vsq⟩ := NT
      obtain ⟨Aq, cq, rfl, -, -⟩ := HNT.out
      rw [HAR.out.gone]
      clear HNT hNT
      obtain ⟨Lq, HLq⟩ : ∃ L, Hid (vsq.length = L) := ⟨_, Lib.hid rfl⟩
      rw [HLq.out]
      have hXx : decide (X < x) = false := decide_eq_false (by have := HAR.out.next; omega)
      have hXX : (X != X) = false := by simp
      go_upto_region 11 with fail
      obtain ⟨N4, HN4_⟩ : ∃ N, Hid (w11.heap.size = N) := ⟨_, Lib.hid rfl⟩
      rw [HN4_.out]
      generalize hwn : w11.alloc (.cells #[.int .i64 kq, .int .i64 nq, .string sq, .int .i64 xq, .slice Aq Lq cq] 26) = w12
      have hb : Below w11.heap.size w11 w12 := hwn ▸ b1 _ _
      replace HX := Lib.hid (carry hb HX.out)
      replace HY := Lib.hid (carry hb HY.out)
      replace HZ := Lib.hid (carry hb HZ.out)
      replace HTN := Lib.hid (HTN.out.nwb hb)
      replace HUN := Lib.hid (HUN.out.nwb hb)
      replace HRT := Lib.hid (HRT.out.nwb hb)
      replace HW := Lib.hid (carry hb HW.out)
      replace HGT := Lib.hid (HGT.out.nwb hb)
      replace HG := Lib.hid (carry hb HG.out)
      replace HDT := Lib.hid (HDT.out.nwb hb)
      replace HD := Lib.hid (carry hb HD.out)
      replace HBB := Lib.hid (bs HBB.out hb)
      clear hwn hb
      clear x0 x1 x2 x3 x4 y_0 y_1 y_2 z0 z1 z2 z3 z4 v0 v1 v2 v3 v4 g0 g1 g2 g3 g4 d0 d1 d2 d3 d4
      have x := rowc HX.out
      have x0 := x.1 0; have x1 := x.1 1; have x2 := x.1 2; have x3 := x.1 3; have x4 := x.1 4
      have y_ := rowc HY.out
      have y_0 := y_.1 0; have y_1 := y_.1 1; have y_2 := y_.1 2
      have z := rowc HZ.out
      have z0 := z.1 0; have z1 := z.1 1; have z2 := z.1 2; have z3 := z.1 3; have z4 := z.1 4
      have v := rowc HW.out
      have v0 := v.1 0; have v1 := v.1 1; have v2 := v.1 2; have v3 := v.1 3; have v4 := v.1 4
      have g := rowc HG.out
      have g0 := g.1 0; have g1 := g.1 1; have g2 := g.1 2; have g3 := g.1 3; have g4 := g.1 4
      have d := rowc HD.out
      have d0 := d.1 0; have d1 := d.1 1; have d2 := d.1 2; have d3 := d.1 3; have d4 := d.1 4
      simp at x0 x1 x2 x3 x4 y_0 y_1 y_2 z0 z1 z2 z3 z4 v0 v1 v2 v3 v4 g0 g1 g2 g3 g4 d0 d1 d2 d3 d4
      clear x y_ z v g d
      go_wp2_with (fail)
      refine (SA.out _ _ _ _ _ _ HFU.out HUN.out HGT.out).mono ?_
      rintro e w13 ⟨rfl, hb⟩
      replace HX := Lib.hid (carry hb HX.out)
      replace HY := Lib.hid (carry hb HY.out)
      replace HZ := Lib.hid (carry hb HZ.out)
      replace HTN := Lib.hid (HTN.out.nwb hb)
      replace HUN := Lib.hid (HUN.out.nwb hb)
      replace HRT := Lib.hid (HRT.out.nwb hb)
      replace HW := Lib.hid (carry hb HW.out)
      replace HGT := Lib.hid (HGT.out.nwb hb)
      replace HG := Lib.hid (carry hb HG.out)
      replace HDT := Lib.hid (HDT.out.nwb hb)
      replace HD := Lib.hid (carry hb HD.out)
      replace HBB := Lib.hid (bs HBB.out hb)
      clear hb
      clear x0 x1 x2 x3 x4 y_0 y_1 y_2 z0 z1 z2 z3 z4 v0 v1 v2 v3 v4 g0 g1 g2 g3 g4 d0 d1 d2 d3 d4
      have x := rowc HX.out
      have x0 := x.1 0; have x1 := x.1 1; have x2 := x.1 2; have x3 := x.1 3; have x4 := x.1 4
      have y_ := rowc HY.out
      have y_0 := y_.1 0; have y_1 := y_.1 1; have y_2 := y_.1 2
      have z := rowc HZ.out
      have z0 := z.1 0; have z1 := z.1 1; have z2 := z.1 2; have z3 := z.1 3; have z4 := z.1 4
      have v := rowc HW.out
      have v0 := v.1 0; have v1 := v.1 1; have v2 := v.1 2; have v3 := v.1 3; have v4 := v.1 4
      have g := rowc HG.out
      have g0 := g.1 0; have g1 := g.1 1; have g2 := g.1 2; have g3 := g.1 3; have g4 := g.1 4
      have d := rowc HD.out
      have d0 := d.1 0; have d1 := d.1 1; have d2 := d.1 2; have d3 := d.1 3; have d4 := d.1 4
      simp at x0 x1 x2 x3 x4 y_0 y_1 y_2 z0 z1 z2 z3 z4 v0 v1 v2 v3 v4 g0 g1 g2 g3 g4 d0 d1 d2 d3 d4
      clear x y_ z v g d
      go_wp2_with (fail)
      refine (findKey_i (.mk 4 n s X ks' vs') _ ⟨false, X, ⟨#[]⟩⟩ _ _ HRT.out).mono ?_
      rintro e w14 ⟨rfl, hb⟩
      replace HX := Lib.hid (carry hb HX.out)
      replace HY := Lib.hid (carry hb HY.out)
      replace HZ := Lib.hid (carry hb HZ.out)
      replace HTN := Lib.hid (HTN.out.nwb hb)
      replace HUN := Lib.hid (HUN.out.nwb hb)
      replace HRT := Lib.hid (HRT.out.nwb hb)
      replace HW := Lib.hid (carry hb HW.out)
      replace HGT := Lib.hid (HGT.out.nwb hb)
      replace HG := Lib.hid (carry hb HG.out)
      replace HDT := Lib.hid (HDT.out.nwb hb)
      replace HD := Lib.hid (carry hb HD.out)
      replace HBB := Lib.hid (bs HBB.out hb)
      clear hb
      clear x0 x1 x2 x3 x4 y_0 y_1 y_2 z0 z1 z2 z3 z4 v0 v1 v2 v3 v4 g0 g1 g2 g3 g4 d0 d1 d2 d3 d4
      have x := rowc HX.out
      have x0 := x.1 0; have x1 := x.1 1; have x2 := x.1 2; have x3 := x.1 3; have x4 := x.1 4
      have y_ := rowc HY.out
      have y_0 := y_.1 0; have y_1 := y_.1 1; have y_2 := y_.1 2
      have z := rowc HZ.out
      have z0 := z.1 0; have z1 := z.1 1; have z2 := z.1 2; have z3 := z.1 3; have z4 := z.1 4
      have v := rowc HW.out
      have v0 := v.1 0; have v1 := v.1 1; have v2 := v.1 2; have v3 := v.1 3; have v4 := v.1 4
      have g := rowc HG.out
      have g0 := g.1 0; have g1 := g.1 1; have g2 := g.1 2; have g3 := g.1 3; have g4 := g.1 4
      have d := rowc HD.out
      have d0 := d.1 0; have d1 := d.1 1; have d2 := d.1 2; have d3 := d.1 3; have d4 := d.1 4
      simp at x0 x1 x2 x3 x4 y_0 y_1 y_2 z0 z1 z2 z3 z4 v0 v1 v2 v3 v4 g0 g1 g2 g3 g4 d0 d1 d2 d3 d4
      clear x y_ z v g d
      rw [HAR.out.free]
      go_wp2_with (fail)
      obtain ⟨W0, HW0⟩ : ∃ W, Hid (w14 = W) := ⟨_, Lib.hid rfl⟩
      obtain ⟨Q0, HQ0⟩ : ∃ Q, Hid (W0.heap.size = Q) := ⟨_, Lib.hid rfl⟩
      have HB0 : Hid (Below Q0 W0 w14) := Lib.hid (by rw [HW0.out, ← HQ0.out]; exact Below.refl _ _)
      rw [HW0.out] at HX HY HZ HW HG HD HTN HUN HRT HGT HDT HBB
      clear x0 x1 x2 x3 x4 y_0 y_1 y_2 z0 z1 z2 z3 z4 v0 v1 v2 v3 v4 g0 g1 g2 g3 g4 d0 d1 d2 d3 d4
      have XV : Hid (∀ w', Below Q0 W0 w' → w'.heap[M]? = some (.cells #[.int .i64 4, .int .i64 n, .string s, .int .i64 x, .slice A L c] IV (0, 0))) := Lib.hid (fun w' hb => carry (HQ0.out ▸ hb) HX.out)
      have XK : Hid (∀ w', Below Q0 W0 w' → w'.heap[M + 1]? = some (.cells #[.bool yb, .int .i64 yn, .string ys] 28 (0, 0))) := Lib.hid (fun w' hb => carry (HQ0.out ▸ hb) HY.out)
      have XW : Hid (∀ w', Below Q0 W0 w' → w'.heap[N1]? = some (.cells #[.int .i64 4, .int .i64 n, .string s, .int .i64 X, .slice Ar Lr cr] IV (0, 0))) := Lib.hid (fun w' hb => carry (HQ0.out ▸ hb) HW.out)
      have XD : Hid (∀ w', Below Q0 W0 w' → w'.heap[N3]? = some (.cells #[.int .i64 4, .int .i64 n, .string s, .int .i64 X, .slice Ad Ld cd] IV (0, 0))) := Lib.hid (fun w' hb => carry (HQ0.out ▸ hb) HD.out)
      have IV1 : Hid (∀ w', Below Q0 W0 w' → ∀ (i : Nat) (z : Ky), ks[i]? = some z → ∃ (a : Addr) (k n : Int) (s : ByteArray) (x : Int) (A1 : Option Addr) (l d : Nat) (t : Tr), A = some a ∧ i < L ∧ vs[i]? = some t ∧ TIn w' (fun b => Plain W0 b) t (vV k n s x A1 l d) ∧ At8 w' (a.add (i * 8)) z k n s x A1 l d) := Lib.hid (fun w' hb i z hz => by
        obtain ⟨A9, c9, e9, -, hin⟩ := HTN.out.out
        obtain ⟨rfl, -, rfl⟩ : A = A9 ∧ L = vs.length ∧ c = c9 := by simpa using e9
        have hil : i < vs.length := by have := (List.getElem?_eq_some_iff.1 hz).1; have := HKL.out; omega
        obtain ⟨a, y1, k1, n1, s1, x1, ks1, vs1, A1, c1, ha, hS, hky, hvs, ht, -, -, -, hcell⟩ := (hin.below (HQ0.out ▸ hb)).item hil
        rw [hz] at hky
        obtain rfl := Option.some.inj hky
        exact ⟨a, k1, n1, s1, x1, A1, _, c1, _, ha, by rw [← HL.out]; exact hil, hvs, ht.stays (fun b hb => hb.2) (fun _ _ _ => rfl), hcell⟩)
      have IW1 : Hid (∀ w', Below Q0 W0 w' → ∀ (i : Nat), i < Lr → ∃ (a : Addr) (z : Ky) (k n : Int) (s : ByteArray) (x : Int) (A1 : Option Addr) (l d : Nat) (t : Tr), Ar = some a ∧ ks'[i]? = some z ∧ vs'[i]? = some t ∧ TIn w' (fun b => Plain W0 b) t (vV k n s x A1 l d) ∧ At8 w' (a.add (i * 8)) z k n s x A1 l d) := Lib.hid (fun w' hb i hi => by
        obtain ⟨A9, c9, e9, -, hin⟩ := HRT.out.out
        obtain ⟨rfl, -, rfl⟩ : Ar = A9 ∧ Lr = vs'.length ∧ cr = c9 := by simpa using e9
        obtain ⟨a, y1, k1, n1, s1, x1, ks1, vs1, A1, c1, ha, hS, hky, hvs, ht, -, -, -, hcell⟩ := (hin.below (HQ0.out ▸ hb)).item (show i < vs'.length by rw [HLr.out]; exact hi)
        exact ⟨a, y1, k1, n1, s1, x1, A1, _, c1, _, ha, hky, hvs, ht.stays (fun b hb => hb.2) (fun _ _ _ => rfl), hcell⟩)
      have KO : Hid (∀ w', Below Q0 W0 w' → Calls Tryd.prog 21 #[vV 4 n s X Ar Lr cr] w' (KsQ w' ks')) := Lib.hid (fun w' hb => by
        have := keysOf_i (.mk 4 n s X ks' vs') (vV 4 n s X Ar Lr cr) w' _ (HRT.out.below' (HQ0.out ▸ hb)) (by have := HTB.out; omega)
        rwa [show keysT (.mk 4 n s X ks' vs') = ks' by simp [keysT]] at this)
      have VO : Hid (∀ w', Below Q0 W0 w' → Calls Tryd.prog 22 #[vV 4 n s X Ad Ld cd] w' (VoQ w' vs2)) := Lib.hid (fun w' hb => by
        have := valuesOf_i (.mk 4 n s X ks2 vs2) (vV 4 n s X Ad Ld cd) w' (HDT.out.nwb (HQ0.out ▸ hb)) (by have := HTB.out; omega) (by have := HTB.out; omega)
        rwa [show valuesT (.mk 4 n s X ks2 vs2) = vs2 by simp [valuesT]] at this)
      have HFB : Hid (∀ w', Below Q0 W0 w' → Below w.heap.size w w') := Lib.hid (fun w' hb => bs HB1.out (bs HBB.out (HQ0.out ▸ hb)))
      have HFI : Hid (∀ (i : Nat) (t : Tr), vs[i]? = some t → fits t) := Lib.hid (fun i t ht => by have h := HF.out; rw [fits] at h; exact cmp_ident.fits_mem h.2 ht)
      have HLN : Hid (ks'.length = Lr) := Lib.hid (by rw [HAR.out.len, HLr.out])
      have HLK : Hid (ks.length = L) := Lib.hid (by rw [HKL.out, HL.out])
      have HLE : Hid (Ld + 1 = Lr) := Lib.hid (by rw [← HLr.out, ← HLd.out]; exact HAR.out.less)
      have hLr : Lr ≤ 6000 := by have h := HTB.out; have h2 := cnts_len vs'; rw [cnt_mk'] at h; rw [← HLr.out]; omega
      have hL : L ≤ 6000 := by have h := HB.out.1; rw [tot_mk] at h; rw [← HL.out]; omega
      clear HX HY HZ HW HG HD HTN HUN HRT HGT HDT HBB SK IVA IKA
      go_loopg [15, 16] (Lr + 1) (fun gk nn ii wr => ∃ (i m : Nat), nn = .int .i64 m ∧ ii = .int .i64 i ∧ gk + i = Lr + 1 ∧ i ≤ Lr ∧ m ≤ i ∧ Hid (m = i ∨ (m + 1 = i ∧ (ks[m]? = some ⟨yb, yn, ys⟩ ∨ m = ks.length))) ∧ Hid (Below Q0 W0 wr))
      case atStart => exact ⟨0, 0, rfl, rfl, by omega, by omega, by omega, Lib.hid (.inl rfl), HB0⟩
      case round =>
        clear HB0
        obtain ⟨i, m, rfl, rfl, hgi, hiL, hmi, HI, HBR⟩ := hrel
        have XKR := rowc (XK.out _ HBR.out)
        have XWR := rowc (XW.out _ HBR.out)
        have XVR := rowc (XV.out _ HBR.out)
        have e0 := XKR.1 0; have e1 := XKR.1 1; have e2 := XKR.1 2
        have f4 := XWR.1 4
        have g4 := XVR.1 4
        simp at e0 e1 e2 f4 g4
        clear XKR XWR XVR
        by_cases hlt : i < Lr
        · obtain ⟨a, z, k1, n1, s1, x1, A1, l1, d1, t1, rfl, hz, hv1, ht1, hc1⟩ := IW1.out wr HBR.out i hlt
          obtain ⟨zb, zn, zs⟩ := z
          have EQ := fun w => ky_eql w ⟨zb, zn, zs⟩ ⟨yb, yn, ys⟩
          unfold kyV at EQ
          simp only at EQ
          have HZK := Lib.hid hz
          have HWR : Hid (∀ w', Below wr.heap.size wr w' → Below Q0 W0 w') := Lib.hid (fun w' hb => HBR.out.trans (hb.mono (by have := HBR.out.size; have := HQ0.out; omega)))
          obtain ⟨p0, p1, p2, p3, p4, p5, p6, p7⟩ := hc1
          simp only at p0 p1 p2
          clear ht1 hv1 hz
          go_upto_region 17 with fail
          by_cases hzy : (⟨zb, zn, zs⟩ : Ky) = ⟨yb, yn, ys⟩
          · have HN2 : Hid (m + 1 = i + 1 ∧ (ks[m]? = some ⟨yb, yn, ys⟩ ∨ m = ks.length)) := Lib.hid (by
              have hk' := HZK.out
              rw [hzy] at hk'
              have hh := HAR.out.here i hk'
              rcases HI.out with rfl | ⟨e, h | h⟩
              · exact ⟨rfl, hh.imp id (fun h => h.1)⟩
              · have := HAR.out.uniq m i (HAR.out.stay m h) hk'; omega
              · have := HAR.out.more; have := HLN.out; omega)
            rw [show decide ((⟨zb, zn, zs⟩ : Ky) = ⟨yb, yn, ys⟩) = true from decide_eq_true hzy] at EQ
            clear hzy
            go_cut [135] (fun v wx => CutY wr true v wx)
            case first =>
              go_quiet ((fail))
              all_goals
                go_wp2_with (fail)
                go_meet
                exact ⟨rfl, ⟨rfl, rfl, rfl, Nat.le_refl _, fun _ _ => rfl⟩⟩
            case rest =>
              obtain ⟨rfl, hbc⟩ := hcut
              have HBC := Lib.hid (HWR.out _ hbc)
              clear hbc HWR HBR e0 e1 e2 f4 g4 p0 p1 p2 p3 p4 p5 p6 p7 EQ
              go_wp2_with (fail)
              go_roundg (Lr - i)
              case rel => exact ⟨i + 1, m, rfl, by go_num, by omega, by omega, by omega, Lib.hid (.inr HN2.out), HBC⟩
              case measure => omega
          · obtain ⟨hkz, t0, hvt, hvt'⟩ := HAR.out.other i _ HZK.out hzy
            have hiK : i < L := by rw [← HLK.out]; exact (List.getElem?_eq_some_iff.1 hkz).1
            have HKZ := Lib.hid hkz
            have HVT := Lib.hid hvt
            have HVT' := Lib.hid hvt'
            have HZY := Lib.hid hzy
            have HI2 : Hid (m = i ∨ (m + 1 = i ∧ ks[m]? = some ⟨yb, yn, ys⟩)) := Lib.hid (by
              rcases HI.out with h | ⟨e, h | h⟩
              · exact .inl h
              · exact .inr ⟨e, h⟩
              · have := HAR.out.more; have := HLN.out; omega)
            rw [show decide ((⟨zb, zn, zs⟩ : Ky) = ⟨yb, yn, ys⟩) = false from decide_eq_false hzy] at EQ
            clear hkz hvt hvt' hzy HI
            go_cut [135] (fun v wx => CutY wr false v wx)
            case first =>
              go_quiet ((fail))
              all_goals
                go_wp2_with (fail)
                go_meet
                exact ⟨rfl, ⟨rfl, rfl, rfl, Nat.le_refl _, fun _ _ => rfl⟩⟩
            case rest =>
              obtain ⟨rfl, hbc⟩ := hcut
              have HBC := Lib.hid (HWR.out _ hbc)
              clear hbc HWR HBR e0 e1 e2 f4 g4 p0 p1 p2 p3 p4 p5 p6 p7 EQ
              go_wp2_with (fail)
              go_loopg [15] (i + 1 - m) (fun gk2 nn wr2 => ∃ m2 : Nat, nn = .int .i64 m2 ∧ m2 ≤ i ∧ i ≤ m2 + 1 ∧ gk2 + m2 = i + 1 ∧ Hid (m2 = i ∨ (m2 + 1 = i ∧ ks[m2]? = some ⟨yb, yn, ys⟩)) ∧ Hid (Below Q0 W0 wr2))
              case atStart => exact ⟨m, rfl, hmi, by have := HI2.out; omega, by omega, HI2, HBC⟩
              case round =>
                clear HBC HI2
                obtain ⟨m2, rfl, hm2, him, hgm, HI3, HBR⟩ := hrel
                have XKR := rowc (XK.out _ HBR.out)
                have XVR := rowc (XV.out _ HBR.out)
                have e0 := XKR.1 0; have e1 := XKR.1 1; have e2 := XKR.1 2
                have g4 := XVR.1 4
                simp at e0 e1 e2 g4
                clear XKR XVR
                have HWR : Hid (∀ w', Below wr.heap.size wr w' → Below Q0 W0 w') := Lib.hid (fun w' hb => HBR.out.trans (hb.mono (by have := HBR.out.size; have := HQ0.out; omega)))
                rcases HI3.out with hmi2 | ⟨hm1, hky⟩
                · obtain rfl : i = m2 := hmi2.symm
                  obtain ⟨av, k2, n2, s2, x2, A2, l2, d2, t2, rfl, -, -, -, p0, p1, p2, p3, p4, p5, p6, p7⟩ := IV1.out wr HBR.out i _ HKZ.out
                  simp only at p0 p1 p2
                  have EQ := fun w => ky_eql w ⟨zb, zn, zs⟩ ⟨yb, yn, ys⟩
                  unfold kyV at EQ
                  simp only at EQ
                  rw [show decide ((⟨zb, zn, zs⟩ : Ky) = ⟨yb, yn, ys⟩) = false from decide_eq_false HZY.out] at EQ
                  have hd : decide ((i : Int) < (L : Int)) = true := decide_eq_true (by omega)
                  go_upto_region 18 with fail
                  go_cut [150] (fun v wx => CutY wr false v wx)
                  case first =>
                    go_quiet ((fail))
                    all_goals
                      go_wp2_with (fail)
                      go_meet
                      exact ⟨rfl, ⟨rfl, rfl, rfl, Nat.le_refl _, fun _ _ => rfl⟩⟩
                  case rest =>
                    obtain ⟨rfl, hbc⟩ := hcut
                    have HBC := Lib.hid (HWR.out _ hbc)
                    clear hbc HWR HBR e0 e1 e2 g4 p0 p1 p2 p3 p4 p5 p6 p7 EQ hd HI3
                    go_upto_region 20 with fail
                    have XVR := rowc (XV.out _ HBC.out)
                    have XWR := rowc (XW.out _ HBC.out)
                    have g4 := XVR.1 4
                    have f4 := XWR.1 4
                    simp at g4 f4
                    clear XVR XWR
                    obtain ⟨av', k2, n2, s2, x2, A2, l2, d2, t2, ea, -, hv2, ht2, p0, p1, p2, p3, p4, p5, p6, p7⟩ := IV1.out wc HBC.out i _ HKZ.out
                    obtain ea' := Option.some.inj ea; subst ea'
                    obtain ⟨a', z3, k3, n3, s3, x3, A3, l3, d3, t3, eb, hz3, hv3, ht3, q0, q1, q2, q3, q4, q5, q6, q7⟩ := IW1.out wc HBC.out i hlt
                    obtain eb' := Option.some.inj eb; subst eb'
                    rw [HZK.out] at hz3
                    obtain rfl := Option.some.inj hz3
                    rw [HVT.out] at hv2
                    obtain rfl := Option.some.inj hv2
                    rw [HVT'.out] at hv3
                    obtain rfl := Option.some.inj hv3
                    simp only at p0 p1 p2 q0 q1 q2
                    have SB : Hid (∀ w', Below wc.heap.size wc w' → Calls Tryd.prog 17 #[vV k2 n2 s2 x2 A2 l2 d2, vV k3 n3 s3 x3 A3 l3 d3] w' (GivesQ w' (.bool true))) := Lib.hid (fun w' hb => SA.out t0 w' _ _ _ _ (HFI.out i t0 HVT.out) (ht2.below' hb) (ht3.below' hb))
                    have NE := fun w => ky_neq w ⟨zb, zn, zs⟩ ⟨zb, zn, zs⟩
                    unfold kyV at NE
                    simp only [decide_true, Bool.not_true] at NE
                    have hd : decide ((i : Int) ≥ (L : Int)) = false := decide_eq_false (by omega)
                    have hd2 : decide ((L : Int) ≤ (i : Int)) = false := decide_eq_false (by omega)
                    have hd3 : decide (L ≤ i) = false := decide_eq_false (by omega)
                    have HWC : Hid (∀ w', Below wc.heap.size wc w' → Below Q0 W0 w') := Lib.hid (fun w' hb => HBC.out.trans (hb.mono (by have := HBC.out.size; have := HQ0.out; omega)))
                    clear ht2 ht3 ea eb
                    go_cut [188] (fun v wx => CutY wc false v wx)
                    case first =>
                      go_region_held3 (fun w' => w'.cell? ⟨M, 4, none⟩ = some (.slice (some av) L c) ∧ w'.cell? ⟨N1, 4, none⟩ = some (.slice (some a) Lr cr) ∧ w'.cell? (av.add (i * 8)) = some (.bool zb) ∧ w'.cell? ⟨(av.add (i * 8)).block, (av.add (i * 8)).off + 1, none⟩ = some (.int .i64 zn) ∧ w'.cell? ⟨(av.add (i * 8)).block, (av.add (i * 8)).off + 2, none⟩ = some (.string zs) ∧ w'.cell? ⟨(av.add (i * 8)).block, (av.add (i * 8)).off + 3, none⟩ = some (.int .i64 k2) ∧ w'.cell? ⟨(av.add (i * 8)).block, (av.add (i * 8)).off + 4, none⟩ = some (.int .i64 n2) ∧ w'.cell? ⟨(av.add (i * 8)).block, (av.add (i * 8)).off + 5, none⟩ = some (.string s2) ∧ w'.cell? ⟨(av.add (i * 8)).block, (av.add (i * 8)).off + 6, none⟩ = some (.int .i64 x2) ∧ w'.cell? ⟨(av.add (i * 8)).block, (av.add (i * 8)).off + 7, none⟩ = some (.slice A2 l2 d2) ∧ w'.cell? (a.add (i * 8)) = some (.bool zb) ∧ w'.cell? ⟨(a.add (i * 8)).block, (a.add (i * 8)).off + 1, none⟩ = some (.int .i64 zn) ∧ w'.cell? ⟨(a.add (i * 8)).block, (a.add (i * 8)).off + 2, none⟩ = some (.string zs) ∧ w'.cell? ⟨(a.add (i * 8)).block, (a.add (i * 8)).off + 3, none⟩ = some (.int .i64 k3) ∧ w'.cell? ⟨(a.add (i * 8)).block, (a.add (i * 8)).off + 4, none⟩ = some (.int .i64 n3) ∧ w'.cell? ⟨(a.add (i * 8)).block, (a.add (i * 8)).off + 5, none⟩ = some (.string s3) ∧ w'.cell? ⟨(a.add (i * 8)).block, (a.add (i * 8)).off + 6, none⟩ = some (.int .i64 x3) ∧ w'.cell? ⟨(a.add (i * 8)).block, (a.add (i * 8)).off + 7, none⟩ = some (.slice A3 l3 d3)) (go_keep) ((go_at_call 17; refine (SB.out _ ?_).mono ?_; exact ((Below.refl wc.heap.size wc).drew); rintro e w9 ⟨rfl, hb9⟩; have HBZ := Lib.hid (bs ((Below.refl wc.heap.size wc).drew) hb9); have kp : ∀ (p : Addr) (u : Value), wc.cell? p = some u → w9.cell? p = some u := fun p u h => cell_stays (fun hlt => HBZ.out.block _ hlt) h; have g4 := kp _ _ g4; have f4 := kp _ _ f4; have p0 := kp _ _ p0; have p1 := kp _ _ p1; have p2 := kp _ _ p2; have p3 := kp _ _ p3; have p4 := kp _ _ p4; have p5 := kp _ _ p5; have p6 := kp _ _ p6; have p7 := kp _ _ p7; have q0 := kp _ _ q0; have q1 := kp _ _ q1; have q2 := kp _ _ q2; have q3 := kp _ _ q3; have q4 := kp _ _ q4; have q5 := kp _ _ q5; have q6 := kp _ _ q6; have q7 := kp _ _ q7; clear hb9 kp))
                      all_goals
                        go_wp2_with (fail)
                        go_meet
                        exact ⟨rfl, HBZ.out⟩
                    case rest =>
                      obtain ⟨rfl, hbd⟩ := hcut
                      have HBD := Lib.hid (HWC.out _ hbd)
                      clear hbd HWC HBC g4 f4 p0 p1 p2 p3 p4 p5 p6 p7 q0 q1 q2 q3 q4 q5 q6 q7 NE hd hd2 hd3 SB
                      go_wp2_with (fail)
                      go_roundg (Lr - i)
                      case rel => exact ⟨i + 1, i + 1, by go_num, by go_num, by omega, by omega, by omega, Lib.hid (.inl rfl), HBD⟩
                      case measure => omega
                · obtain ⟨av, k2, n2, s2, x2, A2, l2, d2, t2, rfl, hmL, -, -, p0, p1, p2, p3, p4, p5, p6, p7⟩ := IV1.out wr HBR.out m2 _ hky
                  simp only at p0 p1 p2
                  have EQ := fun w => ky_eql w ⟨yb, yn, ys⟩ ⟨yb, yn, ys⟩
                  unfold kyV at EQ
                  simp only [decide_true] at EQ
                  have hd : decide ((m2 : Int) < (L : Int)) = true := decide_eq_true (by omega)
                  go_upto_region 18 with fail
                  go_cut [150] (fun v wx => CutY wr true v wx)
                  case first =>
                    go_quiet ((fail))
                    all_goals
                      go_wp2_with (fail)
                      go_meet
                      exact ⟨rfl, ⟨rfl, rfl, rfl, Nat.le_refl _, fun _ _ => rfl⟩⟩
                  case rest =>
                    obtain ⟨rfl, hbc⟩ := hcut
                    have HBC := Lib.hid (HWR.out _ hbc)
                    clear hbc HWR HBR e0 e1 e2 g4 p0 p1 p2 p3 p4 p5 p6 p7 EQ hd HI3 hky
                    go_wp2_with (fail)
                    go_roundg (i - m2)
                    case rel => exact ⟨m2 + 1, by go_num, by omega, by omega, by omega, Lib.hid (.inl hm1), HBC⟩
                    case measure => omega
        · obtain rfl : i = Lr := by omega
          have XDR := rowc (XD.out _ HBR.out)
          have d0 := XDR.1 0; have d1 := XDR.1 1; have d2 := XDR.1 2; have d3 := XDR.1 3; have d4 := XDR.1 4
          have XWR := rowc (XW.out _ HBR.out)
          have f0 := XWR.1 0; have f1 := XWR.1 1; have f2 := XWR.1 2; have f3 := XWR.1 3
          simp at d0 d1 d2 d3 d4 f0 f1 f2 f3
          clear XDR XWR e0 e1 e2 g4
          have hLd : (i : Int) - 1 = (Ld : Int) := by have := HLE.out; omega
          have hLw : IntKind.i64.wrap (Ld : Int) = (Ld : Int) := by rw [IntKind.wrap_i64]; omega
          have hLb : ((Ld : Int) == (Ld : Int)) = true := by simp
          unfold vV at KO VO
          go_upto_region 23 with fail
          go_region_held3 (fun w' => w'.cell? ⟨N1, 0, none⟩ = some (.int .i64 4) ∧ w'.cell? ⟨N1, 1, none⟩ = some (.int .i64 n) ∧ w'.cell? ⟨N1, 2, none⟩ = some (.string s) ∧ w'.cell? ⟨N1, 3, none⟩ = some (.int .i64 X) ∧ w'.cell? ⟨N1, 4, none⟩ = some (.slice Ar i cr) ∧ w'.cell? ⟨N3, 0, none⟩ = some (.int .i64 4) ∧ w'.cell? ⟨N3, 1, none⟩ = some (.int .i64 n) ∧ w'.cell? ⟨N3, 2, none⟩ = some (.string s) ∧ w'.cell? ⟨N3, 3, none⟩ = some (.int .i64 X) ∧ w'.cell? ⟨N3, 4, none⟩ = some (.slice Ad Ld cd)) (go_keep) (first
            | (go_at_call 21; refine (KO.out _ ?_).mono ?_; (first | exact HBR.out | exact HBR.out.drew); rintro e w20 ⟨kv, rfl, hkr, hb9⟩
               obtain ⟨Ak, ck, rfl, -, -⟩ := hkr.out
               rw [HLN.out]
               have HBK : Hid (Below Q0 W0 w20) := Lib.hid (by first | exact HBR.out.trans (hb9.mono (by have := HBR.out.size; have := HQ0.out; omega)) | exact (show Below Q0 W0 wr.drew from HBR.out.drew).trans (hb9.mono (by have := HBR.out.size; have := HQ0.out; show Q0 ≤ wr.heap.size; omega)))
               have kp : ∀ (p : Addr) (u : Value), wr.cell? p = some u → w20.cell? p = some u := fun p u h => cell_stays (fun hlt => hb9.block _ hlt) h
               have f0 := kp _ _ f0; have f1 := kp _ _ f1; have f2 := kp _ _ f2; have f3 := kp _ _ f3; have f4 := kp _ _ f4; have d0 := kp _ _ d0; have d1 := kp _ _ d1; have d2 := kp _ _ d2; have d3 := kp _ _ d3; have d4 := kp _ _ d4
               clear hkr hb9 kp)
            | (go_at_call 22; refine (VO.out _ ?_).mono ?_; (first | exact HBK.out | exact HBK.out.drew); rintro e w21 ⟨vv, par5, h5, hi5, rfl, hvr, -, hb9⟩
               obtain ⟨Av, cv, rfl, -⟩ := hvr.out
               rw [HLd.out]
               have HBJ : Hid (Below Q0 W0 w21) := Lib.hid (by first | exact HBK.out.trans (hb9.mono (by have := HBK.out.size; have := HQ0.out; omega)) | exact (show Below Q0 W0 w20.drew from HBK.out.drew).trans (hb9.mono (by have := HBK.out.size; have := HQ0.out; show Q0 ≤ w20.heap.size; omega)))
               have kp : ∀ (p : Addr) (u : Value), w20.cell? p = some u → w21.cell? p = some u := fun p u h => cell_stays (fun hlt => hb9.block _ hlt) h
               have f0 := kp _ _ f0; have f1 := kp _ _ f1; have f2 := kp _ _ f2; have f3 := kp _ _ f3; have f4 := kp _ _ f4; have d0 := kp _ _ d0; have d1 := kp _ _ d1; have d2 := kp _ _ d2; have d3 := kp _ _ d3; have d4 := kp _ _ d4
               clear hvr hb9 kp))
          all_goals
            go_wp2_with (fail)
            go_ret
            exact ⟨rfl, by first | exact HFB.out _ HBJ.out | exact HFB.out _ HBJ.out.drew⟩


end Go.Proofs.YtlbkbcafkjgckaaDoor.fnArrays

