/-
  For all bytes the law FnDigests returns true: digests are below the modulus, follow each value, have eight digits, and agree among each other; the bytes read as before.
  Conditions: the argument is of Go's type; the package variables that the row lists hold what the program's text lays, and the card ties that to the text.
-/
import Derived.Test.YtealjeigpngkiaaDoorRows
import Derived.Test.YtealjeigpngkiaaDoorCards
import Derived.Test.YtealjeigpngkiaaDoorTie
import Derived.LaidMore
import Derived.LaidHandle
import Derived.Stop.Joined
import Derived.SevenTiedAt
import Derived.Stop.LaidErr
import Derived.SizedLaws
import Derived.WalkKit
import Derived.ProofKit
import Derived.OpenShut
import Derived.Test.YtealjeigpngkiaaDoorHashText
import Derived.Test.YtealjeigpngkiaaDoorHexText
import Derived.Test.YtealjeigpngkiaaDoorEnvHex
import Derived.Test.YtealjeigpngkiaaDoorDrawDig
import Derived.Test.YtealjeigpngkiaaDoorOpen
namespace Go.Proofs.YtealjeigpngkiaaDoor.fnDigests
open Go.ChangeShapes Go.WideShapes Go.ChangeAt Go.RowKit mem imem
open Go.ChangeMaps (open_string)
set_option linter.unusedVariables false

theorem own : ownKnob Tryd.prog.godebug = none := by kernel_rfl

theorem bigNo (A : Option Addr) (n c : Nat) (h : (n : Int) ≤ 1048576) (w : World) :
    Calls Tryd.prog 5 #[.slice A n c] w fun e w' => e = .returned (.bool false) ∧ w = w' := by
  have hd : decide ((1048576 : Int) < (n : Int)) = false := by rw [decide_eq_false_iff_not]; omega
  go_enter Tryd.func5, Tryd.ntmps5
  go_wp2
  go_ret
  exact ⟨rfl, rfl⟩

set_option maxHeartbeats 4000000 in
set_option maxRecDepth 100000 in
theorem walk (A0 : Option Addr) (n0 c0 : Nat) (l0 : List Int) (w : World) (hn0 : n0 ≤ maxLen) (hr0 : Rd w A0 n0 l0) (hT : hfm.Tab w) :
    Calls Tryd.prog 3 #[.slice A0 n0 c0] w fun e w' => e = .returned (.bool true) ∧ Below w.heap.size w w' := by
  unfold maxLen at hn0
  by_cases hbig : (1048576 : Int) < (n0 : Int)
  · go_enter Tryd.func3, Tryd.ntmps3
    go_wp2
    go_ret
    exact ⟨rfl, Below.refl _ _⟩
  obtain ⟨i0, hi, hz0, hz1, hz2⟩ := info_parts i64row
  have HA := Lib.hid hr0; have HT := Lib.hid hT; clear hr0 hT
  go_enter Tryd.func3, Tryd.ntmps3
  go_wp2_with (go_at_call 5; refine (bigNo A0 n0 c0 (by omega) _).mono ?_; rintro e w0 ⟨rfl, rfl⟩)
  refine (draw.drawHash A0 n0 c0 (by omega) _ (draw.code_of_rd HA.out)).mono ?_
  rintro e w1 ⟨AL, nl, cl, ll, rfl, hnl, ho, hb⟩
  have HB1 := Lib.hid hb; have HL := Lib.hid ho; clear hb ho
  obtain ⟨d, hd⟩ : ∃ d, dig.fold 11 ll = d := ⟨_, rfl⟩
  obtain ⟨d0, d1⟩ : 0 ≤ d ∧ d ≤ 2147483646 := hd ▸ dig.fold_in dig.in11 ll
  obtain ⟨q, hq⟩ : ∃ q, (d * 1000003 + 18) % 2147483647 = q := ⟨_, rfl⟩
  have hq5 : dig.fold 11 (ll ++ [5]) = q := by rw [dig.fold_app, hd, ← hq, ← dig.step5]; rfl
  have HD := Lib.hid hd; have HQ := Lib.hid hq; have HQ5 := Lib.hid hq5; clear hd hq hq5
  go_wp2_with (fail)
  refine (hsh.implHash AL nl cl ll (by omega) _ HL.out.rd).mono ?_
  rintro e w2 ⟨rfl, rfl⟩
  rw [HD.out]
  go_wp2_with (at_builtin; refine append_rdi rfl (.tmp 15) (.tmp 16) _ rfl i0 Tryd.underlying24 hi hz0 hz1 hz2 w1.heap.size _ _ _ _ rfl (owni_none w1 _ (Nat.le_refl _)) AL nl cl ll rfl (HL.out.rd.alloc _) (by omega) (by simp) ?_)
  intro A3 c3 w3 ho3 hb3 hg3
  have HB3 := Lib.hid ((Joins.below_alloc1 w1 _).trans hb3); have H3 := Lib.hid ho3; clear ho3 hb3 hg3
  go_wp2_with (at_builtin; refine append_rdi rfl (.tmp 17) (.tmp 18) _ rfl i0 Tryd.underlying24 hi hz0 hz1 hz2 w1.heap.size _ _ _ _ rfl (H3.out.alloc _) _ 1 1 [5] rfl (rdi_one _ _ _) (by omega) (by have := HB3.out.size; simp; omega) ?_)
  intro A4 c4 w4 ho4 hb4 hg4
  have HW4 := Lib.hid ((HB3.out.alloc HB3.out.size _).trans hb4)
  have HB4 := Lib.hid (HB1.out.trans (HW4.out.mono HB1.out.size)); have H4 := Lib.hid ho4; have HL4 := Lib.hid (HL.out.below HW4.out); clear ho4 hb4 hg4
  go_wp2_with (fail)
  refine (hsh.implHash A4 _ c4 _ (by omega) _ H4.out.rd).mono ?_
  rintro e w5 ⟨he, rfl⟩
  obtain rfl : e = .returned (.int .i64 q) := he.trans (by rw [← HQ5.out])
  clear he
  go_wp2_with (fail)
  refine (draw.drawHashText A0 n0 c0 (by omega) _ (draw.code_of_rd (HA.out.below HB4.out))).mono ?_
  rintro e w6 ⟨s, rfl, hs, hb⟩
  have HB6 := Lib.hid (HB4.out.trans (hb.mono HB4.out.size)); have HL6 := Lib.hid (HL4.out.below hb); clear hb
  have HO6 := Lib.hid (owni_none w6 w6.heap.size (Nat.le_refl _)); have HB6' := Lib.hid (Joins.below_alloc1 w6 (.cells #[] 3))
  go_wp2
  go_loopg [7, 8] s.size (fun gk v i wr => ∃ (A : Option Addr) (n c k : Nat) (l : List Int), v = .slice A n c ∧ i = .int .i64 k ∧ gk + k = s.size ∧ n = k ∧ k ≤ s.size ∧ Hid (l = (txt s).take k) ∧ Hid (OwnI wr w6.heap.size A n c l) ∧ Hid (Below w6.heap.size w6 wr))
  case atStart => exact ⟨_, 0, 0, 0, [], rfl, rfl, by omega, rfl, by omega, rfl, HO6.out, HB6'.out⟩
  case round =>
    obtain ⟨A, n, c, k, l, rfl, rfl, hk, hnk, hks, HX, HO, HB⟩ := hrel
    subst hnk
    have HK := Lib.hid hk; clear hk
    by_cases hlt : n < s.size
    · have hv1 := (s[n]'hlt).toNat_lt
      have HV := Lib.hid (hsh.txt_get s n hlt)
      go_wp2_with (at_builtin; refine append_rdi rfl (.tmp 30) (.tmp 35) _ rfl i0 Tryd.underlying24 hi hz0 hz1 hz2 w6.heap.size _ _ _ _ rfl (HO.out.alloc _) _ 1 1 [((s[n]'hlt).toNat : Int)] rfl (rdi_one _ _ _) (by omega) (by have := HB.out.size; simp; omega) ?_)
      intro A7 c7 w7 ho7 hb7 hg7
      have H7 := Lib.hid ho7; have HB7 := Lib.hid ((HB.out.alloc HB.out.size _).trans hb7); clear ho7 hb7 hg7
      have HX7 : Hid (l ++ [((s[n]'hlt).toNat : Int)] = (txt s).take (n + 1)) := by
        show _ = _
        obtain ⟨hk2, e2⟩ := List.getElem?_eq_some_iff.1 HV.out
        rw [List.take_succ_eq_append_getElem hk2, e2, HX.out]
      go_wp2
      go_roundg (s.size - (n + 1))
      case measure => have := HK.out; omega
      case rel => exact ⟨_, _, _, n + 1, _, rfl, by go_num, by have := HK.out; omega, rfl, by omega, HX7, H7, HB7⟩
    · have HE : Hid (l = txt s) := by show _ = _; rw [HX.out, List.take_of_length_le (by have := txt_len s; omega)]
      obtain ⟨h, hh⟩ : ∃ h, dig.fold 11 (txt s) = h := ⟨_, rfl⟩
      have HH := Lib.hid hh; clear hh
      obtain ⟨x, hx⟩ : ∃ x : ByteArray, x = ⟨(hfm.hx d).toArray⟩ := ⟨_, rfl⟩
      have hx8 : x.size = 8 := by rw [hx, hfm.size_text, hfm.hx_len d0 (by omega)]
      have HXX := Lib.hid hx; clear hx
      obtain ⟨y, hy⟩ : ∃ y, dig.fold 11 (d :: ll ++ [d]) = y := ⟨_, rfl⟩
      have HY := Lib.hid hy; clear hy
      go_wp2_with (fail)
      refine (hsh.implMod31 _ _).mono ?_
      rintro e w7 ⟨rfl, rfl⟩
      rw [HQ.out]
      go_wp2_with (fail)
      refine (hsh.implText s (by omega) _).mono ?_
      rintro e w8 ⟨rfl, hb⟩
      rw [HH.out]
      have HB8 := Lib.hid (HB.out.trans (hb.mono HB.out.size)); have HO8 := Lib.hid (HO.out.below hb); clear hb
      go_wp2_with (fail)
      refine (hsh.implHash A n c l (by omega) _ HO8.out.rd).mono ?_
      rintro e w9 ⟨rfl, rfl⟩
      rw [HE.out, HH.out]
      go_wp2_with (fail)
      refine (hfm.implHex d _ (HT.out.stays (HB6.out.trans (HB8.out.mono HB6.out.size)))).mono ?_
      rintro e w10 ⟨rfl, hb⟩
      rw [← HXX.out]
      have HB10 := Lib.hid (HB8.out.trans (hb.mono HB8.out.size)); clear hb
      have HL10 := Lib.hid (HL6.out.below HB10.out)
      go_wp2_with (fail)
      refine (hsh.implKeyed d AL nl cl ll (by omega) _ HL10.out.rd).mono ?_
      rintro e w11 ⟨rfl, rfl⟩
      rw [HY.out]
      go_wp2_with (at_builtin; refine append_rdi_w (by rfl) (.tmp 69) (.tmp 70) _ rfl i0 Tryd.underlying24 hi hz0 hz1 hz2 w10.heap.size _ _ _ _ rfl (owni_one w10 d _ (Nat.le_refl _)) AL nl cl ll rfl (HL10.out.rd.alloc _) (by omega) (by simp) ?_)
      intro A12 c12 w12 ho12 hb12 hg12
      have HB12 := Lib.hid ((Joins.below_alloc1 w10 _).trans hb12); have H12 := Lib.hid ho12; clear ho12 hb12 hg12
      go_wp2_with (at_builtin; refine append_rdi_w (by rfl) (.tmp 71) (.tmp 73) _ rfl i0 Tryd.underlying24 hi hz0 hz1 hz2 w10.heap.size _ _ _ _ rfl (H12.out.alloc _) _ 1 1 [d] rfl (rdi_one _ _ _) (by omega) (by have := HB12.out.size; simp; omega) ?_)
      intro A13 c13 w13 ho13 hb13 hg13
      have HB13 := Lib.hid ((HB12.out.alloc HB12.out.size _).trans hb13); have H13 := Lib.hid ho13; clear ho13 hb13 hg13
      go_wp2_with (fail)
      refine (hsh.implHash A13 _ c13 _ (by omega) _ H13.out.rd).mono ?_
      rintro e w14 ⟨he, rfl⟩
      obtain rfl : e = .returned (.int .i64 y) := he.trans (by rw [← HY.out]; rfl)
      clear he
      go_wp2
      go_ret
      exact ⟨rfl, HB6.out.trans ((HB10.out.trans (HB13.out.mono HB10.out.size)).mono HB6.out.size)⟩

set_option maxRecDepth 100000 in
theorem lifted (os : Os) (started : os.Started) (H : Type) (enc : TypeId × Value → H) :
    ReturnsInHanded {} Tryd.checked os 3 .any (fun w args => (Rows.fnDigestsSpec.pre enc Tryd.prog Tryd.f3 [] false w args ∧ laidMetH Tryd.prog lad.laidOf w) ∧ sizedMet enc Tryd.prog Tryd.f3 (OpenSpec.ofChange Rows.fnDigestsSpec) false w args)
      (Rows.fnDigestsSpec.post enc Tryd.prog Tryd.f3 false true false false) := by
  refine returnsInHanded_of_change_and (C := Tryd.checked) (X := fun w _ => laidMetH Tryd.prog lad.laidOf w) (fun _ _ _ hh h => h.of_heap hh) own started (by kernel_rfl) Tryd.func3
    (ChangeSpec.witness_shaped (enc := enc) (C := Tryd.checked) (os := os) (X := fun w _ => laidMetH Tryd.prog lad.laidOf w) false (World.doorLaid Tryd.prog 400 os) #[.slice none 0 0] 8 rfl (World.shaped_of_RefB (by kernel_rfl) (by kernel_rfl)) (by kernel_rfl) (by kernel_rfl) (by kernel_rfl) (lad.door_met os _)) ?_
  intro W base args ds gs before hval0 hW _ hsz0 hL _
  have hval : ∀ (j : Nat) t v, Tryd.f3.params[j]? = some t → args[j]? = some v → Value.okWide Tryd.prog W .any base t v := hval0
  have hW' := hW
  obtain ⟨p, q, hA0, hV, rfl, hfz, hnd⟩ := hW
  have hA : DataW.TrodAll enc Tryd.prog W 0 (fun _ => true) true Tryd.f3.params.toList args.toList ds p := hA0
  have hA2 := hA
  rw [Tryd.params3] at hA hval
  obtain ⟨v0, d0, rfl, rfl, h0⟩ := trodAll_one hA
  obtain ⟨rfl, rfl⟩ := trodVars_none hV
  obtain ⟨A0, n0, c0, l0, rfl, hn0, hr0⟩ := opn.open_bytes Tryd.underlying22 Tryd.underlying5 (by kernel_rfl) (hval 0 22 v0 rfl rfl) h0
  clear hA0 hval0
  simp only [List.append_nil] at hW' hA2
  refine (walk A0 n0 c0 l0 W hn0 hr0 (lad.env_of hL)).mono fun e W' ⟨he, hb⟩ => ?_
  subst he
  exact ⟨_, rfl, opn.post_true hW' rfl hA2 rfl rfl Tryd.underlying4 (by kernel_rfl) (by kernel_rfl) hb⟩

theorem over : Rows.FnDigestsSaid :=
  OpenClaim.holds_of_wide 3 Tryd.f3 rfl rfl rfl rfl rfl rfl rfl ⟨rfl, rfl, rfl, rfl, rfl⟩ rfl rfl rfl rfl rfl (by kernel_rfl) Tryd.func3 (by kernel_rfl)
    (of_decide_eq_true (by kernel_rfl)) (by unfold Func.isWrapper; first | (rw [if_pos (by decide +kernel)]; kernel_rfl) | (rw [if_neg (by decide +kernel)]; exact ⟨rfl, rfl⟩))
    (fun os started H enc _ => lifted os started H enc)

/-- The statement. -/
theorem proved : Rows.FnDigestsCardSaid :=
  Claim7.holds_tied_plain_at .later [] Rows.fnDigestsCard.laidKinds true Rows.fnDigestsCard.stood.harness Rows.fnDigestsCard.stood.looks
    over (fun _ h => by cases h) (by kernel_rfl) (fun _ h => by cases h) fnDigests_row_tie rfl ⟨rfl, rfl⟩ (by kernel_rfl) rfl
    (fun f fn hf hfn => by
      obtain rfl : f = 3 := Option.some.inj ((show Tryd.prog.funcNamed "loop.example/g03011/laws.FnDigests" = some 3 by kernel_rfl).symm.trans hf) |>.symm
      obtain rfl : fn = Tryd.f3 := (Option.some.inj (Tryd.func3.symm.trans hfn)).symm
      exact ⟨by kernel_rfl, fun j t ht => by
        rw [Tryd.params3] at ht
        have hm : t ∈ [22] := by simpa using Array.mem_of_getElem? ht
        have hall : ([22].all fun u => !Tryd.prog.wantsStandIn u) = true := by kernel_rfl
        exact (show Tryd.prog.wantsStandIn t = false by simpa using List.all_eq_true.1 hall t hm)⟩)
    (by kernel_rfl)
#print axioms proved
end Go.Proofs.YtealjeigpngkiaaDoor.fnDigests
