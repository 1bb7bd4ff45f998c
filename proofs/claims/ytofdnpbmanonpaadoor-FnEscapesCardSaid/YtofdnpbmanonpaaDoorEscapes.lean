/-
  For all bytes the law FnEscapes returns true: what is escaped is unescaped, is safe, and is escaped piece by piece; the bytes read as before.
  Conditions: the argument is of Go's type; the package variables that the row lists hold what the program's text lays, and the card ties that to the text.
-/
import Derived.Test.YtofdnpbmanonpaaDoorRows
import Derived.Test.YtofdnpbmanonpaaDoorCards
import Derived.Test.YtofdnpbmanonpaaDoorTie
import Derived.LaidMore
import Derived.LaidHandle
import Derived.Stop.Joined
import Derived.SevenTiedAt
import Derived.Stop.LaidErr
import Derived.SizedLaws
import Derived.WalkKit
import Derived.ProofKit
import Derived.OpenShut
import Derived.Test.YtofdnpbmanonpaaDoorIn
import Derived.Test.YtofdnpbmanonpaaDoorDrawEsc
import Derived.Test.YtofdnpbmanonpaaDoorEnvEsc
import Derived.Test.YtofdnpbmanonpaaDoorOpenV
namespace Go.Proofs.YtofdnpbmanonpaaDoor.fnEscapes
open Go.ChangeShapes Go.WideShapes Go.ChangeAt Go.RowKit mem
open Go.ChangeMaps (open_string)
set_option linter.unusedVariables false

theorem own : ownKnob Tryd.prog.godebug = none := by kernel_rfl

theorem bigNo (A : Option Addr) (n c : Nat) (h : (n : Int) ≤ 1048576) (w : World) :
    Calls Tryd.prog 10 #[.slice A n c] w fun e w' => e = .returned (.bool false) ∧ w = w' := by
  have hd : decide ((1048576 : Int) < (n : Int)) = false := by rw [decide_eq_false_iff_not]; omega
  go_enter Tryd.func10, Tryd.ntmps10
  go_wp2
  go_ret
  exact ⟨rfl, rfl⟩

theorem in_app (k : Int) (a b : List UInt8) : seq.escIn k (a ++ b) = seq.escIn k a ++ seq.escIn k b := by
  unfold seq.escIn
  split
  · exact esc.esc_app _ _ _
  · split
    · exact esc.esc_app _ _ _
    · split
      · exact esc.esc_app _ _ _
      · rfl
theorem in_safe (k : Int) (l : List UInt8) : seq.safeIn k (seq.escIn k l) = true := by
  have h : seq.unIn k (seq.escIn k l) = some l := by
    unfold seq.unIn seq.escIn
    split
    · exact esc.un_esc esc.eats_H esc.undoes_H l
    · split
      · exact esc.un_esc esc.eats_U esc.undoes_U l
      · split
        · exact esc.un_esc esc.eats_S esc.undoes_S l
        · rfl
  rw [seq.safe_some h, decide_eq_true rfl]
theorem in_len (k : Int) (l : List UInt8) : (seq.escIn k l).length ≤ 6 * l.length := by
  unfold seq.escIn
  split
  · exact esc.six_ent.esc l
  · split
    · exact esc.six_url.esc l
    · split
      · exact esc.six_scr.esc l
      · omega
theorem bytes_app (a b : ByteArray) : (a ++ b).data.toList = a.data.toList ++ b.data.toList := by rw [Joins.data_append]

set_option maxHeartbeats 4000000 in
set_option maxRecDepth 100000 in
theorem walk (A0 : Option Addr) (n0 c0 : Nat) (l0 : List Int) (w : World) (hn0 : n0 ≤ maxLen) (hr0 : Rd w A0 n0 l0) (hE : ents.Both w) :
    Calls Tryd.prog 3 #[.slice A0 n0 c0] w fun e w' => e = .returned (.bool true) ∧ Below w.heap.size w w' := by
  unfold maxLen at hn0
  by_cases hbig : (1048576 : Int) < (n0 : Int)
  · go_enter Tryd.func3, Tryd.ntmps3
    go_wp2
    go_ret
    exact ⟨rfl, Below.refl _ _⟩
  have HA := Lib.hid hr0; have HE := Lib.hid hE; clear hr0 hE
  go_enter Tryd.func3, Tryd.ntmps3
  go_wp2_with (go_at_call 10; refine (bigNo A0 n0 c0 (by omega) _).mono ?_; rintro e w0 ⟨rfl, rfl⟩)
  refine (draw.drawEscapeIn A0 n0 c0 (by omega) _ (draw.code_rd HA.out)).mono ?_
  rintro e w1 ⟨k, s, rfl, k0, k1, hs, hb⟩
  have HB1 := Lib.hid hb; clear hb
  go_wp2_with (fail)
  refine (draw.drawEscapeURL A0 n0 c0 (by omega) _ (draw.code_rd (HA.out.below HB1.out))).mono ?_
  rintro e w2 ⟨t, rfl, ht, hb⟩
  have HB2 := Lib.hid (HB1.out.trans (hb.mono HB1.out.size)); clear hb
  go_wp2_with (fail)
  refine (seq.implEscIn k s (by omega) _ (ents.staysBoth _ _ HE.out HB2.out)).mono ?_
  rintro e w3 ⟨he, hb⟩
  obtain ⟨y, hy⟩ : ∃ y, y = seq.tx (seq.escIn k s.data.toList) := ⟨_, rfl⟩
  obtain rfl : e = .returned (.string y) := he.trans (by rw [hy])
  have hys : y.size ≤ 120 := by rw [hy, seq.tx_size]; have h1 := in_len k s.data.toList; rw [seq.len_eq] at h1; omega
  have HB3 := Lib.hid (HB2.out.trans (hb.mono HB2.out.size)); have HY := Lib.hid hy; clear he hb hy
  go_wp2_with (fail)
  refine (seq.implEscHTML s (by omega) _ (ents.staysBoth _ _ HE.out HB3.out).1).mono ?_
  rintro e pa ⟨he, hb⟩
  obtain ⟨vp, hv⟩ : ∃ v, v = seq.tx (esc.esc esc.ent s.data.toList) := ⟨_, rfl⟩
  obtain rfl : e = .returned (.string vp) := he.trans (by rw [hv])
  have hvs : vp.size ≤ 120 := by rw [hv, seq.tx_size]; have h1 := esc.six_ent.esc s.data.toList; rw [seq.len_eq] at h1; omega
  have Hpa := Lib.hid (HB3.out.trans (hb.mono HB3.out.size)); have HV := Lib.hid hv; clear he hb hv
  go_wp2_with (fail)
  refine (seq.implUnHTML vp (by omega) _ (ents.staysBoth _ _ HE.out Hpa.out).1).mono ?_
  rintro e pb ⟨he, hb⟩
  obtain rfl : e = .returned (.tuple #[.string s, .bool true]) := he.trans (by rw [HV.out, esc.un_esc esc.eats_H esc.undoes_H]; show Ending.returned (.tuple #[.string (seq.tx s.data.toList), .bool true]) = _; rw [seq.tx_eta])
  have Hpb := Lib.hid (Hpa.out.trans (hb.mono Hpa.out.size)); clear he hb HV
  go_wp2_with (fail)
  refine (seq.implEscURL s (by omega) _).mono ?_
  rintro e qa ⟨he, hb⟩
  obtain ⟨vq, hv⟩ : ∃ v, v = seq.tx (esc.esc esc.urlQ s.data.toList) := ⟨_, rfl⟩
  obtain rfl : e = .returned (.string vq) := he.trans (by rw [hv])
  have hvs : vq.size ≤ 120 := by rw [hv, seq.tx_size]; have h1 := esc.six_url.esc s.data.toList; rw [seq.len_eq] at h1; omega
  have Hqa := Lib.hid (Hpb.out.trans (hb.mono Hpb.out.size)); have HV := Lib.hid hv; clear he hb hv
  go_wp2_with (fail)
  refine (seq.implUnURL vq (by omega) _ (ents.staysBoth _ _ HE.out Hqa.out).2).mono ?_
  rintro e qb ⟨he, hb⟩
  obtain rfl : e = .returned (.tuple #[.string s, .bool true]) := he.trans (by rw [HV.out, esc.un_esc esc.eats_U esc.undoes_U]; show Ending.returned (.tuple #[.string (seq.tx s.data.toList), .bool true]) = _; rw [seq.tx_eta])
  have Hqb := Lib.hid (Hqa.out.trans (hb.mono Hqa.out.size)); clear he hb HV
  go_wp2_with (fail)
  refine (seq.implEscScript s (by omega) _).mono ?_
  rintro e ra ⟨he, hb⟩
  obtain ⟨vr, hv⟩ : ∃ v, v = seq.tx (esc.esc esc.scrQ s.data.toList) := ⟨_, rfl⟩
  obtain rfl : e = .returned (.string vr) := he.trans (by rw [hv])
  have hvs : vr.size ≤ 120 := by rw [hv, seq.tx_size]; have h1 := esc.six_scr.esc s.data.toList; rw [seq.len_eq] at h1; omega
  have Hra := Lib.hid (Hqb.out.trans (hb.mono Hqb.out.size)); have HV := Lib.hid hv; clear he hb hv
  go_wp2_with (fail)
  refine (seq.implUnScript vr (by omega) _ (ents.staysBoth _ _ HE.out Hra.out).2).mono ?_
  rintro e rb ⟨he, hb⟩
  obtain rfl : e = .returned (.tuple #[.string s, .bool true]) := he.trans (by rw [HV.out, esc.un_esc esc.eats_S esc.undoes_S]; show Ending.returned (.tuple #[.string (seq.tx s.data.toList), .bool true]) = _; rw [seq.tx_eta])
  have Hrb := Lib.hid (Hra.out.trans (hb.mono Hra.out.size)); clear he hb HV
  go_wp2_with (fail)
  refine (seq.implSafeIn k y (by omega) _ (ents.staysBoth _ _ HE.out Hrb.out)).mono ?_
  rintro e w4 ⟨he, hb⟩
  obtain rfl : e = .returned (.bool true) := he.trans (by rw [HY.out]; show Ending.returned (.bool (seq.safeIn k (seq.escIn k s.data.toList))) = _; rw [in_safe])
  have HB4 := Lib.hid (Hrb.out.trans (hb.mono Hrb.out.size)); clear he hb
  obtain ⟨z, hz⟩ : ∃ z, z = seq.tx (seq.escIn k t.data.toList) := ⟨_, rfl⟩
  have hzs : z.size ≤ 120 := by rw [hz, seq.tx_size]; have h1 := in_len k t.data.toList; rw [seq.len_eq] at h1; omega
  obtain ⟨st, hst⟩ : ∃ st, st = s ++ t := ⟨_, rfl⟩
  have hsts : st.size ≤ 40 := by rw [hst, ByteArray.size_append]; omega
  obtain ⟨yz, hyz⟩ : ∃ yz, yz = seq.tx (seq.escIn k st.data.toList) := ⟨_, rfl⟩
  have hsum : y ++ z = yz := by rw [hyz, HY.out, hz, seq.app_tx, hst, bytes_app, in_app]
  have hst2 : s ++ t = st := hst.symm
  have HZ := Lib.hid hz; have HYZ := Lib.hid hyz; clear hz hyz hst
  go_wp2_with (fail)
  refine (seq.implEscIn k st (by omega) _ (ents.staysBoth _ _ HE.out HB4.out)).mono ?_
  rintro e w5 ⟨he, hb⟩
  obtain rfl : e = .returned (.string yz) := he.trans (by rw [HYZ.out])
  have HB5 := Lib.hid (HB4.out.trans (hb.mono HB4.out.size)); clear he hb
  go_wp2_with (fail)
  refine (seq.implEscIn k t (by omega) _ (ents.staysBoth _ _ HE.out HB5.out)).mono ?_
  rintro e w6 ⟨he, hb⟩
  obtain rfl : e = .returned (.string z) := he.trans (by rw [HZ.out])
  have HB6 := Lib.hid (HB5.out.trans (hb.mono HB5.out.size)); clear he hb
  go_wp2
  go_ret
  exact ⟨rfl, HB6.out⟩

set_option maxRecDepth 100000 in
theorem lifted (os : Os) (started : os.Started) (H : Type) (enc : TypeId × Value → H) :
    ReturnsInHanded {} Tryd.checked os 3 .any (fun w args => (Rows.fnEscapesSpec.pre enc Tryd.prog Tryd.f3 [] false w args ∧ laidMetH Tryd.prog ents.envA.laidOf w) ∧ sizedMet enc Tryd.prog Tryd.f3 (OpenSpec.ofChange Rows.fnEscapesSpec) false w args)
      (Rows.fnEscapesSpec.post enc Tryd.prog Tryd.f3 false true false false) := by
  refine returnsInHanded_of_change_and (C := Tryd.checked) (X := fun w _ => laidMetH Tryd.prog ents.envA.laidOf w) (fun _ _ _ hh h => h.of_heap hh) own started (by kernel_rfl) Tryd.func3
    (ChangeSpec.witness_shaped (enc := enc) (C := Tryd.checked) (os := os) (X := fun w _ => laidMetH Tryd.prog ents.envA.laidOf w) false (World.doorLaid Tryd.prog 400 os) #[.slice none 0 0] 8 rfl (World.shaped_of_RefB (by kernel_rfl) (by kernel_rfl)) (by kernel_rfl) (by kernel_rfl) (by kernel_rfl) (ents.envA.door_met os _)) ?_
  intro W base args ds gs before hval0 hW _ hsz0 hL _
  have hval : ∀ (j : Nat) t v, Tryd.f3.params[j]? = some t → args[j]? = some v → Value.okWide Tryd.prog W .any base t v := hval0
  have hW' := hW
  obtain ⟨p, q, hA0, hV, rfl, hfz, hnd⟩ := hW
  have hA : DataW.TrodAll enc Tryd.prog W 0 (fun _ => true) true Tryd.f3.params.toList args.toList ds p := hA0
  have hA2 := hA
  rw [Tryd.params3] at hA hval
  obtain ⟨v0, d0, rfl, rfl, h0⟩ := trodAll_one hA
  have hV2 := hV
  obtain ⟨gv, tv, cv, fv, dg, pv, rfl, -, -, -, -, -⟩ := trodVars_one hV
  obtain ⟨A0, n0, c0, l0, rfl, hn0, hr0⟩ := opn.open_bytes Tryd.underlying22 Tryd.underlying5 (by kernel_rfl) (hval 0 22 v0 rfl rfl) h0
  clear hA0 hval0
  refine (walk A0 n0 c0 l0 W hn0 hr0 (ents.envA.env_of hL)).mono fun e W' ⟨he, hb⟩ => ?_
  subst he
  exact ⟨_, rfl, opn.post_true_vars hW' hA2 hV2 rfl rfl Tryd.underlying4 (by kernel_rfl) (by kernel_rfl) (by kernel_rfl) hb⟩

theorem over : Rows.FnEscapesSaid :=
  OpenClaim.holds_of_wide 3 Tryd.f3 rfl rfl rfl rfl rfl rfl rfl ⟨rfl, rfl, rfl, rfl, rfl⟩ rfl rfl rfl rfl rfl (by kernel_rfl) Tryd.func3 (by kernel_rfl)
    (of_decide_eq_true (by kernel_rfl)) (by unfold Func.isWrapper; first | (rw [if_pos (by decide +kernel)]; kernel_rfl) | (rw [if_neg (by decide +kernel)]; exact ⟨rfl, rfl⟩))
    (fun os started H enc _ => lifted os started H enc)

/-- The statement. -/
theorem proved : Rows.FnEscapesCardSaid :=
  Claim7.holds_tied_plain_at .later [] Rows.fnEscapesCard.laidKinds true Rows.fnEscapesCard.stood.harness Rows.fnEscapesCard.stood.looks
    over (fun _ h => by cases h) (by kernel_rfl) (fun _ h => by cases h) fnEscapes_row_tie rfl ⟨rfl, rfl⟩ (by kernel_rfl) rfl
    (fun f fn hf hfn => by
      obtain rfl : f = 3 := Option.some.inj ((show Tryd.prog.funcNamed "loop.example/g03011/laws.FnEscapes" = some 3 by kernel_rfl).symm.trans hf) |>.symm
      obtain rfl : fn = Tryd.f3 := (Option.some.inj (Tryd.func3.symm.trans hfn)).symm
      exact ⟨by kernel_rfl, fun j t ht => by
        rw [Tryd.params3] at ht
        have hm : t ∈ [22] := by simpa using Array.mem_of_getElem? ht
        have hall : ([22].all fun u => !Tryd.prog.wantsStandIn u) = true := by kernel_rfl
        exact (show Tryd.prog.wantsStandIn t = false by simpa using List.all_eq_true.1 hall t hm)⟩)
    (by kernel_rfl)
#print axioms proved
end Go.Proofs.YtofdnpbmanonpaaDoor.fnEscapes
