/-
  Serialize answers as its model at every value; it leaves its argument unmodified.
  Conditions: the package variables that the row lists hold what the program's text lays, and the card ties that to the text.
-/
import Derived.Test.YtdglmnmalfpipaaDoorRows
import Derived.Test.YtdglmnmalfpipaaDoorCards
import Derived.Test.YtdglmnmalfpipaaDoorTie
import Derived.LaidMore
import Derived.LaidHandle
import Derived.Stop.Joined
import Derived.SevenTiedAt
import Derived.Stop.LaidErr
import Derived.SizedLaws
import Derived.Deep.RegionWith
import Derived.WalkKit
import Derived.ProofKit
import Derived.OpenShut
import Derived.Test.YtdglmnmalfpipaaDoorSAB5
import Derived.Test.YtdglmnmalfpipaaDoorSASTreeCp
import Derived.Test.YtdglmnmalfpipaaDoorSAB1
import Derived.Test.YtdglmnmalfpipaaDoorSAB2
namespace Go.Proofs.YtdglmnmalfpipaaDoor.fnExactSerialize
open Go.ChangeShapes Go.WideShapes Go.ChangeAt Go.RowKit tree
open Go.ChangeMaps (open_string)
set_option linter.unusedVariables false

theorem own : ownKnob Tryd.prog.godebug = none := by kernel_rfl


set_option maxHeartbeats 2000000 in
theorem walk0 (w : World) (t : Tr) (v : Value) (z : ByteArray) (q : Bool) (hr : TIn w (fun _ => True) t v) (hE : prs.Env w)
    (cs : tot t ≤ 1048576 → ∀ (w : World) (S : Nat → Prop) (v : Value), prs.Env w → TIn w S t v → Calls Tryd.prog 6 #[v] w (GivesQ w (.tuple #[.string z, .bool q])))
    (ci : tot t ≤ 1048576 → ∀ (w : World) (lo : Nat) (v : Value), prs.Env w → TIn w (Nw lo w) t v → Calls Tryd.prog 8 #[v] w (GivesQ w (.tuple #[.string z, .bool q]))) :
    Calls Tryd.prog 3 #[v] w (TrueQ w) := by
  obtain ⟨k, n, s, x, ks, vs⟩ := t
  obtain ⟨A, c, rfl, -, -⟩ := hr.out
  obtain ⟨L, HL⟩ : ∃ L, Hid (L = vs.length) := ⟨_, Lib.hid rfl⟩
  obtain ⟨T, HT⟩ : ∃ T, Hid (T = Tr.mk k n s x ks vs) := ⟨_, Lib.hid rfl⟩
  rw [← HT.out] at cs ci hr
  rw [← HL.out] at hr ⊢
  have HR := Lib.hid hr
  have HEN := Lib.hid hE
  clear hr hE
  go_enter Tryd.func3, Tryd.ntmps3
  go_wp2_with (fail)
  refine (szV T _ _ _ (HR.out.below' (b1 _ _)) 1048576 (by omega) (by omega)).mono ?_
  rintro e w1 ⟨r, rfl, ⟨hr1, hr2, hr3⟩, hb1⟩
  have E1 := Lib.hid (carry hb1 (heap_alloc_new w _))
  have HB1 := Lib.hid (bs (b1 w _) hb1)
  have HR3 := Lib.hid hr3
  obtain ⟨c1, -⟩ := rowc E1.out
  clear hb1 hr3
  by_cases hlt : r < 0
  · go_wp2_with (fail)
    go_ret
    exact ⟨rfl, HB1.out⟩
  have hT : Hid (tot T ≤ 1048576) := Lib.hid (by have := HR3.out (by omega); omega)
  have CS := Lib.hid (cs hT.out)
  have CI := Lib.hid (ci hT.out)
  clear cs ci
  go_wp2_with (fail)
  refine (cps T hT.out _ _ _ (HR.out.below' HB1.out)).mono ?_
  rintro e w2 ⟨v2, rfl, hv2, hb2⟩
  have E2 := Lib.hid (carry hb2 E1.out)
  have HB2 := Lib.hid (bs HB1.out hb2)
  have HV2 := Lib.hid hv2
  clear hb2 hv2 c1
  go_wp2_with (fail)
  refine (CS.out _ _ _ (HEN.out.stays HB2.out) HV2.out).mono ?_
  rintro e w3 ⟨rfl, hb3⟩
  have E3 := Lib.hid (carry hb3 E2.out)
  have HB3 := Lib.hid (bs HB2.out hb3)
  obtain ⟨c3, -⟩ := rowc E3.out
  clear hb3
  go_wp2_with (fail)
  refine (cps T hT.out _ _ _ (HR.out.below' HB3.out)).mono ?_
  rintro e w4 ⟨v4, rfl, hv4, hb4⟩
  have E4 := Lib.hid (carry hb4 E3.out)
  have HB4 := Lib.hid (bs HB3.out hb4)
  have HV4' : Hid (TIn w4 (Nw w3.heap.size w4) (.mk k n s x ks vs) v4) := by rw [← HT.out]; exact hv4
  obtain ⟨A4, d4, rfl, -, -⟩ := HV4'.out.out
  rw [← HL.out] at hv4 ⊢
  have HV4 := Lib.hid hv4
  clear hb4 hv4 c3 HV4'
  go_wp2_with (fail)
  refine (CI.out _ w3.heap.size _ (HEN.out.stays (bs HB4.out (b1 w4 _))) (HV4.out.nwb (b1 _ _))).mono ?_
  rintro e w5 ⟨rfl, hb5⟩
  have hE5 := carry hb5 (keepAlloc E4.out)
  have hF5 := carry hb5 (heap_alloc_new w4 _)
  have HB5 := Lib.hid (bs (bs HB4.out (b1 w4 _)) hb5)
  have HV5 := Lib.hid (HV4.out.below' (bs (b1 w4 _) hb5))
  obtain ⟨N, hN⟩ : ∃ N, N = w4.heap.size := ⟨_, rfl⟩
  rw [← hN] at hF5 ⊢
  have HN := Lib.hid hN
  have E5 := Lib.hid hE5
  have F5 := Lib.hid hF5
  obtain ⟨c5, -⟩ := rowc hE5
  obtain ⟨d5, -⟩ := rowc hF5
  clear hb5 hE5 hF5 hN
  go_wp2_with (fail)
  go_region_with (first
    | (go_at_call 7; refine (cps T hT.out _ _ _ (HR.out.below' (HB5.out.trans ((Below.refl _ _).drew)))).mono ?_
       rintro e w6 ⟨v6, rfl, hv6, hb6⟩
       have F6 := Lib.hid (carry (bs ((Below.refl w5.heap.size w5).drew) hb6) F5.out)
       have HB6 := Lib.hid (bs HB5.out (bs ((Below.refl w5.heap.size w5).drew) hb6))
       have HV6 := Lib.hid hv6
       have HV5' := Lib.hid (HV5.out.below' (bs ((Below.refl w5.heap.size w5).drew) hb6))
       obtain ⟨d6, -⟩ := rowc F6.out
       clear hb6 hv6)
    | (go_at_call 9; refine (eqV T _ _ _ _ _ HV5'.out HV6.out).mono ?_
       rintro e w7 ⟨rfl, hb7⟩
       have HB7 := Lib.hid (bs HB6.out hb7)
       clear hb7))
  all_goals
    go_wp2_with (fail)
    go_ret
    exact ⟨rfl, HB7.out⟩
theorem walk (t0 : Tr) (v0 : Value) (w : World) (hr0 : TIn w (fun _ => True) t0 v0) (hE : prs.Env w) : Calls Tryd.prog 3 #[v0] w fun e w' => e = .returned (.bool true) ∧ Below w.heap.size w w' :=
  walk0 w t0 v0 (bz (seL t0)) (seB t0) hr0 hE (fun hT w S v hE h => serialize_s t0 (by omega) w S v hE h) (fun hT w lo v hE h => serialize_i t0 hT w lo v hE h)

set_option maxRecDepth 100000 in
theorem lifted (os : Os) (started : os.Started) (H : Type) (enc : TypeId × Value → H) :
    ReturnsInHanded {} Tryd.checked os 3 .any (fun w args => (Rows.fnExactSerializeSpec.pre enc Tryd.prog Tryd.f3 [] false w args ∧ laidMetH Tryd.prog sern.laidOf w) ∧ sizedMet enc Tryd.prog Tryd.f3 (OpenSpec.ofChange Rows.fnExactSerializeSpec) false w args)
      (Rows.fnExactSerializeSpec.post enc Tryd.prog Tryd.f3 false true false false) := by
  refine returnsInHanded_of_change_and (C := Tryd.checked) (X := fun w _ => laidMetH Tryd.prog sern.laidOf w) (fun _ _ _ hh h => h.of_heap hh) own started (by kernel_rfl) Tryd.func3
    (ChangeSpec.witness_shaped (enc := enc) (C := Tryd.checked) (os := os) (X := fun w _ => laidMetH Tryd.prog sern.laidOf w) false (World.doorLaid Tryd.prog 400 os) #[.agg #[.int .i64 0, .int .i64 0, .string ⟨#[]⟩, .int .i64 0, .slice none 0 0]] 8 rfl (World.shaped_of_RefB (by kernel_rfl) (by kernel_rfl)) (by kernel_rfl) (by kernel_rfl) (by kernel_rfl) (sern.door_met os _)) ?_
  intro W base args ds gs before hval0 hW _ hsz0 hL _
  have hval : ∀ (j : Nat) t v, Tryd.f3.params[j]? = some t → args[j]? = some v → Value.okWide Tryd.prog W .any base t v := hval0
  have hW' := hW
  obtain ⟨p, q, hA0, hV, rfl, hfz, hnd⟩ := hW
  have hA : DataW.TrodAll enc Tryd.prog W 0 (fun _ => true) true Tryd.f3.params.toList args.toList ds p := hA0
  have hA2 := hA
  rw [Tryd.params3] at hA hval
  obtain ⟨v0, d0, rfl, rfl, h0⟩ := trodAll_one hA
  obtain ⟨rfl, rfl⟩ := trodVars_none hV
  obtain ⟨t0, hr0⟩ := opt.open_value (hval 0 24 v0 rfl rfl) h0
  clear hA0 hval0
  simp only [List.append_nil] at hW' hA2
  refine (walk t0 v0 W hr0 (sern.env_of hL)).mono fun e W' ⟨he, hb⟩ => ?_
  subst he
  exact ⟨_, rfl, opn.post_true hW' rfl hA2 rfl rfl Tryd.underlying4 (by kernel_rfl) (by kernel_rfl) hb⟩

theorem over : Rows.FnExactSerializeSaid :=
  OpenClaim.holds_of_wide 3 Tryd.f3 rfl rfl rfl rfl rfl rfl rfl ⟨rfl, rfl, rfl, rfl, rfl⟩ rfl rfl rfl rfl rfl (by kernel_rfl) Tryd.func3 (by kernel_rfl)
    (of_decide_eq_true (by kernel_rfl)) (by unfold Func.isWrapper; first | (rw [if_pos (by decide +kernel)]; kernel_rfl) | (rw [if_neg (by decide +kernel)]; exact ⟨rfl, rfl⟩))
    (fun os started H enc _ => lifted os started H enc)

/-- The statement. -/
theorem proved : Rows.FnExactSerializeCardSaid :=
  Claim7.holds_tied_plain_at .later [] Rows.fnExactSerializeCard.laidKinds true Rows.fnExactSerializeCard.stood.harness Rows.fnExactSerializeCard.stood.looks
    over (fun _ h => by cases h) (by kernel_rfl) (fun _ h => by cases h) fnExactSerialize_row_tie rfl ⟨rfl, rfl⟩ (by kernel_rfl) rfl
    (fun f fn hf hfn => by
      obtain rfl : f = 3 := Option.some.inj ((show Tryd.prog.funcNamed "loop.example/g03011/laws.FnExactSerialize" = some 3 by kernel_rfl).symm.trans hf) |>.symm
      obtain rfl : fn = Tryd.f3 := (Option.some.inj (Tryd.func3.symm.trans hfn)).symm
      exact ⟨by kernel_rfl, fun j t ht => by
        rw [Tryd.params3] at ht
        have hm : t ∈ [24] := by simpa using Array.mem_of_getElem? ht
        have hall : ([24].all fun u => !Tryd.prog.wantsStandIn u) = true := by kernel_rfl
        exact (show Tryd.prog.wantsStandIn t = false by simpa using List.all_eq_true.1 hall t hm)⟩)
    (by kernel_rfl)
#print axioms proved
end Go.Proofs.YtdglmnmalfpipaaDoor.fnExactSerialize

