/-
  For every text the law FnExactLex returns true: Lex of the project gives what the model gives.
  Conditions: none but that the argument is of Go's type.
-/
import Derived.Test.YtakdbfifbkngnaaGreatDoorRows
import Derived.Test.YtakdbfifbkngnaaGreatDoorCards
import Derived.Test.YtakdbfifbkngnaaGreatDoorTie
import Derived.LaidMore
import Derived.LaidHandle
import Derived.Stop.Joined
import Derived.SevenTiedAt
import Derived.Stop.LaidErr
import Derived.SizedLaws
import Derived.HandedShaped
import Derived.WalkKit
import Derived.ProofKit
import Derived.OpenShut
import Derived.Test.YtakdbfifbkngnaaGreatDoorLaSLxF
import Derived.Test.YtakdbfifbkngnaaGreatDoorLaSLmL
import Derived.Test.YtakdbfifbkngnaaGreatDoorLaSTkM
import Derived.Test.YtakdbfifbkngnaaGreatDoorLaSEnvLz
import Derived.Test.YtakdbfifbkngnaaGreatDoorLaB2
namespace Go.Proofs.YtakdbfifbkngnaaGreatDoor.fnExactLex
open Go.ChangeShapes Go.WideShapes Go.ChangeAt Go.RowKit mem
open Go.ChangeMaps (open_string)
set_option linter.unusedVariables false

theorem own : ownKnob Tryz.prog.godebug = none := by kernel_rfl

set_option maxHeartbeats 4000000 in
set_option maxRecDepth 100000 in
theorem walk (s0 : ByteArray) (w : World)  (hV : lex.Vars w) (hM : lex.MaxL w) :
    Calls Tryz.prog 5 #[.string s0] w fun e w' => e = .returned (.bool true) ∧ Below w.heap.size w w' := by
  by_cases hbig : (1048576 : Int) < (s0.size : Int)
  · go_enter Tryz.func5, Tryz.ntmps5
    go_wp2
    go_ret
    exact ⟨rfl, Below.refl _ _⟩
  have hsz : s0.size ≤ 1099511627776 := by omega
  go_enter Tryz.func5, Tryz.ntmps5
  go_wp2_with (fail)
  refine (lex.lex_s s0 hsz _).mono ?_
  rintro e w1 ⟨v1, out, c, p, rfl, ht1, hb1, hR1⟩
  have hV1 := hV.stays hb1
  have hM1 := hM.stays hb1
  go_wp2_with (fail)
  refine (lex.lex_i s0 hsz _ hV1 hM1).mono ?_
  rintro e w2 ⟨v2, out2, c2, p2, rfl, ht2, hb2, hR2⟩
  obtain ⟨rfl, rfl, rfl⟩ := hR1.det hR2
  have hlen := hR1.1
  have hk1 := ht1.below hb2
  have nc : ¬ (c : Int) ≠ (c : Int) := fun h => h rfl
  have np : ¬ (p : Int) ≠ (p : Int) := fun h => h rfl
  obtain ⟨M, HM⟩ : ∃ M : Int, Hid (1 + 4 * (out.length : Int) = M) := ⟨_, Lib.hid rfl⟩
  have hM0 : ¬ M < 0 := by have := HM.out; omega
  have nM : ¬ M ≠ M := fun h => h rfl
  go_wp2_with (fail)
  refine (lex.eqTokenS out (by omega) _ _ _ _ _ ht2 hk1).mono ?_
  rintro e w3 ⟨rfl, hb3⟩
  have ht3 := ht2.below hb3
  have hB13 : Below w1.heap.size w1 w3 := lex.bs hb2 hb3
  go_wp2_with (fail)
  refine (lex.markTokenS out 1 (by omega) (by omega) _ _ _ ht3).mono ?_
  rintro e w4 ⟨he, ht4, hf4⟩
  rw [HM.out] at he
  subst he
  have hB34 : Below w1.heap.size w3 w4 := hf4.below hB13.size fun b hb => (ht3.own b hb).1
  have hB14 : Below w1.heap.size w1 w4 := hB13.trans hB34
  have hk4 := ht1.below hB14
  go_wp2_with (fail)
  refine (lex.heldTokenS 1 out.length (by omega) (by omega) _ _ _ ht4).mono ?_
  rintro e w5 ⟨he, hb5⟩
  rw [HM.out] at he
  subst he
  have hB15 : Below w1.heap.size w1 w5 := hB14.trans (hb5.mono hB14.size)
  have hk5 := ht1.below hB15
  have ht5 := ht4.below hb5
  go_wp2_with (fail)
  refine (lex.lex_i s0 hsz _ (hV1.stays hB15) (hM1.stays hB15)).mono ?_
  rintro e w6 ⟨v3, out3, c3, p3, rfl, ht6, hb6, hR3⟩
  obtain ⟨rfl, rfl, rfl⟩ := hR1.det hR3
  go_wp2_with (fail)
  refine (lex.eqTokenS out (by omega) _ _ _ _ _ ht6 (hk5.below hb6)).mono ?_
  rintro e w7 ⟨rfl, hb7⟩
  have ht7 := (ht5.below hb6).below hb7
  have hB17 : Below w1.heap.size w1 w7 := (hB15.trans (hb6.mono hB15.size)).trans (hb7.mono (Nat.le_trans hB15.size hb6.size))
  go_wp2_with (fail)
  refine (lex.heldTokenS 1 out.length (by omega) (by omega) _ _ _ ht7).mono ?_
  rintro e w8 ⟨he, hb8⟩
  rw [HM.out] at he
  subst he
  have hB8 : Below w.heap.size w w8 := lex.bs hb1 (hB17.trans (hb8.mono hB17.size))
  go_wp2_with (fail)
  go_ret
  exact ⟨rfl, hB8⟩

theorem returnsInHanded_of_change_shand {H : Type} {enc : TypeId × Value → H} {a : Assume} {C : Checked} {os : Os} {f : FuncId} {fn : Func} {s : ChangeSpec} {conds : List PathCond} {apart fresh handsOn again : Bool} {X : World → Array Value → Prop}
    (hX : ∀ (w w' : World) (args : Array Value), w.heap = w'.heap → X w args → X w' args)
    (own : ownKnob C.prog.godebug = none) (started : os.Started) (noInit : C.prog.inits.idxOf? f = none) (hfn : C.prog.funcs[f]? = some fn)
    (witness : ∃ (w : World) (tape : Tape) (i : Input), w.os = os ∧ (w.forCall tape i).Shaped C.prog ∧ i.vars = [] ∧ Input.okWide C.prog (w.forCall tape i) .any w.heap.size f i ∧
      ((s.pre enc C.prog fn conds apart (w.forCall tape i).memory i.args ∧ X (w.forCall tape i).memory i.args) ∧ sizedMet enc C.prog fn (OpenSpec.ofChange s) apart (w.forCall tape i).memory i.args) ∧ a.holds C.prog (lone (Frame.enter C.prog f i.args .normal) [] (w.forCall tape i)))
    (contract : ∀ (W : World) (base : Nat) (args : Array Value) (ds gs : List (DataW H)) (before : List MemPlace),
      (∀ (j : Nat) t v, fn.params[j]? = some t → args[j]? = some v → Value.okWide C.prog W .any base t v) →
      DataW.Whole enc C.prog fn.params.toList s.vars apart W args.toList ds gs before →
      conds.all (PathCond.test C.prog ⟨fn.params.toList, ds, s.plain.varTypes C.prog, gs⟩) = true →
      (DataW.weightsEach C.prog (fn.params.toList ++ s.plain.varTypes C.prog) (ds ++ gs)).all (· ≤ reachBytes) = true → X W args → W.ShapedOpen C.prog →
      a.holds C.prog (lone (Frame.enter C.prog f args .normal) [] W) →
      Calls C.prog f args W fun e W' => ∃ v, e = .returned v ∧ s.post enc C.prog fn apart fresh handsOn again W args v W') :
    ReturnsInHanded a C os f .any (fun w args => (s.pre enc C.prog fn conds apart w args ∧ X w args) ∧ sizedMet enc C.prog fn (OpenSpec.ofChange s) apart w args) (s.post enc C.prog fn apart fresh handsOn again) := by
  refine returnsInHanded_of_calls own started noInit witness ?_
  intro w tape i _ hsh _ hok hpre hholds
  obtain ⟨_, _, _, fn', hfn', _, _, _, _, hval⟩ := hok
  have e : fn' = fn := Option.some.inj (hfn'.symm.trans hfn)
  subst e
  obtain ⟨⟨⟨ds, gs, before, hw, hc⟩, hx⟩, hz⟩ := hpre
  have hw' := DataW.Whole.of_heap (w' := w.forCall tape i) (by rfl) hw
  refine (contract (w.forCall tape i) w.heap.size i.args ds gs before hval hw' hc (hz.weights hw) (hX _ _ _ (by rfl) hx) hsh hholds).mono fun e W' ⟨v, he, hp⟩ => ?_
  subst he
  exact ChangeSpec.post_blind hp

set_option maxRecDepth 100000 in
theorem lifted (os : Os) (started : os.Started) (H : Type) (enc : TypeId × Value → H) :
    ReturnsInHanded {} Tryz.checked os 5 .any (fun w args => (Rows.fnExactLexSpec.pre enc Tryz.prog Tryz.f5 [] false w args ∧ laidMetH Tryz.prog lex.envZ.laidOf w) ∧ sizedMet enc Tryz.prog Tryz.f5 (OpenSpec.ofChange Rows.fnExactLexSpec) false w args)
      (Rows.fnExactLexSpec.post enc Tryz.prog Tryz.f5 false true false false) := by
  refine returnsInHanded_of_change_shand (C := Tryz.checked) (X := fun w _ => laidMetH Tryz.prog lex.envZ.laidOf w) (fun _ _ _ hh h => h.of_heap hh) own started (by kernel_rfl) Tryz.func5
    (ChangeSpec.witness_shaped (enc := enc) (C := Tryz.checked) (os := os) (X := fun w _ => laidMetH Tryz.prog lex.envZ.laidOf w) false (World.laidAll Tryz.prog os lex.envZ.laidOf) #[.string ⟨#[]⟩] 8 (World.laidAll_os _ _ _) (World.shaped_of_ZipB (by kernel_rfl) (by kernel_rfl)) (by kernel_rfl) (by kernel_rfl) (by kernel_rfl) (lex.envZ.door_met os _)) ?_
  intro W base args ds gs before hval0 hW _ hsz0 hL hsh _
  have hval : ∀ (j : Nat) t v, Tryz.f5.params[j]? = some t → args[j]? = some v → Value.okWide Tryz.prog W .any base t v := hval0
  have hW' := hW
  obtain ⟨p, q, hA0, hV, rfl, hfz, hnd⟩ := hW
  have hA : DataW.TrodAll enc Tryz.prog W 0 (fun _ => true) true Tryz.f5.params.toList args.toList ds p := hA0
  have hA2 := hA
  rw [Tryz.params5] at hA hval
  obtain ⟨v0, d0, rfl, rfl, h0⟩ := trodAll_one hA
  have hV2 := hV
  obtain ⟨gv, tv, cv, fv, dg, pv, rfl, -, -, -, -, -⟩ := trodVars_one hV
  obtain ⟨s0, rfl, rfl, rfl, w0⟩ := open_string Tryz.underlying9 (hval 0 9 v0 rfl rfl) h0
  clear hA0 hval0
  refine (walk s0 W  (lex.envZ.env_of hL) (lex.envZ.max_of hsh)).mono fun e W' ⟨he, hb⟩ => ?_
  subst he
  exact ⟨_, rfl, opn.post_true_vars hW' hA2 hV2 rfl rfl Tryz.underlying4 (by kernel_rfl) (by kernel_rfl) (by kernel_rfl) hb⟩

theorem over : Rows.FnExactLexSaid :=
  OpenClaim.holds_of_wide 5 Tryz.f5 rfl rfl rfl rfl rfl rfl rfl ⟨rfl, rfl, rfl, rfl, rfl⟩ rfl rfl rfl rfl rfl (by kernel_rfl) Tryz.func5 (by kernel_rfl)
    (of_decide_eq_true (by kernel_rfl)) (by unfold Func.isWrapper; first | (rw [if_pos (by decide +kernel)]; kernel_rfl) | (rw [if_neg (by decide +kernel)]; exact ⟨rfl, rfl⟩))
    (fun os started H enc _ => lifted os started H enc)

/-- The statement. -/
theorem proved : Rows.FnExactLexCardSaid :=
  Claim7.holds_tied_plain_at .later [] Rows.fnExactLexCard.laidKinds true Rows.fnExactLexCard.stood.harness Rows.fnExactLexCard.stood.looks
    over (fun _ h => by cases h) (by kernel_rfl) (fun _ h => by cases h) fnExactLex_row_tie rfl ⟨rfl, rfl⟩ (by kernel_rfl) rfl
    (fun f fn hf hfn => by
      obtain rfl : f = 5 := Option.some.inj ((show Tryz.prog.funcNamed "loop.example/g03011/laws.FnExactLex" = some 5 by kernel_rfl).symm.trans hf) |>.symm
      obtain rfl : fn = Tryz.f5 := (Option.some.inj (Tryz.func5.symm.trans hfn)).symm
      exact ⟨by kernel_rfl, fun j t ht => by
        rw [Tryz.params5] at ht
        have hm : t ∈ [9] := by simpa using Array.mem_of_getElem? ht
        have hall : ([9].all fun u => !Tryz.prog.wantsStandIn u) = true := by kernel_rfl
        exact (show Tryz.prog.wantsStandIn t = false by simpa using List.all_eq_true.1 hall t hm)⟩)
    (by kernel_rfl)
#print axioms proved
end Go.Proofs.YtakdbfifbkngnaaGreatDoor.fnExactLex

