/-
  IsKey answers as its model at every key.
  Conditions: the package variables that the row lists hold what the program's text lays, and the card ties that to the text.
-/
import Derived.Test.YtaljpkmndbcefaaDoorRows
import Derived.Test.YtaljpkmndbcefaaDoorCards
import Derived.Test.YtaljpkmndbcefaaDoorTie
import Derived.LaidMore
import Derived.LaidHandle
import Derived.Stop.Joined
import Derived.SevenTiedAt
import Derived.Stop.LaidErr
import Derived.SizedLaws
import Derived.WalkKit
import Derived.ProofKit
import Derived.OpenShut
import Derived.Test.YtaljpkmndbcefaaDoorIsKey
import Derived.Test.YtaljpkmndbcefaaDoorTreeSz
import Derived.Test.YtaljpkmndbcefaaDoorOpenT
import Derived.Test.YtaljpkmndbcefaaDoorEnvKey
namespace Go.Proofs.YtaljpkmndbcefaaDoor.fnExactIsKey
open Go.ChangeShapes Go.WideShapes Go.ChangeAt Go.RowKit tree
open Go.ChangeMaps (open_string)
set_option linter.unusedVariables false

theorem own : ownKnob Tryd.prog.godebug = none := by kernel_rfl

theorem walk (y0 : Ky) (w : World) (hy0 : I64 y0.num ∧ y0.str.size ≤ maxLen) (hE : prs.Env w) : Calls Tryd.prog 4 #[kyV y0] w fun e w' => e = .returned (.bool true) ∧ Below w.heap.size w w' := by
  have HE := Lib.hid hE
  have SZ := szKey y0 hy0.2 1048576 (by omega) (by omega)
  have TO := toKey y0
  have KI := isKey_i y0
  have KS := isKey_s y0
  obtain ⟨q, HQ⟩ : ∃ q, Hid (keyB y0 = q) := ⟨_, Lib.hid rfl⟩
  rw [HQ.out] at KI KS
  clear hE hy0
  obtain ⟨b, m, s⟩ := y0
  replace SZ : ∀ w, Calls Tryd.prog 18 #[kyV ⟨b, m, s⟩, .int .i64 1048576] w (SzQ 1048576 s.size w) := SZ
  replace KI : s.size ≤ 281474976710656 → ∀ w, prs.Env w → Calls Tryd.prog 21 #[kyV ⟨b, m, s⟩] w (KeyQ w q) := KI
  replace KS : s.size ≤ 281474976710656 → ∀ w, prs.Env w → Calls Tryd.prog 19 #[kyV ⟨b, m, s⟩] w (KeyQ w q) := KS
  have KI := Lib.hid KI
  have KS := Lib.hid KS
  unfold kyV
  go_enter Tryd.func4, Tryd.ntmps4
  go_wp2_with (fail)
  refine (SZ _).mono ?_
  rintro e w1 ⟨r, rfl, ⟨hr1, hr2, hr3⟩, hb1⟩
  have E1 := Lib.hid (carry hb1 (heap_alloc_new w _))
  have HB1 := Lib.hid (bs (b1 w _) hb1)
  have HR3 := Lib.hid hr3
  obtain ⟨c1, -⟩ := rowc E1.out
  clear hb1 hr3
  by_cases hlt : r < 0
  · go_wp2_with (fail)
    go_ret
    exact ⟨rfl, HB1.out⟩
  have hs : s.size ≤ 281474976710656 := by have := HR3.out (by omega); omega
  go_wp2_with (fail)
  refine (TO _).mono ?_
  rintro e w2 ⟨rfl, hb2⟩
  have E2 := Lib.hid (carry hb2 E1.out)
  have HB2 := Lib.hid (bs HB1.out hb2)
  clear hb2 c1
  go_wp2_with (fail)
  refine (KS.out hs _ (HE.out.stays HB2.out)).mono ?_
  rintro e w3 ⟨rfl, hb3⟩
  have E3 := Lib.hid (carry hb3 E2.out)
  have HB3 := Lib.hid (bs HB2.out hb3)
  obtain ⟨c3, -⟩ := rowc E3.out
  clear hb3
  go_wp2_with (fail)
  refine (TO _).mono ?_
  rintro e w4 ⟨rfl, hb4⟩
  have HB4 := Lib.hid (bs HB3.out hb4)
  clear hb4 c3
  go_wp2_with (fail)
  refine (KI.out hs _ (HE.out.stays HB4.out)).mono ?_
  rintro e w5 ⟨rfl, hb5⟩
  have HB5 := Lib.hid (bs HB4.out hb5)
  clear hb5
  go_wp2_with (fail)
  go_ret
  exact ⟨rfl, HB5.out⟩

set_option maxRecDepth 100000 in
theorem lifted (os : Os) (started : os.Started) (H : Type) (enc : TypeId × Value → H) :
    ReturnsInHanded {} Tryd.checked os 4 .any (fun w args => (Rows.fnExactIsKeySpec.pre enc Tryd.prog Tryd.f4 [] false w args ∧ laidMetH Tryd.prog prs.laidOf w) ∧ sizedMet enc Tryd.prog Tryd.f4 (OpenSpec.ofChange Rows.fnExactIsKeySpec) false w args)
      (Rows.fnExactIsKeySpec.post enc Tryd.prog Tryd.f4 false true false false) := by
  refine returnsInHanded_of_change_and (C := Tryd.checked) (X := fun w _ => laidMetH Tryd.prog prs.laidOf w) (fun _ _ _ hh h => h.of_heap hh) own started (by kernel_rfl) Tryd.func4
    (ChangeSpec.witness_shaped (enc := enc) (C := Tryd.checked) (os := os) (X := fun w _ => laidMetH Tryd.prog prs.laidOf w) false (World.doorLaid Tryd.prog 400 os) #[.agg #[.bool false, .int .i64 0, .string ⟨#[]⟩]] 8 rfl (World.shaped_of_RefB (by kernel_rfl) (by kernel_rfl)) (by kernel_rfl) (by kernel_rfl) (by kernel_rfl) (prs.door_met os _)) ?_
  intro W base args ds gs before hval0 hW _ hsz0 hL _
  have hval : ∀ (j : Nat) t v, Tryd.f4.params[j]? = some t → args[j]? = some v → Value.okWide Tryd.prog W .any base t v := hval0
  have hW' := hW
  obtain ⟨p, q, hA0, hV, rfl, hfz, hnd⟩ := hW
  have hA : DataW.TrodAll enc Tryd.prog W 0 (fun _ => true) true Tryd.f4.params.toList args.toList ds p := hA0
  have hA2 := hA
  rw [Tryd.params4] at hA hval
  obtain ⟨v0, d0, rfl, rfl, h0⟩ := trodAll_one hA
  obtain ⟨rfl, rfl⟩ := trodVars_none hV
  obtain ⟨y0, rfl, hy0⟩ := opt.open_key (hval 0 38 v0 rfl rfl) h0
  clear hA0 hval0
  simp only [List.append_nil] at hW' hA2
  refine (walk y0 W hy0 (prs.env_of hL)).mono fun e W' ⟨he, hb⟩ => ?_
  subst he
  exact ⟨_, rfl, opn.post_true hW' rfl hA2 rfl rfl Tryd.underlying4 (by kernel_rfl) (by kernel_rfl) hb⟩

theorem over : Rows.FnExactIsKeySaid :=
  OpenClaim.holds_of_wide 4 Tryd.f4 rfl rfl rfl rfl rfl rfl rfl ⟨rfl, rfl, rfl, rfl, rfl⟩ rfl rfl rfl rfl rfl (by kernel_rfl) Tryd.func4 (by kernel_rfl)
    (of_decide_eq_true (by kernel_rfl)) (by unfold Func.isWrapper; first | (rw [if_pos (by decide +kernel)]; kernel_rfl) | (rw [if_neg (by decide +kernel)]; exact ⟨rfl, rfl⟩))
    (fun os started H enc _ => lifted os started H enc)

/-- The statement. -/
theorem proved : Rows.FnExactIsKeyCardSaid :=
  Claim7.holds_tied_plain_at .later [] Rows.fnExactIsKeyCard.laidKinds true Rows.fnExactIsKeyCard.stood.harness Rows.fnExactIsKeyCard.stood.looks
    over (fun _ h => by cases h) (by kernel_rfl) (fun _ h => by cases h) fnExactIsKey_row_tie rfl ⟨rfl, rfl⟩ (by kernel_rfl) rfl
    (fun f fn hf hfn => by
      obtain rfl : f = 4 := Option.some.inj ((show Tryd.prog.funcNamed "loop.example/g03011/laws.FnExactIsKey" = some 4 by kernel_rfl).symm.trans hf) |>.symm
      obtain rfl : fn = Tryd.f4 := (Option.some.inj (Tryd.func4.symm.trans hfn)).symm
      exact ⟨by kernel_rfl, fun j t ht => by
        rw [Tryd.params4] at ht
        have hm : t ∈ [38] := by simpa using Array.mem_of_getElem? ht
        have hall : ([38].all fun u => !Tryd.prog.wantsStandIn u) = true := by kernel_rfl
        exact (show Tryd.prog.wantsStandIn t = false by simpa using List.all_eq_true.1 hall t hm)⟩)
    (by kernel_rfl)
#print axioms proved
end Go.Proofs.YtaljpkmndbcefaaDoor.fnExactIsKey
