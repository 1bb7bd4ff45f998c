/-
  For every token the law FnExactTokenText returns true: TokenText of the project gives what the model gives.
  Conditions: none but that the argument is of Go's type.
-/
import Derived.Test.YtakdbfifbkngnaaDoorRows
import Derived.Test.YtakdbfifbkngnaaDoorCards
import Derived.Test.YtakdbfifbkngnaaDoorTie
import Derived.LaidMore
import Derived.LaidHandle
import Derived.Stop.Joined
import Derived.SevenTiedAt
import Derived.Stop.LaidErr
import Derived.SizedLaws
import Derived.WalkKit
import Derived.ProofKit
import Derived.OpenShut
import Derived.Test.YtakdbfifbkngnaaDoorTaB1
namespace Go.Proofs.YtakdbfifbkngnaaDoor.fnExactTokenText
open Go.ChangeShapes Go.WideShapes Go.ChangeAt Go.RowKit mem
open Go.ChangeMaps (open_string)
set_option linter.unusedVariables false

theorem own : ownKnob Tryd.prog.godebug = none := by kernel_rfl

theorem walk (y0 : lex.Tk) (w : World) (hn0 : lex.I64' y0.kind ∧ lex.I64' y0.num ∧ lex.I64' y0.at_) (hy0 : y0.text.size ≤ maxLen) (hE : fmt.Tab w) :
    Calls Tryd.prog 4 #[lex.tkS y0] w fun e w' => e = .returned (.bool true) ∧ Below w.heap.size w w' := by
  have HS := Lib.hid (lex.szToken y0 hy0)
  obtain ⟨S, HSS⟩ : ∃ S : Int, Hid ((if y0.text.size ≤ 1048576 then 1048576 - (y0.text.size : Int) else -1) = S) := ⟨_, Lib.hid rfl⟩
  have HZ : Hid (∀ w, Calls Tryd.prog 7 #[lex.tkS y0, .int .i64 1048576] w (lex.GvQ w (.int .i64 S))) := Lib.hid fun w => by rw [← HSS.out]; exact HS.out w
  have hT := lex.toToken y0
  obtain ⟨t, ht⟩ : ∃ t, t = lex.tkT y0 := ⟨_, rfl⟩
  have HT := Lib.hid ht; clear ht
  have HTI : Hid (y0.text.size ≤ 1048576 → ∀ w, fmt.Tab w → Calls Tryd.prog 10 #[lex.tkS y0] w (lex.GvQ w (.string t))) := Lib.hid fun h w hw => by rw [HT.out]; exact lex.tokenText_i y0 (by omega) hn0.2.1 w hw
  have HTS : Hid (y0.text.size ≤ 1048576 → ∀ w, fmt.Tab w → Calls Tryd.prog 8 #[lex.tkS y0] w (lex.GvQ w (.string t))) := Lib.hid fun h w hw => by rw [HT.out]; exact lex.tokenText_s y0 (by omega) hn0.2.1 w hw
  have hS : (y0.text.size ≤ 1048576 ∧ 0 ≤ S ∧ S ≤ 1048576) ∨ S = -1 := by
    have := HSS.out
    split at this
    · rename_i h; exact .inl ⟨h, by omega⟩
    · exact .inr this.symm
  have HE := Lib.hid hE
  have HTT := Lib.hid hT
  clear HS HSS HT hn0 hy0 hE hT
  obtain ⟨yk, yn, ys, ya⟩ := y0
  unfold lex.tkS at HZ HTT HTI HTS ⊢
  simp only at hS HZ HTT HTI HTS ⊢
  rcases hS with ⟨hs, h0, h1⟩ | rfl
  · have hneg : ¬ S < 0 := by omega
    go_enter Tryd.func4, Tryd.ntmps4
    go_wp2_with (fail)
    refine (HZ.out _).mono ?_
    rintro e w1 ⟨rfl, hb⟩
    have HB := Lib.hid (((Below.refl w.heap.size w).alloc (Nat.le_refl _) _).trans (hb.mono (by simp)))
    have hcell := lex.keepc hb (heap_alloc_new w _)
    have hcc := lex.rowcc hcell
    clear hb
    go_wp2_with (fail)
    refine (HTT.out _).mono ?_
    rintro e w2 ⟨rfl, hb⟩
    have HB2 := Lib.hid (HB.out.trans (hb.mono HB.out.size))
    have hcell2 := lex.keepc hb hcell
    have hcc2 := lex.rowcc hcell2
    clear hb
    go_wp2_with (fail)
    refine (HTS.out hs _ (HE.out.stays HB2.out)).mono ?_
    rintro e w3 ⟨rfl, hb⟩
    have HB3 := Lib.hid (HB2.out.trans (hb.mono HB2.out.size))
    have hcell3 := lex.keepc hb hcell2
    have hcc3 := lex.rowcc hcell3
    clear hb
    go_wp2_with (fail)
    refine (HTT.out _).mono ?_
    rintro e w4 ⟨rfl, hb⟩
    have HB4 := Lib.hid (HB3.out.trans (hb.mono HB3.out.size))
    clear hb
    go_wp2_with (fail)
    refine (HTI.out hs _ (HE.out.stays HB4.out)).mono ?_
    rintro e w5 ⟨rfl, hb⟩
    have HB5 := Lib.hid (HB4.out.trans (hb.mono HB4.out.size))
    clear hb
    go_wp2_with (fail)
    go_ret
    exact ⟨rfl, HB5.out⟩
  · go_enter Tryd.func4, Tryd.ntmps4
    go_wp2_with (fail)
    refine (HZ.out _).mono ?_
    rintro e w1 ⟨rfl, hb⟩
    have HB := Lib.hid (((Below.refl w.heap.size w).alloc (Nat.le_refl _) _).trans (hb.mono (by simp)))
    clear hb
    go_wp2_with (fail)
    go_ret
    exact ⟨rfl, HB.out⟩

set_option maxRecDepth 100000 in
theorem lifted (os : Os) (started : os.Started) (H : Type) (enc : TypeId × Value → H) :
    ReturnsInHanded {} Tryd.checked os 4 .any (fun w args => (Rows.fnExactTokenTextSpec.pre enc Tryd.prog Tryd.f4 [] false w args ∧ laidMetH Tryd.prog lex.envT.laidOf w) ∧ sizedMet enc Tryd.prog Tryd.f4 (OpenSpec.ofChange Rows.fnExactTokenTextSpec) false w args)
      (Rows.fnExactTokenTextSpec.post enc Tryd.prog Tryd.f4 false true false false) := by
  refine returnsInHanded_of_change_and (C := Tryd.checked) (X := fun w _ => laidMetH Tryd.prog lex.envT.laidOf w) (fun _ _ _ hh h => h.of_heap hh) own started (by kernel_rfl) Tryd.func4
    (ChangeSpec.witness_shaped (enc := enc) (C := Tryd.checked) (os := os) (X := fun w _ => laidMetH Tryd.prog lex.envT.laidOf w) false (World.doorLaid Tryd.prog 400 os) #[.agg #[.int .i64 0, .int .i64 0, .string ⟨#[]⟩, .int .i64 0]] 8 rfl (World.shaped_of_RefB (by kernel_rfl) (by kernel_rfl)) (by kernel_rfl) (by kernel_rfl) (by kernel_rfl) (lex.envT.door_met os _)) ?_
  intro W base args ds gs before hval0 hW _ hsz0 hL _
  have hval : ∀ (j : Nat) t v, Tryd.f4.params[j]? = some t → args[j]? = some v → Value.okWide Tryd.prog W .any base t v := hval0
  have hW' := hW
  obtain ⟨p, q, hA0, hV, rfl, hfz, hnd⟩ := hW
  have hA : DataW.TrodAll enc Tryd.prog W 0 (fun _ => true) true Tryd.f4.params.toList args.toList ds p := hA0
  have hA2 := hA
  rw [Tryd.params4] at hA hval
  obtain ⟨v0, d0, rfl, rfl, h0⟩ := trodAll_one hA
  obtain ⟨rfl, rfl⟩ := trodVars_none hV
  obtain ⟨y0, rfl, hn0, hy0⟩ := lex.open_token (hval 0 24 v0 rfl rfl) h0
  clear hA0 hval0
  simp only [List.append_nil] at hW' hA2
  refine (walk y0 W hn0 hy0 (lex.envT.env_of hL)).mono fun e W' ⟨he, hb⟩ => ?_
  subst he
  exact ⟨_, rfl, opn.post_true hW' rfl hA2 rfl rfl Tryd.underlying4 (by kernel_rfl) (by kernel_rfl) hb⟩

theorem over : Rows.FnExactTokenTextSaid :=
  OpenClaim.holds_of_wide 4 Tryd.f4 rfl rfl rfl rfl rfl rfl rfl ⟨rfl, rfl, rfl, rfl, rfl⟩ rfl rfl rfl rfl rfl (by kernel_rfl) Tryd.func4 (by kernel_rfl)
    (of_decide_eq_true (by kernel_rfl)) (by unfold Func.isWrapper; first | (rw [if_pos (by decide +kernel)]; kernel_rfl) | (rw [if_neg (by decide +kernel)]; exact ⟨rfl, rfl⟩))
    (fun os started H enc _ => lifted os started H enc)

/-- The statement. -/
theorem proved : Rows.FnExactTokenTextCardSaid :=
  Claim7.holds_tied_plain_at .later [] Rows.fnExactTokenTextCard.laidKinds true Rows.fnExactTokenTextCard.stood.harness Rows.fnExactTokenTextCard.stood.looks
    over (fun _ h => by cases h) (by kernel_rfl) (fun _ h => by cases h) fnExactTokenText_row_tie rfl ⟨rfl, rfl⟩ (by kernel_rfl) rfl
    (fun f fn hf hfn => by
      obtain rfl : f = 4 := Option.some.inj ((show Tryd.prog.funcNamed "loop.example/g03011/laws.FnExactTokenText" = some 4 by kernel_rfl).symm.trans hf) |>.symm
      obtain rfl : fn = Tryd.f4 := (Option.some.inj (Tryd.func4.symm.trans hfn)).symm
      exact ⟨by kernel_rfl, fun j t ht => by
        rw [Tryd.params4] at ht
        have hm : t ∈ [24] := by simpa using Array.mem_of_getElem? ht
        have hall : ([24].all fun u => !Tryd.prog.wantsStandIn u) = true := by kernel_rfl
        exact (show Tryd.prog.wantsStandIn t = false by simpa using List.all_eq_true.1 hall t hm)⟩)
    (by kernel_rfl)
#print axioms proved
end Go.Proofs.YtakdbfifbkngnaaDoor.fnExactTokenText

