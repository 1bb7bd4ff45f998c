/-
  TextKey answers as its model at every text.
  Conditions: the package variables that the row lists hold what the program's text lays, and the card ties that to the text.
-/
import Derived.Test.YtfeoendbfdmkmaaDoorRows
import Derived.Test.YtfeoendbfdmkmaaDoorCards
import Derived.Test.YtfeoendbfdmkmaaDoorTie
import Derived.LaidMore
import Derived.LaidHandle
import Derived.Stop.Joined
import Derived.SevenTiedAt
import Derived.Stop.LaidErr
import Derived.SizedLaws
import Derived.WalkKit
import Derived.ProofKit
import Derived.OpenShut
import Derived.Test.YtfeoendbfdmkmaaDoorTextK
import Derived.Test.YtfeoendbfdmkmaaDoorEnvKey
import Derived.Test.YtfeoendbfdmkmaaDoorOpen
namespace Go.Proofs.YtfeoendbfdmkmaaDoor.fnExactTextKey
open Go.ChangeShapes Go.WideShapes Go.ChangeAt Go.RowKit tree
open Go.ChangeMaps (open_string)
set_option linter.unusedVariables false

theorem own : ownKnob Tryd.prog.godebug = none := by kernel_rfl

theorem walk (s0 : ByteArray) (w : World) (hE : prs.Env w) : Calls Tryd.prog 4 #[.string s0] w (TrueQ w) := by
  by_cases hs : s0.size ≤ 1048576
  · have hs1 : ¬ (1048576 < s0.size) := by omega
    obtain ⟨y, HY⟩ : ∃ y, Hid (tkY s0 = y) := ⟨_, Lib.hid rfl⟩
    have TI := fun w hE => textKey_i s0 (by omega) (by omega) w hE
    have TS := fun w => textKey_s s0 (by omega) w
    have EQ := eqKey y
    rw [HY.out] at TI TS
    obtain ⟨yb, yn, ys⟩ := y
    unfold kyV at TI TS EQ
    have HTI := Lib.hid TI
    have HTS := Lib.hid TS
    have HEQ := Lib.hid EQ
    have HE := Lib.hid hE
    clear TI TS EQ hE hs
    go_enter Tryd.func4, Tryd.ntmps4
    go_wp2_with (fail)
    refine (HTS.out _).mono ?_
    rintro e w1 ⟨rfl, hb1⟩
    have HB1 := Lib.hid hb1
    clear hb1
    go_wp2_with (fail)
    have hb2 := b1 w1 (.cells #[.bool yb, .int .i64 yn, .string ys] IK)
    refine (HTI.out _ (HE.out.stays (bs HB1.out hb2))).mono ?_
    rintro e w2 ⟨rfl, hb3⟩
    obtain ⟨N1, hN1⟩ : ∃ N, N = w1.heap.size := ⟨_, rfl⟩
    have e1 := carry hb3 (heap_alloc_new w1 (.cells #[.bool yb, .int .i64 yn, .string ys] IK))
    rw [← hN1] at e1 ⊢
    have E1 := Lib.hid e1
    have HN1 := Lib.hid hN1
    have HB2 := Lib.hid (bs (bs HB1.out hb2) hb3)
    have r1 : ∀ o j, (w2.alloc o).cell? ⟨N1, j, none⟩ = _ := fun o j => (rowc (keepAlloc E1.out)).1 j
    clear hb2 hb3 e1 hN1
    go_wp2_with (fail)
    refine (HEQ.out _).mono ?_
    rintro e w3 ⟨rfl, hb4⟩
    have HB3 := Lib.hid (bs (bs HB2.out (b1 w2 _)) hb4)
    clear hb4
    go_wp2_with (fail)
    go_ret
    exact ⟨rfl, HB3.out⟩
  · have hs1 : 1048576 < s0.size := by omega
    clear hs hE
    go_enter Tryd.func4, Tryd.ntmps4
    go_wp2_with (fail)
    go_ret
    exact ⟨rfl, Below.refl _ _⟩

set_option maxRecDepth 100000 in
theorem lifted (os : Os) (started : os.Started) (H : Type) (enc : TypeId × Value → H) :
    ReturnsInHanded {} Tryd.checked os 4 .any (fun w args => (Rows.fnExactTextKeySpec.pre enc Tryd.prog Tryd.f4 [] false w args ∧ laidMetH Tryd.prog prs.laidOf w) ∧ sizedMet enc Tryd.prog Tryd.f4 (OpenSpec.ofChange Rows.fnExactTextKeySpec) false w args)
      (Rows.fnExactTextKeySpec.post enc Tryd.prog Tryd.f4 false true false false) := by
  refine returnsInHanded_of_change_and (C := Tryd.checked) (X := fun w _ => laidMetH Tryd.prog prs.laidOf w) (fun _ _ _ hh h => h.of_heap hh) own started (by kernel_rfl) Tryd.func4
    (ChangeSpec.witness_shaped (enc := enc) (C := Tryd.checked) (os := os) (X := fun w _ => laidMetH Tryd.prog prs.laidOf w) false (World.doorLaid Tryd.prog 400 os) #[.string ⟨#[]⟩] 8 rfl (World.shaped_of_RefB (by kernel_rfl) (by kernel_rfl)) (by kernel_rfl) (by kernel_rfl) (by kernel_rfl) (prs.door_met os _)) ?_
  intro W base args ds gs before hval0 hW _ hsz0 hL _
  have hval : ∀ (j : Nat) t v, Tryd.f4.params[j]? = some t → args[j]? = some v → Value.okWide Tryd.prog W .any base t v := hval0
  have hW' := hW
  obtain ⟨p, q, hA0, hV, rfl, hfz, hnd⟩ := hW
  have hA : DataW.TrodAll enc Tryd.prog W 0 (fun _ => true) true Tryd.f4.params.toList args.toList ds p := hA0
  have hA2 := hA
  rw [Tryd.params4] at hA hval
  obtain ⟨v0, d0, rfl, rfl, h0⟩ := trodAll_one hA
  obtain ⟨rfl, rfl⟩ := trodVars_none hV
  obtain ⟨s0, rfl, rfl, rfl, w0⟩ := open_string Tryd.underlying9 (hval 0 9 v0 rfl rfl) h0
  clear hA0 hval0
  simp only [List.append_nil] at hW' hA2
  refine (walk s0 W  (prs.env_of hL)).mono fun e W' ⟨he, hb⟩ => ?_
  subst he
  exact ⟨_, rfl, opn.post_true hW' rfl hA2 rfl rfl Tryd.underlying4 (by kernel_rfl) (by kernel_rfl) hb⟩

theorem over : Rows.FnExactTextKeySaid :=
  OpenClaim.holds_of_wide 4 Tryd.f4 rfl rfl rfl rfl rfl rfl rfl ⟨rfl, rfl, rfl, rfl, rfl⟩ rfl rfl rfl rfl rfl (by kernel_rfl) Tryd.func4 (by kernel_rfl)
    (of_decide_eq_true (by kernel_rfl)) (by unfold Func.isWrapper; first | (rw [if_pos (by decide +kernel)]; kernel_rfl) | (rw [if_neg (by decide +kernel)]; exact ⟨rfl, rfl⟩))
    (fun os started H enc _ => lifted os started H enc)

/-- The statement. -/
theorem proved : Rows.FnExactTextKeyCardSaid :=
  Claim7.holds_tied_plain_at .later [] Rows.fnExactTextKeyCard.laidKinds true Rows.fnExactTextKeyCard.stood.harness Rows.fnExactTextKeyCard.stood.looks
    over (fun _ h => by cases h) (by kernel_rfl) (fun _ h => by cases h) fnExactTextKey_row_tie rfl ⟨rfl, rfl⟩ (by kernel_rfl) rfl
    (fun f fn hf hfn => by
      obtain rfl : f = 4 := Option.some.inj ((show Tryd.prog.funcNamed "loop.example/g03011/laws.FnExactTextKey" = some 4 by kernel_rfl).symm.trans hf) |>.symm
      obtain rfl : fn = Tryd.f4 := (Option.some.inj (Tryd.func4.symm.trans hfn)).symm
      exact ⟨by kernel_rfl, fun j t ht => by
        rw [Tryd.params4] at ht
        have hm : t ∈ [9] := by simpa using Array.mem_of_getElem? ht
        have hall : ([9].all fun u => !Tryd.prog.wantsStandIn u) = true := by kernel_rfl
        exact (show Tryd.prog.wantsStandIn t = false by simpa using List.all_eq_true.1 hall t hm)⟩)
    (by kernel_rfl)
#print axioms proved
end Go.Proofs.YtfeoendbfdmkmaaDoor.fnExactTextKey
