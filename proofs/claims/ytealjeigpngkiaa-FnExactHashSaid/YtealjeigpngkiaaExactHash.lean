/-
  For all integers the law FnExactHash returns true: Hash of the project gives what the model gives, and what came in reads as before.
  Conditions: none but that the argument is of Go's type.
-/
import Derived.Test.YtealjeigpngkiaaRows
import Derived.WalkKit
import Derived.ProofKit
import Derived.OpenShut
import Derived.Test.YtealjeigpngkiaaHash
import Derived.Test.YtealjeigpngkiaaInts
import Derived.Test.YtealjeigpngkiaaOpenI
namespace Go.Proofs.Ytealjeigpngkiaa.fnExactHash
open Go.ChangeShapes Go.WideShapes Go.ChangeAt Go.RowKit mem imem ints
open Go.ChangeMaps (open_string)
set_option linter.unusedVariables false

theorem own : ownKnob Try.prog.godebug = none := by kernel_rfl

theorem walk (A0 : Option Addr) (n0 c0 : Nat) (l0 : List Int) (w : World) (hn0 : n0 ≤ maxLen) (hr0 : RdI w A0 n0 l0) :
    Calls Try.prog 3 #[.slice A0 n0 c0] w fun e w' => e = .returned (.bool true) ∧ Below w.heap.size w w' := by
  unfold maxLen at hn0
  by_cases hbig : (1048576 : Int) < (n0 : Int)
  · go_enter Try.func3, Try.ntmps3
    go_wp2
    go_ret
    exact ⟨rfl, Below.refl _ _⟩
  have hl := hr0.len
  have HA := Lib.hid hr0; have HL := Lib.hid hl; clear hr0 hl
  go_enter Try.func3, Try.ntmps3
  go_wp2_with (fail)
  refine (toInts A0 n0 c0 l0 (by omega) _ HA.out).mono ?_
  rintro e w1 ⟨A1, n1, c1, rfl, ho, hg⟩
  obtain rfl : n1 = n0 := ho.len.symm.trans HL.out
  have HB1 := Lib.hid (below_of_none hg); have H1 := Lib.hid ho.rd; clear ho hg
  go_wp2_with (fail)
  refine (hsh.specHash A1 n1 c1 l0 (by omega) _ H1.out).mono ?_
  rintro e w2 ⟨rfl, rfl⟩
  go_wp2_with (fail)
  refine (toInts A0 n1 c0 l0 (by omega) _ (HA.out.below HB1.out)).mono ?_
  rintro e w3 ⟨AX, nx, cx, rfl, ho, hg⟩
  obtain rfl : nx = n1 := ho.len.symm.trans HL.out
  have HB3 := Lib.hid (below_next HB1.out hg); have HX := Lib.hid ho.rd; clear ho hg
  go_wp2_with (fail)
  refine (hsh.implHash AX nx cx l0 (by omega) _ HX.out).mono ?_
  rintro e w4 ⟨rfl, rfl⟩
  go_wp2_with (fail)
  refine (toInts A0 nx c0 l0 (by omega) _ (HA.out.below HB3.out)).mono ?_
  rintro e w5 ⟨AT, nt, ct, rfl, ho, hg⟩
  obtain rfl : nt = nx := ho.len.symm.trans HL.out
  have HB5 := Lib.hid (below_next HB3.out hg); have HX5 := Lib.hid (HX.out.grown hg (Off.none_ _ _)); have HT := Lib.hid ho.rd; clear ho hg
  go_wp2_with (fail)
  refine (eqInts AX AT nt cx ct l0 (by omega) _ HX5.out HT.out).mono ?_
  rintro e w6 ⟨rfl, hg⟩
  have HB6 := Lib.hid (below_next HB5.out hg); clear hg
  go_wp2
  go_ret
  exact ⟨rfl, HB6.out⟩

set_option maxRecDepth 100000 in
theorem lifted (os : Os) (started : os.Started) (H : Type) (enc : TypeId × Value → H) :
    ReturnsInHanded {} Try.checked os 3 .any (Rows.fnExactHashSpec.pre6 enc Try.prog Try.f3 Rows.fnExactHashRow.domain false) (Rows.fnExactHashSpec.post enc Try.prog Try.f3 false true false false) := by
  refine returnsInHanded_of_change (C := Try.checked) own started (by kernel_rfl) Try.func3
    (ChangeSpec.witness6 (enc := enc) (C := Try.checked) false ⟨#[], #[.slice none 0 0], []⟩ 8 (by kernel_rfl) (by kernel_rfl) (by kernel_rfl) (by kernel_rfl)) ?_
  intro W base args ds gs before hval0 hW hcnd _
  have hval : ∀ (j : Nat) t v, Try.f3.params[j]? = some t → args[j]? = some v → Value.okWide Try.prog W .any base t v := hval0
  have hW' := hW
  obtain ⟨p, q, hA0, hV, rfl, hfz, hnd⟩ := hW
  have hA : DataW.TrodAll enc Try.prog W 0 (fun _ => true) true Try.f3.params.toList args.toList ds p := hA0
  have hA2 := hA
  rw [Try.params3] at hA hval
  obtain ⟨v0, d0, rfl, rfl, h0⟩ := trodAll_one hA
  obtain ⟨rfl, rfl⟩ := trodVars_none hV
  obtain ⟨A0, n0, c0, l0, rfl, hn0, hr0⟩ := opn.open_numbers Try.underlying22 Try.underlying3 (by kernel_rfl) (hval 0 22 v0 rfl rfl) h0
  clear hA0 hval0
  simp only [List.append_nil] at hW' hA2
  refine (walk A0 n0 c0 l0 W hn0 hr0).mono fun e W' ⟨he, hb⟩ => ?_
  subst he
  exact ⟨_, rfl, opn.post_true hW' rfl hA2 rfl rfl Try.underlying4 (by kernel_rfl) (by kernel_rfl) hb⟩

theorem over : Rows.fnExactHashRow.holds Try.pinned (OpenSpec.ofChange Rows.fnExactHashSpec) :=
  OpenClaim.holds_of_wide 3 Try.f3 rfl rfl rfl rfl rfl rfl rfl ⟨rfl, rfl, rfl, rfl, rfl⟩ rfl rfl rfl rfl rfl (by kernel_rfl) Try.func3 (by kernel_rfl)
    (of_decide_eq_true (by kernel_rfl)) (by unfold Func.isWrapper; first | (rw [if_pos (by decide +kernel)]; kernel_rfl) | (rw [if_neg (by decide +kernel)]; exact ⟨rfl, rfl⟩))
    (fun os started H enc _ => lifted os started H enc)

/-- The statement. -/
theorem proved : Rows.FnExactHashSaid :=
  over
#print axioms proved
end Go.Proofs.Ytealjeigpngkiaa.fnExactHash
