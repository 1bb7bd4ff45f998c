/-
  For every key and all integers the law FnExactKeyedHash returns true: KeyedHash of the project gives what the model gives, and what came in reads as before.
  Conditions: none but that the arguments are of Go's types.
-/
import Derived.Test.YtealjeigpngkiaaRows
import Derived.WalkKit
import Derived.ProofKit
import Derived.OpenShut
import Derived.Test.YtealjeigpngkiaaKeyed
import Derived.Test.YtealjeigpngkiaaInts
import Derived.Test.YtealjeigpngkiaaOpenI
namespace Go.Proofs.Ytealjeigpngkiaa.fnExactKeyedHash
open Go.ChangeShapes Go.WideShapes Go.ChangeAt Go.RowKit mem imem ints
open Go.ChangeMaps (open_string)
set_option linter.unusedVariables false

theorem own : ownKnob Try.prog.godebug = none := by kernel_rfl

theorem walk (k0 : Int) (A1 : Option Addr) (n1 c1 : Nat) (l1 : List Int) (w : World) (hn1 : n1 ≤ maxLen) (hr1 : RdI w A1 n1 l1) :
    Calls Try.prog 5 #[.int .i64 k0, .slice A1 n1 c1] w fun e w' => e = .returned (.bool true) ∧ Below w.heap.size w w' := by
  unfold maxLen at hn1
  by_cases hbig : (1048576 : Int) < (n1 : Int)
  · go_enter Try.func5, Try.ntmps5
    go_wp2
    go_ret
    exact ⟨rfl, Below.refl _ _⟩
  have hl := hr1.len
  have HA := Lib.hid hr1; have HL := Lib.hid hl; clear hr1 hl
  go_enter Try.func5, Try.ntmps5
  go_wp2_with (fail)
  refine (toInts A1 n1 c1 l1 (by omega) _ HA.out).mono ?_
  rintro e w1 ⟨A2, n2, c2, rfl, ho, hg⟩
  obtain rfl : n2 = n1 := ho.len.symm.trans HL.out
  have HB1 := Lib.hid (below_of_none hg); have H1 := Lib.hid ho.rd; clear ho hg
  go_wp2_with (fail)
  refine (hsh.specKeyed k0 A2 n2 c2 l1 (by omega) _ H1.out).mono ?_
  rintro e w2 ⟨rfl, hb⟩
  have HB2 := Lib.hid (HB1.out.trans (hb.mono HB1.out.size)); clear hb
  go_wp2_with (fail)
  refine (toInts A1 n2 c1 l1 (by omega) _ (HA.out.below HB2.out)).mono ?_
  rintro e w3 ⟨AX, nx, cx, rfl, ho, hg⟩
  obtain rfl : nx = n2 := ho.len.symm.trans HL.out
  have HB3 := Lib.hid (below_next HB2.out hg); have HX := Lib.hid ho.rd; clear ho hg
  go_wp2_with (fail)
  refine (hsh.implKeyed k0 AX nx cx l1 (by omega) _ HX.out).mono ?_
  rintro e w4 ⟨rfl, rfl⟩
  go_wp2_with (fail)
  refine (toInts A1 nx c1 l1 (by omega) _ (HA.out.below HB3.out)).mono ?_
  rintro e w5 ⟨AT, nt, ct, rfl, ho, hg⟩
  obtain rfl : nt = nx := ho.len.symm.trans HL.out
  have HB5 := Lib.hid (below_next HB3.out hg); have HX5 := Lib.hid (HX.out.grown hg (Off.none_ _ _)); have HT := Lib.hid ho.rd; clear ho hg
  go_wp2_with (fail)
  refine (eqInts AX AT nt cx ct l1 (by omega) _ HX5.out HT.out).mono ?_
  rintro e w6 ⟨rfl, hg⟩
  have HB6 := Lib.hid (below_next HB5.out hg); clear hg
  go_wp2
  go_ret
  exact ⟨rfl, HB6.out⟩

set_option maxRecDepth 100000 in
theorem lifted (os : Os) (started : os.Started) (H : Type) (enc : TypeId × Value → H) :
    ReturnsInHanded {} Try.checked os 5 .any (Rows.fnExactKeyedHashSpec.pre6 enc Try.prog Try.f5 Rows.fnExactKeyedHashRow.domain false) (Rows.fnExactKeyedHashSpec.post enc Try.prog Try.f5 false true false false) := by
  refine returnsInHanded_of_change (C := Try.checked) own started (by kernel_rfl) Try.func5
    (ChangeSpec.witness6 (enc := enc) (C := Try.checked) false ⟨#[], #[.int .i64 0, .slice none 0 0], []⟩ 8 (by kernel_rfl) (by kernel_rfl) (by kernel_rfl) (by kernel_rfl)) ?_
  intro W base args ds gs before hval0 hW hcnd _
  have hval : ∀ (j : Nat) t v, Try.f5.params[j]? = some t → args[j]? = some v → Value.okWide Try.prog W .any base t v := hval0
  have hW' := hW
  obtain ⟨p, q, hA0, hV, rfl, hfz, hnd⟩ := hW
  have hA : DataW.TrodAll enc Try.prog W 0 (fun _ => true) true Try.f5.params.toList args.toList ds p := hA0
  have hA2 := hA
  rw [Try.params5] at hA hval
  obtain ⟨v0, vs0, d0, ds0, p0, q0, hargs, rfl, rfl, h0, r0⟩ := trodAll_cons hA
  obtain ⟨v1, vs1, d1, ds1, p1, q1, rfl, rfl, rfl, h1, r1⟩ := trodAll_cons r0
  obtain ⟨rfl, rfl, rfl⟩ := trodAll_nil r1
  obtain rfl : args = #[v0, v1] := by cases args; simp_all
  obtain ⟨rfl, rfl⟩ := trodVars_none hV
  obtain ⟨k0, rfl, rfl, rfl, w0⟩ := open_int Try.underlying3 (hval 0 3 v0 rfl rfl) h0
  obtain ⟨A1, n1, c1, l1, rfl, hn1, hr1⟩ := opn.open_numbers Try.underlying22 Try.underlying3 (by kernel_rfl) (hval 1 22 v1 rfl rfl) h1
  clear hA0 hval0
  simp only [List.append_nil] at hW' hA2
  refine (walk k0 A1 n1 c1 l1 W hn1 hr1).mono fun e W' ⟨he, hb⟩ => ?_
  subst he
  exact ⟨_, rfl, opn.post_true hW' rfl hA2 rfl rfl Try.underlying4 (by kernel_rfl) (by kernel_rfl) hb⟩

theorem over : Rows.fnExactKeyedHashRow.holds Try.pinned (OpenSpec.ofChange Rows.fnExactKeyedHashSpec) :=
  OpenClaim.holds_of_wide 5 Try.f5 rfl rfl rfl rfl rfl rfl rfl ⟨rfl, rfl, rfl, rfl, rfl⟩ rfl rfl rfl rfl rfl (by kernel_rfl) Try.func5 (by kernel_rfl)
    (of_decide_eq_true (by kernel_rfl)) (by unfold Func.isWrapper; first | (rw [if_pos (by decide +kernel)]; kernel_rfl) | (rw [if_neg (by decide +kernel)]; exact ⟨rfl, rfl⟩))
    (fun os started H enc _ => lifted os started H enc)

/-- The statement. -/
theorem proved : Rows.FnExactKeyedHashSaid :=
  over
#print axioms proved
end Go.Proofs.Ytealjeigpngkiaa.fnExactKeyedHash
