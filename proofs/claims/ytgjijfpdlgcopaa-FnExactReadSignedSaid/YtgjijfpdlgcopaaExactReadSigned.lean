/-
  For all bytes and every index the law FnExactReadSigned returns true: ReadSigned of the project gives what the model gives, and what came in reads as before.
  Conditions: none but that the arguments are of Go's types.
-/
import Derived.Test.YtgjijfpdlgcopaaRows
import Derived.WalkKit
import Derived.ProofKit
import Derived.OpenShut
import Derived.Test.YtgjijfpdlgcopaaRds
import Derived.Test.YtgjijfpdlgcopaaOpen
namespace Go.Proofs.Ytgjijfpdlgcopaa.fnExactReadSigned
open Go.ChangeShapes Go.WideShapes Go.ChangeAt Go.RowKit mem byt rdu
set_option linter.unusedVariables false

theorem own : ownKnob Try.prog.godebug = none := by kernel_rfl

theorem walk (A : Option Addr) (n c : Nat) (l : List Int) (i : Int) (w : World) (hn : n ≤ maxLen) (hA : Rd w A n l) :
    Calls Try.prog 7 #[.slice A n c, .int .i64 i] w fun e w' => e = .returned (.bool true) ∧ Below w.heap.size w w' := by
  unfold maxLen at hn
  by_cases hbig : (1048576 : Int) < (n : Int)
  · go_enter Try.func7, Try.ntmps7
    go_wp2
    go_ret
    exact ⟨rfl, Below.refl _ _⟩
  have hl := hA.len
  have HA := Lib.hid hA; have HL := Lib.hid hl; clear hA hl
  generalize hr : enc.rds l i = r
  obtain ⟨x, y, ok⟩ := r
  have HR := Lib.hid hr
  clear hr
  go_enter Try.func7, Try.ntmps7
  go_wp2_with (fail)
  refine (toBytes A n c l (by omega) _ HA.out).mono ?_
  rintro e w1 ⟨A1, n1, c1, rfl, ho, hg⟩
  obtain rfl : n1 = n := ho.len.symm.trans HL.out
  have HB1 := Lib.hid (below_of_none hg); have H1 := Lib.hid ho; clear ho hg
  go_wp2_with (fail)
  refine (rds.specRds A1 n1 c1 l i (by omega) _ H1.out.rd).mono ?_
  rintro e w2 ⟨rfl, rfl⟩
  rw [HR.out]
  unfold three
  go_wp2_with (fail)
  refine (toBytes A n1 c l (by omega) _ (HA.out.below HB1.out)).mono ?_
  rintro e w3 ⟨AX, nx, cx, rfl, ho, hg⟩
  obtain rfl : nx = n1 := ho.len.symm.trans HL.out
  have HB3 := Lib.hid (below_next HB1.out hg); have HX := Lib.hid ho; clear ho hg
  go_wp2_with (fail)
  refine (rds.implRds AX nx cx l i (by omega) _ (sl_own HX.out)).mono ?_
  rintro e w4 ⟨rfl, rfl⟩
  rw [HR.out]
  unfold three
  go_wp2_with (fail)
  refine (toBytes A nx c l (by omega) _ (HA.out.below HB3.out)).mono ?_
  rintro e w5 ⟨AT, nt, ct, rfl, ho, hg⟩
  obtain rfl : nt = nx := ho.len.symm.trans HL.out
  have HB5 := Lib.hid (below_next HB3.out hg); have HX5 := Lib.hid (HX.out.none_ hg); have HT := Lib.hid ho.rd; clear ho hg
  go_wp2_with (fail)
  refine (eqBytes AX AT nt cx ct l (by omega) _ HX5.out.rd HT.out).mono ?_
  rintro e w6 ⟨rfl, hg⟩
  have HB6 := Lib.hid (below_next HB5.out hg); clear hg
  go_wp2
  go_ret
  exact ⟨rfl, HB6.out⟩

set_option maxRecDepth 100000 in
theorem lifted (os : Os) (started : os.Started) (H : Type) (enc : TypeId × Value → H) :
    ReturnsInHanded {} Try.checked os 7 .any (Rows.fnExactReadSignedSpec.pre6 enc Try.prog Try.f7 Rows.fnExactReadSignedRow.domain false) (Rows.fnExactReadSignedSpec.post enc Try.prog Try.f7 false true false false) := by
  refine returnsInHanded_of_change (C := Try.checked) own started (by kernel_rfl) Try.func7
    (ChangeSpec.witness6 (enc := enc) (C := Try.checked) false ⟨#[], #[.slice none 0 0, .int .i64 0], []⟩ 8 (by kernel_rfl) (by kernel_rfl) (by kernel_rfl) (by kernel_rfl)) ?_
  intro W base args ds gs before hval0 hW hcnd _
  have hval : ∀ (j : Nat) t v, Try.f7.params[j]? = some t → args[j]? = some v → Value.okWide Try.prog W .any base t v := hval0
  have hW' := hW
  obtain ⟨p, q, hA0, hV, rfl, hfz, hnd⟩ := hW
  have hA : DataW.TrodAll enc Try.prog W 0 (fun _ => true) true Try.f7.params.toList args.toList ds p := hA0
  have hA2 := hA
  rw [Try.params7] at hA hval
  obtain ⟨v0, vs0, d0, ds0, p0, q0, hargs, rfl, rfl, h0, r0⟩ := trodAll_cons hA
  obtain ⟨v1, vs1, d1, ds1, p1, q1, rfl, rfl, rfl, h1, r1⟩ := trodAll_cons r0
  obtain ⟨rfl, rfl, rfl⟩ := trodAll_nil r1
  obtain rfl : args = #[v0, v1] := by cases args; simp_all
  obtain ⟨rfl, rfl⟩ := trodVars_none hV
  obtain ⟨A, n, c, l, rfl, hn, hrd⟩ := opn.open_bytes Try.underlying22 Try.underlying5 (by kernel_rfl) (hval 0 22 v0 rfl rfl) h0
  obtain ⟨i, rfl, rfl, rfl, w1⟩ := open_int Try.underlying3 (hval 1 3 v1 rfl rfl) h1
  clear hA0 hval0
  simp only [List.append_nil] at hW' hA2
  refine (walk A n c l i W hn hrd).mono fun e W' ⟨he, hb⟩ => ?_
  subst he
  exact ⟨_, rfl, opn.post_true hW' rfl hA2 rfl rfl Try.underlying4 (by kernel_rfl) (by kernel_rfl) hb⟩

theorem over : Rows.fnExactReadSignedRow.holds Try.pinned (OpenSpec.ofChange Rows.fnExactReadSignedSpec) :=
  OpenClaim.holds_of_wide 7 Try.f7 rfl rfl rfl rfl rfl rfl rfl ⟨rfl, rfl, rfl, rfl, rfl⟩ rfl rfl rfl rfl rfl (by kernel_rfl) Try.func7 (by kernel_rfl)
    (of_decide_eq_true (by kernel_rfl)) (by unfold Func.isWrapper; first | (rw [if_pos (by decide +kernel)]; kernel_rfl) | (rw [if_neg (by decide +kernel)]; exact ⟨rfl, rfl⟩))
    (fun os started H enc _ => lifted os started H enc)

/-- The statement. -/
theorem proved : Rows.FnExactReadSignedSaid :=
  over
#print axioms proved
end Go.Proofs.Ytgjijfpdlgcopaa.fnExactReadSigned
