/-
  For all bytes and every integer the law FnExactAppendSigned returns true: AppendSigned of the project gives what the model gives, in memory of its own, and what came in reads as before.
  Conditions: none but that the arguments are of Go's types.
-/
import Derived.Test.YtgjijfpdlgcopaaRows
import Derived.WalkKit
import Derived.ProofKit
import Derived.OpenShut
import Derived.Test.YtgjijfpdlgcopaaUva
import Derived.Test.YtgjijfpdlgcopaaOpen
namespace Go.Proofs.Ytgjijfpdlgcopaa.fnExactAppendSigned
open Go.ChangeShapes Go.WideShapes Go.ChangeAt Go.RowKit mem byt
open Go.ChangeMaps (open_string)
set_option linter.unusedVariables false

theorem own : ownKnob Try.prog.godebug = none := by kernel_rfl

theorem walk (A : Option Addr) (n c : Nat) (l : List Int) (k : Int) (w : World) (hn : n ≤ maxLen) (hA : Rd w A n l) :
    Calls Try.prog 6 #[.slice A n c, .int .i64 k] w fun e w' => e = .returned (.bool true) ∧ Below w.heap.size w w' := by
  unfold maxLen at hn
  by_cases hbig : (1048576 : Int) < (n : Int)
  · go_enter Try.func6, Try.ntmps6
    go_wp2
    go_ret
    exact ⟨rfl, Below.refl _ _⟩
  have hl := hA.len
  have HA := Lib.hid hA; have HL := Lib.hid hl; clear hA hl
  generalize hr : l ++ enc.sig k = r
  have HR := Lib.hid hr
  have hrl : r.length ≤ 3000000 := by
    rw [← hr]
    simp only [List.length_append, HL.out]
    have := enc.sig_len k; omega
  clear hr
  go_enter Try.func6, Try.ntmps6
  go_wp2_with (fail)
  refine (toBytes A n c l (by omega) _ HA.out).mono ?_
  rintro e w1 ⟨A1, n1, c1, rfl, ho, hg⟩
  obtain rfl : n1 = n := ho.len.symm.trans HL.out
  have HB1 := Lib.hid (below_of_none hg); have H1 := Lib.hid ho.rd; clear ho hg
  go_wp2_with (fail)
  refine (uva.specSig A1 n1 c1 l k (by omega) _ H1.out).mono ?_
  rintro e w2 ⟨AW, nw, cw, rfl, ho, hg⟩
  rw [HR.out] at ho
  have hnw := ho.len
  have hnw2 : nw ≤ 3000000 := by omega
  have HNW := Lib.hid hnw; clear hnw
  have HB2 := Lib.hid (below_next HB1.out hg); have HW := Lib.hid ho; clear ho hg
  go_wp2_with (fail)
  refine (toBytes A n1 c l (by omega) _ (HA.out.below HB2.out)).mono ?_
  rintro e w3 ⟨AX, nx, cx, rfl, ho, hg⟩
  obtain rfl : nx = n1 := ho.len.symm.trans HL.out
  have HB3 := Lib.hid (below_next HB2.out hg); have HW3 := Lib.hid (HW.out.none_ hg); have HX := Lib.hid ho; clear ho hg
  go_wp2_with (fail)
  refine (uva.implSig AX nx cx l k (by omega) _ HX.out.rd).mono ?_
  rintro e w4 ⟨AG, ng, cg, rfl, ho, hg⟩
  rw [HR.out] at ho
  obtain rfl : ng = nw := ho.len.symm.trans HNW.out
  have HB4 := Lib.hid (below_next HB3.out hg); have HW4 := Lib.hid (HW3.out.none_ hg); have HX4 := Lib.hid (HX.out.none_ hg); have HG := Lib.hid ho
  have P1 := Lib.hid (apart HX.out ho (Nat.le_refl _)); have P2 := Lib.hid (apart' HX.out ho (Nat.le_refl _)); have P3 := Lib.hid (apart HW.out HX.out (Nat.le_refl _)); have P4 := Lib.hid (apart HW3.out ho (Nat.le_refl _)); clear ho hg
  go_wp2_with (fail)
  refine (eqBytes AG AW ng cg cw r (by omega) _ HG.out.rd HW4.out.rd).mono ?_
  rintro e w5 ⟨rfl, hg⟩
  have HB5 := Lib.hid (below_next HB4.out hg); have HW5 := Lib.hid (HW4.out.none_ hg); have HX5 := Lib.hid (HX4.out.none_ hg); have HG5 := Lib.hid (HG.out.none_ hg); clear hg
  go_wp2_with (fail)
  refine (toBytes A nx c l (by omega) _ (HA.out.below HB5.out)).mono ?_
  rintro e w6 ⟨AT, nt, ct, rfl, ho, hg⟩
  obtain rfl : nt = nx := ho.len.symm.trans HL.out
  have HB6 := Lib.hid (below_next HB5.out hg); have HW6 := Lib.hid (HW5.out.none_ hg); have HX6 := Lib.hid (HX5.out.none_ hg); have HG6 := Lib.hid (HG5.out.none_ hg); have HT := Lib.hid ho.rd; clear ho hg
  go_wp2_with (fail)
  refine (eqBytes AX AT nt cx ct l (by omega) _ HX6.out.rd HT.out).mono ?_
  rintro e w7 ⟨rfl, hg⟩
  have HB7 := Lib.hid (below_next HB6.out hg); have HW7 := Lib.hid (HW6.out.none_ hg); have HX7 := Lib.hid (HX6.out.none_ hg); have HG7 := Lib.hid (HG6.out.none_ hg); clear hg
  go_wp2_with (fail)
  refine (markBytes _ AX nt cx l 1 (by omega) (by omega) (by omega) _ HX7.out).mono ?_
  rintro e w8 ⟨⟨rfl, hg⟩, _⟩
  have HB8 := Lib.hid (below_mark HB7.out HX7.out hg HB2.out.size); have HW8 := Lib.hid (HW7.out.keep hg P3.out); have HG8 := Lib.hid (HG7.out.keep hg P2.out); clear hg
  go_wp2_with (fail)
  refine (eqBytes AG AW ng cg cw r (by omega) _ HG8.out.rd HW8.out.rd).mono ?_
  rintro e w9 ⟨rfl, hg⟩
  have HB9 := Lib.hid (below_next HB8.out hg); have HW9 := Lib.hid (HW8.out.none_ hg); have HG9 := Lib.hid (HG8.out.none_ hg); clear hg
  go_wp2_with (fail)
  refine (markBytes _ AG ng cg r 1 (by omega) (by omega) (by omega) _ HG9.out).mono ?_
  rintro e w10 ⟨⟨rfl, hg⟩, ho⟩
  have HB10 := Lib.hid (below_mark HB9.out HG9.out hg HB3.out.size); have HW10 := Lib.hid (HW9.out.keep hg P4.out); have HG10 := Lib.hid ho; clear ho hg
  go_wp2_with (fail)
  refine (heldBytes AG ng cg 1 (by omega) (by omega) (by omega) _ HG10.out.rd).mono ?_
  rintro e w11 ⟨rfl, hg⟩
  have HB11 := Lib.hid (below_next HB10.out hg); have HW11 := Lib.hid (HW10.out.none_ hg); have HG11 := Lib.hid (HG10.out.none_ hg); clear hg
  go_wp2_with (fail)
  refine (toBytes A nt c l (by omega) _ (HA.out.below HB11.out)).mono ?_
  rintro e w12 ⟨AY, ny, cy, rfl, ho, hg⟩
  obtain rfl : ny = nt := ho.len.symm.trans HL.out
  have HB12 := Lib.hid (below_next HB11.out hg); have HW12 := Lib.hid (HW11.out.none_ hg); have HG12 := Lib.hid (HG11.out.none_ hg); have HY := Lib.hid ho.rd; clear ho hg
  go_wp2_with (fail)
  refine (uva.implSig AY ny cy l k (by omega) _ HY.out).mono ?_
  rintro e w13 ⟨AH, nh, ch, rfl, ho, hg⟩
  rw [HR.out] at ho
  obtain rfl : nh = ng := ho.len.symm.trans HNW.out
  have HB13 := Lib.hid (below_next HB12.out hg); have HW13 := Lib.hid (HW12.out.none_ hg); have HG13 := Lib.hid (HG12.out.none_ hg); have HH := Lib.hid ho.rd; clear ho hg
  go_wp2_with (fail)
  refine (eqBytes AH AW nh ch cw r (by omega) _ HH.out HW13.out.rd).mono ?_
  rintro e w14 ⟨rfl, hg⟩
  have HB14 := Lib.hid (below_next HB13.out hg); have HG14 := Lib.hid (HG13.out.none_ hg); clear hg
  go_wp2_with (fail)
  refine (heldBytes AG nh cg 1 (by omega) (by omega) (by omega) _ HG14.out.rd).mono ?_
  rintro e w15 ⟨rfl, hg⟩
  have HB15 := Lib.hid (below_next HB14.out hg); clear hg
  go_wp2
  go_ret
  exact ⟨rfl, HB15.out⟩

set_option maxRecDepth 100000 in
theorem lifted (os : Os) (started : os.Started) (H : Type) (enc : TypeId × Value → H) :
    ReturnsInHanded {} Try.checked os 6 .any (Rows.fnExactAppendSignedSpec.pre6 enc Try.prog Try.f6 Rows.fnExactAppendSignedRow.domain false) (Rows.fnExactAppendSignedSpec.post enc Try.prog Try.f6 false true false false) := by
  refine returnsInHanded_of_change (C := Try.checked) own started (by kernel_rfl) Try.func6
    (ChangeSpec.witness6 (enc := enc) (C := Try.checked) false ⟨#[], #[.slice none 0 0, .int .i64 0], []⟩ 8 (by kernel_rfl) (by kernel_rfl) (by kernel_rfl) (by kernel_rfl)) ?_
  intro W base args ds gs before hval0 hW hcnd _
  have hval : ∀ (j : Nat) t v, Try.f6.params[j]? = some t → args[j]? = some v → Value.okWide Try.prog W .any base t v := hval0
  have hW' := hW
  obtain ⟨p, q, hA0, hV, rfl, hfz, hnd⟩ := hW
  have hA : DataW.TrodAll enc Try.prog W 0 (fun _ => true) true Try.f6.params.toList args.toList ds p := hA0
  have hA2 := hA
  rw [Try.params6] at hA hval
  obtain ⟨v0, vs0, d0, ds0, p0, q0, hargs, rfl, rfl, h0, r0⟩ := trodAll_cons hA
  obtain ⟨v1, vs1, d1, ds1, p1, q1, rfl, rfl, rfl, h1, r1⟩ := trodAll_cons r0
  obtain ⟨rfl, rfl, rfl⟩ := trodAll_nil r1
  obtain rfl : args = #[v0, v1] := by cases args; simp_all
  obtain ⟨rfl, rfl⟩ := trodVars_none hV
  obtain ⟨A, n, c, l, rfl, hn, hrd⟩ := opn.open_bytes Try.underlying22 Try.underlying5 (by kernel_rfl) (hval 0 22 v0 rfl rfl) h0
  obtain ⟨k, rfl, rfl, rfl, w1⟩ := open_int Try.underlying3 (hval 1 3 v1 rfl rfl) h1
  clear hA0 hval0
  simp only [List.append_nil] at hW' hA2
  refine (walk A n c l k W hn hrd).mono fun e W' ⟨he, hb⟩ => ?_
  subst he
  exact ⟨_, rfl, opn.post_true hW' rfl hA2 rfl rfl Try.underlying4 (by kernel_rfl) (by kernel_rfl) hb⟩

theorem over : Rows.fnExactAppendSignedRow.holds Try.pinned (OpenSpec.ofChange Rows.fnExactAppendSignedSpec) :=
  OpenClaim.holds_of_wide 6 Try.f6 rfl rfl rfl rfl rfl rfl rfl ⟨rfl, rfl, rfl, rfl, rfl⟩ rfl rfl rfl rfl rfl (by kernel_rfl) Try.func6 (by kernel_rfl)
    (of_decide_eq_true (by kernel_rfl)) (by unfold Func.isWrapper; first | (rw [if_pos (by decide +kernel)]; kernel_rfl) | (rw [if_neg (by decide +kernel)]; exact ⟨rfl, rfl⟩))
    (fun os started H enc _ => lifted os started H enc)

/-- The statement. -/
theorem proved : Rows.FnExactAppendSignedSaid :=
  over
#print axioms proved
end Go.Proofs.Ytgjijfpdlgcopaa.fnExactAppendSigned
