/-
  For every text the law FnExactQuoteText returns true: QuoteText of the project gives what the model gives.
  Conditions: none but that the argument is of Go's type.
-/
import Derived.Test.YtakdbfifbkngnaaRows
import Derived.WalkKit
import Derived.ProofKit
import Derived.OpenShut
import Derived.Test.YtakdbfifbkngnaaQaB1
namespace Go.Proofs.Ytakdbfifbkngnaa.fnExactQuoteText
open Go.ChangeShapes Go.WideShapes Go.ChangeAt Go.RowKit mem
open Go.ChangeMaps (open_string)
set_option linter.unusedVariables false

theorem own : ownKnob Try.prog.godebug = none := by kernel_rfl

theorem walk (s0 : ByteArray) (w : World)  :
    Calls Try.prog 3 #[.string s0] w fun e w' => e = .returned (.bool true) ∧ Below w.heap.size w w' := by
  by_cases hbig : (1048576 : Int) < (s0.size : Int)
  · go_enter Try.func3, Try.ntmps3
    go_wp2
    go_ret
    exact ⟨rfl, Below.refl _ _⟩
  obtain ⟨t, ht⟩ : ∃ t, t = seq.tx (seq.quoL s0.data.toList) := ⟨_, rfl⟩
  have HT := Lib.hid ht; clear ht
  go_enter Try.func3, Try.ntmps3
  go_wp2_with (fail)
  refine (seq.quo_s s0 (by omega) _).mono ?_
  rintro e w2 ⟨he, hb⟩
  obtain rfl : e = .returned (.string t) := he.trans (by rw [HT.out])
  have HB := Lib.hid hb; clear he hb
  go_wp2_with (fail)
  refine (seq.quo_i s0 (by omega) _).mono ?_
  rintro e w4 ⟨he, hb⟩
  obtain rfl : e = .returned (.string t) := he.trans (by rw [HT.out])
  have HB2 := Lib.hid (HB.out.trans (hb.mono HB.out.size)); clear he hb
  go_wp2
  go_ret
  exact ⟨rfl, HB2.out⟩

set_option maxRecDepth 100000 in
theorem lifted (os : Os) (started : os.Started) (H : Type) (enc : TypeId × Value → H) :
    ReturnsInHanded {} Try.checked os 3 .any (Rows.fnExactQuoteTextSpec.pre6 enc Try.prog Try.f3 Rows.fnExactQuoteTextRow.domain false) (Rows.fnExactQuoteTextSpec.post enc Try.prog Try.f3 false true false false) := by
  refine returnsInHanded_of_change (C := Try.checked) own started (by kernel_rfl) Try.func3
    (ChangeSpec.witness6 (enc := enc) (C := Try.checked) false ⟨#[], #[.string ⟨#[]⟩], []⟩ 8 (by kernel_rfl) (by kernel_rfl) (by kernel_rfl) (by kernel_rfl)) ?_
  intro W base args ds gs before hval0 hW hcnd _
  have hval : ∀ (j : Nat) t v, Try.f3.params[j]? = some t → args[j]? = some v → Value.okWide Try.prog W .any base t v := hval0
  have hW' := hW
  obtain ⟨p, q, hA0, hV, rfl, hfz, hnd⟩ := hW
  have hA : DataW.TrodAll enc Try.prog W 0 (fun _ => true) true Try.f3.params.toList args.toList ds p := hA0
  have hA2 := hA
  rw [Try.params3] at hA hval
  obtain ⟨v0, d0, rfl, rfl, h0⟩ := trodAll_one hA
  obtain ⟨rfl, rfl⟩ := trodVars_none hV
  obtain ⟨s0, rfl, rfl, rfl, w0⟩ := open_string Try.underlying9 (hval 0 9 v0 rfl rfl) h0
  clear hA0 hval0
  simp only [List.append_nil] at hW' hA2
  refine (walk s0 W ).mono fun e W' ⟨he, hb⟩ => ?_
  subst he
  exact ⟨_, rfl, opn.post_true hW' rfl hA2 rfl rfl Try.underlying4 (by kernel_rfl) (by kernel_rfl) hb⟩

theorem over : Rows.fnExactQuoteTextRow.holds Try.pinned (OpenSpec.ofChange Rows.fnExactQuoteTextSpec) :=
  OpenClaim.holds_of_wide 3 Try.f3 rfl rfl rfl rfl rfl rfl rfl ⟨rfl, rfl, rfl, rfl, rfl⟩ rfl rfl rfl rfl rfl (by kernel_rfl) Try.func3 (by kernel_rfl)
    (of_decide_eq_true (by kernel_rfl)) (by unfold Func.isWrapper; first | (rw [if_pos (by decide +kernel)]; kernel_rfl) | (rw [if_neg (by decide +kernel)]; exact ⟨rfl, rfl⟩))
    (fun os started H enc _ => lifted os started H enc)

/-- The statement. -/
theorem proved : Rows.FnExactQuoteTextSaid :=
  over
#print axioms proved
end Go.Proofs.Ytakdbfifbkngnaa.fnExactQuoteText

