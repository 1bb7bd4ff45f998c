/-
  ArrayValue answers as its model, every field; its answer owns its memory.
  Conditions: none.
-/
import Derived.Test.YtaljpkmndbcefaaRows
import Derived.WalkKit
import Derived.ProofKit
import Derived.OpenShut
import Derived.Test.YtaljpkmndbcefaaMkVal
import Derived.Test.YtaljpkmndbcefaaOpenT
namespace Go.Proofs.Ytaljpkmndbcefaa.fnExactArrayValue
open Go.ChangeShapes Go.WideShapes Go.ChangeAt Go.RowKit tree
open Go.ChangeMaps (open_string)
set_option linter.unusedVariables false

theorem own : ownKnob Try.prog.godebug = none := by kernel_rfl

/-- The law's walk, whatever the value is. -/
theorem walk0 (w : World) (k n x : Int) (s : ByteArray) (hk : I64 k ∧ I64 n ∧ I64 x ∧ s.size ≤ maxLen)
    (cs : ∀ w, Calls Try.prog 20 #[] w (GivesQ w (vV k n s x none 0 0)))
    (ci : ∀ w, Calls Try.prog 21 #[] w (GivesQ w (vV k n s x none 0 0))) :
    Calls Try.prog 6 #[] w (TrueQ w) := by
  have eq : ∀ w, Calls Try.prog 13 #[vV k n s x none 0 0, vV k n s x none 0 0] w (TrueQ w) := fun w => eqV (.mk k n s x [] []) w (fun _ => True) (fun _ => True) _ _ (flat hk w _ none 0) (flat hk w _ none 0)
  clear hk
  go_enter Try.func6, Try.ntmps6
  go_wp2_with (fail)
  refine (cs _).mono ?_
  rintro e w1 ⟨rfl, hb1⟩
  have HB1 := Lib.hid hb1
  clear hb1
  go_wp2_with (fail)
  refine (ci _).mono ?_
  rintro e w2 ⟨rfl, hb2⟩
  have a3 := carry hb2 (heap_alloc_new w1 _)
  have HB2 := Lib.hid (bs (bs HB1.out (b1 _ _)) hb2)
  obtain ⟨N3, hN3⟩ : ∃ N, N = w1.heap.size := ⟨_, rfl⟩
  rw [← hN3] at a3 ⊢
  have HN3 := Lib.hid hN3
  have A3 := Lib.hid a3
  have l3 : N3 < w2.heap.size := (Array.getElem?_eq_some_iff.1 a3).1
  obtain ⟨r3, _⟩ := rowc a3
  clear hb2 HB1 hN3 a3
  go_wp2_with (fail)
  refine (eq _).mono ?_
  rintro e w3 ⟨rfl, hb3⟩
  have a4 := carry hb3 (heap_alloc_new w2 _)
  have a3 := carry hb3 (keepAlloc A3.out)
  have HB3 := Lib.hid (bs (bs HB2.out (b1 _ _)) hb3)
  obtain ⟨N4, hN4⟩ : ∃ N, N = w2.heap.size := ⟨_, rfl⟩
  rw [← hN4] at a4 ⊢
  have HN4 := Lib.hid hN4
  have A3' := Lib.hid a3
  have A4 := Lib.hid a4
  clear r3 A3 HB2 l3
  obtain ⟨r4, _⟩ := rowc a4
  clear hb3 a3 a4 hN4
  go_wp2_with (fail)
  refine (markV0 k n s x none 0 1 _).mono ?_
  rintro e w4 ⟨rfl, hb4⟩
  have a3 := carry hb4 A3'.out
  have a4 := carry hb4 A4.out
  have HB4 := Lib.hid (bs HB3.out hb4)
  clear A3' A4 HB3 r4
  have A3 := Lib.hid a3
  have A4 := Lib.hid a4
  obtain ⟨r4, _⟩ := rowc a4
  clear hb4 a3 a4
  go_wp2_with (fail)
  refine (heldV0 k n s x none 0 1 (by omega) _).mono ?_
  rintro e w5 ⟨rfl, hb5⟩
  have a3 := carry hb5 A3.out
  have a4 := carry hb5 A4.out
  have HB5 := Lib.hid (bs HB4.out hb5)
  clear A3 A4 HB4 r4
  have A3 := Lib.hid a3
  have A4 := Lib.hid a4
  clear hb5 a3 a4
  go_wp2_with (fail)
  refine (ci _).mono ?_
  rintro e w6 ⟨rfl, hb6⟩
  have a3 := carry hb6 A3.out
  have a4 := carry hb6 A4.out
  have HB6 := Lib.hid (bs HB5.out hb6)
  clear A3 A4 HB5
  have A3 := Lib.hid a3
  have A4 := Lib.hid a4
  have l6 : N3 < w6.heap.size := (Array.getElem?_eq_some_iff.1 a3).1
  obtain ⟨r3, _⟩ := rowc a3
  clear hb6 a3 a4
  go_wp2_with (fail)
  refine (eq _).mono ?_
  rintro e w7 ⟨rfl, hb7⟩
  have a4 := carry hb7 (keepAlloc A4.out)
  have HB7 := Lib.hid (bs (bs HB6.out (b1 _ _)) hb7)
  clear A3 A4 HB6 r3
  obtain ⟨r4, _⟩ := rowc a4
  clear hb7 a4
  go_wp2_with (fail)
  refine (heldV0 k n s x none 0 1 (by omega) _).mono ?_
  rintro e w8 ⟨rfl, hb8⟩
  have HB8 := Lib.hid (bs HB7.out hb8)
  clear HB7 r4 hb8
  go_wp2_with (fail)
  go_ret
  exact ⟨rfl, HB8.out⟩
theorem walk (w : World) : Calls Try.prog 6 #[] w fun e w' => e = .returned (.bool true) ∧ Below w.heap.size w w' :=
  walk0 w 4 0 0 ⟨#[]⟩ ⟨by unfold I64; omega, by unfold I64; omega, by unfold I64; omega, by first | exact Nat.zero_le _ | assumption⟩ (fun w => arrayValue_s w) (fun w => arrayValue_i w)

set_option maxRecDepth 100000 in
theorem lifted (os : Os) (started : os.Started) (H : Type) (enc : TypeId × Value → H) :
    ReturnsInHanded {} Try.checked os 6 .any (Rows.fnExactArrayValueSpec.pre6 enc Try.prog Try.f6 Rows.fnExactArrayValueRow.domain false) (Rows.fnExactArrayValueSpec.post enc Try.prog Try.f6 false true false false) := by
  refine returnsInHanded_of_change (C := Try.checked) own started (by kernel_rfl) Try.func6
    (ChangeSpec.witness6 (enc := enc) (C := Try.checked) false ⟨#[], #[], []⟩ 8 (by kernel_rfl) (by kernel_rfl) (by kernel_rfl) (by kernel_rfl)) ?_
  intro W base args ds gs before hval0 hW hcnd _
  have hval : ∀ (j : Nat) t v, Try.f6.params[j]? = some t → args[j]? = some v → Value.okWide Try.prog W .any base t v := hval0
  have hW' := hW
  obtain ⟨p, q, hA0, hV, rfl, hfz, hnd⟩ := hW
  have hA : DataW.TrodAll enc Try.prog W 0 (fun _ => true) true Try.f6.params.toList args.toList ds p := hA0
  have hA2 := hA
  rw [Try.params6] at hA hval
  have hA3 := hA
  obtain ⟨hargs, rfl, rfl⟩ := trodAll_nil hA3
  obtain rfl : args = #[] := by cases args; simp_all
  obtain ⟨rfl, rfl⟩ := trodVars_none hV
  clear hA0 hval0
  simp only [List.append_nil] at hW' hA2
  refine (walk  W ).mono fun e W' ⟨he, hb⟩ => ?_
  subst he
  exact ⟨_, rfl, opn.post_true hW' rfl hA2 rfl rfl Try.underlying4 (by kernel_rfl) (by kernel_rfl) hb⟩

theorem over : Rows.fnExactArrayValueRow.holds Try.pinned (OpenSpec.ofChange Rows.fnExactArrayValueSpec) :=
  OpenClaim.holds_of_wide 6 Try.f6 rfl rfl rfl rfl rfl rfl rfl ⟨rfl, rfl, rfl, rfl, rfl⟩ rfl rfl rfl rfl rfl (by kernel_rfl) Try.func6 (by kernel_rfl)
    (of_decide_eq_true (by kernel_rfl)) (by unfold Func.isWrapper; first | (rw [if_pos (by decide +kernel)]; kernel_rfl) | (rw [if_neg (by decide +kernel)]; exact ⟨rfl, rfl⟩))
    (fun os started H enc _ => lifted os started H enc)

/-- The statement. -/
theorem proved : Rows.FnExactArrayValueSaid :=
  over
#print axioms proved
end Go.Proofs.Ytaljpkmndbcefaa.fnExactArrayValue
