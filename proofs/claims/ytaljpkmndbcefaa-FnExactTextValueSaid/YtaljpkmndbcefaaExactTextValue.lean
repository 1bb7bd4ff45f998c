/-
  TextValue answers as its model at every text, every field; its answer owns its memory.
  Conditions: none.
-/
import Derived.Test.YtaljpkmndbcefaaRows
import Derived.WalkKit
import Derived.ProofKit
import Derived.OpenShut
import Derived.Test.YtaljpkmndbcefaaMkVal
import Derived.Test.YtaljpkmndbcefaaTextVal
import Derived.Test.YtaljpkmndbcefaaOpenT
namespace Go.Proofs.Ytaljpkmndbcefaa.fnExactTextValue
open Go.ChangeShapes Go.WideShapes Go.ChangeAt Go.RowKit tree
open Go.ChangeMaps (open_string)
set_option linter.unusedVariables false

theorem own : ownKnob Try.prog.godebug = none := by kernel_rfl

/-- The law's walk, whatever the value is. -/
theorem walk0 (s0 : ByteArray) (hs0 : s0.size ≤ 1048576) (w : World) (k n x : Int) (s : ByteArray) (hk : I64 k ∧ I64 n ∧ I64 x ∧ s.size ≤ maxLen)
    (cs : ∀ w, Calls Try.prog 18 #[.string s0] w (GivesQ w (vV k n s x none 0 0)))
    (ci : ∀ w, Calls Try.prog 19 #[.string s0] w (GivesQ w (vV k n s x none 0 0))) :
    Calls Try.prog 5 #[.string s0] w (TrueQ w) := by
  have eq : ∀ w, Calls Try.prog 13 #[vV k n s x none 0 0, vV k n s x none 0 0] w (TrueQ w) := fun w => eqV (.mk k n s x [] []) w (fun _ => True) (fun _ => True) _ _ (flat hk w _ none 0) (flat hk w _ none 0)
  clear hk
  go_enter Try.func5, Try.ntmps5
  go_wp2_with (fail)
  refine (cs _).mono ?_
  rintro e w1 ⟨rfl, hb1⟩
  have HB1 := Lib.hid hb1
  clear hb1
  go_wp2_with (fail)
  refine (ci _).mono ?_
  rintro e w2 ⟨rfl, hb2⟩
  have a3 := carry hb2 (heap_alloc_new w1 _)
  have HB2 := Lib.hid (bs (bs HB1.out (b1 _ _)) hb2)
  obtain ⟨N3, hN3⟩ : ∃ N, N = w1.heap.size := ⟨_, rfl⟩
  rw [← hN3] at a3 ⊢
  have HN3 := Lib.hid hN3
  have A3 := Lib.hid a3
  have l3 : N3 < w2.heap.size := (Array.getElem?_eq_some_iff.1 a3).1
  obtain ⟨r3, _⟩ := rowc a3
  clear hb2 HB1 hN3 a3
  go_wp2_with (fail)
  refine (eq _).mono ?_
  rintro e w3 ⟨rfl, hb3⟩
  have a4 := carry hb3 (heap_alloc_new w2 _)
  have a3 := carry hb3 (keepAlloc A3.out)
  have HB3 := Lib.hid (bs (bs HB2.out (b1 _ _)) hb3)
  obtain ⟨N4, hN4⟩ : ∃ N, N = w2.heap.size := ⟨_, rfl⟩
  rw [← hN4] at a4 ⊢
  have HN4 := Lib.hid hN4
  have A3' := Lib.hid a3
  have A4 := Lib.hid a4
  clear r3 A3 HB2 l3
  obtain ⟨r4, _⟩ := rowc a4
  clear hb3 a3 a4 hN4
  go_wp2_with (fail)
  refine (markV0 k n s x none 0 1 _).mono ?_
  rintro e w4 ⟨rfl, hb4⟩
  have a3 := carry hb4 A3'.out
  have a4 := carry hb4 A4.out
  have HB4 := Lib.hid (bs HB3.out hb4)
  clear A3' A4 HB3 r4
  have A3 := Lib.hid a3
  have A4 := Lib.hid a4
  obtain ⟨r4, _⟩ := rowc a4
  clear hb4 a3 a4
  go_wp2_with (fail)
  refine (heldV0 k n s x none 0 1 (by omega) _).mono ?_
  rintro e w5 ⟨rfl, hb5⟩
  have a3 := carry hb5 A3.out
  have a4 := carry hb5 A4.out
  have HB5 := Lib.hid (bs HB4.out hb5)
  clear A3 A4 HB4 r4
  have A3 := Lib.hid a3
  have A4 := Lib.hid a4
  clear hb5 a3 a4
  go_wp2_with (fail)
  refine (ci _).mono ?_
  rintro e w6 ⟨rfl, hb6⟩
  have a3 := carry hb6 A3.out
  have a4 := carry hb6 A4.out
  have HB6 := Lib.hid (bs HB5.out hb6)
  clear A3 A4 HB5
  have A3 := Lib.hid a3
  have A4 := Lib.hid a4
  have l6 : N3 < w6.heap.size := (Array.getElem?_eq_some_iff.1 a3).1
  obtain ⟨r3, _⟩ := rowc a3
  clear hb6 a3 a4
  go_wp2_with (fail)
  refine (eq _).mono ?_
  rintro e w7 ⟨rfl, hb7⟩
  have a4 := carry hb7 (keepAlloc A4.out)
  have HB7 := Lib.hid (bs (bs HB6.out (b1 _ _)) hb7)
  clear A3 A4 HB6 r3
  obtain ⟨r4, _⟩ := rowc a4
  clear hb7 a4
  go_wp2_with (fail)
  refine (heldV0 k n s x none 0 1 (by omega) _).mono ?_
  rintro e w8 ⟨rfl, hb8⟩
  have HB8 := Lib.hid (bs HB7.out hb8)
  clear HB7 r4 hb8
  go_wp2_with (fail)
  go_ret
  exact ⟨rfl, HB8.out⟩
theorem walk (s0 : ByteArray) (w : World) : Calls Try.prog 5 #[.string s0] w fun e w' => e = .returned (.bool true) ∧ Below w.heap.size w w' := by
  by_cases hs : s0.size ≤ 1048576
  · exact walk0 s0 hs w 3 0 0 s0 ⟨by unfold I64; omega, by unfold I64; omega, by unfold I64; omega, by unfold maxLen; omega⟩ (fun w => textValue_s s0 w) (fun w => textValue_i s0 (by omega) w)
  · have hs1 : 1048576 < s0.size := by omega
    clear hs
    go_enter Try.func5, Try.ntmps5
    go_wp2
    go_ret
    exact ⟨rfl, Below.refl _ _⟩

set_option maxRecDepth 100000 in
theorem lifted (os : Os) (started : os.Started) (H : Type) (enc : TypeId × Value → H) :
    ReturnsInHanded {} Try.checked os 5 .any (Rows.fnExactTextValueSpec.pre6 enc Try.prog Try.f5 Rows.fnExactTextValueRow.domain false) (Rows.fnExactTextValueSpec.post enc Try.prog Try.f5 false true false false) := by
  refine returnsInHanded_of_change (C := Try.checked) own started (by kernel_rfl) Try.func5
    (ChangeSpec.witness6 (enc := enc) (C := Try.checked) false ⟨#[], #[.string ⟨#[]⟩], []⟩ 8 (by kernel_rfl) (by kernel_rfl) (by kernel_rfl) (by kernel_rfl)) ?_
  intro W base args ds gs before hval0 hW hcnd _
  have hval : ∀ (j : Nat) t v, Try.f5.params[j]? = some t → args[j]? = some v → Value.okWide Try.prog W .any base t v := hval0
  have hW' := hW
  obtain ⟨p, q, hA0, hV, rfl, hfz, hnd⟩ := hW
  have hA : DataW.TrodAll enc Try.prog W 0 (fun _ => true) true Try.f5.params.toList args.toList ds p := hA0
  have hA2 := hA
  rw [Try.params5] at hA hval
  obtain ⟨v0, d0, rfl, rfl, h0⟩ := trodAll_one hA
  obtain ⟨rfl, rfl⟩ := trodVars_none hV
  obtain ⟨s0, rfl, rfl, rfl, w0⟩ := open_string Try.underlying9 (hval 0 9 v0 rfl rfl) h0
  clear hA0 hval0
  simp only [List.append_nil] at hW' hA2
  refine (walk s0 W ).mono fun e W' ⟨he, hb⟩ => ?_
  subst he
  exact ⟨_, rfl, opn.post_true hW' rfl hA2 rfl rfl Try.underlying4 (by kernel_rfl) (by kernel_rfl) hb⟩

theorem over : Rows.fnExactTextValueRow.holds Try.pinned (OpenSpec.ofChange Rows.fnExactTextValueSpec) :=
  OpenClaim.holds_of_wide 5 Try.f5 rfl rfl rfl rfl rfl rfl rfl ⟨rfl, rfl, rfl, rfl, rfl⟩ rfl rfl rfl rfl rfl (by kernel_rfl) Try.func5 (by kernel_rfl)
    (of_decide_eq_true (by kernel_rfl)) (by unfold Func.isWrapper; first | (rw [if_pos (by decide +kernel)]; kernel_rfl) | (rw [if_neg (by decide +kernel)]; exact ⟨rfl, rfl⟩))
    (fun os started H enc _ => lifted os started H enc)

/-- The statement. -/
theorem proved : Rows.FnExactTextValueSaid :=
  over
#print axioms proved
end Go.Proofs.Ytaljpkmndbcefaa.fnExactTextValue
