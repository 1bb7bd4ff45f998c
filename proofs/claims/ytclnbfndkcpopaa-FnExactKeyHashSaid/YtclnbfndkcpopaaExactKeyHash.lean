/-
  KeyHash answers as its model at every key.
  Conditions: none.
-/
import Derived.Test.YtclnbfndkcpopaaRows
import Derived.WalkKit
import Derived.ProofKit
import Derived.OpenShut
import Derived.Test.YtclnbfndkcpopaaKeyHash
import Derived.Test.YtclnbfndkcpopaaTreeSz
import Derived.Test.YtclnbfndkcpopaaOpenT
namespace Go.Proofs.Ytclnbfndkcpopaa.fnExactKeyHash
open Go.ChangeShapes Go.WideShapes Go.ChangeAt Go.RowKit tree
open Go.ChangeMaps (open_string)
set_option linter.unusedVariables false

theorem own : ownKnob Try.prog.godebug = none := by kernel_rfl

theorem walk (y0 : Ky) (w : World) (hy0 : I64 y0.num ∧ y0.str.size ≤ maxLen) : Calls Try.prog 3 #[kyV y0] w fun e w' => e = .returned (.bool true) ∧ Below w.heap.size w w' := by
  have SZ := szKey y0 hy0.2 1048576 (by omega) (by omega)
  have TO := toKey y0
  have KI := keyHash_i y0
  have KS := keyHash_s y0
  obtain ⟨q, HQ⟩ : ∃ q, Hid (kh y0 = q) := ⟨_, Lib.hid rfl⟩
  rw [HQ.out] at KI KS
  clear hy0
  obtain ⟨b, m, s⟩ := y0
  replace SZ : ∀ w, Calls Try.prog 10 #[kyV ⟨b, m, s⟩, .int .i64 1048576] w (SzQ 1048576 s.size w) := SZ
  replace KI : s.size ≤ 140737488355328 → ∀ w, Calls Try.prog 13 #[kyV ⟨b, m, s⟩] w (KhQ w q) := KI
  replace KS : s.size ≤ 140737488355328 → ∀ w, Calls Try.prog 11 #[kyV ⟨b, m, s⟩] w (KhQ w q) := KS
  have KI := Lib.hid KI
  have KS := Lib.hid KS
  unfold kyV
  go_enter Try.func3, Try.ntmps3
  go_wp2_with (fail)
  refine (SZ _).mono ?_
  rintro e w1 ⟨r, rfl, ⟨hr1, hr2, hr3⟩, hb1⟩
  have E1 := Lib.hid (carry hb1 (heap_alloc_new w _))
  have HB1 := Lib.hid (bs (b1 w _) hb1)
  have HR3 := Lib.hid hr3
  obtain ⟨c1, -⟩ := rowc E1.out
  clear hb1 hr3
  by_cases hlt : r < 0
  · go_wp2_with (fail)
    go_ret
    exact ⟨rfl, HB1.out⟩
  have hs : s.size ≤ 140737488355328 := by have := HR3.out (by omega); omega
  go_wp2_with (fail)
  refine (TO _).mono ?_
  rintro e w2 ⟨rfl, hb2⟩
  have E2 := Lib.hid (carry hb2 E1.out)
  have HB2 := Lib.hid (bs HB1.out hb2)
  clear hb2 c1
  go_wp2_with (fail)
  refine (KS.out hs _).mono ?_
  rintro e w3 ⟨rfl, hb3⟩
  have E3 := Lib.hid (carry hb3 E2.out)
  have HB3 := Lib.hid (bs HB2.out hb3)
  obtain ⟨c3, -⟩ := rowc E3.out
  clear hb3
  go_wp2_with (fail)
  refine (TO _).mono ?_
  rintro e w4 ⟨rfl, hb4⟩
  have HB4 := Lib.hid (bs HB3.out hb4)
  clear hb4 c3
  go_wp2_with (fail)
  refine (KI.out hs _).mono ?_
  rintro e w5 ⟨rfl, hb5⟩
  have HB5 := Lib.hid (bs HB4.out hb5)
  clear hb5
  go_wp2_with (fail)
  go_ret
  exact ⟨rfl, HB5.out⟩

set_option maxRecDepth 100000 in
theorem lifted (os : Os) (started : os.Started) (H : Type) (enc : TypeId × Value → H) :
    ReturnsInHanded {} Try.checked os 3 .any (Rows.fnExactKeyHashSpec.pre6 enc Try.prog Try.f3 Rows.fnExactKeyHashRow.domain false) (Rows.fnExactKeyHashSpec.post enc Try.prog Try.f3 false true false false) := by
  refine returnsInHanded_of_change (C := Try.checked) own started (by kernel_rfl) Try.func3
    (ChangeSpec.witness6 (enc := enc) (C := Try.checked) false ⟨#[], #[.agg #[.bool false, .int .i64 0, .string ⟨#[]⟩]], []⟩ 8 (by kernel_rfl) (by kernel_rfl) (by kernel_rfl) (by kernel_rfl)) ?_
  intro W base args ds gs before hval0 hW hcnd _
  have hval : ∀ (j : Nat) t v, Try.f3.params[j]? = some t → args[j]? = some v → Value.okWide Try.prog W .any base t v := hval0
  have hW' := hW
  obtain ⟨p, q, hA0, hV, rfl, hfz, hnd⟩ := hW
  have hA : DataW.TrodAll enc Try.prog W 0 (fun _ => true) true Try.f3.params.toList args.toList ds p := hA0
  have hA2 := hA
  rw [Try.params3] at hA hval
  obtain ⟨v0, d0, rfl, rfl, h0⟩ := trodAll_one hA
  obtain ⟨rfl, rfl⟩ := trodVars_none hV
  obtain ⟨y0, rfl, hy0⟩ := opt.open_key (hval 0 23 v0 rfl rfl) h0
  clear hA0 hval0
  simp only [List.append_nil] at hW' hA2
  refine (walk y0 W hy0).mono fun e W' ⟨he, hb⟩ => ?_
  subst he
  exact ⟨_, rfl, opn.post_true hW' rfl hA2 rfl rfl Try.underlying4 (by kernel_rfl) (by kernel_rfl) hb⟩

theorem over : Rows.fnExactKeyHashRow.holds Try.pinned (OpenSpec.ofChange Rows.fnExactKeyHashSpec) :=
  OpenClaim.holds_of_wide 3 Try.f3 rfl rfl rfl rfl rfl rfl rfl ⟨rfl, rfl, rfl, rfl, rfl⟩ rfl rfl rfl rfl rfl (by kernel_rfl) Try.func3 (by kernel_rfl)
    (of_decide_eq_true (by kernel_rfl)) (by unfold Func.isWrapper; first | (rw [if_pos (by decide +kernel)]; kernel_rfl) | (rw [if_neg (by decide +kernel)]; exact ⟨rfl, rfl⟩))
    (fun os started H enc _ => lifted os started H enc)

/-- The statement. -/
theorem proved : Rows.FnExactKeyHashSaid :=
  over
#print axioms proved
end Go.Proofs.Ytclnbfndkcpopaa.fnExactKeyHash
