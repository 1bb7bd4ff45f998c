/-
  KeyValue answers as its model at every key, every field; its answer owns its memory.
  Conditions: none.
-/
import Derived.Test.YtfeoendbfdmkmaaRows
import Derived.WalkKit
import Derived.ProofKit
import Derived.OpenShut
import Derived.Test.YtfeoendbfdmkmaaTextVal
import Derived.Test.YtfeoendbfdmkmaaGetK
import Derived.Test.YtfeoendbfdmkmaaLawKit
import Derived.Test.YtfeoendbfdmkmaaOpenT
namespace Go.Proofs.Ytfeoendbfdmkmaa.fnExactKeyValue
open Go.ChangeShapes Go.WideShapes Go.ChangeAt Go.RowKit tree
open Go.ChangeMaps (open_string)
set_option linter.unusedVariables false

theorem own : ownKnob Try.prog.godebug = none := by kernel_rfl

set_option maxHeartbeats 2000000 in
theorem walk0 (y : Ky) (hy : y.str.size ≤ maxLen) (w : World) (k n x : Int) (s : ByteArray) (hk : I64 k ∧ I64 n ∧ I64 x ∧ s.size ≤ maxLen)
    (cs : ∀ w, Calls Try.prog 11 #[kyV y] w (GivesQ w (vV k n s x none 0 0)))
    (ci : y.str.size ≤ 1048576 → ∀ w, Calls Try.prog 13 #[kyV y] w (GivesQ w (vV k n s x none 0 0))) :
    Calls Try.prog 3 #[kyV y] w (TrueQ w) := by
  have eq : ∀ w, Calls Try.prog 14 #[vV k n s x none 0 0, vV k n s x none 0 0] w (TrueQ w) := fun w => eqV (.mk k n s x [] []) w (fun _ => True) (fun _ => True) _ _ (flat hk w _ none 0 (Nat.zero_le _)) (flat hk w _ none 0 (Nat.zero_le _))
  have SZ := szKey y hy 1048576 (by omega) (by omega)
  have TK := toKey y
  obtain ⟨Y, HY⟩ : ∃ Y, Hid (Y = y.str.size) := ⟨_, Lib.hid rfl⟩
  rw [← HY.out] at ci SZ
  obtain ⟨yb, yn, ys⟩ := y
  unfold kyV at *
  simp only at *
  clear hk hy
  go_enter Try.func3, Try.ntmps3
  go_wp2_with (fail)
  refine (SZ _).mono ?_
  rintro e w0 ⟨r, rfl, ⟨hr1, hr2, hr3⟩, hb0⟩
  have Ea := Lib.hid (carry hb0 (heap_alloc_new w _))
  have HB := Lib.hid (bs (b1 w _) hb0)
  have HR3 := Lib.hid hr3
  obtain ⟨ra, -⟩ := rowc Ea.out
  clear hb0 hr3
  by_cases hlt : r < 0
  · go_wp2_with (fail)
    go_ret
    exact ⟨rfl, HB.out⟩
  have CI := Lib.hid (ci (by have := HR3.out (by omega); omega))
  clear ci
  go_wp2_with (fail)
  refine (TK _).mono ?_
  rintro e w1 ⟨rfl, hb⟩
  have hbx := hb
  replace Ea := Lib.hid (carry hbx Ea.out)
  replace HB := Lib.hid (bs HB.out hbx)
  clear hb hbx
  try clear ra
  try clear rm
  try clear rg
  try clear rh
  have ra : ∀ j, w1.cell? ⟨w.heap.size, j, none⟩ = _ := fun j => (rowc Ea.out).1 j
  have qa : ∀ o j, (w1.alloc o).cell? ⟨w.heap.size, j, none⟩ = _ := fun o j => (rowc (keepAlloc Ea.out)).1 j
  go_wp2_with (fail)
  refine (cs _).mono ?_
  rintro e w2 ⟨rfl, hb⟩
  have hbx := hb
  replace Ea := Lib.hid (carry hbx Ea.out)
  replace HB := Lib.hid (bs HB.out hbx)
  clear hb hbx
  try clear ra
  try clear rm
  try clear rg
  try clear rh
  have ra : ∀ j, w2.cell? ⟨w.heap.size, j, none⟩ = _ := fun j => (rowc Ea.out).1 j
  have qa : ∀ o j, (w2.alloc o).cell? ⟨w.heap.size, j, none⟩ = _ := fun o j => (rowc (keepAlloc Ea.out)).1 j
  go_wp2_with (fail)
  refine (TK _).mono ?_
  rintro e w3 ⟨rfl, hb⟩
  have hbx := bs (b1 w2 (.cells #[.int .i64 k, .int .i64 n, .string s, .int .i64 x, .slice none 0 0] IV)) hb
  obtain ⟨Nm, hNm⟩ : ∃ N, N = w2.heap.size := ⟨_, rfl⟩
  have en := carry hb (heap_alloc_new w2 (.cells #[.int .i64 k, .int .i64 n, .string s, .int .i64 x, .slice none 0 0] IV))
  rw [← hNm] at en ⊢
  have HNm := Lib.hid hNm
  replace Ea := Lib.hid (carry hbx Ea.out)
  have Em := Lib.hid en
  clear en hNm
  replace HB := Lib.hid (bs HB.out hbx)
  clear hb hbx
  try clear ra
  try clear rm
  try clear rg
  try clear rh
  have ra : ∀ j, w3.cell? ⟨w.heap.size, j, none⟩ = _ := fun j => (rowc Ea.out).1 j
  have qa : ∀ o j, (w3.alloc o).cell? ⟨w.heap.size, j, none⟩ = _ := fun o j => (rowc (keepAlloc Ea.out)).1 j
  try clear qa
  try clear qm
  try clear qg
  go_wp2_with (fail)
  refine (CI.out _).mono ?_
  rintro e w4 ⟨rfl, hb⟩
  have hbx := hb
  replace Ea := Lib.hid (carry hbx Ea.out)
  replace Em := Lib.hid (carry hbx Em.out)
  replace HB := Lib.hid (bs HB.out hbx)
  clear hb hbx
  try clear ra
  try clear rm
  try clear rg
  try clear rh
  have rm : ∀ j, w4.cell? ⟨Nm, j, none⟩ = _ := fun j => (rowc Em.out).1 j
  have ra : ∀ j, w4.cell? ⟨w.heap.size, j, none⟩ = _ := fun j => (rowc Ea.out).1 j
  have qm : ∀ o j, (w4.alloc o).cell? ⟨Nm, j, none⟩ = _ := fun o j => (rowc (keepAlloc Em.out)).1 j
  have qa : ∀ o j, (w4.alloc o).cell? ⟨w.heap.size, j, none⟩ = _ := fun o j => (rowc (keepAlloc Ea.out)).1 j
  go_wp2_with (fail)
  refine (eq _).mono ?_
  rintro e w5 ⟨rfl, hb⟩
  have hbx := bs (b1 w4 (.cells #[.int .i64 k, .int .i64 n, .string s, .int .i64 x, .slice none 0 0] IV)) hb
  obtain ⟨Ng, hNg⟩ : ∃ N, N = w4.heap.size := ⟨_, rfl⟩
  have en := carry hb (heap_alloc_new w4 (.cells #[.int .i64 k, .int .i64 n, .string s, .int .i64 x, .slice none 0 0] IV))
  rw [← hNg] at en ⊢
  have HNg := Lib.hid hNg
  replace Ea := Lib.hid (carry hbx Ea.out)
  replace Em := Lib.hid (carry hbx Em.out)
  have Eg := Lib.hid en
  clear en hNg
  replace HB := Lib.hid (bs HB.out hbx)
  clear hb hbx
  try clear ra
  try clear rm
  try clear rg
  try clear rh
  have rg : ∀ j, w5.cell? ⟨Ng, j, none⟩ = _ := fun j => (rowc Eg.out).1 j
  have qg : ∀ o j, (w5.alloc o).cell? ⟨Ng, j, none⟩ = _ := fun o j => (rowc (keepAlloc Eg.out)).1 j
  try clear qa
  try clear qm
  try clear qg
  go_wp2_with (fail)
  refine (markV0 k n s x none 0 1 _).mono ?_
  rintro e w6 ⟨rfl, hb⟩
  have hbx := hb
  replace Ea := Lib.hid (carry hbx Ea.out)
  replace Em := Lib.hid (carry hbx Em.out)
  replace Eg := Lib.hid (carry hbx Eg.out)
  replace HB := Lib.hid (bs HB.out hbx)
  clear hb hbx
  try clear ra
  try clear rm
  try clear rg
  try clear rh
  have rg : ∀ j, w6.cell? ⟨Ng, j, none⟩ = _ := fun j => (rowc Eg.out).1 j
  have qg : ∀ o j, (w6.alloc o).cell? ⟨Ng, j, none⟩ = _ := fun o j => (rowc (keepAlloc Eg.out)).1 j
  try clear qa
  try clear qm
  try clear qg
  go_wp2_with (fail)
  refine (heldV0 k n s x none 0 1 (by omega) _).mono ?_
  rintro e w7 ⟨rfl, hb⟩
  have hbx := hb
  replace Ea := Lib.hid (carry hbx Ea.out)
  replace Em := Lib.hid (carry hbx Em.out)
  replace Eg := Lib.hid (carry hbx Eg.out)
  replace HB := Lib.hid (bs HB.out hbx)
  clear hb hbx
  try clear ra
  try clear rm
  try clear rg
  try clear rh
  have ra : ∀ j, w7.cell? ⟨w.heap.size, j, none⟩ = _ := fun j => (rowc Ea.out).1 j
  have rg : ∀ j, w7.cell? ⟨Ng, j, none⟩ = _ := fun j => (rowc Eg.out).1 j
  have qa : ∀ o j, (w7.alloc o).cell? ⟨w.heap.size, j, none⟩ = _ := fun o j => (rowc (keepAlloc Ea.out)).1 j
  have qg : ∀ o j, (w7.alloc o).cell? ⟨Ng, j, none⟩ = _ := fun o j => (rowc (keepAlloc Eg.out)).1 j
  try clear qa
  try clear qm
  try clear qg
  go_wp2_with (fail)
  refine (TK _).mono ?_
  rintro e w8 ⟨rfl, hb⟩
  have hbx := hb
  replace Ea := Lib.hid (carry hbx Ea.out)
  replace Em := Lib.hid (carry hbx Em.out)
  replace Eg := Lib.hid (carry hbx Eg.out)
  replace HB := Lib.hid (bs HB.out hbx)
  clear hb hbx
  try clear ra
  try clear rm
  try clear rg
  try clear rh
  have ra : ∀ j, w8.cell? ⟨w.heap.size, j, none⟩ = _ := fun j => (rowc Ea.out).1 j
  have qa : ∀ o j, (w8.alloc o).cell? ⟨w.heap.size, j, none⟩ = _ := fun o j => (rowc (keepAlloc Ea.out)).1 j
  try clear qa
  try clear qm
  try clear qg
  go_wp2_with (fail)
  refine (CI.out _).mono ?_
  rintro e w9 ⟨rfl, hb⟩
  have hbx := hb
  replace Ea := Lib.hid (carry hbx Ea.out)
  replace Em := Lib.hid (carry hbx Em.out)
  replace Eg := Lib.hid (carry hbx Eg.out)
  replace HB := Lib.hid (bs HB.out hbx)
  clear hb hbx
  try clear ra
  try clear rm
  try clear rg
  try clear rh
  have rm : ∀ j, w9.cell? ⟨Nm, j, none⟩ = _ := fun j => (rowc Em.out).1 j
  have qm : ∀ o j, (w9.alloc o).cell? ⟨Nm, j, none⟩ = _ := fun o j => (rowc (keepAlloc Em.out)).1 j
  go_wp2_with (fail)
  refine (eq _).mono ?_
  rintro e w10 ⟨rfl, hb⟩
  have hbx := bs (b1 w9 (.cells #[.int .i64 k, .int .i64 n, .string s, .int .i64 x, .slice none 0 0] IV)) hb
  obtain ⟨Nh, hNh⟩ : ∃ N, N = w9.heap.size := ⟨_, rfl⟩
  have en := carry hb (heap_alloc_new w9 (.cells #[.int .i64 k, .int .i64 n, .string s, .int .i64 x, .slice none 0 0] IV))
  rw [← hNh] at en ⊢
  have HNh := Lib.hid hNh
  replace Ea := Lib.hid (carry hbx Ea.out)
  replace Em := Lib.hid (carry hbx Em.out)
  replace Eg := Lib.hid (carry hbx Eg.out)
  have Eh := Lib.hid en
  clear en hNh
  replace HB := Lib.hid (bs HB.out hbx)
  clear hb hbx
  try clear ra
  try clear rm
  try clear rg
  try clear rh
  have rg : ∀ j, w10.cell? ⟨Ng, j, none⟩ = _ := fun j => (rowc Eg.out).1 j
  have qg : ∀ o j, (w10.alloc o).cell? ⟨Ng, j, none⟩ = _ := fun o j => (rowc (keepAlloc Eg.out)).1 j
  try clear qa
  try clear qm
  try clear qg
  go_wp2_with (fail)
  refine (heldV0 k n s x none 0 1 (by omega) _).mono ?_
  rintro e w11 ⟨rfl, hb⟩
  have hbx := hb
  replace Ea := Lib.hid (carry hbx Ea.out)
  replace Em := Lib.hid (carry hbx Em.out)
  replace Eg := Lib.hid (carry hbx Eg.out)
  replace Eh := Lib.hid (carry hbx Eh.out)
  replace HB := Lib.hid (bs HB.out hbx)
  clear hb hbx
  try clear ra
  try clear rm
  try clear rg
  try clear rh
  go_wp2_with (fail)
  go_ret
  exact ⟨rfl, HB.out⟩

theorem keyValue_s (y : Ky) (w : World) : Calls Try.prog 11 #[kyV y] w (GivesQ w (if y.text then vV 3 0 y.str 0 none 0 0 else vV 2 y.num ⟨#[]⟩ 0 none 0 0)) := by
  obtain ⟨yb, yn, ys⟩ := y
  have T1 := textValue_s ys
  have T2 := intValue_s yn
  unfold kyV
  cases yb
  · show Calls _ _ _ _ (GivesQ w (vV 2 yn ⟨#[]⟩ 0 none 0 0))
    go_enter Try.func11, Try.ntmps11
    go_wp2_with (fail)
    refine (T2 _).mono ?_
    rintro e w1 ⟨rfl, hb1⟩
    have A1 := Lib.hid (carry hb1 (heap_alloc2_new w _ _))
    have HB1 := Lib.hid (bs (b2 w _ _) hb1)
    obtain ⟨r, f⟩ := rowc A1.out
    clear hb1
    go_wp2_with (fail)
    generalize hwF : (((((w1.setCell ⟨w.heap.size + 1, 0, none⟩ (.int .i64 2)).setCell ⟨w.heap.size + 1, 1, none⟩ (.int .i64 yn)).setCell ⟨w.heap.size + 1, 2, none⟩ (.string ⟨#[]⟩)).setCell ⟨w.heap.size + 1, 3, none⟩ (.int .i64 0)).setCell ⟨w.heap.size + 1, 4, none⟩ (.slice none 0 0)) = wF
    obtain ⟨rF, -, bF⟩ := fill5 A1.out hwF
    refine bodyPost_ret (v := vV 2 yn ⟨#[]⟩ 0 none 0 0) ?_ rfl ⟨rfl, bF _ _ (by omega) HB1.out⟩
    simp [results, Try.results11, go_sem, rF]
  · show Calls _ _ _ _ (GivesQ w (vV 3 0 ys 0 none 0 0))
    go_enter Try.func11, Try.ntmps11
    go_wp2_with (fail)
    refine (T1 _).mono ?_
    rintro e w1 ⟨rfl, hb1⟩
    have A1 := Lib.hid (carry hb1 (heap_alloc2_new w _ _))
    have HB1 := Lib.hid (bs (b2 w _ _) hb1)
    obtain ⟨r, f⟩ := rowc A1.out
    clear hb1
    go_wp2_with (fail)
    generalize hwF : (((((w1.setCell ⟨w.heap.size + 1, 0, none⟩ (.int .i64 3)).setCell ⟨w.heap.size + 1, 1, none⟩ (.int .i64 0)).setCell ⟨w.heap.size + 1, 2, none⟩ (.string ys)).setCell ⟨w.heap.size + 1, 3, none⟩ (.int .i64 0)).setCell ⟨w.heap.size + 1, 4, none⟩ (.slice none 0 0)) = wF
    obtain ⟨rF, -, bF⟩ := fill5 A1.out hwF
    refine bodyPost_ret (v := vV 3 0 ys 0 none 0 0) ?_ rfl ⟨rfl, bF _ _ (by omega) HB1.out⟩
    simp [results, Try.results11, go_sem, rF]
theorem keyValue_i (y : Ky) (hy : y.str.size ≤ 1048576) (w : World) : Calls Try.prog 13 #[kyV y] w (GivesQ w (if y.text then vV 3 0 y.str 0 none 0 0 else vV 2 y.num ⟨#[]⟩ 0 none 0 0)) := by
  obtain ⟨yb, yn, ys⟩ := y
  replace hy : ys.size ≤ 1048576 := hy
  have T1 := textValue_i ys (by omega)
  have T2 := intValue_i yn
  unfold kyV
  cases yb
  · show Calls _ _ _ _ (GivesQ w (vV 2 yn ⟨#[]⟩ 0 none 0 0))
    go_enter Try.func13, Try.ntmps13
    go_wp2_with (fail)
    refine (T2 _).mono ?_
    rintro e w1 ⟨rfl, hb1⟩
    have A1 := Lib.hid (carry hb1 (heap_alloc2_new w _ _))
    have HB1 := Lib.hid (bs (b2 w _ _) hb1)
    obtain ⟨r, f⟩ := rowc A1.out
    clear hb1
    go_wp2_with (fail)
    generalize hwF : (((((w1.setCell ⟨w.heap.size + 1, 0, none⟩ (.int .i64 2)).setCell ⟨w.heap.size + 1, 1, none⟩ (.int .i64 yn)).setCell ⟨w.heap.size + 1, 2, none⟩ (.string ⟨#[]⟩)).setCell ⟨w.heap.size + 1, 3, none⟩ (.int .i64 0)).setCell ⟨w.heap.size + 1, 4, none⟩ (.slice none 0 0)) = wF
    obtain ⟨rF, -, bF⟩ := fill5 A1.out hwF
    refine bodyPost_ret (v := vV 2 yn ⟨#[]⟩ 0 none 0 0) ?_ rfl ⟨rfl, bF _ _ (by omega) HB1.out⟩
    simp [results, Try.results13, go_sem, rF]
  · show Calls _ _ _ _ (GivesQ w (vV 3 0 ys 0 none 0 0))
    go_enter Try.func13, Try.ntmps13
    go_wp2_with (fail)
    refine (T1 _).mono ?_
    rintro e w1 ⟨rfl, hb1⟩
    have A1 := Lib.hid (carry hb1 (heap_alloc2_new w _ _))
    have HB1 := Lib.hid (bs (b2 w _ _) hb1)
    obtain ⟨r, f⟩ := rowc A1.out
    clear hb1
    go_wp2_with (fail)
    generalize hwF : (((((w1.setCell ⟨w.heap.size + 1, 0, none⟩ (.int .i64 3)).setCell ⟨w.heap.size + 1, 1, none⟩ (.int .i64 0)).setCell ⟨w.heap.size + 1, 2, none⟩ (.string ys)).setCell ⟨w.heap.size + 1, 3, none⟩ (.int .i64 0)).setCell ⟨w.heap.size + 1, 4, none⟩ (.slice none 0 0)) = wF
    obtain ⟨rF, -, bF⟩ := fill5 A1.out hwF
    refine bodyPost_ret (v := vV 3 0 ys 0 none 0 0) ?_ rfl ⟨rfl, bF _ _ (by omega) HB1.out⟩
    simp [results, Try.results13, go_sem, rF]

theorem walk (y0 : Ky) (w : World) (hy0 : I64 y0.num ∧ y0.str.size ≤ maxLen) : Calls Try.prog 3 #[kyV y0] w (TrueQ w) := by
  have CS := keyValue_s y0
  have CI := fun h => keyValue_i y0 h
  cases hb : y0.text with
  | true =>
    rw [hb] at CS CI
    exact walk0 y0 hy0.2 w 3 0 0 y0.str ⟨by unfold I64; omega, by unfold I64; omega, by unfold I64; omega, hy0.2⟩ CS CI
  | false =>
    rw [hb] at CS CI
    exact walk0 y0 hy0.2 w 2 y0.num 0 ⟨#[]⟩ ⟨by unfold I64; omega, hy0.1, by unfold I64; omega, Nat.zero_le _⟩ CS CI

set_option maxRecDepth 100000 in
theorem lifted (os : Os) (started : os.Started) (H : Type) (enc : TypeId × Value → H) :
    ReturnsInHanded {} Try.checked os 3 .any (Rows.fnExactKeyValueSpec.pre6 enc Try.prog Try.f3 Rows.fnExactKeyValueRow.domain false) (Rows.fnExactKeyValueSpec.post enc Try.prog Try.f3 false true false false) := by
  refine returnsInHanded_of_change (C := Try.checked) own started (by kernel_rfl) Try.func3
    (ChangeSpec.witness6 (enc := enc) (C := Try.checked) false ⟨#[], #[.agg #[.bool false, .int .i64 0, .string ⟨#[]⟩]], []⟩ 8 (by kernel_rfl) (by kernel_rfl) (by kernel_rfl) (by kernel_rfl)) ?_
  intro W base args ds gs before hval0 hW hcnd _
  have hval : ∀ (j : Nat) t v, Try.f3.params[j]? = some t → args[j]? = some v → Value.okWide Try.prog W .any base t v := hval0
  have hW' := hW
  obtain ⟨p, q, hA0, hV, rfl, hfz, hnd⟩ := hW
  have hA : DataW.TrodAll enc Try.prog W 0 (fun _ => true) true Try.f3.params.toList args.toList ds p := hA0
  have hA2 := hA
  rw [Try.params3] at hA hval
  obtain ⟨v0, d0, rfl, rfl, h0⟩ := trodAll_one hA
  obtain ⟨rfl, rfl⟩ := trodVars_none hV
  obtain ⟨y0, rfl, hy0⟩ := opt.open_key (hval 0 23 v0 rfl rfl) h0
  clear hA0 hval0
  simp only [List.append_nil] at hW' hA2
  refine (walk y0 W hy0).mono fun e W' ⟨he, hb⟩ => ?_
  subst he
  exact ⟨_, rfl, opn.post_true hW' rfl hA2 rfl rfl Try.underlying4 (by kernel_rfl) (by kernel_rfl) hb⟩

theorem over : Rows.fnExactKeyValueRow.holds Try.pinned (OpenSpec.ofChange Rows.fnExactKeyValueSpec) :=
  OpenClaim.holds_of_wide 3 Try.f3 rfl rfl rfl rfl rfl rfl rfl ⟨rfl, rfl, rfl, rfl, rfl⟩ rfl rfl rfl rfl rfl (by kernel_rfl) Try.func3 (by kernel_rfl)
    (of_decide_eq_true (by kernel_rfl)) (by unfold Func.isWrapper; first | (rw [if_pos (by decide +kernel)]; kernel_rfl) | (rw [if_neg (by decide +kernel)]; exact ⟨rfl, rfl⟩))
    (fun os started H enc _ => lifted os started H enc)

/-- The statement. -/
theorem proved : Rows.FnExactKeyValueSaid :=
  over
#print axioms proved
end Go.Proofs.Ytfeoendbfdmkmaa.fnExactKeyValue
