/-
  KeyOf of the project and of the model.
  Conditions: the value holds at most 10^9 letters; the package variables of the library's reading of numbers hold what the program's text lays.
-/
import Derived.Test.YtlbkbcafkjgckaaDoorTextK
import Derived.Test.YtlbkbcafkjgckaaDoorTreeCp
namespace Go.Proofs.YtlbkbcafkjgckaaDoor.tree
open Go.ChangeShapes Go.WideShapes Go.ChangeAt Go.RowKit
set_option linter.unusedVariables false

/-- The key of a value, and whether it has one. -/
def koY : Tr → Ky × Bool
  | .mk k n s _ _ _ => if k = 0 then (⟨true, 0, ⟨#[]⟩⟩, true) else if k = 1 ∨ k = 2 then (⟨false, n, ⟨#[]⟩⟩, true) else if k = 3 then (tkY s, true) else (⟨false, 0, ⟨#[]⟩⟩, false)

set_option maxHeartbeats 800000 in
theorem keyOf_i (t : Tr) (v : Value) (w : World) (S : Nat → Prop) (h : TIn w S t v) (hT : tot t ≤ 1000000000) (hE : prs.Env w) : Calls Tryd.prog 37 #[v] w (GivesQ w (.tuple #[kyV (koY t).1, .bool (koY t).2])) := by
  obtain ⟨k, n, s, x, ks, vs⟩ := t
  obtain ⟨A, c, rfl, -, -⟩ := h.out
  rw [tot_mk] at hT
  have TI := fun w hE => textKey_i s (by omega) (by omega) w hE
  obtain ⟨L, HL⟩ : ∃ L, Hid (L = vs.length) := ⟨_, Lib.hid rfl⟩
  rw [← HL.out]
  have HTI := Lib.hid TI
  have HE := Lib.hid hE
  clear h TI hT hE
  by_cases h0 : k = 0
  · subst h0
    show Calls _ _ _ _ (GivesQ w (.tuple #[.agg #[.bool true, .int .i64 0, .string ⟨#[]⟩], .bool true]))
    go_enter Tryd.func37, Tryd.ntmps37
    go_wp2_with (fail)
    exact bodyPost_ret (v := .tuple #[.agg #[.bool true, .int .i64 0, .string ⟨#[]⟩], .bool true]) (by simp [results, Tryd.results37, go_sem]) rfl ⟨rfl, b2 _ _ _⟩
  by_cases h1 : k = 1
  · subst h1
    show Calls _ _ _ _ (GivesQ w (.tuple #[.agg #[.bool false, .int .i64 n, .string ⟨#[]⟩], .bool true]))
    go_enter Tryd.func37, Tryd.ntmps37
    go_wp2_with (fail)
    exact bodyPost_ret (v := .tuple #[.agg #[.bool false, .int .i64 n, .string ⟨#[]⟩], .bool true]) (by simp [results, Tryd.results37, go_sem]) rfl ⟨rfl, b2 _ _ _⟩
  by_cases h2 : k = 2
  · subst h2
    show Calls _ _ _ _ (GivesQ w (.tuple #[.agg #[.bool false, .int .i64 n, .string ⟨#[]⟩], .bool true]))
    go_enter Tryd.func37, Tryd.ntmps37
    go_wp2_with (fail)
    exact bodyPost_ret (v := .tuple #[.agg #[.bool false, .int .i64 n, .string ⟨#[]⟩], .bool true]) (by simp [results, Tryd.results37, go_sem]) rfl ⟨rfl, b2 _ _ _⟩
  by_cases h3 : k = 3
  · subst h3
    show Calls _ _ _ _ (GivesQ w (.tuple #[kyV (tkY s), .bool true]))
    obtain ⟨⟨yb, yn, ys⟩, HY⟩ : ∃ y, Hid (tkY s = y) := ⟨_, Lib.hid rfl⟩
    rw [HY.out] at HTI ⊢
    unfold kyV at HTI ⊢
    go_enter Tryd.func37, Tryd.ntmps37
    go_wp2_with (fail)
    refine (HTI.out _ (HE.out.stays (b2 _ _ _))).mono ?_
    rintro e w1 ⟨rfl, hb1⟩
    have A1 := Lib.hid (carry hb1 (heap_alloc2_new w _ _))
    have HB1 := Lib.hid (bs (b2 w _ _) hb1)
    obtain ⟨r, f⟩ := rowc A1.out
    clear hb1
    go_wp2_with (fail)
    generalize hwF : (((w1.setCell ⟨w.heap.size + 1, 0, none⟩ (.bool yb)).setCell ⟨w.heap.size + 1, 1, none⟩ (.int .i64 yn)).setCell ⟨w.heap.size + 1, 2, none⟩ (.string ys)) = wF
    obtain ⟨rF, bF⟩ := fill3 A1.out hwF
    refine bodyPost_ret (v := .tuple #[.agg #[.bool yb, .int .i64 yn, .string ys], .bool true]) ?_ rfl ⟨rfl, bF _ _ (by omega) HB1.out⟩
    simp [results, Tryd.results37, go_sem, rF]
  · have e1 : koY (.mk k n s x ks vs) = (⟨false, 0, ⟨#[]⟩⟩, false) := by show (if k = 0 then _ else if k = 1 ∨ k = 2 then _ else if k = 3 then _ else _) = _; rw [if_neg h0, if_neg (by omega), if_neg h3]
    rw [e1]
    show Calls _ _ _ _ (GivesQ w (.tuple #[.agg #[.bool false, .int .i64 0, .string ⟨#[]⟩], .bool false]))
    clear e1
    go_enter Tryd.func37, Tryd.ntmps37
    go_wp2_with (fail)
    exact bodyPost_ret (v := .tuple #[.agg #[.bool false, .int .i64 0, .string ⟨#[]⟩], .bool false]) (by simp [results, Tryd.results37, go_sem]) rfl ⟨rfl, b2 _ _ _⟩


end Go.Proofs.YtlbkbcafkjgckaaDoor.tree
