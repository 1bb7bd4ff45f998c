/-
  TextKey and KeyOf of the project and of the model.
  Conditions: the text has at most 2^40 bytes; the package variables of the library's reading of numbers hold what the program's text lays.
-/
import Derived.Test.YtlbkbcafkjgckaaDoorIsKey
import Derived.Test.YtlbkbcafkjgckaaDoorClone
import Derived.Test.YtlbkbcafkjgckaaDoorGives
namespace Go.Proofs.YtlbkbcafkjgckaaDoor.tree
open Go.ChangeShapes Go.WideShapes Go.ChangeAt Go.RowKit
set_option linter.unusedVariables false

/-- The key of a text. -/
def tkY (s : ByteArray) : Ky := if (dec.pr (-1000000000) 1000000000 s.data.toList).2 then ⟨false, (dec.pr (-1000000000) 1000000000 s.data.toList).1, ⟨#[]⟩⟩ else ⟨true, 0, s⟩

theorem fill3 {w wF : World} {R : Nat} {t : TypeId} {a b c c0 c1 c2 : Value} (h : w.heap[R]? = some (.cells #[a, b, c] t (0, 0)))
    (hF : (((w.setCell ⟨R, 0, none⟩ c0).setCell ⟨R, 1, none⟩ c1).setCell ⟨R, 2, none⟩ c2) = wF) :
    (∀ j, wF.cell? ⟨R, j, none⟩ = (#[c0, c1, c2] : Array Value)[j]?) ∧ ∀ (B : Nat) (w0 : World), B ≤ R → Below B w0 w → Below B w0 wF := by
  subst hF
  refine ⟨fun j => ?_, fun B w0 hB hb => ((hb.setCell hB _).setCell hB _).setCell hB _⟩
  have := set_heap (set_heap (set_heap h 0 c0) 1 c1) 2 c2
  rw [cell_of_row _ _ j _ _ _ this]
  simp

set_option maxHeartbeats 800000 in
theorem textKey_i (s : ByteArray) (hs : s.size ≤ 281474976710656) (hs2 : s.size ≤ 1099511627776) (w : World) (hE : prs.Env w) : Calls Tryd.prog 83 #[.string s] w (GivesQ w (kyV (tkY s))) := by
  unfold tkY
  obtain ⟨⟨x1, x2⟩, HX⟩ : ∃ x, Hid (dec.pr (-1000000000) 1000000000 s.data.toList = x) := ⟨_, Lib.hid rfl⟩
  have PS : Hid (∀ w, prs.Env w → Calls Tryd.prog 105 #[.string s] w fun e w' => e = .returned (.tuple #[.int .i64 x1, .bool x2]) ∧ Below w.heap.size w w') := Lib.hid fun w hE => by
    have := prs.implParseSigned s hs w hE
    rw [HX.out] at this
    exact this
  rw [HX.out]
  have HE := Lib.hid hE
  have CL := Lib.hid (implClone' s hs2)
  clear hE
  cases x2
  · show Calls _ _ _ _ (GivesQ w (.agg #[.bool true, .int .i64 0, .string s]))
    go_enter Tryd.func83, Tryd.ntmps83
    go_wp2_with (fail)
    refine (PS.out _ (HE.out.stays (b1 w _))).mono ?_
    rintro e w1 ⟨rfl, hb1⟩
    have A1 := Lib.hid (carry hb1 (heap_alloc_new w _))
    have HB1 := Lib.hid (bs (b1 w _) hb1)
    clear hb1
    go_wp2_with (fail)
    refine (CL.out _).mono ?_
    rintro e w2 ⟨rfl, hb2⟩
    have A2 := Lib.hid (carry hb2 A1.out)
    have HB2 := Lib.hid (bs HB1.out hb2)
    obtain ⟨r, f⟩ := rowc A2.out
    clear hb2
    go_wp2_with (fail)
    generalize hwF : (((w2.setCell ⟨w.heap.size, 0, none⟩ (.bool true)).setCell ⟨w.heap.size, 1, none⟩ (.int .i64 0)).setCell ⟨w.heap.size, 2, none⟩ (.string s)) = wF
    obtain ⟨rF, bF⟩ := fill3 A2.out hwF
    refine bodyPost_ret (v := .agg #[.bool true, .int .i64 0, .string s]) ?_ rfl ⟨rfl, bF _ _ (Nat.le_refl _) HB2.out⟩
    simp [results, Tryd.results83, go_sem, rF]
  · show Calls _ _ _ _ (GivesQ w (.agg #[.bool false, .int .i64 x1, .string ⟨#[]⟩]))
    go_enter Tryd.func83, Tryd.ntmps83
    go_wp2_with (fail)
    refine (PS.out _ (HE.out.stays (b1 w _))).mono ?_
    rintro e w1 ⟨rfl, hb1⟩
    have A1 := Lib.hid (carry hb1 (heap_alloc_new w _))
    have HB1 := Lib.hid (bs (b1 w _) hb1)
    obtain ⟨r, f⟩ := rowc A1.out
    clear hb1
    go_wp2_with (fail)
    generalize hwF : (((w1.setCell ⟨w.heap.size, 0, none⟩ (.bool false)).setCell ⟨w.heap.size, 1, none⟩ (.int .i64 x1)).setCell ⟨w.heap.size, 2, none⟩ (.string ⟨#[]⟩)) = wF
    obtain ⟨rF, bF⟩ := fill3 A1.out hwF
    refine bodyPost_ret (v := .agg #[.bool false, .int .i64 x1, .string ⟨#[]⟩]) ?_ rfl ⟨rfl, bF _ _ (Nat.le_refl _) HB1.out⟩
    simp [results, Tryd.results83, go_sem, rF]


end Go.Proofs.YtlbkbcafkjgckaaDoor.tree
