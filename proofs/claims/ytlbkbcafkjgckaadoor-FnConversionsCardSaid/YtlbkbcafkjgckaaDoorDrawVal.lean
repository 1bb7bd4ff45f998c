/-
  Drawn words, keys and scalars.
  Conditions: the cursor's block.
-/
import Derived.Test.YtlbkbcafkjgckaaDoorDrawOne
import Derived.Test.YtlbkbcafkjgckaaDoorTreeCp
namespace Go.Proofs.YtlbkbcafkjgckaaDoor.draw
open Go.ChangeShapes Go.WideShapes Go.ChangeAt Go.RowKit tree
set_option linter.unusedVariables false

theorem strs_new' (m : Nat) (w : World) (t : TypeId) (zs : List ByteArray) (h : ∀ z ∈ zs, z.size ≤ m) (N : Nat) (hN : N < w.heap.size) :
    Strs m (w.alloc (.cells (zs.map Value.string).toArray t)) N w.heap.size zs.length := by
  refine ⟨by omega, by simp, fun j hj => ?_⟩
  refine ⟨zs[j], h zs[j] (List.getElem_mem _), ?_⟩
  rw [World.cell?_alloc_new]
  simp [hj]

theorem word (N : Nat) (w : World) (hC : Cur w N) : Calls Tryd.prog 136 #[.pointer (some ⟨N, 0, none⟩)] w (StrQ 10 N w) := by
  have hN := hC.lt
  have HI := Lib.hid (strs_new' 10 w 9 [⟨#[]⟩, ⟨#[97]⟩, ⟨#[98]⟩, ⟨#[120, 49]⟩, ⟨#[48]⟩, ⟨#[53]⟩, ⟨#[45, 53]⟩, ⟨#[48, 53]⟩, ⟨#[45, 48]⟩, ⟨#[49, 50, 97]⟩, ⟨#[48, 48, 55]⟩, ⟨#[49, 48, 48, 48, 48, 48, 48, 48, 48, 48]⟩, ⟨#[49, 48, 48, 48, 48, 48, 48, 48, 48, 49]⟩, ⟨#[32, 49]⟩, ⟨#[105, 116, 39, 115]⟩, ⟨#[10]⟩, ⟨#[60, 105, 62]⟩, ⟨#[255, 59]⟩, ⟨#[110, 97, 109, 101]⟩, ⟨#[115, 58, 49, 58]⟩] (by decide) N hN)
  have HC := Lib.hid hC
  clear hC
  go_enter Tryd.func136, Tryd.ntmps136
  go_wp2_with (fail)
  refine (pickStr 10 N w.heap.size 20 20 (by omega) (by omega) _ (HC.out.new _) HI.out).mono ?_
  rintro e w1 ⟨s, rfl, hs, hC1, hg1⟩
  have HC1 := Lib.hid hC1; have HG1 := Lib.hid hg1; clear hC1 hg1
  go_wp2
  go_ret
  exact ⟨s, rfl, hs, HC1.out, only_trans (World.grownBy_alloc _ _ _) HG1.out⟩

theorem Cur.upto {w w' : World} {N : Nat} (h : Cur w N) (hk : ∀ k, k ≤ N → w'.heap[k]? = w.heap[k]?) : Cur w' N := by
  obtain ⟨A, n, c, i, h1, h2, h3, h4, h5, h6⟩ := h
  exact ⟨A, n, c, i, h1, (hk N (Nat.le_refl _)).trans h2, h3.keep fun k hlt => hk k (by omega), h4, h5, h6⟩
/-- Three cells of one block written. -/
theorem put3 {w : World} {R : Nat} {t : TypeId} {a b c : Value} (x y z : Value) (h : w.heap[R]? = some (.cells #[a, b, c] t (0, 0))) :
    (((w.setCell ⟨R, 0, none⟩ x).setCell ⟨R, 1, none⟩ y).setCell ⟨R, 2, none⟩ z).heap[R]? = some (.cells #[x, y, z] t (0, 0)) ∧
    (∀ k, k ≠ R → (((w.setCell ⟨R, 0, none⟩ x).setCell ⟨R, 1, none⟩ y).setCell ⟨R, 2, none⟩ z).heap[k]? = w.heap[k]?) ∧
    ∀ (W : World) (N : Nat), W.heap.size ≤ R → W.grownBy w (some N) → W.grownBy (((w.setCell ⟨R, 0, none⟩ x).setCell ⟨R, 1, none⟩ y).setCell ⟨R, 2, none⟩ z) (some N) := by
  refine ⟨?_, fun k hk => ?_, fun W N hR hg => ⟨hg.os, hg.tape, hg.output, by simpa [set_size] using hg.size, fun j hj hne => ?_⟩⟩
  · have := set_heap (set_heap (set_heap h 0 x) 1 y) 2 z
    simpa using this
  · rw [set_other hk, set_other hk, set_other hk]
  · have hk : j ≠ R := by omega
    rw [set_other hk, set_other hk, set_other hk]
    exact hg.block j hj hne

/-- A drawn key. -/
def DrawKey (N : Nat) (w : World) (e : Ending) (w' : World) : Prop := ∃ y : Ky, e = .returned (kyV y) ∧ (-1000000000 ≤ y.num ∧ y.num ≤ 1000000000 ∧ y.str.size ≤ 2) ∧ Cur w' N ∧ w.grownBy w' (some N)
theorem key (N : Nat) (w : World) (hC : Cur w N) : Calls Tryd.prog 54 #[.pointer (some ⟨N, 0, none⟩)] w (DrawKey N w) := by
  have hN0 := hC.lt
  have HC := Lib.hid hC
  clear hC
  go_enter Tryd.func54, Tryd.ntmps54
  go_wp2_with (fail)
  refine (once N 3 (by omega) _ (HC.out.new _)).mono ?_
  rintro e w1 ⟨b, rfl, hC1, hg1⟩
  have hN := hC1.lt
  have eR : w1.heap[w.heap.size]? = some (.cells #[.bool false, .int .i64 0, .string ⟨#[]⟩] IK (0, 0)) := (hg1.block _ (by simp) (by intro h; injection h; omega)).trans (heap_alloc_new w _)
  have HC1 := Lib.hid hC1; have HG1 := Lib.hid (only_trans (World.grownBy_alloc w (.cells #[.bool false, .int .i64 0, .string ⟨#[]⟩] IK) (some N)) hg1)
  have ER := Lib.hid eR
  clear hC1 hg1 eR
  cases b with
  | true =>
    have HI := Lib.hid (strs_new' 2 w1 9 [⟨#[97]⟩, ⟨#[98]⟩, ⟨#[99]⟩, ⟨#[]⟩, ⟨#[48, 53]⟩, ⟨#[120]⟩] (by decide) N hN)
    go_wp2_with (fail)
    refine (pickStr 2 N w1.heap.size 6 6 (by omega) (by omega) _ (HC1.out.new _) HI.out).mono ?_
    rintro e w2 ⟨s, rfl, hs, hC2, hg2⟩
    have HC2 := Lib.hid hC2
    have hG2 := only_trans (World.grownBy_alloc w1 _ (some N)) hg2
    have eR2 := (hG2.block w.heap.size (Array.getElem?_eq_some_iff.1 ER.out).1 (by intro h; injection h; omega)).trans ER.out
    have HG2 := Lib.hid (only_trans HG1.out hG2)
    have ER2 := Lib.hid eR2
    obtain ⟨r2, f2⟩ := rowc eR2
    clear hC2 hg2 hG2 eR2
    go_wp2_with (fail)
    obtain ⟨eF, oF, gF⟩ := put3 (.bool true) (.int .i64 0) (.string s) ER2.out
    obtain ⟨rF, -⟩ := rowc eF
    have hCF : Cur _ N := Cur.upto HC2.out fun k hk => oF k (by omega)
    have hGF := gF w N (Nat.le_refl _) HG2.out
    clear r2 f2 eF oF gF
    generalize (((w2.setCell ⟨w.heap.size, 0, none⟩ (.bool true)).setCell ⟨w.heap.size, 1, none⟩ (.int .i64 0)).setCell ⟨w.heap.size, 2, none⟩ (.string s)) = wF at *
    refine bodyPost_ret (v := .agg #[.bool true, .int .i64 0, .string s]) (by simp [results, Tryd.results54, go_sem, rF]) rfl ⟨⟨true, 0, s⟩, rfl, ⟨by show (-1000000000 : Int) ≤ 0; omega, by show (0 : Int) ≤ 1000000000; omega, hs⟩, hCF, hGF⟩
  | false =>
    have HI := Lib.hid (ints_new (-1000000000) 1000000000 w1 3 [0, 1, 2, 3, 4, -1, 7, 1000000000, -1000000000] (by decide) N hN)
    go_wp2_with (fail)
    refine (pickInt (-1000000000) 1000000000 N w1.heap.size 9 9 (by omega) (by omega) _ (HC1.out.new _) HI.out).mono ?_
    rintro e w2 ⟨x, rfl, x0, x1, hC2, hg2⟩
    have HC2 := Lib.hid hC2
    have hG2 := only_trans (World.grownBy_alloc w1 _ (some N)) hg2
    have eR2 := (hG2.block w.heap.size (Array.getElem?_eq_some_iff.1 ER.out).1 (by intro h; injection h; omega)).trans ER.out
    have HG2 := Lib.hid (only_trans HG1.out hG2)
    have ER2 := Lib.hid eR2
    obtain ⟨r2, f2⟩ := rowc eR2
    clear hC2 hg2 hG2 eR2
    go_wp2_with (fail)
    obtain ⟨eF, oF, gF⟩ := put3 (.bool false) (.int .i64 x) (.string ⟨#[]⟩) ER2.out
    obtain ⟨rF, -⟩ := rowc eF
    have hCF : Cur _ N := Cur.upto HC2.out fun k hk => oF k (by omega)
    have hGF := gF w N (Nat.le_refl _) HG2.out
    clear r2 f2 eF oF gF
    generalize (((w2.setCell ⟨w.heap.size, 0, none⟩ (.bool false)).setCell ⟨w.heap.size, 1, none⟩ (.int .i64 x)).setCell ⟨w.heap.size, 2, none⟩ (.string ⟨#[]⟩)) = wF at *
    refine bodyPost_ret (v := .agg #[.bool false, .int .i64 x, .string ⟨#[]⟩]) (by simp [results, Tryd.results54, go_sem, rF]) rfl ⟨⟨false, x, ⟨#[]⟩⟩, rfl, ⟨x0, x1, by show (0 : Nat) ≤ 2; omega⟩, hCF, hGF⟩

end Go.Proofs.YtlbkbcafkjgckaaDoor.draw
