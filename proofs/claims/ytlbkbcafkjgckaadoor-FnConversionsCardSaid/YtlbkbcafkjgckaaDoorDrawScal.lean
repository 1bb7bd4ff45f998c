/-
  Drawn scalars.
  Conditions: the cursor's block.
-/
import Derived.Test.YtlbkbcafkjgckaaDoorDrawVal
import Derived.Test.YtlbkbcafkjgckaaDoorGives
namespace Go.Proofs.YtlbkbcafkjgckaaDoor.draw
open Go.ChangeShapes Go.WideShapes Go.ChangeAt Go.RowKit tree
set_option linter.unusedVariables false

theorem intV (n : Int) (w : World) : Calls Tryd.prog 119 #[.int .i64 n] w (GivesQ w (vV 2 n ⟨#[]⟩ 0 none 0 0)) := by
  go_enter Tryd.func119, Tryd.ntmps119
  go_wp2
  refine bodyPost_ret (v := vV 2 n ⟨#[]⟩ 0 none 0 0) (by simp [results, Tryd.results119, go_sem]) rfl ⟨rfl, b1 _ _⟩
theorem textV (s : ByteArray) (w : World) : Calls Tryd.prog 135 #[.string s] w (GivesQ w (vV 3 0 s 0 none 0 0)) := by
  go_enter Tryd.func135, Tryd.ntmps135
  go_wp2
  refine bodyPost_ret (v := vV 3 0 s 0 none 0 0) (by simp [results, Tryd.results135, go_sem]) rfl ⟨rfl, b1 _ _⟩
theorem boolV (b : Bool) (w : World) : Calls Tryd.prog 134 #[.bool b] w (GivesQ w (vV 1 (if b then 1 else 0) ⟨#[]⟩ 0 none 0 0)) := by
  cases b
  · go_enter Tryd.func134, Tryd.ntmps134
    go_wp2
    refine bodyPost_ret (v := vV 1 0 ⟨#[]⟩ 0 none 0 0) (by simp [results, Tryd.results134, go_sem]) rfl ⟨rfl, b1 _ _⟩
  · go_enter Tryd.func134, Tryd.ntmps134
    go_wp2
    refine bodyPost_ret (v := vV 1 1 ⟨#[]⟩ 0 none 0 0) (by simp [results, Tryd.results134, go_sem]) rfl ⟨rfl, b1 _ _⟩
theorem arrV (w : World) : Calls Tryd.prog 100 #[] w (GivesQ w (vV 4 0 ⟨#[]⟩ 0 none 0 0)) := by
  go_enter Tryd.func100, Tryd.ntmps100
  go_wp2
  refine bodyPost_ret (v := vV 4 0 ⟨#[]⟩ 0 none 0 0) (by simp [results, Tryd.results100, go_sem]) rfl ⟨rfl, b1 _ _⟩

theorem grown_set {W w : World} {N R j : Nat} {u : Value} (hR : W.heap.size ≤ R) (hg : W.grownBy w (some N)) : W.grownBy (w.setCell ⟨R, j, none⟩ u) (some N) :=
  ⟨hg.os, hg.tape, hg.output, by rw [set_size]; exact hg.size, fun k hk hne => (set_other (by omega)).trans (hg.block k hk hne)⟩
/-- Five cells of one block written. -/
theorem put5 {w : World} {R : Nat} {t : TypeId} {a b c d e : Value} (x y z u v : Value) (h : w.heap[R]? = some (.cells #[a, b, c, d, e] t (0, 0))) :
    (((((w.setCell ⟨R, 0, none⟩ x).setCell ⟨R, 1, none⟩ y).setCell ⟨R, 2, none⟩ z).setCell ⟨R, 3, none⟩ u).setCell ⟨R, 4, none⟩ v).heap[R]? = some (.cells #[x, y, z, u, v] t (0, 0)) ∧
    (∀ k, k ≠ R → (((((w.setCell ⟨R, 0, none⟩ x).setCell ⟨R, 1, none⟩ y).setCell ⟨R, 2, none⟩ z).setCell ⟨R, 3, none⟩ u).setCell ⟨R, 4, none⟩ v).heap[k]? = w.heap[k]?) ∧
    ∀ (W : World) (N : Nat), W.heap.size ≤ R → W.grownBy w (some N) → W.grownBy (((((w.setCell ⟨R, 0, none⟩ x).setCell ⟨R, 1, none⟩ y).setCell ⟨R, 2, none⟩ z).setCell ⟨R, 3, none⟩ u).setCell ⟨R, 4, none⟩ v) (some N) := by
  refine ⟨?_, fun k hk => ?_, fun W N hR hg => grown_set hR (grown_set hR (grown_set hR (grown_set hR (grown_set hR hg))))⟩
  · have := set_heap (set_heap (set_heap (set_heap (set_heap h 0 x) 1 y) 2 z) 3 u) 4 v
    simpa using this
  · rw [set_other hk, set_other hk, set_other hk, set_other hk, set_other hk]
theorem grown_of_below {w w' : World} (h : Below w.heap.size w w') (N : Nat) : w.grownBy w' (some N) := ⟨h.os, h.tape, h.output, h.size, fun j hj _ => h.block j hj⟩

/-- A drawn scalar. -/
def DrawScal (N : Nat) (w : World) (e : Ending) (w' : World) : Prop := ∃ (k n : Int) (s : ByteArray), e = .returned (vV k n s 0 none 0 0) ∧ (0 ≤ k ∧ k ≤ 3 ∧ -1000000000 ≤ n ∧ n ≤ 1000000000 ∧ s.size ≤ 10) ∧ Cur w' N ∧ w.grownBy w' (some N)
theorem DrawScal.of {N : Nat} {w w2 : World} {k n : Int} {s : ByteArray} (hb : 0 ≤ k ∧ k ≤ 3 ∧ -1000000000 ≤ n ∧ n ≤ 1000000000 ∧ s.size ≤ 10) (hN : N < w.heap.size) (hC : Cur w2 N) (hg : w.grownBy w2 (some N))
    (hR : w2.heap[w.heap.size]? = some (.cells #[.int .i64 0, .int .i64 0, .string ⟨#[]⟩, .int .i64 0, .slice none 0 0] IV (0, 0))) (wF : World)
    (hF : wF = ((((w2.setCell ⟨w.heap.size, 0, none⟩ (.int .i64 k)).setCell ⟨w.heap.size, 1, none⟩ (.int .i64 n)).setCell ⟨w.heap.size, 2, none⟩ (.string s)).setCell ⟨w.heap.size, 3, none⟩ (.int .i64 0)).setCell ⟨w.heap.size, 4, none⟩ (.slice none 0 0)) :
    (∀ j, wF.cell? ⟨w.heap.size, j, none⟩ = #[Value.int .i64 k, .int .i64 n, .string s, .int .i64 0, .slice none 0 0][j]?) ∧ DrawScal N w (.returned (vV k n s 0 none 0 0)) wF := by
  obtain ⟨eF, oF, gF⟩ := put5 (.int .i64 k) (.int .i64 n) (.string s) (.int .i64 0) (.slice none 0 0) hR
  rw [← hF] at eF oF gF
  exact ⟨(rowc eF).1, k, n, s, rfl, hb, Cur.upto hC fun k hk => oF k (by omega), gF w N (Nat.le_refl _) hg⟩

theorem scalar (N : Nat) (w : World) (hC : Cur w N) : Calls Tryd.prog 102 #[.pointer (some ⟨N, 0, none⟩)] w (DrawScal N w) := by
  have hN0 := hC.lt
  have HC := Lib.hid hC
  clear hC
  go_enter Tryd.func102, Tryd.ntmps102
  go_wp2_with (fail)
  refine (below N 8 (by omega) _ (HC.out.new _)).mono ?_
  rintro e w1 ⟨x, rfl, x0, x1, hC1, hg1⟩
  have hN := hC1.lt
  have eR : w1.heap[w.heap.size]? = some (.cells #[.int .i64 0, .int .i64 0, .string ⟨#[]⟩, .int .i64 0, .slice none 0 0] IV (0, 0)) := (hg1.block _ (by simp) (by intro h; injection h; omega)).trans (heap_alloc_new w _)
  have HC1 := Lib.hid hC1; have HG1 := Lib.hid (only_trans (World.grownBy_alloc w (.cells #[.int .i64 0, .int .i64 0, .string ⟨#[]⟩, .int .i64 0, .slice none 0 0] IV) (some N)) hg1)
  have ER := Lib.hid eR
  clear hC1 hg1
  have step : ∀ (w2 w3 : World) (k n : Int) (s : ByteArray), Cur w2 N → w1.grownBy w2 (some N) → Below w2.heap.size w2 w3 →
      Hid (Cur w3 N) ∧ Hid (w.grownBy w3 (some N)) ∧ Hid (w3.heap[w.heap.size]? = some (.cells #[.int .i64 0, .int .i64 0, .string ⟨#[]⟩, .int .i64 0, .slice none 0 0] IV (0, 0))) := fun w2 w3 k n s hc hg hb => by
    have hg3 := only_trans hg (grown_of_below hb N)
    exact ⟨hc.below hb, only_trans HG1.out hg3, (hg3.block _ (Array.getElem?_eq_some_iff.1 ER.out).1 (by intro h; injection h; omega)).trans ER.out⟩
  by_cases h0 : x = 0
  · subst h0
    obtain ⟨r1, f1⟩ := rowc eR
    clear eR step
    go_wp2_with (fail)
    generalize hwF : ((((((w1).setCell ⟨w.heap.size, 0, none⟩ (.int .i64 0)).setCell ⟨w.heap.size, 1, none⟩ (.int .i64 0)).setCell ⟨w.heap.size, 2, none⟩ (.string ⟨#[]⟩)).setCell ⟨w.heap.size, 3, none⟩ (.int .i64 0)).setCell ⟨w.heap.size, 4, none⟩ (.slice none 0 0)) = wF
    obtain ⟨rF, hD⟩ := DrawScal.of (k := 0) (n := 0) (s := ⟨#[]⟩) ⟨by omega, by omega, by omega, by omega, by show (0 : Nat) ≤ 10; omega⟩ hN0 HC1.out HG1.out ER.out wF hwF.symm
    clear r1 f1 hwF
    refine bodyPost_ret (v := .agg #[.int .i64 0, .int .i64 0, .string ⟨#[]⟩, .int .i64 0, .slice none 0 0]) ?_ rfl ?_
    · simp [results, Tryd.results102, go_sem, rF]
    · exact hD
  clear eR
  by_cases h1 : x = 1
  · subst h1
    go_wp2_with (fail)
    refine (once N 2 (by omega) _ HC1.out).mono ?_
    rintro e w2 ⟨b, rfl, hC2, hg2⟩
    have HC2 := Lib.hid hC2; have HG2 := Lib.hid hg2; clear hC2 hg2
    go_wp2_with (fail)
    refine (boolV b _).mono ?_
    rintro e w3 ⟨rfl, hb3⟩
    obtain ⟨HC3, HG3, ER3⟩ := step w2 w3 0 0 ⟨#[]⟩ HC2.out HG2.out hb3
    obtain ⟨r3, f3⟩ := rowc ER3.out
    clear hb3 step
    cases b with
    | false =>
      go_wp2_with (fail)
      generalize hwF : ((((((w3).setCell ⟨w.heap.size, 0, none⟩ (.int .i64 1)).setCell ⟨w.heap.size, 1, none⟩ (.int .i64 0)).setCell ⟨w.heap.size, 2, none⟩ (.string ⟨#[]⟩)).setCell ⟨w.heap.size, 3, none⟩ (.int .i64 0)).setCell ⟨w.heap.size, 4, none⟩ (.slice none 0 0)) = wF
      obtain ⟨rF, hD⟩ := DrawScal.of (k := 1) (n := 0) (s := ⟨#[]⟩) ⟨by omega, by omega, by omega, by omega, by show (0 : Nat) ≤ 10; omega⟩ hN0 HC3.out HG3.out ER3.out wF hwF.symm
      clear r3 f3 hwF
      refine bodyPost_ret (v := .agg #[.int .i64 1, .int .i64 0, .string ⟨#[]⟩, .int .i64 0, .slice none 0 0]) ?_ rfl ?_
      · simp [results, Tryd.results102, go_sem, rF]
      · exact hD
    | true =>
      go_wp2_with (fail)
      generalize hwF : ((((((w3).setCell ⟨w.heap.size, 0, none⟩ (.int .i64 1)).setCell ⟨w.heap.size, 1, none⟩ (.int .i64 1)).setCell ⟨w.heap.size, 2, none⟩ (.string ⟨#[]⟩)).setCell ⟨w.heap.size, 3, none⟩ (.int .i64 0)).setCell ⟨w.heap.size, 4, none⟩ (.slice none 0 0)) = wF
      obtain ⟨rF, hD⟩ := DrawScal.of (k := 1) (n := 1) (s := ⟨#[]⟩) ⟨by omega, by omega, by omega, by omega, by show (0 : Nat) ≤ 10; omega⟩ hN0 HC3.out HG3.out ER3.out wF hwF.symm
      clear r3 f3 hwF
      refine bodyPost_ret (v := .agg #[.int .i64 1, .int .i64 1, .string ⟨#[]⟩, .int .i64 0, .slice none 0 0]) ?_ rfl ?_
      · simp [results, Tryd.results102, go_sem, rF]
      · exact hD
  by_cases h2 : x = 2
  · subst h2
    go_wp2_with (fail)
    refine (word N _ HC1.out).mono ?_
    rintro e w2 ⟨s, rfl, hs, hC2, hg2⟩
    have HC2 := Lib.hid hC2; have HG2 := Lib.hid hg2; clear hC2 hg2
    go_wp2_with (fail)
    refine (textV s _).mono ?_
    rintro e w3 ⟨rfl, hb3⟩
    obtain ⟨HC3, HG3, ER3⟩ := step w2 w3 0 0 ⟨#[]⟩ HC2.out HG2.out hb3
    obtain ⟨r3, f3⟩ := rowc ER3.out
    clear hb3 step
    go_wp2_with (fail)
    generalize hwF : ((((((w3).setCell ⟨w.heap.size, 0, none⟩ (.int .i64 3)).setCell ⟨w.heap.size, 1, none⟩ (.int .i64 0)).setCell ⟨w.heap.size, 2, none⟩ (.string s)).setCell ⟨w.heap.size, 3, none⟩ (.int .i64 0)).setCell ⟨w.heap.size, 4, none⟩ (.slice none 0 0)) = wF
    obtain ⟨rF, hD⟩ := DrawScal.of (k := 3) (n := 0) (s := s) ⟨by omega, by omega, by omega, by omega, hs⟩ hN0 HC3.out HG3.out ER3.out wF hwF.symm
    clear r3 f3 hwF
    refine bodyPost_ret (v := .agg #[.int .i64 3, .int .i64 0, .string s, .int .i64 0, .slice none 0 0]) ?_ rfl ?_
    · simp [results, Tryd.results102, go_sem, rF]
    · exact hD
  by_cases h3 : x = 3
  · subst h3
    go_wp2_with (fail)
    refine (word N _ HC1.out).mono ?_
    rintro e w2 ⟨s, rfl, hs, hC2, hg2⟩
    have HC2 := Lib.hid hC2; have HG2 := Lib.hid hg2; clear hC2 hg2
    go_wp2_with (fail)
    refine (textV s _).mono ?_
    rintro e w3 ⟨rfl, hb3⟩
    obtain ⟨HC3, HG3, ER3⟩ := step w2 w3 0 0 ⟨#[]⟩ HC2.out HG2.out hb3
    obtain ⟨r3, f3⟩ := rowc ER3.out
    clear hb3 step
    go_wp2_with (fail)
    generalize hwF : ((((((w3).setCell ⟨w.heap.size, 0, none⟩ (.int .i64 3)).setCell ⟨w.heap.size, 1, none⟩ (.int .i64 0)).setCell ⟨w.heap.size, 2, none⟩ (.string s)).setCell ⟨w.heap.size, 3, none⟩ (.int .i64 0)).setCell ⟨w.heap.size, 4, none⟩ (.slice none 0 0)) = wF
    obtain ⟨rF, hD⟩ := DrawScal.of (k := 3) (n := 0) (s := s) ⟨by omega, by omega, by omega, by omega, hs⟩ hN0 HC3.out HG3.out ER3.out wF hwF.symm
    clear r3 f3 hwF
    refine bodyPost_ret (v := .agg #[.int .i64 3, .int .i64 0, .string s, .int .i64 0, .slice none 0 0]) ?_ rfl ?_
    · simp [results, Tryd.results102, go_sem, rF]
    · exact hD
  by_cases h4 : x = 4
  · subst h4
    have HI := Lib.hid (ints_new (-1000000000) 1000000000 w1 3 [0, 1, -1, 5, 10, 999999999, 1000000000, -1000000000] (by decide) N hN)
    go_wp2_with (fail)
    refine (pickInt (-1000000000) 1000000000 N w1.heap.size 8 8 (by omega) (by omega) _ (HC1.out.new _) HI.out).mono ?_
    rintro e w2 ⟨n, rfl, n0, n1, hC2, hg2⟩
    have HC2 := Lib.hid hC2; have HG2 := Lib.hid (only_trans (World.grownBy_alloc w1 _ (some N)) hg2); clear hC2 hg2
    go_wp2_with (fail)
    refine (intV n _).mono ?_
    rintro e w3 ⟨rfl, hb3⟩
    obtain ⟨HC3, HG3, ER3⟩ := step w2 w3 0 0 ⟨#[]⟩ HC2.out HG2.out hb3
    obtain ⟨r3, f3⟩ := rowc ER3.out
    clear hb3 step
    go_wp2_with (fail)
    generalize hwF : ((((((w3).setCell ⟨w.heap.size, 0, none⟩ (.int .i64 2)).setCell ⟨w.heap.size, 1, none⟩ (.int .i64 n)).setCell ⟨w.heap.size, 2, none⟩ (.string ⟨#[]⟩)).setCell ⟨w.heap.size, 3, none⟩ (.int .i64 0)).setCell ⟨w.heap.size, 4, none⟩ (.slice none 0 0)) = wF
    obtain ⟨rF, hD⟩ := DrawScal.of (k := 2) (n := n) (s := ⟨#[]⟩) ⟨by omega, by omega, n0, n1, by show (0 : Nat) ≤ 10; omega⟩ hN0 HC3.out HG3.out ER3.out wF hwF.symm
    clear r3 f3 hwF
    refine bodyPost_ret (v := .agg #[.int .i64 2, .int .i64 n, .string ⟨#[]⟩, .int .i64 0, .slice none 0 0]) ?_ rfl ?_
    · simp [results, Tryd.results102, go_sem, rF]
    · exact hD
  go_wp2_with (fail)
  refine (below N 20 (by omega) _ HC1.out).mono ?_
  rintro e w2 ⟨n, rfl, n0, n1, hC2, hg2⟩
  have HC2 := Lib.hid hC2; have HG2 := Lib.hid hg2; clear hC2 hg2
  have n2 : n ≤ 19 := by omega
  clear n1
  go_wp2_with (fail)
  refine (intV (n - 5) _).mono ?_
  rintro e w3 ⟨rfl, hb3⟩
  obtain ⟨HC3, HG3, ER3⟩ := step w2 w3 0 0 ⟨#[]⟩ HC2.out HG2.out hb3
  obtain ⟨r3, f3⟩ := rowc ER3.out
  clear hb3 step
  go_wp2_with (fail)
  generalize hwF : ((((((w3).setCell ⟨w.heap.size, 0, none⟩ (.int .i64 2)).setCell ⟨w.heap.size, 1, none⟩ (.int .i64 (n - 5))).setCell ⟨w.heap.size, 2, none⟩ (.string ⟨#[]⟩)).setCell ⟨w.heap.size, 3, none⟩ (.int .i64 0)).setCell ⟨w.heap.size, 4, none⟩ (.slice none 0 0)) = wF
  obtain ⟨rF, hD⟩ := DrawScal.of (k := 2) (n := (n - 5)) (s := ⟨#[]⟩) ⟨by omega, by omega, by omega, by omega, by show (0 : Nat) ≤ 10; omega⟩ hN0 HC3.out HG3.out ER3.out wF hwF.symm
  clear r3 f3 hwF
  refine bodyPost_ret (v := .agg #[.int .i64 2, .int .i64 (n - 5), .string ⟨#[]⟩, .int .i64 0, .slice none 0 0]) ?_ rfl ?_
  · simp [results, Tryd.results102, go_sem, rF]
  · exact hD

end Go.Proofs.YtlbkbcafkjgckaaDoor.draw
