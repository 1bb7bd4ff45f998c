/-
  The model's draw of FnConversions: a value.
  Conditions: the bytes of the draw are at most 1048576.
-/
import Derived.Test.YtlbkbcafkjgckaaDoorDrawA
namespace Go.Proofs.YtlbkbcafkjgckaaDoor.draw
open Go.ChangeShapes Go.WideShapes Go.ChangeAt Go.RowKit tree
set_option linter.unusedVariables false

def DNum (w : World) (e : Ending) (w' : World) : Prop := ∃ (k n : Int) (s : ByteArray) (x : Int) (A : Option Addr) (L c : Nat), e = .returned (vV k n s x A L c) ∧ I64 n ∧ Below w.heap.size w w'
theorem drawToNumber (A : Option Addr) (n c : Nat) (hn : n ≤ 1048576) (w : World) (hA : Code w w.heap.size A n) :
    Calls Tryd.prog 30 #[.slice A n c] w (DNum w) := by
  have HA := Lib.hid hA
  clear hA
  go_enter Tryd.func30, Tryd.ntmps30
  go_wp2_with (fail)
  have hcode : Code (w.alloc (.cells #[.int .i64 0, .int .i64 0, .string ⟨#[]⟩, .int .i64 0, .slice none 0 0] IV)) (w.alloc (.cells #[.int .i64 0, .int .i64 0, .string ⟨#[]⟩, .int .i64 0, .slice none 0 0] IV)).heap.size A n := HA.out.later (b1 w _)
  refine (new A n c hn _ hcode).mono ?_
  rintro e w1 ⟨N, rfl, hN, hC1, hb1⟩
  have hN' : w.heap.size < N := by have : w.heap.size + 1 ≤ N := by simpa using hN
                                   omega
  have HC1 := Lib.hid hC1
  have HB1 := Lib.hid (bs (b1 w _) hb1)
  have HER1 := Lib.hid (carry hb1 (heap_alloc_new w (.cells #[.int .i64 0, .int .i64 0, .string ⟨#[]⟩, .int .i64 0, .slice none 0 0] IV)))
  clear hC1 hb1 hN hcode
  go_wp2_with (fail)
  refine (drawA N _ HC1.out).mono ?_
  rintro e w2 ⟨k, m, s, x, ks, vs, xs, A2, L, c2, rfl, hbd, hL, h5, hO, hB, hC2, hg2⟩
  have hi := hbd.2.2.1
  have HI := Lib.hid hi
  have HB2 := Lib.hid (below_of HB1.out hg2 (by omega) HB1.out.size)
  have HER2 : Hid (w2.heap[w.heap.size]? = some (.cells #[.int .i64 0, .int .i64 0, .string ⟨#[]⟩, .int .i64 0, .slice none 0 0] IV (0, 0))) := Lib.hid ((hg2.block _ (Array.getElem?_eq_some_iff.1 HER1.out).1 (by intro h; injection h; omega)).trans HER1.out)
  obtain ⟨r2, f2⟩ := rowc HER2.out
  clear hbd hL h5 hO hB hC2 hg2 hi HER1
  go_wp2_with (fail)
  obtain ⟨eF, oF, gF⟩ := put5 (.int .i64 k) (.int .i64 m) (.string s) (.int .i64 x) (.slice A2 L c2) HER2.out
  have hBF : Below w.heap.size w (((((w2.setCell ⟨w.heap.size, 0, none⟩ (.int .i64 k)).setCell ⟨w.heap.size, 1, none⟩ (.int .i64 m)).setCell ⟨w.heap.size, 2, none⟩ (.string s)).setCell ⟨w.heap.size, 3, none⟩ (.int .i64 x)).setCell ⟨w.heap.size, 4, none⟩ (.slice A2 L c2)) := (((((HB2.out.setCell (Nat.le_refl _) _).setCell (Nat.le_refl _) _).setCell (Nat.le_refl _) _).setCell (Nat.le_refl _) _).setCell (Nat.le_refl _) _)
  obtain ⟨rF, -⟩ := rowc eF
  clear r2 f2 eF oF gF
  generalize (((((w2.setCell ⟨w.heap.size, 0, none⟩ (.int .i64 k)).setCell ⟨w.heap.size, 1, none⟩ (.int .i64 m)).setCell ⟨w.heap.size, 2, none⟩ (.string s)).setCell ⟨w.heap.size, 3, none⟩ (.int .i64 x)).setCell ⟨w.heap.size, 4, none⟩ (.slice A2 L c2)) = wF at *
  refine bodyPost_ret (v := .agg #[.int .i64 k, .int .i64 m, .string s, .int .i64 x, .slice A2 L c2]) ?_ rfl ?_
  · simp [results, Tryd.results30, go_sem, rF]
  · exact ⟨k, m, s, x, A2, L, c2, rfl, HI.out, hBF⟩

end Go.Proofs.YtlbkbcafkjgckaaDoor.draw
