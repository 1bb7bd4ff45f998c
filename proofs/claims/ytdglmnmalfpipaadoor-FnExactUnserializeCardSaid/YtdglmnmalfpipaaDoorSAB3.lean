/-
  What the texts behind this one use: 4 parts of one proof.
  Conditions: those that each theorem names.
-/
import Derived.Test.YtdglmnmalfpipaaDoorSAB2
import Derived.Test.YtdglmnmalfpipaaDoorShelf
import Derived.Test.YtdglmnmalfpipaaDoorSASTreeCp
import Derived.Lib.BufferKept
import Derived.Lib.BufferOld
/-
  A buffer of bytes of the call's own: what it holds, and what stays when it is written.
  Conditions: those that each theorem names.
-/
namespace Go.Proofs.YtdglmnmalfpipaaDoor.tree
open Go.ChangeShapes Go.WideShapes Go.ChangeAt Go.RowKit
set_option linter.unusedVariables false

theorem bz_num (n : Int) : fmt.num n = .string (bz (Lib.itoa n)) := rfl
theorem seq3 (a b c : List UInt8) : bz a ++ bz b ++ bz c = bz (a ++ (b ++ c)) := by rw [bz_app, bz_app, List.append_assoc]
theorem seq5 (a b c d e : List UInt8) : bz a ++ bz b ++ bz c ++ bz d ++ bz e = bz (a ++ (b ++ (c ++ (d ++ e)))) := by rw [bz_app, bz_app, bz_app, bz_app]; simp only [List.append_assoc]
theorem itoa_sz (n : Int) (h : I64 n) : (bz (Lib.itoa n)).size ≤ 21 := itoa_len n h
theorem seq_hd (L : Nat) (x : Int) : bz [97, 58] ++ bz (Lib.itoa L) ++ bz [58] ++ bz (Lib.itoa x) ++ bz [123] = bz (hd L x) := by rw [seq5]; rfl

/-- The table of powers of ten, as it was below B. -/
def Tb (B : Nat) (w : World) : Prop := ∃ w0, fmt.Tab w0 ∧ w0.heap.size ≤ B ∧ Below w0.heap.size w0 w
theorem Tb.on {B : Nat} {w w' : World} (h : Tb B w) (hb : Below B w w') : Tb B w' := by
  obtain ⟨w0, h1, h2, h3⟩ := h
  exact ⟨w0, h1, h2, h3.trans (hb.mono h2)⟩
theorem Tb.tab {B : Nat} {w : World} (h : Tb B w) : fmt.Tab w := by
  obtain ⟨w0, h1, h2, h3⟩ := h
  exact h1.stays h3
/-- The buffer in block b holds the bytes. -/
def Bf (B b : Nat) (l : List UInt8) (w : World) : Prop := Lib.IsBuffer 46 5 B b (Lib.byteCells l) w
theorem Bf.alloc {B b : Nat} {l : List UInt8} {w : World} (h : Bf B b l w) (o : Obj) : Bf B b l (w.alloc o) := Lib.IsBuffer.alloc h o
theorem Bf.old {B b : Nat} {l : List UInt8} {w w' : World} (h : Bf B b l w) (hb : Below w.heap.size w w') : Bf B b l w' := Lib.IsBuffer.old h hb
theorem Bf.lt {B b : Nat} {l : List UInt8} {w : World} (h : Bf B b l w) : b < w.heap.size := Lib.IsBuffer.lt h
/-- What writing leaves: the blocks below B, and all that are no row of bytes. -/
structure Wr (B b : Nat) (l : List UInt8) (w w' : World) : Prop where
  bf : Bf B b l w'
  below : Below B w w'
  kept : Lib.OthersKept 5 (some b) w w'
def WrQ (B b : Nat) (l : List UInt8) (w : World) (e : Ending) (w' : World) : Prop := e = .returned (.tuple #[]) ∧ Wr B b l w w'
def WsQ (B b : Nat) (l : List UInt8) (w : World) (e : Ending) (w' : World) : Prop := (∃ u, e = .returned (.tuple #[.int .i64 u, .nilIface])) ∧ Wr B b l w w'
theorem Wr.q {B b : Nat} {l : List UInt8} {w w' : World} (h : Wr B b l w w') : WrQ B b l w (.returned (.tuple #[])) w' := ⟨rfl, h⟩
theorem Wr.behind {B b : Nat} {l : List UInt8} {w w1 w' : World} (h : Wr B b l w1 w') (hBw : B ≤ w.heap.size) (hb : Below w.heap.size w w1) : Wr B b l w w' :=
  ⟨h.bf, (hb.mono hBw).trans h.below, ((Lib.OthersKept.refl _ _ w).below hb).trans h.kept⟩
theorem Wr.first {B b : Nat} {l : List UInt8} {w w' : World} {o : Obj} (h : Wr B b l (w.alloc o) w') (hBw : B ≤ w.heap.size) : Wr B b l w w' := h.behind hBw (b1 w o)
theorem Wr.trans {B b : Nat} {l l' : List UInt8} {w w1 w' : World} (h : Wr B b l w w1) (k : Wr B b l' w1 w') : Wr B b l' w w' := ⟨k.bf, h.below.trans k.below, h.kept.trans k.kept⟩
theorem Wr.keep {B b : Nat} {l : List UInt8} {w w' : World} (h : Wr B b l w w') {i : Nat} {cs : Array Value} {t : TypeId} {fz : Nat × Nat} (hi : w.heap[i]? = some (.cells cs t fz)) (hib : i ≠ b) (ht : t ≠ 5) : w'.heap[i]? = some (.cells cs t fz) :=
  h.kept i _ hi (fun e => hib (Option.some.inj e)) (fun c fz' e => by injection e with e1 e2 e3; exact ht e2)

theorem wrS (B b : Nat) (l : List UInt8) (s : ByteArray) (hs : l.length + s.size ≤ 140737488355328) (w : World) (h : Bf B b l w) (hBw : B ≤ w.heap.size) :
    Calls Tryd.prog 40 #[.pointer (some ⟨b, 0, none⟩), .string s] w (WsQ B b (l ++ s.data.toList) w) := by
  refine (Tryd.Buffer_WriteString_k B b _ s w h hBw (Lib.byteCells_one _) (by rw [Lib.byteCells_length]; exact hs)).mono ?_
  rintro e w1 ⟨rfl, h1, b1, k1⟩
  rw [← Lib.byteCells_append] at h1
  exact ⟨⟨_, rfl⟩, h1, b1, k1⟩

end Go.Proofs.YtdglmnmalfpipaaDoor.tree

/-
  A result that lies in a box of five cells; the value of null.
  Conditions: those that each theorem names.
-/
namespace Go.Proofs.YtdglmnmalfpipaaDoor.tree
open Go.ChangeShapes Go.WideShapes Go.ChangeAt Go.RowKit
set_option linter.unusedVariables false

/-- A result's five cells, written. -/
theorem fill5 {w wF : World} {R : Nat} {t : TypeId} {a b c d e c0 c1 c2 c3 c4 : Value} (h : w.heap[R]? = some (.cells #[a, b, c, d, e] t (0, 0)))
    (hF : (((((w.setCell ⟨R, 0, none⟩ c0).setCell ⟨R, 1, none⟩ c1).setCell ⟨R, 2, none⟩ c2).setCell ⟨R, 3, none⟩ c3).setCell ⟨R, 4, none⟩ c4) = wF) :
    (∀ j, wF.cell? ⟨R, j, none⟩ = (#[c0, c1, c2, c3, c4] : Array Value)[j]?) ∧ (∀ q, q ≠ R → wF.heap[q]? = w.heap[q]?) ∧ ∀ (B : Nat) (w0 : World), B ≤ R → Below B w0 w → Below B w0 wF := by
  subst hF
  refine ⟨fun j => ?_, fun q hq => ?_, fun B w0 hB hb => ?_⟩
  · have := set_heap (set_heap (set_heap (set_heap (set_heap h 0 c0) 1 c1) 2 c2) 3 c3) 4 c4
    rw [cell_of_row _ _ j _ _ _ this]
    simp
  · rw [set_other hq, set_other hq, set_other hq, set_other hq, set_other hq]
  · exact ((((hb.setCell hB _).setCell hB _).setCell hB _).setCell hB _).setCell hB _

theorem nullValue_i (w : World) : Calls Tryd.prog 26 #[] w (GivesQ w (vV 0 0 ⟨#[]⟩ 0 none 0 0)) := by
  go_enter Tryd.func26, Tryd.ntmps26
  go_wp2
  exact bodyPost_ret (v := vV 0 0 ⟨#[]⟩ 0 none 0 0) (by simp [results, Tryd.results26, go_sem]) rfl ⟨rfl, b1 _ _⟩

end Go.Proofs.YtdglmnmalfpipaaDoor.tree

/-
  KeyValue of the project and of the model: a key as a value.
  Conditions: those that each theorem names.
-/
namespace Go.Proofs.YtdglmnmalfpipaaDoor.tree
open Go.ChangeShapes Go.WideShapes Go.ChangeAt Go.RowKit
set_option linter.unusedVariables false

theorem keyValue_s (y : Ky) (w : World) : Calls Tryd.prog 34 #[kyV y] w (GivesQ w (if y.text then vV 3 0 y.str 0 none 0 0 else vV 2 y.num ⟨#[]⟩ 0 none 0 0)) := by
  obtain ⟨yb, yn, ys⟩ := y
  have T1 := textValue_s ys
  have T2 := intValue_s yn
  unfold kyV
  cases yb
  · show Calls _ _ _ _ (GivesQ w (vV 2 yn ⟨#[]⟩ 0 none 0 0))
    go_enter Tryd.func34, Tryd.ntmps34
    go_wp2_with (fail)
    refine (T2 _).mono ?_
    rintro e w1 ⟨rfl, hb1⟩
    have A1 := Lib.hid (carry hb1 (heap_alloc2_new w _ _))
    have HB1 := Lib.hid (bs (b2 w _ _) hb1)
    obtain ⟨r, f⟩ := rowc A1.out
    clear hb1
    go_wp2_with (fail)
    generalize hwF : (((((w1.setCell ⟨w.heap.size + 1, 0, none⟩ (.int .i64 2)).setCell ⟨w.heap.size + 1, 1, none⟩ (.int .i64 yn)).setCell ⟨w.heap.size + 1, 2, none⟩ (.string ⟨#[]⟩)).setCell ⟨w.heap.size + 1, 3, none⟩ (.int .i64 0)).setCell ⟨w.heap.size + 1, 4, none⟩ (.slice none 0 0)) = wF
    obtain ⟨rF, -, bF⟩ := fill5 A1.out hwF
    refine bodyPost_ret (v := vV 2 yn ⟨#[]⟩ 0 none 0 0) ?_ rfl ⟨rfl, bF _ _ (by omega) HB1.out⟩
    simp [results, Tryd.results34, go_sem, rF]
  · show Calls _ _ _ _ (GivesQ w (vV 3 0 ys 0 none 0 0))
    go_enter Tryd.func34, Tryd.ntmps34
    go_wp2_with (fail)
    refine (T1 _).mono ?_
    rintro e w1 ⟨rfl, hb1⟩
    have A1 := Lib.hid (carry hb1 (heap_alloc2_new w _ _))
    have HB1 := Lib.hid (bs (b2 w _ _) hb1)
    obtain ⟨r, f⟩ := rowc A1.out
    clear hb1
    go_wp2_with (fail)
    generalize hwF : (((((w1.setCell ⟨w.heap.size + 1, 0, none⟩ (.int .i64 3)).setCell ⟨w.heap.size + 1, 1, none⟩ (.int .i64 0)).setCell ⟨w.heap.size + 1, 2, none⟩ (.string ys)).setCell ⟨w.heap.size + 1, 3, none⟩ (.int .i64 0)).setCell ⟨w.heap.size + 1, 4, none⟩ (.slice none 0 0)) = wF
    obtain ⟨rF, -, bF⟩ := fill5 A1.out hwF
    refine bodyPost_ret (v := vV 3 0 ys 0 none 0 0) ?_ rfl ⟨rfl, bF _ _ (by omega) HB1.out⟩
    simp [results, Tryd.results34, go_sem, rF]
theorem keyValue_i (y : Ky) (hy : y.str.size ≤ 1048576) (w : World) : Calls Tryd.prog 42 #[kyV y] w (GivesQ w (if y.text then vV 3 0 y.str 0 none 0 0 else vV 2 y.num ⟨#[]⟩ 0 none 0 0)) := by
  obtain ⟨yb, yn, ys⟩ := y
  replace hy : ys.size ≤ 1048576 := hy
  have T1 := textValue_i ys (by omega)
  have T2 := intValue_i yn
  unfold kyV
  cases yb
  · show Calls _ _ _ _ (GivesQ w (vV 2 yn ⟨#[]⟩ 0 none 0 0))
    go_enter Tryd.func42, Tryd.ntmps42
    go_wp2_with (fail)
    refine (T2 _).mono ?_
    rintro e w1 ⟨rfl, hb1⟩
    have A1 := Lib.hid (carry hb1 (heap_alloc2_new w _ _))
    have HB1 := Lib.hid (bs (b2 w _ _) hb1)
    obtain ⟨r, f⟩ := rowc A1.out
    clear hb1
    go_wp2_with (fail)
    generalize hwF : (((((w1.setCell ⟨w.heap.size + 1, 0, none⟩ (.int .i64 2)).setCell ⟨w.heap.size + 1, 1, none⟩ (.int .i64 yn)).setCell ⟨w.heap.size + 1, 2, none⟩ (.string ⟨#[]⟩)).setCell ⟨w.heap.size + 1, 3, none⟩ (.int .i64 0)).setCell ⟨w.heap.size + 1, 4, none⟩ (.slice none 0 0)) = wF
    obtain ⟨rF, -, bF⟩ := fill5 A1.out hwF
    refine bodyPost_ret (v := vV 2 yn ⟨#[]⟩ 0 none 0 0) ?_ rfl ⟨rfl, bF _ _ (by omega) HB1.out⟩
    simp [results, Tryd.results42, go_sem, rF]
  · show Calls _ _ _ _ (GivesQ w (vV 3 0 ys 0 none 0 0))
    go_enter Tryd.func42, Tryd.ntmps42
    go_wp2_with (fail)
    refine (T1 _).mono ?_
    rintro e w1 ⟨rfl, hb1⟩
    have A1 := Lib.hid (carry hb1 (heap_alloc2_new w _ _))
    have HB1 := Lib.hid (bs (b2 w _ _) hb1)
    obtain ⟨r, f⟩ := rowc A1.out
    clear hb1
    go_wp2_with (fail)
    generalize hwF : (((((w1.setCell ⟨w.heap.size + 1, 0, none⟩ (.int .i64 3)).setCell ⟨w.heap.size + 1, 1, none⟩ (.int .i64 0)).setCell ⟨w.heap.size + 1, 2, none⟩ (.string ys)).setCell ⟨w.heap.size + 1, 3, none⟩ (.int .i64 0)).setCell ⟨w.heap.size + 1, 4, none⟩ (.slice none 0 0)) = wF
    obtain ⟨rF, -, bF⟩ := fill5 A1.out hwF
    refine bodyPost_ret (v := vV 3 0 ys 0 none 0 0) ?_ rfl ⟨rfl, bF _ _ (by omega) HB1.out⟩
    simp [results, Tryd.results42, go_sem, rF]

end Go.Proofs.YtdglmnmalfpipaaDoor.tree

/-
  What a call leaves as it was, but for some blocks.
  Conditions: none.
-/
namespace Go.Proofs.YtdglmnmalfpipaaDoor.tree
open Go.ChangeShapes Go.WideShapes Go.ChangeAt Go.RowKit
set_option linter.unusedVariables false

/-- Nothing but blocks of S has changed. -/
structure Fr (S : Nat → Prop) (w w' : World) : Prop where
  os : w'.os = w.os
  tape : w'.tape = w.tape
  output : w'.output = w.output
  size : w.heap.size ≤ w'.heap.size
  block : ∀ b, b < w.heap.size → ¬ S b → w'.heap[b]? = w.heap[b]?
section
variable {S S' : Nat → Prop} {w w' w2 : World}
theorem Fr.refl (S : Nat → Prop) (w : World) : Fr S w w := ⟨rfl, rfl, rfl, Nat.le_refl _, fun _ _ _ => rfl⟩
theorem Fr.of (h : Below w.heap.size w w') : Fr S w w' := ⟨h.os, h.tape, h.output, h.size, fun b hb _ => h.block b hb⟩
theorem Fr.trans (h : Fr S w w') (k : Fr S w' w2) : Fr S w w2 := ⟨k.os.trans h.os, k.tape.trans h.tape, k.output.trans h.output, Nat.le_trans h.size k.size, fun b hb hs => (k.block b (Nat.lt_of_lt_of_le hb h.size) hs).trans (h.block b hb hs)⟩
theorem Fr.mono (h : Fr S w w') (hs : ∀ b, S b → S' b) : Fr S' w w' := ⟨h.os, h.tape, h.output, h.size, fun b hb hn => h.block b hb fun hh => hn (hs b hh)⟩
theorem Fr.below (h : Fr S w w') {lo : Nat} (hl : lo ≤ w.heap.size) (hs : ∀ b, S b → lo ≤ b) : Below lo w w' := ⟨h.os, h.tape, h.output, h.size, fun b hb => h.block b (Nat.lt_of_lt_of_le hb hl) fun hh => by have := hs b hh; omega⟩
theorem Fr.set {g : Nat} (hg : S g) (j : Nat) (v : Value) : Fr S w (w.setCell ⟨g, j, none⟩ v) := ⟨rfl, rfl, rfl, by rw [set_size]; exact Nat.le_refl _, fun b _ hn => set_other (fun e => hn (e ▸ hg))⟩
end

theorem TIn.lt' {w : World} {S : Nat → Prop} {t : Tr} {v : Value} (h : TIn w S t v) : TIn w (fun b => b < w.heap.size) t v := by
  induction h with
  | mk k n s x ks vs A cap C hk hl hm hcap hc ht ih =>
    refine TIn.mk k n s x ks vs A _ C hk hl hm hcap (fun i hi => ?_) ih
    obtain ⟨a, ha, hS, hky, hs, hj⟩ := hc i hi
    refine ⟨a, ha, ?_, hky, hs, hj⟩
    have := World.block_lt_of_cell? _ _ hky.1
    rwa [mem.add_block] at this

end Go.Proofs.YtdglmnmalfpipaaDoor.tree

