/-
  What the texts behind this one use: 8 parts of one proof.
  Conditions: those that each theorem names.
-/
import Derived.Test.YtdglmnmalfpipaaGreatDoorSAB2
import Derived.Test.YtdglmnmalfpipaaGreatDoorShelf
import Derived.Test.YtdglmnmalfpipaaGreatDoorSASTreeCp
import Derived.Lib.BufferKept
import Derived.Lib.BufferOld
import Derived.Test.YtdglmnmalfpipaaGreatDoorSAB1
import Derived.Deep.LoopGhost
import Derived.Deep.RegionWith
/-
  A buffer of bytes of the call's own: what it holds, and what stays when it is written.
  Conditions: those that each theorem names.
-/
namespace Go.Proofs.YtdglmnmalfpipaaGreatDoor.tree
open Go.ChangeShapes Go.WideShapes Go.ChangeAt Go.RowKit
set_option linter.unusedVariables false

theorem bz_num (n : Int) : fmt.num n = .string (bz (Lib.itoa n)) := rfl
theorem seq3 (a b c : List UInt8) : bz a ++ bz b ++ bz c = bz (a ++ (b ++ c)) := by rw [bz_app, bz_app, List.append_assoc]
theorem seq5 (a b c d e : List UInt8) : bz a ++ bz b ++ bz c ++ bz d ++ bz e = bz (a ++ (b ++ (c ++ (d ++ e)))) := by rw [bz_app, bz_app, bz_app, bz_app]; simp only [List.append_assoc]
theorem itoa_sz (n : Int) (h : I64 n) : (bz (Lib.itoa n)).size ≤ 21 := itoa_len n h
theorem seq_hd (L : Nat) (x : Int) : bz [97, 58] ++ bz (Lib.itoa L) ++ bz [58] ++ bz (Lib.itoa x) ++ bz [123] = bz (hd L x) := by rw [seq5]; rfl

/-- The table of powers of ten, as it was below B. -/
def Tb (B : Nat) (w : World) : Prop := ∃ w0, fmt.Tab w0 ∧ w0.heap.size ≤ B ∧ Below w0.heap.size w0 w
theorem Tb.on {B : Nat} {w w' : World} (h : Tb B w) (hb : Below B w w') : Tb B w' := by
  obtain ⟨w0, h1, h2, h3⟩ := h
  exact ⟨w0, h1, h2, h3.trans (hb.mono h2)⟩
theorem Tb.tab {B : Nat} {w : World} (h : Tb B w) : fmt.Tab w := by
  obtain ⟨w0, h1, h2, h3⟩ := h
  exact h1.stays h3
/-- The buffer in block b holds the bytes. -/
def Bf (B b : Nat) (l : List UInt8) (w : World) : Prop := Lib.IsBuffer 110 5 B b (Lib.byteCells l) w
theorem Bf.alloc {B b : Nat} {l : List UInt8} {w : World} (h : Bf B b l w) (o : Obj) : Bf B b l (w.alloc o) := Lib.IsBuffer.alloc h o
theorem Bf.old {B b : Nat} {l : List UInt8} {w w' : World} (h : Bf B b l w) (hb : Below w.heap.size w w') : Bf B b l w' := Lib.IsBuffer.old h hb
theorem Bf.lt {B b : Nat} {l : List UInt8} {w : World} (h : Bf B b l w) : b < w.heap.size := Lib.IsBuffer.lt h
/-- What writing leaves: the blocks below B, and all that are no row of bytes. -/
structure Wr (B b : Nat) (l : List UInt8) (w w' : World) : Prop where
  bf : Bf B b l w'
  below : Below B w w'
  kept : Lib.OthersKept 5 (some b) w w'
def WrQ (B b : Nat) (l : List UInt8) (w : World) (e : Ending) (w' : World) : Prop := e = .returned (.tuple #[]) ∧ Wr B b l w w'
def WsQ (B b : Nat) (l : List UInt8) (w : World) (e : Ending) (w' : World) : Prop := (∃ u, e = .returned (.tuple #[.int .i64 u, .nilIface])) ∧ Wr B b l w w'
theorem Wr.q {B b : Nat} {l : List UInt8} {w w' : World} (h : Wr B b l w w') : WrQ B b l w (.returned (.tuple #[])) w' := ⟨rfl, h⟩
theorem Wr.behind {B b : Nat} {l : List UInt8} {w w1 w' : World} (h : Wr B b l w1 w') (hBw : B ≤ w.heap.size) (hb : Below w.heap.size w w1) : Wr B b l w w' :=
  ⟨h.bf, (hb.mono hBw).trans h.below, ((Lib.OthersKept.refl _ _ w).below hb).trans h.kept⟩
theorem Wr.first {B b : Nat} {l : List UInt8} {w w' : World} {o : Obj} (h : Wr B b l (w.alloc o) w') (hBw : B ≤ w.heap.size) : Wr B b l w w' := h.behind hBw (b1 w o)
theorem Wr.trans {B b : Nat} {l l' : List UInt8} {w w1 w' : World} (h : Wr B b l w w1) (k : Wr B b l' w1 w') : Wr B b l' w w' := ⟨k.bf, h.below.trans k.below, h.kept.trans k.kept⟩
theorem Wr.keep {B b : Nat} {l : List UInt8} {w w' : World} (h : Wr B b l w w') {i : Nat} {cs : Array Value} {t : TypeId} {fz : Nat × Nat} (hi : w.heap[i]? = some (.cells cs t fz)) (hib : i ≠ b) (ht : t ≠ 5) : w'.heap[i]? = some (.cells cs t fz) :=
  h.kept i _ hi (fun e => hib (Option.some.inj e)) (fun c fz' e => by injection e with e1 e2 e3; exact ht e2)

theorem wrS (B b : Nat) (l : List UInt8) (s : ByteArray) (hs : l.length + s.size ≤ 140737488355328) (w : World) (h : Bf B b l w) (hBw : B ≤ w.heap.size) :
    Calls Tryz.prog 150 #[.pointer (some ⟨b, 0, none⟩), .string s] w (WsQ B b (l ++ s.data.toList) w) := by
  refine (Tryz.Buffer_WriteString_k B b _ s w h hBw (Lib.byteCells_one _) (by rw [Lib.byteCells_length]; exact hs)).mono ?_
  rintro e w1 ⟨rfl, h1, b1, k1⟩
  rw [← Lib.byteCells_append] at h1
  exact ⟨⟨_, rfl⟩, h1, b1, k1⟩

end Go.Proofs.YtdglmnmalfpipaaGreatDoor.tree

/-
  A result that lies in a box of five cells; the value of null.
  Conditions: those that each theorem names.
-/
namespace Go.Proofs.YtdglmnmalfpipaaGreatDoor.tree
open Go.ChangeShapes Go.WideShapes Go.ChangeAt Go.RowKit
set_option linter.unusedVariables false

/-- A result's five cells, written. -/
theorem fill5 {w wF : World} {R : Nat} {t : TypeId} {a b c d e c0 c1 c2 c3 c4 : Value} (h : w.heap[R]? = some (.cells #[a, b, c, d, e] t (0, 0)))
    (hF : (((((w.setCell ⟨R, 0, none⟩ c0).setCell ⟨R, 1, none⟩ c1).setCell ⟨R, 2, none⟩ c2).setCell ⟨R, 3, none⟩ c3).setCell ⟨R, 4, none⟩ c4) = wF) :
    (∀ j, wF.cell? ⟨R, j, none⟩ = (#[c0, c1, c2, c3, c4] : Array Value)[j]?) ∧ (∀ q, q ≠ R → wF.heap[q]? = w.heap[q]?) ∧ ∀ (B : Nat) (w0 : World), B ≤ R → Below B w0 w → Below B w0 wF := by
  subst hF
  refine ⟨fun j => ?_, fun q hq => ?_, fun B w0 hB hb => ?_⟩
  · have := set_heap (set_heap (set_heap (set_heap (set_heap h 0 c0) 1 c1) 2 c2) 3 c3) 4 c4
    rw [cell_of_row _ _ j _ _ _ this]
    simp
  · rw [set_other hq, set_other hq, set_other hq, set_other hq, set_other hq]
  · exact ((((hb.setCell hB _).setCell hB _).setCell hB _).setCell hB _).setCell hB _

theorem nullValue_i (w : World) : Calls Tryz.prog 85 #[] w (GivesQ w (vV 0 0 ⟨#[]⟩ 0 none 0 0)) := by
  go_enter Tryz.func85, Tryz.ntmps85
  go_wp2
  exact bodyPost_ret (v := vV 0 0 ⟨#[]⟩ 0 none 0 0) (by simp [results, Tryz.results85, go_sem]) rfl ⟨rfl, b1 _ _⟩

end Go.Proofs.YtdglmnmalfpipaaGreatDoor.tree

/-
  KeyValue of the project and of the model: a key as a value.
  Conditions: those that each theorem names.
-/
namespace Go.Proofs.YtdglmnmalfpipaaGreatDoor.tree
open Go.ChangeShapes Go.WideShapes Go.ChangeAt Go.RowKit
set_option linter.unusedVariables false

theorem keyValue_s (y : Ky) (w : World) : Calls Tryz.prog 159 #[kyV y] w (GivesQ w (if y.text then vV 3 0 y.str 0 none 0 0 else vV 2 y.num ⟨#[]⟩ 0 none 0 0)) := by
  obtain ⟨yb, yn, ys⟩ := y
  have T1 := textValue_s ys
  have T2 := intValue_s yn
  unfold kyV
  cases yb
  · show Calls _ _ _ _ (GivesQ w (vV 2 yn ⟨#[]⟩ 0 none 0 0))
    go_enter Tryz.func159, Tryz.ntmps159
    go_wp2_with (fail)
    refine (T2 _).mono ?_
    rintro e w1 ⟨rfl, hb1⟩
    have A1 := Lib.hid (carry hb1 (heap_alloc2_new w _ _))
    have HB1 := Lib.hid (bs (b2 w _ _) hb1)
    obtain ⟨r, f⟩ := rowc A1.out
    clear hb1
    go_wp2_with (fail)
    generalize hwF : (((((w1.setCell ⟨w.heap.size + 1, 0, none⟩ (.int .i64 2)).setCell ⟨w.heap.size + 1, 1, none⟩ (.int .i64 yn)).setCell ⟨w.heap.size + 1, 2, none⟩ (.string ⟨#[]⟩)).setCell ⟨w.heap.size + 1, 3, none⟩ (.int .i64 0)).setCell ⟨w.heap.size + 1, 4, none⟩ (.slice none 0 0)) = wF
    obtain ⟨rF, -, bF⟩ := fill5 A1.out hwF
    refine bodyPost_ret (v := vV 2 yn ⟨#[]⟩ 0 none 0 0) ?_ rfl ⟨rfl, bF _ _ (by omega) HB1.out⟩
    simp [results, Tryz.results159, go_sem, rF]
  · show Calls _ _ _ _ (GivesQ w (vV 3 0 ys 0 none 0 0))
    go_enter Tryz.func159, Tryz.ntmps159
    go_wp2_with (fail)
    refine (T1 _).mono ?_
    rintro e w1 ⟨rfl, hb1⟩
    have A1 := Lib.hid (carry hb1 (heap_alloc2_new w _ _))
    have HB1 := Lib.hid (bs (b2 w _ _) hb1)
    obtain ⟨r, f⟩ := rowc A1.out
    clear hb1
    go_wp2_with (fail)
    generalize hwF : (((((w1.setCell ⟨w.heap.size + 1, 0, none⟩ (.int .i64 3)).setCell ⟨w.heap.size + 1, 1, none⟩ (.int .i64 0)).setCell ⟨w.heap.size + 1, 2, none⟩ (.string ys)).setCell ⟨w.heap.size + 1, 3, none⟩ (.int .i64 0)).setCell ⟨w.heap.size + 1, 4, none⟩ (.slice none 0 0)) = wF
    obtain ⟨rF, -, bF⟩ := fill5 A1.out hwF
    refine bodyPost_ret (v := vV 3 0 ys 0 none 0 0) ?_ rfl ⟨rfl, bF _ _ (by omega) HB1.out⟩
    simp [results, Tryz.results159, go_sem, rF]
theorem keyValue_i (y : Ky) (hy : y.str.size ≤ 1048576) (w : World) : Calls Tryz.prog 152 #[kyV y] w (GivesQ w (if y.text then vV 3 0 y.str 0 none 0 0 else vV 2 y.num ⟨#[]⟩ 0 none 0 0)) := by
  obtain ⟨yb, yn, ys⟩ := y
  replace hy : ys.size ≤ 1048576 := hy
  have T1 := textValue_i ys (by omega)
  have T2 := intValue_i yn
  unfold kyV
  cases yb
  · show Calls _ _ _ _ (GivesQ w (vV 2 yn ⟨#[]⟩ 0 none 0 0))
    go_enter Tryz.func152, Tryz.ntmps152
    go_wp2_with (fail)
    refine (T2 _).mono ?_
    rintro e w1 ⟨rfl, hb1⟩
    have A1 := Lib.hid (carry hb1 (heap_alloc2_new w _ _))
    have HB1 := Lib.hid (bs (b2 w _ _) hb1)
    obtain ⟨r, f⟩ := rowc A1.out
    clear hb1
    go_wp2_with (fail)
    generalize hwF : (((((w1.setCell ⟨w.heap.size + 1, 0, none⟩ (.int .i64 2)).setCell ⟨w.heap.size + 1, 1, none⟩ (.int .i64 yn)).setCell ⟨w.heap.size + 1, 2, none⟩ (.string ⟨#[]⟩)).setCell ⟨w.heap.size + 1, 3, none⟩ (.int .i64 0)).setCell ⟨w.heap.size + 1, 4, none⟩ (.slice none 0 0)) = wF
    obtain ⟨rF, -, bF⟩ := fill5 A1.out hwF
    refine bodyPost_ret (v := vV 2 yn ⟨#[]⟩ 0 none 0 0) ?_ rfl ⟨rfl, bF _ _ (by omega) HB1.out⟩
    simp [results, Tryz.results152, go_sem, rF]
  · show Calls _ _ _ _ (GivesQ w (vV 3 0 ys 0 none 0 0))
    go_enter Tryz.func152, Tryz.ntmps152
    go_wp2_with (fail)
    refine (T1 _).mono ?_
    rintro e w1 ⟨rfl, hb1⟩
    have A1 := Lib.hid (carry hb1 (heap_alloc2_new w _ _))
    have HB1 := Lib.hid (bs (b2 w _ _) hb1)
    obtain ⟨r, f⟩ := rowc A1.out
    clear hb1
    go_wp2_with (fail)
    generalize hwF : (((((w1.setCell ⟨w.heap.size + 1, 0, none⟩ (.int .i64 3)).setCell ⟨w.heap.size + 1, 1, none⟩ (.int .i64 0)).setCell ⟨w.heap.size + 1, 2, none⟩ (.string ys)).setCell ⟨w.heap.size + 1, 3, none⟩ (.int .i64 0)).setCell ⟨w.heap.size + 1, 4, none⟩ (.slice none 0 0)) = wF
    obtain ⟨rF, -, bF⟩ := fill5 A1.out hwF
    refine bodyPost_ret (v := vV 3 0 ys 0 none 0 0) ?_ rfl ⟨rfl, bF _ _ (by omega) HB1.out⟩
    simp [results, Tryz.results152, go_sem, rF]

end Go.Proofs.YtdglmnmalfpipaaGreatDoor.tree

/-
  What a call leaves as it was, but for some blocks.
  Conditions: none.
-/
namespace Go.Proofs.YtdglmnmalfpipaaGreatDoor.tree
open Go.ChangeShapes Go.WideShapes Go.ChangeAt Go.RowKit
set_option linter.unusedVariables false

/-- Nothing but blocks of S has changed. -/
structure Fr (S : Nat → Prop) (w w' : World) : Prop where
  os : w'.os = w.os
  tape : w'.tape = w.tape
  output : w'.output = w.output
  size : w.heap.size ≤ w'.heap.size
  block : ∀ b, b < w.heap.size → ¬ S b → w'.heap[b]? = w.heap[b]?
section
variable {S S' : Nat → Prop} {w w' w2 : World}
theorem Fr.refl (S : Nat → Prop) (w : World) : Fr S w w := ⟨rfl, rfl, rfl, Nat.le_refl _, fun _ _ _ => rfl⟩
theorem Fr.of (h : Below w.heap.size w w') : Fr S w w' := ⟨h.os, h.tape, h.output, h.size, fun b hb _ => h.block b hb⟩
theorem Fr.trans (h : Fr S w w') (k : Fr S w' w2) : Fr S w w2 := ⟨k.os.trans h.os, k.tape.trans h.tape, k.output.trans h.output, Nat.le_trans h.size k.size, fun b hb hs => (k.block b (Nat.lt_of_lt_of_le hb h.size) hs).trans (h.block b hb hs)⟩
theorem Fr.mono (h : Fr S w w') (hs : ∀ b, S b → S' b) : Fr S' w w' := ⟨h.os, h.tape, h.output, h.size, fun b hb hn => h.block b hb fun hh => hn (hs b hh)⟩
theorem Fr.below (h : Fr S w w') {lo : Nat} (hl : lo ≤ w.heap.size) (hs : ∀ b, S b → lo ≤ b) : Below lo w w' := ⟨h.os, h.tape, h.output, h.size, fun b hb => h.block b (Nat.lt_of_lt_of_le hb hl) fun hh => by have := hs b hh; omega⟩
theorem Fr.set {g : Nat} (hg : S g) (j : Nat) (v : Value) : Fr S w (w.setCell ⟨g, j, none⟩ v) := ⟨rfl, rfl, rfl, by rw [set_size]; exact Nat.le_refl _, fun b _ hn => set_other (fun e => hn (e ▸ hg))⟩
end

theorem TIn.lt' {w : World} {S : Nat → Prop} {t : Tr} {v : Value} (h : TIn w S t v) : TIn w (fun b => b < w.heap.size) t v := by
  induction h with
  | mk k n s x ks vs A cap C hk hl hm hcap hc ht ih =>
    refine TIn.mk k n s x ks vs A _ C hk hl hm hcap (fun i hi => ?_) ih
    obtain ⟨a, ha, hS, hky, hs, hj⟩ := hc i hi
    refine ⟨a, ha, ?_, hky, hs, hj⟩
    have := World.block_lt_of_cell? _ _ hky.1
    rwa [mem.add_block] at this

end Go.Proofs.YtdglmnmalfpipaaGreatDoor.tree

/-
  Drawn words, keys and scalars.
  Conditions: the cursor's block.
-/
namespace Go.Proofs.YtdglmnmalfpipaaGreatDoor.draw
open Go.ChangeShapes Go.WideShapes Go.ChangeAt Go.RowKit tree
set_option linter.unusedVariables false

theorem strs_new' (m : Nat) (w : World) (t : TypeId) (zs : List ByteArray) (h : ∀ z ∈ zs, z.size ≤ m) (N : Nat) (hN : N < w.heap.size) :
    Strs m (w.alloc (.cells (zs.map Value.string).toArray t)) N w.heap.size zs.length := by
  refine ⟨by omega, by simp, fun j hj => ?_⟩
  refine ⟨zs[j], h zs[j] (List.getElem_mem _), ?_⟩
  rw [World.cell?_alloc_new]
  simp [hj]

theorem word (N : Nat) (w : World) (hC : Cur w N) : Calls Tryz.prog 187 #[.pointer (some ⟨N, 0, none⟩)] w (StrQ 10 N w) := by
  have hN := hC.lt
  have HI := Lib.hid (strs_new' 10 w 9 [⟨#[]⟩, ⟨#[97]⟩, ⟨#[98]⟩, ⟨#[120, 49]⟩, ⟨#[48]⟩, ⟨#[53]⟩, ⟨#[45, 53]⟩, ⟨#[48, 53]⟩, ⟨#[45, 48]⟩, ⟨#[49, 50, 97]⟩, ⟨#[48, 48, 55]⟩, ⟨#[49, 48, 48, 48, 48, 48, 48, 48, 48, 48]⟩, ⟨#[49, 48, 48, 48, 48, 48, 48, 48, 48, 49]⟩, ⟨#[32, 49]⟩, ⟨#[105, 116, 39, 115]⟩, ⟨#[10]⟩, ⟨#[60, 105, 62]⟩, ⟨#[255, 59]⟩, ⟨#[110, 97, 109, 101]⟩, ⟨#[115, 58, 49, 58]⟩] (by decide) N hN)
  have HC := Lib.hid hC
  clear hC
  go_enter Tryz.func187, Tryz.ntmps187
  go_wp2_with (fail)
  refine (pickStr 10 N w.heap.size 20 20 (by omega) (by omega) _ (HC.out.new _) HI.out).mono ?_
  rintro e w1 ⟨s, rfl, hs, hC1, hg1⟩
  have HC1 := Lib.hid hC1; have HG1 := Lib.hid hg1; clear hC1 hg1
  go_wp2
  go_ret
  exact ⟨s, rfl, hs, HC1.out, only_trans (World.grownBy_alloc _ _ _) HG1.out⟩

theorem Cur.upto {w w' : World} {N : Nat} (h : Cur w N) (hk : ∀ k, k ≤ N → w'.heap[k]? = w.heap[k]?) : Cur w' N := by
  obtain ⟨A, n, c, i, h1, h2, h3, h4, h5, h6⟩ := h
  exact ⟨A, n, c, i, h1, (hk N (Nat.le_refl _)).trans h2, h3.keep fun k hlt => hk k (by omega), h4, h5, h6⟩
/-- Three cells of one block written. -/
theorem put3 {w : World} {R : Nat} {t : TypeId} {a b c : Value} (x y z : Value) (h : w.heap[R]? = some (.cells #[a, b, c] t (0, 0))) :
    (((w.setCell ⟨R, 0, none⟩ x).setCell ⟨R, 1, none⟩ y).setCell ⟨R, 2, none⟩ z).heap[R]? = some (.cells #[x, y, z] t (0, 0)) ∧
    (∀ k, k ≠ R → (((w.setCell ⟨R, 0, none⟩ x).setCell ⟨R, 1, none⟩ y).setCell ⟨R, 2, none⟩ z).heap[k]? = w.heap[k]?) ∧
    ∀ (W : World) (N : Nat), W.heap.size ≤ R → W.grownBy w (some N) → W.grownBy (((w.setCell ⟨R, 0, none⟩ x).setCell ⟨R, 1, none⟩ y).setCell ⟨R, 2, none⟩ z) (some N) := by
  refine ⟨?_, fun k hk => ?_, fun W N hR hg => ⟨hg.os, hg.tape, hg.output, by simpa [set_size] using hg.size, fun j hj hne => ?_⟩⟩
  · have := set_heap (set_heap (set_heap h 0 x) 1 y) 2 z
    simpa using this
  · rw [set_other hk, set_other hk, set_other hk]
  · have hk : j ≠ R := by omega
    rw [set_other hk, set_other hk, set_other hk]
    exact hg.block j hj hne

/-- A drawn key. -/
def DrawKey (N : Nat) (w : World) (e : Ending) (w' : World) : Prop := ∃ y : Ky, e = .returned (kyV y) ∧ (-1000000000 ≤ y.num ∧ y.num ≤ 1000000000 ∧ y.str.size ≤ 2) ∧ Cur w' N ∧ w.grownBy w' (some N)
theorem key (N : Nat) (w : World) (hC : Cur w N) : Calls Tryz.prog 55 #[.pointer (some ⟨N, 0, none⟩)] w (DrawKey N w) := by
  have hN0 := hC.lt
  have HC := Lib.hid hC
  clear hC
  go_enter Tryz.func55, Tryz.ntmps55
  go_wp2_with (fail)
  refine (once N 3 (by omega) _ (HC.out.new _)).mono ?_
  rintro e w1 ⟨b, rfl, hC1, hg1⟩
  have hN := hC1.lt
  have eR : w1.heap[w.heap.size]? = some (.cells #[.bool false, .int .i64 0, .string ⟨#[]⟩] IK (0, 0)) := (hg1.block _ (by simp) (by intro h; injection h; omega)).trans (heap_alloc_new w _)
  have HC1 := Lib.hid hC1; have HG1 := Lib.hid (only_trans (World.grownBy_alloc w (.cells #[.bool false, .int .i64 0, .string ⟨#[]⟩] IK) (some N)) hg1)
  have ER := Lib.hid eR
  clear hC1 hg1 eR
  cases b with
  | true =>
    have HI := Lib.hid (strs_new' 2 w1 9 [⟨#[97]⟩, ⟨#[98]⟩, ⟨#[99]⟩, ⟨#[]⟩, ⟨#[48, 53]⟩, ⟨#[120]⟩] (by decide) N hN)
    go_wp2_with (fail)
    refine (pickStr 2 N w1.heap.size 6 6 (by omega) (by omega) _ (HC1.out.new _) HI.out).mono ?_
    rintro e w2 ⟨s, rfl, hs, hC2, hg2⟩
    have HC2 := Lib.hid hC2
    have hG2 := only_trans (World.grownBy_alloc w1 _ (some N)) hg2
    have eR2 := (hG2.block w.heap.size (Array.getElem?_eq_some_iff.1 ER.out).1 (by intro h; injection h; omega)).trans ER.out
    have HG2 := Lib.hid (only_trans HG1.out hG2)
    have ER2 := Lib.hid eR2
    obtain ⟨r2, f2⟩ := rowc eR2
    clear hC2 hg2 hG2 eR2
    go_wp2_with (fail)
    obtain ⟨eF, oF, gF⟩ := put3 (.bool true) (.int .i64 0) (.string s) ER2.out
    obtain ⟨rF, -⟩ := rowc eF
    have hCF : Cur _ N := Cur.upto HC2.out fun k hk => oF k (by omega)
    have hGF := gF w N (Nat.le_refl _) HG2.out
    clear r2 f2 eF oF gF
    generalize (((w2.setCell ⟨w.heap.size, 0, none⟩ (.bool true)).setCell ⟨w.heap.size, 1, none⟩ (.int .i64 0)).setCell ⟨w.heap.size, 2, none⟩ (.string s)) = wF at *
    refine bodyPost_ret (v := .agg #[.bool true, .int .i64 0, .string s]) (by simp [results, Tryz.results55, go_sem, rF]) rfl ⟨⟨true, 0, s⟩, rfl, ⟨by show (-1000000000 : Int) ≤ 0; omega, by show (0 : Int) ≤ 1000000000; omega, hs⟩, hCF, hGF⟩
  | false =>
    have HI := Lib.hid (ints_new (-1000000000) 1000000000 w1 3 [0, 1, 2, 3, 4, -1, 7, 1000000000, -1000000000] (by decide) N hN)
    go_wp2_with (fail)
    refine (pickInt (-1000000000) 1000000000 N w1.heap.size 9 9 (by omega) (by omega) _ (HC1.out.new _) HI.out).mono ?_
    rintro e w2 ⟨x, rfl, x0, x1, hC2, hg2⟩
    have HC2 := Lib.hid hC2
    have hG2 := only_trans (World.grownBy_alloc w1 _ (some N)) hg2
    have eR2 := (hG2.block w.heap.size (Array.getElem?_eq_some_iff.1 ER.out).1 (by intro h; injection h; omega)).trans ER.out
    have HG2 := Lib.hid (only_trans HG1.out hG2)
    have ER2 := Lib.hid eR2
    obtain ⟨r2, f2⟩ := rowc eR2
    clear hC2 hg2 hG2 eR2
    go_wp2_with (fail)
    obtain ⟨eF, oF, gF⟩ := put3 (.bool false) (.int .i64 x) (.string ⟨#[]⟩) ER2.out
    obtain ⟨rF, -⟩ := rowc eF
    have hCF : Cur _ N := Cur.upto HC2.out fun k hk => oF k (by omega)
    have hGF := gF w N (Nat.le_refl _) HG2.out
    clear r2 f2 eF oF gF
    generalize (((w2.setCell ⟨w.heap.size, 0, none⟩ (.bool false)).setCell ⟨w.heap.size, 1, none⟩ (.int .i64 x)).setCell ⟨w.heap.size, 2, none⟩ (.string ⟨#[]⟩)) = wF at *
    refine bodyPost_ret (v := .agg #[.bool false, .int .i64 x, .string ⟨#[]⟩]) (by simp [results, Tryz.results55, go_sem, rF]) rfl ⟨⟨false, x, ⟨#[]⟩⟩, rfl, ⟨x0, x1, by show (0 : Nat) ≤ 2; omega⟩, hCF, hGF⟩

end Go.Proofs.YtdglmnmalfpipaaGreatDoor.draw

/-
  Drawn scalars.
  Conditions: the cursor's block.
-/
namespace Go.Proofs.YtdglmnmalfpipaaGreatDoor.draw
open Go.ChangeShapes Go.WideShapes Go.ChangeAt Go.RowKit tree
set_option linter.unusedVariables false

theorem intV (n : Int) (w : World) : Calls Tryz.prog 188 #[.int .i64 n] w (GivesQ w (vV 2 n ⟨#[]⟩ 0 none 0 0)) := by
  go_enter Tryz.func188, Tryz.ntmps188
  go_wp2
  refine bodyPost_ret (v := vV 2 n ⟨#[]⟩ 0 none 0 0) (by simp [results, Tryz.results188, go_sem]) rfl ⟨rfl, b1 _ _⟩
theorem textV (s : ByteArray) (w : World) : Calls Tryz.prog 98 #[.string s] w (GivesQ w (vV 3 0 s 0 none 0 0)) := by
  go_enter Tryz.func98, Tryz.ntmps98
  go_wp2
  refine bodyPost_ret (v := vV 3 0 s 0 none 0 0) (by simp [results, Tryz.results98, go_sem]) rfl ⟨rfl, b1 _ _⟩
theorem boolV (b : Bool) (w : World) : Calls Tryz.prog 186 #[.bool b] w (GivesQ w (vV 1 (if b then 1 else 0) ⟨#[]⟩ 0 none 0 0)) := by
  cases b
  · go_enter Tryz.func186, Tryz.ntmps186
    go_wp2
    refine bodyPost_ret (v := vV 1 0 ⟨#[]⟩ 0 none 0 0) (by simp [results, Tryz.results186, go_sem]) rfl ⟨rfl, b1 _ _⟩
  · go_enter Tryz.func186, Tryz.ntmps186
    go_wp2
    refine bodyPost_ret (v := vV 1 1 ⟨#[]⟩ 0 none 0 0) (by simp [results, Tryz.results186, go_sem]) rfl ⟨rfl, b1 _ _⟩
theorem arrV (w : World) : Calls Tryz.prog 131 #[] w (GivesQ w (vV 4 0 ⟨#[]⟩ 0 none 0 0)) := by
  go_enter Tryz.func131, Tryz.ntmps131
  go_wp2
  refine bodyPost_ret (v := vV 4 0 ⟨#[]⟩ 0 none 0 0) (by simp [results, Tryz.results131, go_sem]) rfl ⟨rfl, b1 _ _⟩

theorem grown_set {W w : World} {N R j : Nat} {u : Value} (hR : W.heap.size ≤ R) (hg : W.grownBy w (some N)) : W.grownBy (w.setCell ⟨R, j, none⟩ u) (some N) :=
  ⟨hg.os, hg.tape, hg.output, by rw [set_size]; exact hg.size, fun k hk hne => (set_other (by omega)).trans (hg.block k hk hne)⟩
/-- Five cells of one block written. -/
theorem put5 {w : World} {R : Nat} {t : TypeId} {a b c d e : Value} (x y z u v : Value) (h : w.heap[R]? = some (.cells #[a, b, c, d, e] t (0, 0))) :
    (((((w.setCell ⟨R, 0, none⟩ x).setCell ⟨R, 1, none⟩ y).setCell ⟨R, 2, none⟩ z).setCell ⟨R, 3, none⟩ u).setCell ⟨R, 4, none⟩ v).heap[R]? = some (.cells #[x, y, z, u, v] t (0, 0)) ∧
    (∀ k, k ≠ R → (((((w.setCell ⟨R, 0, none⟩ x).setCell ⟨R, 1, none⟩ y).setCell ⟨R, 2, none⟩ z).setCell ⟨R, 3, none⟩ u).setCell ⟨R, 4, none⟩ v).heap[k]? = w.heap[k]?) ∧
    ∀ (W : World) (N : Nat), W.heap.size ≤ R → W.grownBy w (some N) → W.grownBy (((((w.setCell ⟨R, 0, none⟩ x).setCell ⟨R, 1, none⟩ y).setCell ⟨R, 2, none⟩ z).setCell ⟨R, 3, none⟩ u).setCell ⟨R, 4, none⟩ v) (some N) := by
  refine ⟨?_, fun k hk => ?_, fun W N hR hg => grown_set hR (grown_set hR (grown_set hR (grown_set hR (grown_set hR hg))))⟩
  · have := set_heap (set_heap (set_heap (set_heap (set_heap h 0 x) 1 y) 2 z) 3 u) 4 v
    simpa using this
  · rw [set_other hk, set_other hk, set_other hk, set_other hk, set_other hk]
theorem grown_of_below {w w' : World} (h : Below w.heap.size w w') (N : Nat) : w.grownBy w' (some N) := ⟨h.os, h.tape, h.output, h.size, fun j hj _ => h.block j hj⟩

/-- A drawn scalar. -/
def DrawScal (N : Nat) (w : World) (e : Ending) (w' : World) : Prop := ∃ (k n : Int) (s : ByteArray), e = .returned (vV k n s 0 none 0 0) ∧ (0 ≤ k ∧ k ≤ 3 ∧ -1000000000 ≤ n ∧ n ≤ 1000000000 ∧ s.size ≤ 10) ∧ Cur w' N ∧ w.grownBy w' (some N)
theorem DrawScal.of {N : Nat} {w w2 : World} {k n : Int} {s : ByteArray} (hb : 0 ≤ k ∧ k ≤ 3 ∧ -1000000000 ≤ n ∧ n ≤ 1000000000 ∧ s.size ≤ 10) (hN : N < w.heap.size) (hC : Cur w2 N) (hg : w.grownBy w2 (some N))
    (hR : w2.heap[w.heap.size]? = some (.cells #[.int .i64 0, .int .i64 0, .string ⟨#[]⟩, .int .i64 0, .slice none 0 0] IV (0, 0))) (wF : World)
    (hF : wF = ((((w2.setCell ⟨w.heap.size, 0, none⟩ (.int .i64 k)).setCell ⟨w.heap.size, 1, none⟩ (.int .i64 n)).setCell ⟨w.heap.size, 2, none⟩ (.string s)).setCell ⟨w.heap.size, 3, none⟩ (.int .i64 0)).setCell ⟨w.heap.size, 4, none⟩ (.slice none 0 0)) :
    (∀ j, wF.cell? ⟨w.heap.size, j, none⟩ = #[Value.int .i64 k, .int .i64 n, .string s, .int .i64 0, .slice none 0 0][j]?) ∧ DrawScal N w (.returned (vV k n s 0 none 0 0)) wF := by
  obtain ⟨eF, oF, gF⟩ := put5 (.int .i64 k) (.int .i64 n) (.string s) (.int .i64 0) (.slice none 0 0) hR
  rw [← hF] at eF oF gF
  exact ⟨(rowc eF).1, k, n, s, rfl, hb, Cur.upto hC fun k hk => oF k (by omega), gF w N (Nat.le_refl _) hg⟩

theorem scalar (N : Nat) (w : World) (hC : Cur w N) : Calls Tryz.prog 130 #[.pointer (some ⟨N, 0, none⟩)] w (DrawScal N w) := by
  have hN0 := hC.lt
  have HC := Lib.hid hC
  clear hC
  go_enter Tryz.func130, Tryz.ntmps130
  go_wp2_with (fail)
  refine (below N 8 (by omega) _ (HC.out.new _)).mono ?_
  rintro e w1 ⟨x, rfl, x0, x1, hC1, hg1⟩
  have hN := hC1.lt
  have eR : w1.heap[w.heap.size]? = some (.cells #[.int .i64 0, .int .i64 0, .string ⟨#[]⟩, .int .i64 0, .slice none 0 0] IV (0, 0)) := (hg1.block _ (by simp) (by intro h; injection h; omega)).trans (heap_alloc_new w _)
  have HC1 := Lib.hid hC1; have HG1 := Lib.hid (only_trans (World.grownBy_alloc w (.cells #[.int .i64 0, .int .i64 0, .string ⟨#[]⟩, .int .i64 0, .slice none 0 0] IV) (some N)) hg1)
  have ER := Lib.hid eR
  clear hC1 hg1
  have step : ∀ (w2 w3 : World) (k n : Int) (s : ByteArray), Cur w2 N → w1.grownBy w2 (some N) → Below w2.heap.size w2 w3 →
      Hid (Cur w3 N) ∧ Hid (w.grownBy w3 (some N)) ∧ Hid (w3.heap[w.heap.size]? = some (.cells #[.int .i64 0, .int .i64 0, .string ⟨#[]⟩, .int .i64 0, .slice none 0 0] IV (0, 0))) := fun w2 w3 k n s hc hg hb => by
    have hg3 := only_trans hg (grown_of_below hb N)
    exact ⟨hc.below hb, only_trans HG1.out hg3, (hg3.block _ (Array.getElem?_eq_some_iff.1 ER.out).1 (by intro h; injection h; omega)).trans ER.out⟩
  by_cases h0 : x = 0
  · subst h0
    obtain ⟨r1, f1⟩ := rowc eR
    clear eR step
    go_wp2_with (fail)
    generalize hwF : ((((((w1).setCell ⟨w.heap.size, 0, none⟩ (.int .i64 0)).setCell ⟨w.heap.size, 1, none⟩ (.int .i64 0)).setCell ⟨w.heap.size, 2, none⟩ (.string ⟨#[]⟩)).setCell ⟨w.heap.size, 3, none⟩ (.int .i64 0)).setCell ⟨w.heap.size, 4, none⟩ (.slice none 0 0)) = wF
    obtain ⟨rF, hD⟩ := DrawScal.of (k := 0) (n := 0) (s := ⟨#[]⟩) ⟨by omega, by omega, by omega, by omega, by show (0 : Nat) ≤ 10; omega⟩ hN0 HC1.out HG1.out ER.out wF hwF.symm
    clear r1 f1 hwF
    refine bodyPost_ret (v := .agg #[.int .i64 0, .int .i64 0, .string ⟨#[]⟩, .int .i64 0, .slice none 0 0]) ?_ rfl ?_
    · simp [results, Tryz.results130, go_sem, rF]
    · exact hD
  clear eR
  by_cases h1 : x = 1
  · subst h1
    go_wp2_with (fail)
    refine (once N 2 (by omega) _ HC1.out).mono ?_
    rintro e w2 ⟨b, rfl, hC2, hg2⟩
    have HC2 := Lib.hid hC2; have HG2 := Lib.hid hg2; clear hC2 hg2
    go_wp2_with (fail)
    refine (boolV b _).mono ?_
    rintro e w3 ⟨rfl, hb3⟩
    obtain ⟨HC3, HG3, ER3⟩ := step w2 w3 0 0 ⟨#[]⟩ HC2.out HG2.out hb3
    obtain ⟨r3, f3⟩ := rowc ER3.out
    clear hb3 step
    cases b with
    | false =>
      go_wp2_with (fail)
      generalize hwF : ((((((w3).setCell ⟨w.heap.size, 0, none⟩ (.int .i64 1)).setCell ⟨w.heap.size, 1, none⟩ (.int .i64 0)).setCell ⟨w.heap.size, 2, none⟩ (.string ⟨#[]⟩)).setCell ⟨w.heap.size, 3, none⟩ (.int .i64 0)).setCell ⟨w.heap.size, 4, none⟩ (.slice none 0 0)) = wF
      obtain ⟨rF, hD⟩ := DrawScal.of (k := 1) (n := 0) (s := ⟨#[]⟩) ⟨by omega, by omega, by omega, by omega, by show (0 : Nat) ≤ 10; omega⟩ hN0 HC3.out HG3.out ER3.out wF hwF.symm
      clear r3 f3 hwF
      refine bodyPost_ret (v := .agg #[.int .i64 1, .int .i64 0, .string ⟨#[]⟩, .int .i64 0, .slice none 0 0]) ?_ rfl ?_
      · simp [results, Tryz.results130, go_sem, rF]
      · exact hD
    | true =>
      go_wp2_with (fail)
      generalize hwF : ((((((w3).setCell ⟨w.heap.size, 0, none⟩ (.int .i64 1)).setCell ⟨w.heap.size, 1, none⟩ (.int .i64 1)).setCell ⟨w.heap.size, 2, none⟩ (.string ⟨#[]⟩)).setCell ⟨w.heap.size, 3, none⟩ (.int .i64 0)).setCell ⟨w.heap.size, 4, none⟩ (.slice none 0 0)) = wF
      obtain ⟨rF, hD⟩ := DrawScal.of (k := 1) (n := 1) (s := ⟨#[]⟩) ⟨by omega, by omega, by omega, by omega, by show (0 : Nat) ≤ 10; omega⟩ hN0 HC3.out HG3.out ER3.out wF hwF.symm
      clear r3 f3 hwF
      refine bodyPost_ret (v := .agg #[.int .i64 1, .int .i64 1, .string ⟨#[]⟩, .int .i64 0, .slice none 0 0]) ?_ rfl ?_
      · simp [results, Tryz.results130, go_sem, rF]
      · exact hD
  by_cases h2 : x = 2
  · subst h2
    go_wp2_with (fail)
    refine (word N _ HC1.out).mono ?_
    rintro e w2 ⟨s, rfl, hs, hC2, hg2⟩
    have HC2 := Lib.hid hC2; have HG2 := Lib.hid hg2; clear hC2 hg2
    go_wp2_with (fail)
    refine (textV s _).mono ?_
    rintro e w3 ⟨rfl, hb3⟩
    obtain ⟨HC3, HG3, ER3⟩ := step w2 w3 0 0 ⟨#[]⟩ HC2.out HG2.out hb3
    obtain ⟨r3, f3⟩ := rowc ER3.out
    clear hb3 step
    go_wp2_with (fail)
    generalize hwF : ((((((w3).setCell ⟨w.heap.size, 0, none⟩ (.int .i64 3)).setCell ⟨w.heap.size, 1, none⟩ (.int .i64 0)).setCell ⟨w.heap.size, 2, none⟩ (.string s)).setCell ⟨w.heap.size, 3, none⟩ (.int .i64 0)).setCell ⟨w.heap.size, 4, none⟩ (.slice none 0 0)) = wF
    obtain ⟨rF, hD⟩ := DrawScal.of (k := 3) (n := 0) (s := s) ⟨by omega, by omega, by omega, by omega, hs⟩ hN0 HC3.out HG3.out ER3.out wF hwF.symm
    clear r3 f3 hwF
    refine bodyPost_ret (v := .agg #[.int .i64 3, .int .i64 0, .string s, .int .i64 0, .slice none 0 0]) ?_ rfl ?_
    · simp [results, Tryz.results130, go_sem, rF]
    · exact hD
  by_cases h3 : x = 3
  · subst h3
    go_wp2_with (fail)
    refine (word N _ HC1.out).mono ?_
    rintro e w2 ⟨s, rfl, hs, hC2, hg2⟩
    have HC2 := Lib.hid hC2; have HG2 := Lib.hid hg2; clear hC2 hg2
    go_wp2_with (fail)
    refine (textV s _).mono ?_
    rintro e w3 ⟨rfl, hb3⟩
    obtain ⟨HC3, HG3, ER3⟩ := step w2 w3 0 0 ⟨#[]⟩ HC2.out HG2.out hb3
    obtain ⟨r3, f3⟩ := rowc ER3.out
    clear hb3 step
    go_wp2_with (fail)
    generalize hwF : ((((((w3).setCell ⟨w.heap.size, 0, none⟩ (.int .i64 3)).setCell ⟨w.heap.size, 1, none⟩ (.int .i64 0)).setCell ⟨w.heap.size, 2, none⟩ (.string s)).setCell ⟨w.heap.size, 3, none⟩ (.int .i64 0)).setCell ⟨w.heap.size, 4, none⟩ (.slice none 0 0)) = wF
    obtain ⟨rF, hD⟩ := DrawScal.of (k := 3) (n := 0) (s := s) ⟨by omega, by omega, by omega, by omega, hs⟩ hN0 HC3.out HG3.out ER3.out wF hwF.symm
    clear r3 f3 hwF
    refine bodyPost_ret (v := .agg #[.int .i64 3, .int .i64 0, .string s, .int .i64 0, .slice none 0 0]) ?_ rfl ?_
    · simp [results, Tryz.results130, go_sem, rF]
    · exact hD
  by_cases h4 : x = 4
  · subst h4
    have HI := Lib.hid (ints_new (-1000000000) 1000000000 w1 3 [0, 1, -1, 5, 10, 999999999, 1000000000, -1000000000] (by decide) N hN)
    go_wp2_with (fail)
    refine (pickInt (-1000000000) 1000000000 N w1.heap.size 8 8 (by omega) (by omega) _ (HC1.out.new _) HI.out).mono ?_
    rintro e w2 ⟨n, rfl, n0, n1, hC2, hg2⟩
    have HC2 := Lib.hid hC2; have HG2 := Lib.hid (only_trans (World.grownBy_alloc w1 _ (some N)) hg2); clear hC2 hg2
    go_wp2_with (fail)
    refine (intV n _).mono ?_
    rintro e w3 ⟨rfl, hb3⟩
    obtain ⟨HC3, HG3, ER3⟩ := step w2 w3 0 0 ⟨#[]⟩ HC2.out HG2.out hb3
    obtain ⟨r3, f3⟩ := rowc ER3.out
    clear hb3 step
    go_wp2_with (fail)
    generalize hwF : ((((((w3).setCell ⟨w.heap.size, 0, none⟩ (.int .i64 2)).setCell ⟨w.heap.size, 1, none⟩ (.int .i64 n)).setCell ⟨w.heap.size, 2, none⟩ (.string ⟨#[]⟩)).setCell ⟨w.heap.size, 3, none⟩ (.int .i64 0)).setCell ⟨w.heap.size, 4, none⟩ (.slice none 0 0)) = wF
    obtain ⟨rF, hD⟩ := DrawScal.of (k := 2) (n := n) (s := ⟨#[]⟩) ⟨by omega, by omega, n0, n1, by show (0 : Nat) ≤ 10; omega⟩ hN0 HC3.out HG3.out ER3.out wF hwF.symm
    clear r3 f3 hwF
    refine bodyPost_ret (v := .agg #[.int .i64 2, .int .i64 n, .string ⟨#[]⟩, .int .i64 0, .slice none 0 0]) ?_ rfl ?_
    · simp [results, Tryz.results130, go_sem, rF]
    · exact hD
  go_wp2_with (fail)
  refine (below N 20 (by omega) _ HC1.out).mono ?_
  rintro e w2 ⟨n, rfl, n0, n1, hC2, hg2⟩
  have HC2 := Lib.hid hC2; have HG2 := Lib.hid hg2; clear hC2 hg2
  have n2 : n ≤ 19 := by omega
  clear n1
  go_wp2_with (fail)
  refine (intV (n - 5) _).mono ?_
  rintro e w3 ⟨rfl, hb3⟩
  obtain ⟨HC3, HG3, ER3⟩ := step w2 w3 0 0 ⟨#[]⟩ HC2.out HG2.out hb3
  obtain ⟨r3, f3⟩ := rowc ER3.out
  clear hb3 step
  go_wp2_with (fail)
  generalize hwF : ((((((w3).setCell ⟨w.heap.size, 0, none⟩ (.int .i64 2)).setCell ⟨w.heap.size, 1, none⟩ (.int .i64 (n - 5))).setCell ⟨w.heap.size, 2, none⟩ (.string ⟨#[]⟩)).setCell ⟨w.heap.size, 3, none⟩ (.int .i64 0)).setCell ⟨w.heap.size, 4, none⟩ (.slice none 0 0)) = wF
  obtain ⟨rF, hD⟩ := DrawScal.of (k := 2) (n := (n - 5)) (s := ⟨#[]⟩) ⟨by omega, by omega, by omega, by omega, by show (0 : Nat) ≤ 10; omega⟩ hN0 HC3.out HG3.out ER3.out wF hwF.symm
  clear r3 f3 hwF
  refine bodyPost_ret (v := .agg #[.int .i64 2, .int .i64 (n - 5), .string ⟨#[]⟩, .int .i64 0, .slice none 0 0]) ?_ rfl ?_
  · simp [results, Tryz.results130, go_sem, rF]
  · exact hD

end Go.Proofs.YtdglmnmalfpipaaGreatDoor.draw

/-
  Slices of integers in memory: one that reads as a list of numbers, one that the call itself has made, and how both are kept while memory grows.
  Conditions: those that each theorem names.
-/
namespace Go.Proofs.YtdglmnmalfpipaaGreatDoor.imem
open Go.RowKit mem
set_option linter.unusedVariables false

theorem i64row : (Tryz.prog.info? 3).map (fun i => (i.zero, i.size, i.bytes)) = some (some (.int .i64 0), 1, 8) := by kernel_rfl

/-- The numbers as cells. -/
def ics (l : List Int) : List Value := l.map (Value.int .i64)
theorem ics_len (l : List Int) : (ics l).length = l.length := List.length_map _
theorem ics_app (a b : List Int) : ics (a ++ b) = ics a ++ ics b := List.map_append
theorem ics_get {l : List Int} {j : Nat} {v : Int} (h : l[j]? = some v) : (ics l)[j]? = some (.int .i64 v) := by unfold ics; rw [List.getElem?_map, h]; rfl
theorem ics_set (l : List Int) (j : Nat) (v : Int) : ics (l.set j v) = (ics l).set j (.int .i64 v) := List.map_set
theorem ics_one (l : List Int) : ∀ u ∈ ics l, u.oneCell' = true := ints_oneCell .i64 l
theorem ics_zero (n : Nat) : ics (List.replicate n 0) = List.replicate n (.int .i64 0) := List.map_replicate

/-- The slice at A of n integers reads as l. -/
def RdI (w : World) (A : Option Addr) (n : Nat) (l : List Int) : Prop :=
  l.length = n ∧ (0 < n → ∃ a, A = some a ∧ ∀ j v, l[j]? = some v → w.cell? (a.add j) = some (.int .i64 v))

theorem RdI.len {w : World} {A : Option Addr} {n : Nat} {l : List Int} (h : RdI w A n l) : l.length = n := h.1
theorem RdI.at_ {w : World} {A : Option Addr} {n k : Nat} {l : List Int} (h : RdI w A n l) (hk : k < n) : ∃ a v, A = some a ∧ l[k]? = some v ∧ w.cell? (a.add k) = some (.int .i64 v) := by
  obtain ⟨h1, h3⟩ := h
  obtain ⟨a, e, hc⟩ := h3 (by omega)
  have hl : k < l.length := by omega
  exact ⟨a, l[k], e, List.getElem?_eq_getElem hl, hc k _ (List.getElem?_eq_getElem hl)⟩
/-- In the block of the slice, where it has a cell. -/
theorem RdI.lt {w : World} {A : Option Addr} {n : Nat} {l : List Int} (h : RdI w A n l) (hn : 0 < n) : ∃ a, A = some a ∧ a.block < w.heap.size := by
  obtain ⟨a, v, e, _, hc⟩ := h.at_ hn
  refine ⟨a, e, ?_⟩
  have := World.block_lt_of_cell? _ _ hc
  rwa [add_block] at this
theorem RdI.grown {w w' : World} {A : Option Addr} {n : Nat} {l : List Int} {row : Option Nat} (h : RdI w A n l) (hg : w.grownBy w' row) (ho : Off A n row) : RdI w' A n l := by
  refine ⟨h.1, fun hn => ?_⟩
  obtain ⟨a, e, hc⟩ := h.2 hn
  exact ⟨a, e, fun j v hv => hg.cell (hc j v hv) (by rw [add_block]; exact ho hn a e)⟩
theorem RdI.below {w w' : World} {A : Option Addr} {n : Nat} {l : List Int} (h : RdI w A n l) (hb : Below w.heap.size w w') : RdI w' A n l := h.grown (none_of_below hb) (Off.none_ _ _)
theorem RdI.alloc {w : World} {A : Option Addr} {n : Nat} {l : List Int} (h : RdI w A n l) (o : Obj) : RdI (w.alloc o) A n l := h.grown (World.grownBy_alloc w o none) (Off.none_ _ _)
theorem RdI.draws {w : World} {A : Option Addr} {n : Nat} {l : List Int} (h : RdI w A n l) (k : Nat) : RdI (w.drewN k) A n l := h
theorem RdI.nil_ (w : World) (A : Option Addr) : RdI w A 0 [] := ⟨rfl, fun h => absurd h (by omega)⟩

/-- A slice of integers that the call has made: its block is lo or above. -/
def OwnI (w : World) (lo : Nat) (A : Option Addr) (n c : Nat) (l : List Int) : Prop :=
  l.length = n ∧ w.ownsRow lo 3 1 (.slice A n c) n (ics l)

section
variable {w w' : World} {lo : Nat} {A : Option Addr} {n c : Nat} {l : List Int}
theorem OwnI.len (h : OwnI w lo A n c l) : l.length = n := h.1
theorem OwnI.row (h : OwnI w lo A n c l) : w.ownsRow lo 3 1 (.slice A n c) n (ics l) := h.2
theorem OwnI.form (h : OwnI w lo A n c l) : (A = none ∧ n = 0) ∨ ∃ g, A = some ⟨g, 0, none⟩ ∧ lo ≤ g ∧ g < w.heap.size := by
  rcases h.2.2 with ⟨e, h0⟩ | ⟨g, cap, cur, e, hb, hg, _⟩
  · injection e with e1
    exact .inl ⟨e1, h0⟩
  · injection e with e1
    exact .inr ⟨g, e1, hb, (Array.getElem?_eq_some_iff.1 hg).1⟩
theorem OwnI.rd (h : OwnI w lo A n c l) : RdI w A n l := by
  refine ⟨h.1, fun hn => ?_⟩
  rcases h.form with ⟨_, h0⟩ | ⟨g, e, _⟩
  · omega
  · subst e
    exact ⟨_, rfl, fun j v hv => h.row.cells (g := g) rfl j _ (ics_get hv)⟩
theorem OwnI.block (h : OwnI w lo A n c l) : ∀ k, (Value.slice A n c).ownBlock = some k → lo ≤ k ∧ k < w.heap.size := h.row.lt
theorem OwnI.grown {row : Option Nat} (h : OwnI w lo A n c l) (hg : w.grownBy w' row) (ho : (Value.slice A n c).ownBlock = none ∨ (Value.slice A n c).ownBlock ≠ row) : OwnI w' lo A n c l :=
  ⟨h.1, h.row.kept hg ho⟩
theorem OwnI.none_ (h : OwnI w lo A n c l) (hg : w.grownBy w' none) : OwnI w' lo A n c l := h.grown hg (by
  cases e : (Value.slice A n c).ownBlock with
  | none => exact .inl rfl
  | some k => exact .inr (by simp))
theorem OwnI.keep {row : Option Nat} (h : OwnI w lo A n c l) (hg : w.grownBy w' row) (hd : ∀ k, (Value.slice A n c).ownBlock = some k → row ≠ some k) : OwnI w' lo A n c l :=
  h.grown hg (by
    cases e : (Value.slice A n c).ownBlock with
    | none => exact .inl rfl
    | some k => exact .inr fun e' => hd k e e'.symm)
theorem OwnI.below (h : OwnI w lo A n c l) (hb : Below w.heap.size w w') : OwnI w' lo A n c l := h.none_ (none_of_below hb)
theorem OwnI.alloc (h : OwnI w lo A n c l) (o : Obj) : OwnI (w.alloc o) lo A n c l := ⟨h.1, h.row.alloc o⟩
theorem OwnI.draws (h : OwnI w lo A n c l) (k : Nat) : OwnI (w.drewN k) lo A n c l := h
theorem OwnI.less {lo' : Nat} (h : OwnI w lo A n c l) (hl : lo' ≤ lo) : OwnI w lo' A n c l := ⟨h.1, Joins.ownsRow_le h.row hl⟩
theorem OwnI.head (h : OwnI w lo A n c l) (hn : 0 < n) : ∃ g, A = some ⟨g, 0, none⟩ ∧ lo ≤ g ∧ g < w.heap.size ∧ (Value.slice A n c).ownBlock = some g := by
  rcases h.form with ⟨_, h0⟩ | ⟨g, e, h1, h2⟩
  · omega
  · subst e
    exact ⟨g, rfl, h1, h2, rfl⟩
end

theorem owni_empty (w : World) (lo : Nat) {A : Option Addr} {n c : Nat} (h : w.ownsRow lo 3 1 (.slice A n c) n []) (hn : n = 0) : OwnI w lo A n c [] := ⟨by simp [hn], h⟩
theorem owni_mk {w : World} {lo : Nat} {v : Value} {n : Nat} {l : List Int} (h : w.ownsRow lo 3 1 v n (ics l)) : ∃ A c, v = .slice A n c ∧ OwnI w lo A n c l := by
  have hl : l.length = n := by have := h.1; rw [ics_len] at this; omega
  rcases Joins.ownsRow_forms h with ⟨rfl, rfl⟩ | ⟨g, cap, rfl⟩
  · exact ⟨none, 0, rfl, hl, h⟩
  · exact ⟨_, cap, rfl, hl, h⟩

/-- One cell of an own slice is written. -/
theorem OwnI.set {w : World} {lo g n c : Nat} {l : List Int} (h : OwnI w lo (some ⟨g, 0, none⟩) n c l) (k : Nat) (v : Int) :
    OwnI (w.setCell ⟨g, k, none⟩ (.int .i64 v)) lo (some ⟨g, 0, none⟩) n c (l.set k v) ∧ w.grownBy (w.setCell ⟨g, k, none⟩ (.int .i64 v)) (some g) := by
  have hs := h.row.stored k (.int .i64 v)
  exact ⟨⟨by rw [List.length_set]; exact h.1, by rw [ics_set]; exact hs.1⟩, hs.2⟩
theorem OwnI.cellk {w : World} {lo g n c k : Nat} {l : List Int} (h : OwnI w lo (some ⟨g, 0, none⟩) n c l) (hk : k < n) : (∃ v, w.cell? ⟨g, k, none⟩ = some (.int .i64 v)) ∧ w.frozen? ⟨g, k, none⟩ = false := by
  refine ⟨?_, h.row.frozenAt k⟩
  have hl : k < l.length := by rw [h.1]; exact hk
  exact ⟨l[k], by rw [h.row.cellAt k (by omega)]; exact ics_get (List.getElem?_eq_getElem hl)⟩

theorem belowI_own {w w' : World} {lo : Nat} {A : Option Addr} {n c : Nat} {l : List Int} (h : OwnI w lo A n c l) (hg : w.grownBy w' (Value.slice A n c).ownBlock) (hlo : lo ≤ w.heap.size) : Below lo w w' :=
  (Below.refl lo w).grown hg hlo (fun k hk => (h.block k hk).1)

theorem heap_new_at (w : World) (o : Obj) : (w.alloc o).heap[w.heap.size]? = some o := by
  show (w.heap.push o)[w.heap.size]? = _
  simp

/-- A new block of one integer. -/
theorem rdi_one (w : World) (v : Int) (t : TypeId) : RdI (w.alloc (.cells #[.int .i64 v] t)) (some ⟨w.heap.size, 0, none⟩) 1 [v] := by
  refine ⟨rfl, fun _ => ⟨_, rfl, fun j x hx => ?_⟩⟩
  cases j with
  | zero =>
    have : v = x := by simpa using hx
    subst this
    rw [add_zero_lit, World.cell?_alloc_new]
    rfl
  | succ j => simp at hx
theorem owni_one (w : World) (v : Int) (lo : Nat) (hlo : lo ≤ w.heap.size) : OwnI (w.alloc (.cells #[.int .i64 v] 3)) lo (some ⟨w.heap.size, 0, none⟩) 1 1 [v] :=
  ⟨rfl, rfl, .inr ⟨w.heap.size, 1, #[.int .i64 v], rfl, hlo, heap_new_at w _, Nat.le_refl _, by unfold maxLen; omega, rfl, rfl⟩⟩
theorem owni_none (w : World) (lo : Nat) (hlo : lo ≤ w.heap.size) : OwnI (w.alloc (.cells #[] 3)) lo (some ⟨w.heap.size, 0, none⟩) 0 0 [] :=
  owni_empty _ _ (World.ownsRow_made w #[] 0 hlo (Nat.zero_le _) rfl) rfl
theorem owni_nil (w : World) (lo : Nat) : OwnI w lo none 0 0 [] := owni_empty _ _ (World.ownsRow_nil w lo _ 1) rfl

theorem run_noneI (P : Program) (w : World) (t ty : TypeId) (i : TypeInfo) (ht : P.underlying t = some (.slice 3)) (hi : P.info? 3 = some i) (lo : Nat) (v : Value) (n d : Nat) (xs : List Value) (hown : w.ownsRow lo 3 1 v n xs) :
    (Builtin.append_ #[t, t] ty #[v, .slice none 0 d]).run P w = .ok v w := by
  rcases hown.2 with ⟨rfl, rfl⟩ | ⟨g, cap, cur, rfl, _, _, hnc, _⟩
  · simp [Builtin.append_, run_underlying ht, sizeOf, typeInfo, hi, Builtin.lenOf, Builtin.firstCells]
  · simp [Builtin.append_, run_underlying ht, sizeOf, typeInfo, hi, Builtin.lenOf, Builtin.firstCells, hnc, storeCells]

/-- An operation whose guard, if it has one, says yes. -/
theorem wpList_wanted {P : Program} {w : World} {ops : Array Oper} {rest : List Oper} {o : Oper} {a : Act} {Q : Exit → Act → World → Prop} (hw : Region.wanted o (yielded ops a.tmps))
    (h : ∀ K : Act → World → Prop, (∀ a w, wpList P ops Q rest a w → K a w) → o.wp P a w K Q) : wpList P ops Q (o :: rest) a w :=
  wpList_step fun K hK => by rw [if_pos hw]; exact h K hK

/-- append of a slice that reads as r onto an own one. -/
theorem append_rdi_w {P : Program} {w : World} {ops : Array Oper} {rest : List Oper} {o : Oper} {a : Act} {Q : Exit → Act → World → Prop} (hgd : Region.wanted o (yielded ops a.tmps)) (s x : Operand) (t : TypeId)
    (ho : o.op = .call { callee := .builtin .append, args := #[s, x], argTypes := #[t, t] })
    (i : TypeInfo) (ht : P.underlying t = some (.slice 3)) (hi : P.info? 3 = some i) (hz : i.zero = some (.int .i64 0)) (hsize : i.size = 1) (hby : i.bytes = 8)
    (lo : Nat) (A : Option Addr) (n c : Nat) (l : List Int) (hs : a.eval s = .slice A n c) (hown : OwnI w lo A n c l)
    (B : Option Addr) (m d : Nat) (r : List Int) (hx : a.eval x = .slice B m d) (hr : RdI w B m r) (hb : n + m ≤ 17592186044416) (hlo : lo ≤ w.heap.size)
    (h : ∀ A' c' w', OwnI w' lo A' (n + m) c' (l ++ r) → Below lo w w' → w.grownBy w' (Value.slice A n c).ownBlock → wpList P ops Q rest (a.put o.dst (.slice A' (n + m) c')) w') : wpList P ops Q (o :: rest) a w := by
  have close : ∀ v' w', w'.ownsRow lo 3 1 v' (n + m) (ics l ++ ics r) → w.grownBy w' (Value.slice A n c).ownBlock → wpList P ops Q rest (a.put o.dst v') w' := fun v' w' h1 h2 => by
    rw [← ics_app] at h1
    obtain ⟨A', c', rfl, h3⟩ := owni_mk h1
    exact h A' c' w' h3 (belowI_own hown h2 hlo) h2
  have hl : (ics r).length = m * 1 := by rw [ics_len, hr.len, Nat.mul_one]
  have hmax : n + m ≤ maxLen := by unfold maxLen; omega
  cases B with
  | none =>
    have hm : m = 0 := by
      rcases Nat.eq_zero_or_pos m with h0 | h0
      · exact h0
      · obtain ⟨_, e, _⟩ := hr.2 h0
        cases e
    subst hm
    have hr0 : r = [] := List.eq_nil_of_length_eq_zero hr.len
    subst hr0
    have hrun := run_noneI P w t o.type i ht hi lo _ n d (ics l) hown.row
    refine wpList_wanted hgd fun K hK => ?_
    unfold Oper.wp
    simp [execOp, ho, resolve, invoke, builtin, hs, hx, hrun, Result.andThen]
    exact hK _ _ (close _ _ (by simpa [ics] using hown.row) (World.grownBy.refl _ _))
  | some ad =>
    refine wpList_wanted hgd fun K hK => wp_append_own w s x t ho lo 3 i (.int .i64 0) 1 8 ht hi hz hsize hby rfl (by omega) (.slice A n c) n (ics l) hs hown.row ad m d (ics r) hx hl ?_ (ics_one r) hmax (by omega) hlo ?_
    · intro j u hu
      have hj : j < r.length := by
        have := (List.getElem?_eq_some_iff.1 hu).1
        rwa [ics_len] at this
      obtain ⟨_, e, hc⟩ := hr.2 (by have := hr.len; omega)
      obtain rfl := Option.some.inj e
      have hrj : r[j]? = some r[j] := List.getElem?_eq_getElem hj
      rw [ics_get hrj] at hu
      rw [← hu]
      exact hc j _ hrj
    · intro v' w' h1 h2 _
      exact hK _ _ (close v' w' h1 h2)

theorem append_rdi {P : Program} {w : World} {ops : Array Oper} {rest : List Oper} {o : Oper} {a : Act} {Q : Exit → Act → World → Prop} (hgd : o.guard = none) (s x : Operand) (t : TypeId)
    (ho : o.op = .call { callee := .builtin .append, args := #[s, x], argTypes := #[t, t] })
    (i : TypeInfo) (ht : P.underlying t = some (.slice 3)) (hi : P.info? 3 = some i) (hz : i.zero = some (.int .i64 0)) (hsize : i.size = 1) (hby : i.bytes = 8)
    (lo : Nat) (A : Option Addr) (n c : Nat) (l : List Int) (hs : a.eval s = .slice A n c) (hown : OwnI w lo A n c l)
    (B : Option Addr) (m d : Nat) (r : List Int) (hx : a.eval x = .slice B m d) (hr : RdI w B m r) (hb : n + m ≤ 17592186044416) (hlo : lo ≤ w.heap.size)
    (h : ∀ A' c' w', OwnI w' lo A' (n + m) c' (l ++ r) → Below lo w w' → w.grownBy w' (Value.slice A n c).ownBlock → wpList P ops Q rest (a.put o.dst (.slice A' (n + m) c')) w') : wpList P ops Q (o :: rest) a w :=
  append_rdi_w (by simp [Region.wanted, hgd]) s x t ho i ht hi hz hsize hby lo A n c l hs hown B m d r hx hr hb hlo h

end Go.Proofs.YtdglmnmalfpipaaGreatDoor.imem

/-
  The model's draws of lists: a new slice of a bounded number of bytes or of integers; nothing that was there is changed but the cursor.
  Conditions: those that each theorem names.
-/
namespace Go.Proofs.YtdglmnmalfpipaaGreatDoor.draw
open Go.ChangeShapes Go.WideShapes Go.ChangeAt Go.RowKit mem imem
set_option linter.unusedVariables false

theorem code_of_rd {w : World} {A : Option Addr} {n : Nat} {l : List Int} (h : Rd w A n l) : Code w w.heap.size A n := fun hn => by
  obtain ⟨a, e, hlt⟩ := h.lt hn
  refine ⟨a, e, hlt, fun j hj => ?_⟩
  obtain ⟨a', v, e', hv, v0, v1, hc⟩ := h.at_ hj
  rw [e] at e'
  obtain rfl := Option.some.inj e'
  exact ⟨v, v0, v1, hc⟩
theorem Cur.far {w w' : World} {N B : Nat} (h : Cur w N) (hb : Below B w w') (hN : N < B) : Cur w' N := by
  obtain ⟨A, n, c, i, x, hbk, hc, hn, i0, i1⟩ := h
  exact ⟨A, n, c, i, x, (hb.block N hN).trans hbk, hc.keep fun k hlt => hb.block k (by omega), hn, i0, i1⟩
theorem only_far {a w w' : World} {N : Nat} (h : a.grownBy w (some N)) (hb : Below a.heap.size w w') : a.grownBy w' (some N) :=
  ⟨hb.os.trans h.os, hb.tape.trans h.tape, hb.output.trans h.output, Nat.le_trans h.size hb.size, fun k hk hne => (hb.block k hk).trans (h.block k hk hne)⟩





end Go.Proofs.YtdglmnmalfpipaaGreatDoor.draw

