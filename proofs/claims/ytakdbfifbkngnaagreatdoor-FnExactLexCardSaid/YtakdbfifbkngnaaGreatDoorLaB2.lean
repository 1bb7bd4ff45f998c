/-
  What the texts behind this one use: 8 parts of one proof.
  Conditions: those that each theorem names.
-/
import Derived.Test.YtakdbfifbkngnaaGreatDoorLaB1
import Derived.BigQuiet
import Derived.Deep.DeepCutAuto
import Derived.Deep.RegionHeld3
import Derived.Deep.RegionLaw
import Derived.Maps.AppendAt
import Derived.Shelf.Strings.SlTrimAscii
import Derived.Lib.CutLaws
import Derived.Test.YtakdbfifbkngnaaGreatDoorRows
import Derived.Test.YtakdbfifbkngnaaGreatDoorShelf
import Derived.Laws.OwnMore
import Derived.OwnWalk
import Derived.Lib.AppendStr
import Derived.Lib.Builder
import Derived.Lib.SmallJoins
import Derived.Lib.Hide
import Derived.WalkKit
import Derived.Deep.RegionWith
import Derived.Deep.LoopGhost
import Derived.Lib.Strings
import Derived.Lib.Bytealg
import Derived.Lib.IndexBytes
import Derived.Shelf.Abstract
import Derived.ProofKit
import Derived.OpenShut
import Derived.Carry
import Derived.ChangeVars
/-
  The project's lexer: what stays of its source, and how a token is added.
  Conditions: those that each theorem names.
-/
namespace Go.Proofs.YtakdbfifbkngnaaGreatDoor.lex
open Go.ChangeShapes Go.WideShapes Go.ChangeAt Go.RowKit
set_option linter.unusedVariables false

theorem clone3 (s : ByteArray) (hs : s.size ≤ 1099511627776) (w : World) : Calls Tryz.prog 35 #[.string s] w fun e w' => e = .returned (.string s) ∧ Below w.heap.size w w' := by
  go_enter Tryz.func35, Tryz.ntmps35
  go_wp2_with (fail)
  refine (Tryz.stringslite_Clone s _ (by omega)).mono ?_
  rintro e w1 ⟨rfl, hb⟩
  go_wp2
  go_ret
  exact ⟨rfl, hb⟩


abbrev TL : TypeId := 66
/-- The lexer in block B stands at place p of s and has read these tokens. -/
def St (B : Nat) (s : ByteArray) (p : Nat) (out : List Tk) (w : World) : Prop := ∃ v, w.heap[B]? = some (.cells #[.string s, .int .i64 (p : Int), v] TL (0, 0)) ∧ TRow w (B + 1) v out
theorem St.below {B : Nat} {s : ByteArray} {p : Nat} {out : List Tk} {w w' : World} (h : St B s p out w) (hb : Below w.heap.size w w') : St B s p out w' := by
  obtain ⟨v, h1, h2⟩ := h
  exact ⟨v, carry hb h1, h2.below hb⟩
theorem St.lt {B : Nat} {s : ByteArray} {p : Nat} {out : List Tk} {w : World} (h : St B s p out w) : B < w.heap.size := by
  obtain ⟨v, h1, h2⟩ := h
  exact (Array.getElem?_eq_some_iff.1 h1).1
/-- Another place. -/
theorem St.move {B : Nat} {s : ByteArray} {p : Nat} {out : List Tk} {w : World} (h : St B s p out w) (q : Nat) : St B s q out (w.setCell ⟨B, 1, none⟩ (.int .i64 (q : Int))) := by
  obtain ⟨v, h1, h2⟩ := h
  refine ⟨v, set_heap h1 1 _, h2.blk fun b hb hlo _ => set_other (by omega)⟩

theorem rest (B : Nat) (s : ByteArray) (p : Nat) (out : List Tk) (hp : p ≤ s.size) (hs : s.size ≤ 1099511627776) (w : World) (h : St B s p out w) : Calls Tryz.prog 63 #[.pointer (some ⟨B, 0, none⟩)] w (TxQ w (s.extract p s.size)) := by
  obtain ⟨v, h1, -⟩ := h
  obtain ⟨r, f⟩ := rowc h1
  have c0 := r 0
  have c1 := r 1
  have f0 := f 0
  have f1 := f 1
  simp only [List.getElem?_toArray, List.getElem?_cons_zero, List.getElem?_cons_succ] at c0 c1
  clear r f h1
  go_enter Tryz.func63, Tryz.ntmps63
  go_wp2_with (fail)
  go_quiet (fail)
  go_wp2
  go_ret
  exact ⟨rfl, below_drewNg _ _⟩

/-- append to a row of the call's own, as one step of a region that draws. -/
theorem step_append_tok {P : Program} {ops : Array Oper} {o : Oper} {a : Act} {w : World} {K : Act → World → Prop} {Q : Exit → Act → World → Prop} {E : Prop}
    (hg : o.guard = none) (s x : Operand) (t : TypeId) (hop : o.op = Op.call { callee := Callee.builtin Builtin.append, args := #[s, x], argTypes := #[t, t] })
    (base : Nat) (e : TypeId) (i : TypeInfo) (z : Value) (size bytes : Nat) (ht : P.underlying t = some (.slice e)) (hi : P.info? e = some i) (hz : i.zero = some z)
    (hsize : i.size = size) (hby : i.bytes = bytes) (hzs : z.cells.size = size) (hsz : 0 < size)
    (v : Value) (n : Nat) (xs : List Value) (hown : w.ownsRow base e size v n xs)
    (ad : Addr) (m c : Nat) (news : List Value) (hs : a.eval s = v) (hx : a.eval x = .slice (some ad) m c) (hl : news.length = m * size) (hnews : ∀ j u, news[j]? = some u → w.cell? (ad.add j) = some u) (h1 : ∀ u ∈ news, u.oneCell' = true)
    (h63 : n + m ≤ maxLen) (hbytes : (n + m) * bytes ≤ 140737488355328) (hbase : base ≤ w.heap.size)
    (hK : ∀ v' w', w'.ownsRow base e size v' (n + m) (xs ++ news) → w.grownBy w' v.ownBlock → (v' = .slice none 0 0 ↔ v = .slice none 0 0 ∧ m = 0) → (v'.ownBlock = v.ownBlock ∨ v'.ownBlock = some w.heap.size) → K (a.put o.dst v') w') :
    if Region.wanted o (yielded ops a.tmps) = true then Oper.wp P o a w K Q else E := by
  have hw : Region.wanted o (yielded ops a.tmps) = true := by simp [Region.wanted, hg]
  rw [if_pos hw]
  obtain ⟨v', w', hr, h2, h3, h4, h5⟩ := run_append_own_at (P := P) w base t o.type e i z size bytes ht hi hz hsize hby hzs hsz v n xs hown ad m c news hl hnews h1 h63 hbytes hbase
  unfold Oper.wp
  simp [execOp, hop, resolve, invoke, builtin, hs, hx, hr, Result.andThen]
  exact hK v' w' h2 h3 h4 h5
set_option maxHeartbeats 2000000 in
set_option maxRecDepth 100000 in
theorem add (B : Nat) (s : ByteArray) (p : Nat) (out : List Tk) (k n : Int) (t : ByteArray) (a : Int) (z : Nat) (hp : p ≤ 1000000) (hz : z ≤ 1000000) (ho : out.length ≤ 1000000) (ht : t.size ≤ 1099511627776) (w : World) (h : St B s p out w) :
    Calls Tryz.prog 64 #[.pointer (some ⟨B, 0, none⟩), .agg #[.int .i64 k, .int .i64 n, .string t, .int .i64 a], .int .i64 (z : Int)] w fun e w' => e = .returned (.tuple #[]) ∧ St B s (p + z) (out ++ [⟨k, n, t, p⟩]) w' ∧ Below B w w' := by
  have hBw := h.lt
  obtain ⟨v, h1, h2⟩ := h
  obtain ⟨A, c, rfl, hcap, -⟩ := h2.out
  obtain ⟨i0, hi, hzz⟩ := it_info
  have HI := Lib.hid hi
  have HZ := Lib.hid hzz
  have H1 := Lib.hid h1
  have H2 := Lib.hid h2
  have HBW := Lib.hid hBw
  have hA1 := Lib.hid (keepAlloc (o' := .cells #[.int .i64 k, .int .i64 n, .string t, .int .i64 a] IT) H1.out)
  have hA0 := Lib.hid (heap_alloc_new w (.cells #[.int .i64 k, .int .i64 n, .string t, .int .i64 a] IT))
  obtain ⟨r, f⟩ := rowc hA1.out
  have c1 := r 1
  have f1 := f 1
  simp only [List.getElem?_toArray, List.getElem?_cons_zero, List.getElem?_cons_succ] at c1
  clear hi hzz h1 h2 hBw r f hcap
  go_enter Tryz.func64, Tryz.ntmps64
  go_wp2_with (fail)
  refine (clone3 t ht _).mono ?_
  rintro e w1 ⟨rfl, hb⟩
  obtain ⟨W2, HW2⟩ : ∃ W, Hid (W = w1.setCell ⟨w.heap.size, 2, none⟩ (.string t)) := ⟨_, Lib.hid rfl⟩
  have T1 := carry hb (heap_alloc_new w (.cells #[.int .i64 k, .int .i64 n, .string t, .int .i64 (p : Int)] IT))
  have B1 := carry hb (keepAlloc (o' := .cells #[.int .i64 k, .int .i64 n, .string t, .int .i64 (p : Int)] IT) H1.out)
  have f1 := (rowc T1).2 2
  obtain ⟨r0, -⟩ := rowc T1
  have T2 : W2.heap[w.heap.size]? = some (.cells #[.int .i64 k, .int .i64 n, .string t, .int .i64 (p : Int)] IT (0, 0)) := by
    rw [HW2.out]
    have := set_heap T1 2 (.string t)
    simpa using this
  have B2 : W2.heap[B]? = some (.cells #[.string s, .int .i64 (p : Int), .slice A out.length c] TL (0, 0)) := by
    rw [HW2.out, set_other (by have := HBW.out; omega)]
    exact B1
  have hz2 : W2.heap.size = w1.heap.size := by rw [HW2.out]; exact set_size
  have HB2 : Hid (Below B w W2) := Lib.hid (by
    rw [HW2.out]
    exact (((Below.refl B w).alloc (Nat.le_of_lt HBW.out) _).trans (hb.mono (by have := HBW.out; simp; omega))).setCell (p := ⟨w.heap.size, 2, none⟩) (Nat.le_of_lt HBW.out) _)
  have HR2 : Hid (TRow W2 (B + 1) (.slice A out.length c) out) := Lib.hid (by
    refine (H2.out.below (bs (b1 w _) hb)).blk fun b hbk _ _ => ?_
    rw [HW2.out]
    exact set_other (by have := (H2.out.own b hbk).2; omega))
  have hsz : w.heap.size + 1 ≤ W2.heap.size := by have := hb.size; rw [hz2]; simpa using this
  have r2 := rowc (w := W2.drew) T2
  have rb := rowc (w := W2.drew) B2
  have HT2 := Lib.hid T2
  have HBK2 := Lib.hid B2
  have HN : Hid (∀ q u, [Value.int .i64 k, .int .i64 n, .string t, .int .i64 (p : Int)][q]? = some u → (W2.drew.alloc (.cells #[.int .i64 k, .int .i64 n, .string t, .int .i64 (p : Int)] IT)).cell? ((⟨W2.heap.size, 0, none⟩ : Addr).add q) = some u) := Lib.hid (four_new W2.drew _ _ _ _ _)
  clear hb T1 B1 T2 B2 hz2
  have HRD : Hid (TRow (W2.drew.alloc (.cells #[.int .i64 k, .int .i64 n, .string t, .int .i64 (p : Int)] IT)) (B + 1) (.slice A out.length c) out) := Lib.hid ((HR2.out.below ((Below.refl _ _).drew)).below (b1 _ _))
  have HRE : Hid (TRow (W2.alloc (.cells #[.int .i64 k, .int .i64 n, .string t, .int .i64 (p : Int)] IT)) (B + 1) (.slice A out.length c) out) := Lib.hid (HR2.out.below (b1 _ _))
  have HNE := Lib.hid (four_new W2 (.int .i64 k) (.int .i64 n) (.string t) (.int .i64 (p : Int)) IT)
  go_upto_region 3 with fail
  rw [← HW2.out]
  go_cut [] (fun wx => ∃ v' : Value, wx.heap[B]? = some (.cells #[.string s, .int .i64 (p : Int), v'] TL (0, 0)) ∧ TRow wx (B + 1) v' (out ++ [⟨k, n, t, p⟩]) ∧ Below B w wx)
  case first =>
    obtain ⟨rt, ft⟩ := r2
    obtain ⟨rbb, fbb⟩ := rb
    have ya : ∀ o, (W2.alloc o).cell? ⟨B, 2, none⟩ = some (.slice A out.length c) := fun o => (rowc (keepAlloc HBK2.out)).1 2
    have yb : W2.cell? ⟨B, 2, none⟩ = some (.slice A out.length c) := (rowc HBK2.out).1 2
    go_region_law (first
      | (refine step_append_tok (by rfl) _ _ 25 (by rfl) (B + 1) IT i0 _ 4 40 Tryz.underlying25 HI.out HZ.out.1 HZ.out.2.1 HZ.out.2.2 rfl (by decide) (.slice A out.length c) out.length _ (by first | exact HRD.out | exact HRE.out) ⟨W2.heap.size, 0, none⟩ 1 1 [.int .i64 k, .int .i64 n, .string t, .int .i64 (p : Int)] (by rfl) (by rfl) rfl (by first | exact HN.out | exact HNE.out) (four_one _ _ _ _) (by unfold maxLen; omega) (by omega) (by have := HBW.out; simp; omega) ?_
         intro v' w5 hown' hgrow' hnil hat
         have HR5 := Lib.hid hown'
         have HG5 : Hid ((W2.alloc (.cells #[.int .i64 k, .int .i64 n, .string t, .int .i64 (p : Int)] IT)).grownBy w5 (Value.slice A out.length c).ownBlock) := Lib.hid (by first | exact hgrow' | exact ⟨hgrow'.os, hgrow'.tape, hgrow'.output, hgrow'.size, hgrow'.block⟩)
         have HB5 : Hid (w5.heap[B]? = some (.cells #[.string s, .int .i64 (p : Int), .slice A out.length c] TL (0, 0))) := Lib.hid ((HG5.out.block B (by have := HBW.out; simp; omega) (fun e => by have := (HR2.out.own B e.symm).1; omega)).trans (keepAlloc HBK2.out))
         obtain ⟨r5, f5⟩ := rowc HB5.out
         obtain ⟨g3, c3, rfl⟩ : ∃ g3 c3, v' = .slice (some ⟨g3, 0, none⟩) (out.length + 1) c3 := by
           rcases hown'.2 with ⟨-, h⟩ | ⟨g, cap, cur, h, -⟩
           · omega
           · exact ⟨g, cap, h⟩
         clear hown' hgrow' hnil hat)
      | fail)
    all_goals
      go_wp2_with (fail)
      go_meet
      refine ⟨.slice (some ⟨g3, 0, none⟩) (out.length + 1) c3, ?_, ?_, ?_⟩
      · have := set_heap HB5.out 2 (.slice (some ⟨g3, 0, none⟩) (out.length + 1) c3)
        simpa using this
      · have h5 : TRow w5 (B + 1) (.slice (some ⟨g3, 0, none⟩) (out.length + 1) c3) (out ++ [⟨k, n, t, p⟩]) := by
          have := HR5.out
          rw [tcs_snoc] at this
          unfold TRow
          rw [List.length_append]
          exact this
        exact h5.blk fun b hb hlo _ => set_other (by omega)
      · exact (grown_below' (HB2.out.alloc (by have := HBW.out; omega) _) HG5.out (by have := HBW.out; simp; omega) (fun b hb => Nat.le_of_succ_le (HR2.out.own b hb).1)).setCell (p := ⟨B, 2, none⟩) (Nat.le_refl _) _
  case rest =>
    obtain ⟨v', hb3, hr3, hw3⟩ := hcut
    obtain ⟨rr, ff⟩ := rowc hb3
    have c1' := rr 1
    have f1' := ff 1
    simp only [List.getElem?_toArray, List.getElem?_cons_zero, List.getElem?_cons_succ] at c1'
    have HS := Lib.hid (show St B s p (out ++ [⟨k, n, t, p⟩]) wc from ⟨v', hb3, hr3⟩)
    have HW3 := Lib.hid hw3
    clear rr ff hb3 hr3 hw3 r2 rb
    go_wp2_with (fail)
    go_end0
    refine ⟨rfl, ?_, HW3.out.setCell (p := ⟨B, 1, none⟩) (Nat.le_refl _) _⟩
    have := HS.out.move (p + z)
    rwa [show (((p + z : Nat)) : Int) = (p : Int) + (z : Int) by push_cast; rfl] at this

end Go.Proofs.YtakdbfifbkngnaaGreatDoor.lex

/-
  A strings.Builder that the call itself has made: what writing a byte, writing a text and reading it out do, and how it is kept while memory grows.
  Conditions: what it holds and what is written have together at most 2^47 bytes.
-/
namespace Go.Proofs.YtakdbfifbkngnaaGreatDoor.bld
open Go.RowKit
set_option linter.unusedVariables false

theorem u8row : (Tryz.prog.info? 5).map (fun i => (i.zero, i.size, i.bytes)) = some (some (.int .u8 0), 1, 1) := by kernel_rfl
theorem brow : (Tryz.prog.info? 102).map (·.size) = some 2 := by kernel_rfl
theorem blies : liesAt Tryz.prog Tryz.prog.depth 102 (2 / Tryz.prog.cellsOf 102) 0 102 1 = true := by kernel_rfl

/-- The builder in block b holds the bytes l; all of it lies from B on. -/
def Bl (B b : Nat) (l : List UInt8) (w : World) : Prop := Lib.IsBuilder 102 5 B b (Lib.byteCells l) w

theorem at_below {B b : Nat} {p : Value} {bs : List Value} {w w' : World} (h : Lib.BuilderAt 102 5 B b p bs w) (hb : Below w.heap.size w w') : Lib.BuilderAt 102 5 B b p bs w' := by
  have hlt := h.lt
  obtain ⟨hB, v, hk, hown, hne⟩ := h
  refine ⟨hB, v, (hb.block b hlt).trans hk, hown.kept (row := none) ⟨hb.os, hb.tape, hb.output, hb.size, fun k hk _ => hb.block k hk⟩ ?_, hne⟩
  cases e : v.ownBlock with
  | none => exact .inl rfl
  | some k => exact .inr (fun h => by cases h)
theorem Bl.below {B b : Nat} {l : List UInt8} {w w' : World} (h : Bl B b l w) (hb : Below w.heap.size w w') : Bl B b l w' :=
  h.elim (fun x => .inl (at_below x hb)) (fun x => .inr (at_below x hb))
theorem Bl.lo {B b : Nat} {l : List UInt8} {w : World} (h : Bl B b l w) : B ≤ b ∧ b < w.heap.size :=
  h.elim (fun x => ⟨x.1, x.lt⟩) (fun x => ⟨x.1, x.lt⟩)
theorem new_ (w : World) : Bl w.heap.size w.heap.size [] (w.alloc (.cells #[.pointer none, .slice none 0 0] 102)) :=
  .inl ⟨Nat.le_refl _, .slice none 0 0, heap_alloc_new w _, World.ownsRow_nil _ _ _ 1, by simp [Value.ownBlock]⟩

set_option maxHeartbeats 1000000 in
set_option maxRecDepth 100000 in
theorem check (B b : Nat) (bs : List Value) (w : World) (h : Lib.IsBuilder 102 5 B b bs w) :
    Calls Tryz.prog 118 #[.pointer (some ⟨b, 0, none⟩)] w fun e w' => e = .returned (.tuple #[]) ∧ Lib.BuilderAt 102 5 B b (.pointer (some ⟨b, 0, none⟩)) bs w' ∧ Below B w w' := by
  obtain ⟨j, hj, hjs⟩ := Option.map_eq_some_iff.1 brow
  rcases h with h | h
  · have h0 := h.cell0; have hsh := h.shape; have hfz := h.frozen0
    have HP := Lib.hid h; clear h
    have hto := Lib.run_to_unsafe (P := Tryz.prog) w ⟨b, 0, none⟩ Tryz.underlying100 Tryz.underlying195 hj (by rw [hjs]; decide) hsh (Nat.zero_lt_succ 1)
    have hfrom := Lib.run_from_unsafe (P := Tryz.prog) w ⟨b, 0, none⟩ Tryz.underlying195 Tryz.underlying100 hj hsh blies
    go_enter Tryz.func118, Tryz.ntmps118
    go_wp2
    rw [run_callFunc_extern Tryz.func151 (by kernel_rfl) (by kernel_rfl) (by kernel_rfl) (e := Extern.AbiNoEscape.same) (by kernel_rfl)]
    rw [Lib.run_noEscape]
    simp only [Result.andThen]
    rw [Oper.upon_value]
    go_wp2
    go_end0
    exact ⟨rfl, HP.out.used _, (Below.refl B w).setCell (p := ⟨b, 0, none⟩) HP.out.1 _⟩
  · have h0 := h.cell0
    have HP := Lib.hid h; clear h
    go_enter Tryz.func118, Tryz.ntmps118
    go_wp2
    rw [Lib.run_neq_ptr_same w _ Tryz.underlying100 hj]
    go_wp2
    go_end0
    exact ⟨rfl, HP.out, Below.refl B _⟩

theorem cells_snoc (l : List UInt8) (c : UInt8) : Lib.byteCells l ++ [.int .u8 c.toNat] = Lib.byteCells (l ++ [c]) := by rw [Lib.byteCells_append]; rfl

set_option maxHeartbeats 2000000 in
set_option maxRecDepth 100000 in
theorem wByte (B b : Nat) (l : List UInt8) (c : UInt8) (w : World) (h : Bl B b l w) (hlen : l.length + 1 ≤ 140737488355328) (hBw : B ≤ w.heap.size) :
    Calls Tryz.prog 73 #[.pointer (some ⟨b, 0, none⟩), .int .u8 c.toNat] w fun e w' => e = .returned .nilIface ∧ Bl B b (l ++ [c]) w' ∧ Below B w w' := by
  obtain ⟨i0, hi, hz0, hz1, hz2⟩ := info_parts u8row
  obtain ⟨x, hx⟩ : ∃ x : Int, x = c.toNat := ⟨_, rfl⟩
  have hcs := cells_snoc l c
  rw [← hx] at hcs ⊢
  have HX := Lib.hid hx; have HC := Lib.hid hcs; clear hx hcs
  have hl1 : (Lib.byteCells l).length = l.length := Lib.byteCells_length l
  go_enter Tryz.func73, Tryz.ntmps73
  go_wp2_with (fail)
  refine (check B b _ _ h).mono ?_
  rintro e w1 ⟨rfl, h1, hb1⟩
  obtain ⟨hB, v, hbk, hown, hne⟩ := h1
  have c0 : w1.cell? ⟨b, 0, none⟩ = some (.pointer (some ⟨b, 0, none⟩)) := by rw [Lib.cell_of_heap hbk]; rfl
  have c1 : w1.cell? ⟨b, 1, none⟩ = some v := by rw [Lib.cell_of_heap hbk]; rfl
  go_wp2_with (at_builtin; refine wpList_append_own _ rfl _ _ 22 rfl B 5 i0 (.int .u8 0) 1 1 Tryz.underlying22 hi hz0 hz1 hz2 rfl (by decide) _ _ _ rfl (hown.alloc _) ⟨w1.heap.size, 0, none⟩ 1 1 [.int .u8 x] rfl rfl ?c1 ?c2 ?c3 ?c4 ?c5 ?_)
  case c1 =>
    intro j u hj
    match j, hj with
    | 0, hj => simp at hj; subst hj; simp [Addr.add]
  case c2 => intro u hu; simp at hu; subst hu; rfl
  case c3 => unfold maxLen; omega
  case c4 => omega
  case c5 => have := hb1.size; simp; omega
  intro v' w2 hown' hgrow _
  have hlt : b < w1.heap.size := by
    rcases Nat.lt_or_ge b w1.heap.size with h' | h'
    · exact h'
    · simp [Array.getElem?_eq_none h'] at hbk
  have hb2 : w2.heap[b]? = some (.cells #[.pointer (some ⟨b, 0, none⟩), v] 102 (0, 0)) := by
    rw [hgrow.block b (by simp; omega) (fun e => hne e.symm), Lib.alloc_old w1 _ b hlt]
    exact hbk
  have d0 : w2.cell? ⟨b, 0, none⟩ = some (.pointer (some ⟨b, 0, none⟩)) := by rw [Lib.cell_of_heap hb2]; rfl
  have d1 : w2.cell? ⟨b, 1, none⟩ = some v := by rw [Lib.cell_of_heap hb2]; rfl
  have f1 : w2.frozen? ⟨b, 1, none⟩ = false := Lib.frozen_of_heap hb2 1
  obtain ⟨g, cap, rfl⟩ : ∃ g cap, v' = .slice (some ⟨g, 0, none⟩) (l.length + 1) cap := by
    rcases hown'.2 with ⟨_, h0⟩ | ⟨g, cap, cur, hv, _⟩
    · omega
    · exact ⟨g, cap, hv⟩
  have HO := Lib.hid hown'; have HG := Lib.hid hgrow; have HW := Lib.hid hown; have HB := Lib.hid hb1; have HK := Lib.hid hb2
  clear hown' hgrow hown hb1 hb2
  go_wp2
  go_ret
  refine ⟨rfl, ?_, ?_⟩
  · refine .inr ?_
    rw [← HC.out]
    exact Lib.BuilderAt.put (T := 102) (e := 5) hB HK.out (bs' := Lib.byteCells l ++ [.int .u8 x]) (by rw [List.length_append, hl1]; exact HO.out) (by decide)
  · exact ((HB.out.alloc (by have := HB.out.size; omega) _).grown HG.out (by have := HB.out.size; simp; omega) (fun k hk => (HW.out.lt k hk).1)).setCell (p := ⟨b, 1, none⟩) hB _

set_option maxHeartbeats 2000000 in
set_option maxRecDepth 100000 in
theorem wText (B b : Nat) (l : List UInt8) (s : ByteArray) (w : World) (h : Bl B b l w) (hlen : l.length + s.size ≤ 140737488355328) (hBw : B ≤ w.heap.size) :
    Calls Tryz.prog 72 #[.pointer (some ⟨b, 0, none⟩), .string s] w fun e w' => e = .returned (.tuple #[.int .i64 s.size, .nilIface]) ∧ Bl B b (l ++ s.data.toList) w' ∧ Below B w w' := by
  obtain ⟨i0, hi, hz0, hz1, hz2⟩ := info_parts u8row
  have hcs : Lib.byteCells l ++ Lib.strCells s = Lib.byteCells (l ++ s.data.toList) := by rw [Lib.byteCells_append, Lib.strCells_eq]
  have HC := Lib.hid hcs; clear hcs
  have hl1 : (Lib.byteCells l).length = l.length := Lib.byteCells_length l
  go_enter Tryz.func72, Tryz.ntmps72
  go_wp2_with (fail)
  refine (check B b _ _ h).mono ?_
  rintro e w1 ⟨rfl, h1, hb1⟩
  obtain ⟨hB, v, hbk, hown, hne⟩ := h1
  have c0 : w1.cell? ⟨b, 0, none⟩ = some (.pointer (some ⟨b, 0, none⟩)) := by rw [Lib.cell_of_heap hbk]; rfl
  have c1 : w1.cell? ⟨b, 1, none⟩ = some v := by rw [Lib.cell_of_heap hbk]; rfl
  go_wp2_with (at_builtin; refine Lib.wpList_append_own_string _ rfl _ _ 22 9 rfl B 5 i0 Tryz.underlying22 Tryz.underlying9 hi hz0 hz1 hz2 _ _ _ rfl hown s rfl ?c3 ?c4 ?c5 ?_)
  case c3 => unfold maxLen; omega
  case c4 => omega
  case c5 => have := hb1.size; omega
  intro v' w2 hown' hgrow _
  have hlt : b < w1.heap.size := by
    rcases Nat.lt_or_ge b w1.heap.size with h' | h'
    · exact h'
    · simp [Array.getElem?_eq_none h'] at hbk
  have hb2 : w2.heap[b]? = some (.cells #[.pointer (some ⟨b, 0, none⟩), v] 102 (0, 0)) := by
    rw [hgrow.block b hlt (fun e => hne e.symm)]
    exact hbk
  have d0 : w2.cell? ⟨b, 0, none⟩ = some (.pointer (some ⟨b, 0, none⟩)) := by rw [Lib.cell_of_heap hb2]; rfl
  have d1 : w2.cell? ⟨b, 1, none⟩ = some v := by rw [Lib.cell_of_heap hb2]; rfl
  have f1 : w2.frozen? ⟨b, 1, none⟩ = false := Lib.frozen_of_heap hb2 1
  obtain ⟨ao, n', cap, rfl⟩ : ∃ ao n' cap, v' = .slice ao n' cap := by
    rcases hown'.2 with ⟨hv, _⟩ | ⟨g, cap, cur, hv, _⟩
    · exact ⟨_, _, _, hv⟩
    · exact ⟨_, _, _, hv⟩
  have HO := Lib.hid hown'; have HG := Lib.hid hgrow; have HW := Lib.hid hown; have HB := Lib.hid hb1; have HK := Lib.hid hb2
  clear hown' hgrow hown hb1 hb2
  go_wp2
  go_ret2
  refine ⟨rfl, ?_, ?_⟩
  · refine .inr ?_
    rw [← HC.out]
    exact Lib.BuilderAt.put (T := 102) (e := 5) hB HK.out (bs' := Lib.byteCells l ++ Lib.strCells s) (by rw [List.length_append, hl1, Lib.strCells_length]; exact HO.out) (by decide)
  · exact (HB.out.grown HG.out (by have := HB.out.size; omega) (fun k hk => (HW.out.lt k hk).1)).setCell (p := ⟨b, 1, none⟩) hB _

theorem text (B b : Nat) (l : List UInt8) (w : World) (h : Bl B b l w) (hBw : B ≤ w.heap.size) :
    Calls Tryz.prog 74 #[.pointer (some ⟨b, 0, none⟩)] w fun e w' => e = .returned (.string ⟨l.toArray⟩) ∧ Below B w w' :=
  (Tryz.Builder_String_any B b l w h hBw).mono fun e w' h => ⟨h.1, h.2⟩

end Go.Proofs.YtakdbfifbkngnaaGreatDoor.bld

/-
  The model's letters, digits and names: what l14Letter, l14Digit, l14Name and IsName return.
  Conditions: the text has at most 2^40 bytes.
-/
namespace Go.Proofs.YtakdbfifbkngnaaGreatDoor.lex
open Go.ChangeShapes Go.WideShapes Go.ChangeAt Go.RowKit
set_option linter.unusedVariables false

def BoS (w : World) (b : Bool) (e : Ending) (w' : World) : Prop := e = .returned (.bool b) ∧ w = w'
theorem drop_s {s : ByteArray} {k : Nat} (h : k < s.size) : s.data.toList.drop k = s[k] :: s.data.toList.drop (k + 1) := lead.drop_at h

theorem letter_s (b : UInt8) (w : World) : Calls Tryz.prog 101 #[.int .u8 b.toNat] w (BoS w (isLn b.toNat)) := by
  have hb0 : (0 : Int) ≤ (b.toNat : Int) := by omega
  have hb9 : (b.toNat : Int) ≤ 255 := by have := b.toNat_lt; omega
  obtain ⟨p, HP⟩ : ∃ p, Hid (nums.inr (b.toNat : Int) 97 122 = p) := ⟨_, Lib.hid rfl⟩
  obtain ⟨q, HQ⟩ : ∃ q, Hid (nums.inr (b.toNat : Int) 65 90 = q) := ⟨_, Lib.hid rfl⟩
  obtain ⟨r, HR⟩ : ∃ r, Hid (((b.toNat : Int) == 95) = r) := ⟨_, Lib.hid rfl⟩
  have HI : Hid (isLn b.toNat = (p || q || r)) := Lib.hid (by
    rw [← HP.out, ← HQ.out, ← HR.out]
    unfold isLn nums.inr
    rw [Bool.eq_iff_iff]
    simp
    omega)
  rw [HI.out]
  have hr := HR.out
  clear HI HR
  cases p <;> cases q <;> cases r
  all_goals
    go_enter Tryz.func101, Tryz.ntmps101
    go_wp2_with (go_at_call 78; refine (nums.l1In _ _ _ _).mono ?_; rintro e w1 ⟨rfl, rfl⟩; first | rw [HP.out] | rw [HQ.out])
    go_ret
    exact ⟨by first | rfl | simp_all, rfl⟩

theorem digit_s (b : UInt8) (w : World) : Calls Tryz.prog 102 #[.int .u8 b.toNat] w (BoS w (isDn b.toNat)) := by
  have hb0 : (0 : Int) ≤ (b.toNat : Int) := by omega
  have hb9 : (b.toNat : Int) ≤ 255 := by have := b.toNat_lt; omega
  have HI : Hid (nums.inr (b.toNat : Int) 48 57 = isDn b.toNat) := Lib.hid (by
    unfold isDn nums.inr
    rw [Bool.eq_iff_iff]
    simp
    omega)
  go_enter Tryz.func102, Tryz.ntmps102
  go_wp2_with (go_at_call 78; refine (nums.l1In _ _ _ _).mono ?_; rintro e w1 ⟨rfl, rfl⟩; rw [HI.out])
  go_ret
  exact ⟨rfl, rfl⟩

/-- The place behind the name at a place. -/
def nameEnd (s : ByteArray) (k : Nat) : Nat := k + nameLen (s.data.toList.drop k)
theorem nameEnd_le (s : ByteArray) (k : Nat) (h : k ≤ s.size) : k ≤ nameEnd s k ∧ nameEnd s k ≤ s.size := by
  have := nameLen_le (s.data.toList.drop k)
  rw [List.length_drop, lead.size_eq] at this
  unfold nameEnd
  omega
def NmI (s : ByteArray) (a k E : Nat) : Prop := (k = a ∧ nameEnd s a = E) ∨ (a < k ∧ k + partLen (s.data.toList.drop k) = E)
theorem NmI.letter {s : ByteArray} {a k E : Nat} (h : NmI s a k E) (hk : k < s.size) (hl : isLn s[k].toNat = true) : NmI s a (k + 1) E := by
  refine .inr ?_
  rcases h with ⟨rfl, h⟩ | ⟨h1, h⟩
  · unfold nameEnd at h
    rw [drop_s hk, nameLen_yes' hl] at h
    omega
  · rw [drop_s hk, partLen_yes (by unfold isPn; rw [hl]; rfl)] at h
    omega
theorem NmI.digit {s : ByteArray} {a k E : Nat} (h : NmI s a k E) (ha : a < k) (hk : k < s.size) (hl : isDn s[k].toNat = true) : NmI s a (k + 1) E := by
  refine .inr ?_
  rcases h with ⟨rfl, h⟩ | ⟨h1, h⟩
  · omega
  · rw [drop_s hk, partLen_yes (by unfold isPn; rw [hl, Bool.or_true])] at h
    omega
theorem NmI.stop {s : ByteArray} {a k E : Nat} (h : NmI s a k E) (hk : k < s.size) (hl : isLn s[k].toNat = false) (hd : a < k → isDn s[k].toNat = false) : k = E := by
  rcases h with ⟨rfl, h⟩ | ⟨h1, h⟩
  · unfold nameEnd at h
    rw [drop_s hk, nameLen_no hl] at h
    omega
  · rw [drop_s hk, partLen_no (by unfold isPn; rw [hl, hd h1]; rfl)] at h
    omega
theorem NmI.fin {s : ByteArray} {a k E : Nat} (h : NmI s a k E) (hk : s.size ≤ k) : k = E := by
  rcases h with ⟨rfl, h⟩ | ⟨h1, h⟩
  · unfold nameEnd at h
    rw [lead.drop_end hk] at h
    simpa [nameLen] using h
  · rw [lead.drop_end hk] at h
    simpa [partLen] using h

set_option maxHeartbeats 1600000 in
set_option maxRecDepth 100000 in
theorem name_s (s : ByteArray) (hs : s.size ≤ 1099511627776) (a : Nat) (ha : a ≤ s.size) (w : World) : Calls Tryz.prog 100 #[.string s, .int .i64 (a : Int)] w fun e w' => e = .returned (.int .i64 ((nameEnd s a : Nat) : Int)) ∧ Below w.heap.size w w' := by
  obtain ⟨E, HE⟩ : ∃ E, Hid (nameEnd s a = E) := ⟨_, Lib.hid rfl⟩
  rw [HE.out]
  go_enter Tryz.func100, Tryz.ntmps100
  go_wp2_with (fail)
  go_loopg [5] (s.size - a) (fun gk v wr => ∃ k : Nat, v = .int .i64 k ∧ gk + k = s.size ∧ a ≤ k ∧ k ≤ s.size ∧ Hid (NmI s a k E) ∧ Hid (Below w.heap.size w wr))
  case atStart => exact ⟨a, rfl, by omega, by omega, ha, Lib.hid (.inl ⟨rfl, HE.out⟩), Lib.hid (Below.refl _ _)⟩
  case round =>
    obtain ⟨k, rfl, hgk, hak, hks, HK, HB⟩ := hrel
    by_cases hlt : k < s.size
    · have hb0 : (0 : Int) ≤ (s[k].toNat : Int) := by omega
      have hb9 : (s[k].toNat : Int) ≤ 255 := by have := s[k].toNat_lt; omega
      obtain ⟨l, HL⟩ : ∃ l, Hid (isLn s[k].toNat = l) := ⟨_, Lib.hid rfl⟩
      obtain ⟨d, HD⟩ : ∃ d, Hid (isDn s[k].toNat = d) := ⟨_, Lib.hid rfl⟩
      cases l
      · by_cases hgt : a < k
        · cases d
          · have HX := Lib.hid (HK.out.stop hlt HL.out fun _ => HD.out)
            go_wp2_with (first
              | (go_at_call 101; refine (letter_s _ _).mono ?_; rintro e w1 ⟨rfl, rfl⟩; rw [HL.out])
              | (go_at_call 102; refine (digit_s _ _).mono ?_; rintro e w1 ⟨rfl, rfl⟩; rw [HD.out]))
            go_ret
            exact ⟨congrArg (fun n : Nat => Ending.returned (.int .i64 (n : Int))) HX.out, HB.out⟩
          · have HX := Lib.hid (HK.out.digit hgt hlt HD.out)
            go_wp2_with (first
              | (go_at_call 101; refine (letter_s _ _).mono ?_; rintro e w1 ⟨rfl, rfl⟩; rw [HL.out])
              | (go_at_call 102; refine (digit_s _ _).mono ?_; rintro e w1 ⟨rfl, rfl⟩; rw [HD.out]))
            go_roundg (s.size - (k + 1))
            case rel => exact ⟨k + 1, by go_num, by omega, by omega, by omega, HX, HB⟩
            case measure => omega
        · obtain rfl : k = a := by omega
          have HX := Lib.hid (HK.out.stop hlt HL.out fun h => by omega)
          go_wp2_with (first
            | (go_at_call 101; refine (letter_s _ _).mono ?_; rintro e w1 ⟨rfl, rfl⟩; rw [HL.out])
            | (go_at_call 102; refine (digit_s _ _).mono ?_; rintro e w1 ⟨rfl, rfl⟩; rw [HD.out]))
          go_ret
          exact ⟨congrArg (fun n : Nat => Ending.returned (.int .i64 (n : Int))) HX.out, HB.out⟩
      · have HX := Lib.hid (HK.out.letter hlt HL.out)
        go_wp2_with (first
          | (go_at_call 101; refine (letter_s _ _).mono ?_; rintro e w1 ⟨rfl, rfl⟩; rw [HL.out])
          | (go_at_call 102; refine (digit_s _ _).mono ?_; rintro e w1 ⟨rfl, rfl⟩; rw [HD.out]))
        go_roundg (s.size - (k + 1))
        case rel => exact ⟨k + 1, by go_num, by omega, by omega, by omega, HX, HB⟩
        case measure => omega
    · obtain rfl : k = s.size := by omega
      have HX := Lib.hid (HK.out.fin (Nat.le_refl _))
      go_wp2_with (fail)
      go_ret
      exact ⟨congrArg (fun n : Nat => Ending.returned (.int .i64 (n : Int))) HX.out, HB.out⟩


end Go.Proofs.YtakdbfifbkngnaaGreatDoor.lex

/-
  Texts as lists of bytes: how they are escaped in each context, how they are read back, and that reading back undoes escaping.
  Conditions: none.
-/
namespace Go.Proofs.YtakdbfifbkngnaaGreatDoor.esc
set_option linter.unusedVariables false

/-- An upper-case hexadecimal digit, and the two of a byte. -/
def dig (n : Nat) : UInt8 := UInt8.ofNat (if n < 10 then 48 + n else 55 + n)
def pair (c : UInt8) : List UInt8 := [dig (c.toNat / 16), dig (c.toNat % 16)]

/-- What stands for a byte; nothing where it stands for itself. -/
def ents : List (UInt8 × List UInt8) := [(38, [38, 97, 109, 112, 59]), (60, [38, 108, 116, 59]), (62, [38, 103, 116, 59]), (34, [38, 113, 117, 111, 116, 59]), (39, [38, 35, 51, 57, 59])]
def ent (c : UInt8) : List UInt8 :=
  if c.toNat = 38 then [38, 97, 109, 112, 59] else if c.toNat = 60 then [38, 108, 116, 59] else if c.toNat = 62 then [38, 103, 116, 59]
  else if c.toNat = 34 then [38, 113, 117, 111, 116, 59] else if c.toNat = 39 then [38, 35, 51, 57, 59] else []
def Plain (n : Nat) : Prop := (65 ≤ n ∧ n ≤ 90) ∨ (97 ≤ n ∧ n ≤ 122) ∨ (48 ≤ n ∧ n ≤ 57) ∨ n = 45 ∨ n = 95 ∨ n = 46 ∨ n = 126
instance (n : Nat) : Decidable (Plain n) := by unfold Plain; infer_instance
def urlQ (c : UInt8) : List UInt8 := if Plain c.toNat then [] else 37 :: pair c
def Bare (n : Nat) : Prop := (32 ≤ n ∧ n ≤ 126) ∧ n ≠ 92 ∧ n ≠ 39 ∧ n ≠ 34 ∧ n ≠ 60 ∧ n ≠ 62 ∧ n ≠ 38
instance (n : Nat) : Decidable (Bare n) := by unfold Bare; infer_instance
def scrQ (c : UInt8) : List UInt8 := if Bare c.toNat then [] else 92 :: 120 :: pair c

def fill (q : UInt8 → List UInt8) (c : UInt8) : List UInt8 := if q c = [] then [c] else q c
def esc (q : UInt8 → List UInt8) (l : List UInt8) : List UInt8 := l.flatMap (fill q)
theorem fill_nil {q : UInt8 → List UInt8} {c : UInt8} (h : q c = []) : fill q c = [c] := if_pos h
theorem fill_not {q : UInt8 → List UInt8} {c : UInt8} (h : q c ≠ []) : fill q c = q c := if_neg h
theorem esc_nil (q) : esc q [] = [] := rfl
theorem esc_cons (q) (c : UInt8) (l : List UInt8) : esc q (c :: l) = fill q c ++ esc q l := by simp [esc]
theorem esc_app (q) (a b : List UInt8) : esc q (a ++ b) = esc q a ++ esc q b := by simp [esc]
theorem esc_one (q) (c : UInt8) : esc q [c] = fill q c := by simp [esc]
theorem esc_step (q) (l : List UInt8) (i : Nat) (h : i < l.length) : esc q (l.take (i + 1)) = esc q (l.take i) ++ fill q (l[i]'h) := by
  rw [List.take_succ_eq_append_getElem h, esc_app, esc_one]
theorem fill_pos (q) (c : UInt8) : 1 ≤ (fill q c).length := by
  unfold fill; split
  · simp
  · rename_i h; exact Nat.pos_of_ne_zero (by simpa using h)
theorem fill_ne (q) (c : UInt8) : fill q c ≠ [] := fun h => by have := fill_pos q c; rw [h] at this; simp at this

/-- At most six bytes stand for one. -/
def Six (q : UInt8 → List UInt8) : Prop := ∀ c, (q c).length ≤ 6
theorem six_ent : Six ent := fun c => by
  have key : ∀ n, n < 256 → (ent (UInt8.ofNat n)).length ≤ 6 := by decide +kernel
  have := key c.toNat c.toNat_lt
  rwa [UInt8.ofNat_toNat] at this
theorem six_url : Six urlQ := fun c => by unfold urlQ pair; split <;> simp
theorem six_scr : Six scrQ := fun c => by unfold scrQ pair; split <;> simp
theorem Six.fill {q} (h : Six q) (c : UInt8) : (fill q c).length ≤ 6 := by
  unfold esc.fill; split
  · simp
  · exact h c
theorem Six.esc {q} (h : Six q) (l : List UInt8) : (esc q l).length ≤ 6 * l.length := by
  induction l with
  | nil => simp [esc_nil]
  | cons c l ih => rw [esc_cons, List.length_append, List.length_cons]; have := h.fill c; omega
theorem Six.take {q} (h : Six q) (l : List UInt8) (i : Nat) : (esc.esc q (l.take i)).length ≤ 6 * i := by
  have := h.esc (l.take i)
  rw [List.length_take] at this
  omega

/-- A hexadecimal digit's value; lower-case ones only where 'small'. -/
def hexv (small : Bool) (c : UInt8) : Option Nat :=
  if 48 ≤ c.toNat ∧ c.toNat ≤ 57 then some (c.toNat - 48) else if 65 ≤ c.toNat ∧ c.toNat ≤ 70 then some (c.toNat - 55)
  else if small = true ∧ 97 ≤ c.toNat ∧ c.toNat ≤ 102 then some (c.toNat - 87) else none
def two (small : Bool) : List UInt8 → Option UInt8
  | a :: b :: _ => (hexv small a).bind fun x => (hexv small b).map fun y => UInt8.ofNat (16 * x + y)
  | _ => none
theorem hexv_lt {s : Bool} {c : UInt8} {x : Nat} (h : hexv s c = some x) : x < 16 := by
  unfold hexv at h
  split at h
  · cases h; omega
  · split at h
    · cases h; omega
    · split at h
      · cases h; omega
      · cases h
theorem hexv_dig (s : Bool) : ∀ k, k < 16 → hexv s (dig k) = some k := by cases s <;> decide
theorem dig_of_hexv {c : UInt8} {x : Nat} (h : hexv false c = some x) : dig x = c := by
  have key : ∀ n, n < 256 → ∀ x, hexv false (UInt8.ofNat n) = some x → dig x = UInt8.ofNat n := by
    have : ∀ n, n < 256 → (hexv false (UInt8.ofNat n)).all (fun x => decide (dig x = UInt8.ofNat n)) = true := by decide +kernel
    intro n hn x hx
    have h2 := this n hn
    rw [hx] at h2
    simpa using h2
  have := key c.toNat c.toNat_lt x (by rw [UInt8.ofNat_toNat]; exact h)
  rwa [UInt8.ofNat_toNat] at this
theorem hexv_small {c : UInt8} {x : Nat} (h : hexv false c = some x) : hexv true c = some x := by
  unfold hexv at h ⊢
  split at h
  · rename_i hc; rw [if_pos hc]; exact h
  · rename_i hc
    rw [if_neg hc]
    split at h
    · rename_i hd; rw [if_pos hd]; exact h
    · simp at h
theorem two_pair (s : Bool) (c : UInt8) (r : List UInt8) : two s (pair c ++ r) = some c := by
  have hc := c.toNat_lt
  show ((hexv s (dig (c.toNat / 16))).bind fun x => (hexv s (dig (c.toNat % 16))).map fun y => UInt8.ofNat (16 * x + y)) = some c
  rw [hexv_dig s _ (by omega), hexv_dig s _ (by omega)]
  show some (UInt8.ofNat (16 * (c.toNat / 16) + c.toNat % 16)) = some c
  rw [show 16 * (c.toNat / 16) + c.toNat % 16 = c.toNat by omega, UInt8.ofNat_toNat]
theorem toNat_join {x y : Nat} (hx : x < 16) (hy : y < 16) : (UInt8.ofNat (16 * x + y)).toNat = 16 * x + y := by
  rw [UInt8.toNat_ofNat']; omega
/-- Upper-case digits alone: the digits of the byte that they give. -/
theorem two_false (l : List UInt8) : two false l = (two true l).bind fun c => if Lib.hasPrefix l (pair c) then some c else none := by
  match l with
  | [] => rfl
  | [a] => rfl
  | a :: b :: r =>
    have hp : ∀ c, Lib.hasPrefix (a :: b :: r) (pair c) = (dig (c.toNat / 16) == a && dig (c.toNat % 16) == b) := fun c => by simp [Lib.hasPrefix, pair, List.isPrefixOf]
    have step : ∀ x y, x < 16 → y < 16 → (UInt8.ofNat (16 * x + y)).toNat / 16 = x ∧ (UInt8.ofNat (16 * x + y)).toNat % 16 = y := fun x y hx hy => by
      rw [toNat_join hx hy]; omega
    show ((hexv false a).bind fun x => (hexv false b).map fun y => UInt8.ofNat (16 * x + y)) = ((hexv true a).bind fun x => (hexv true b).map fun y => UInt8.ofNat (16 * x + y)).bind _
    cases ha : hexv true a with
    | none =>
      cases hf : hexv false a with
      | none => rfl
      | some x => rw [hexv_small hf] at ha; cases ha
    | some x =>
      cases hb : hexv true b with
      | none =>
        cases hf : hexv false b with
        | none => cases hexv false a <;> rfl
        | some y => rw [hexv_small hf] at hb; cases hb
      | some y =>
        have hx := hexv_lt ha
        have hy := hexv_lt hb
        show _ = if Lib.hasPrefix (a :: b :: r) (pair (UInt8.ofNat (16 * x + y))) then some (UInt8.ofNat (16 * x + y)) else none
        rw [hp, (step x y hx hy).1, (step x y hx hy).2]
        cases hfa : hexv false a with
        | none =>
          have : ¬ dig x = a := fun hh => by rw [← hh, hexv_dig false x hx] at hfa; cases hfa
          rw [beq_false_of_ne this]; rfl
        | some x' =>
          obtain rfl : x' = x := Option.some.inj ((hexv_small hfa).symm.trans ha)
          cases hfb : hexv false b with
          | none =>
            have : ¬ dig y = b := fun hh => by rw [← hh, hexv_dig false y hy] at hfb; cases hfb
            rw [beq_false_of_ne this, Bool.and_false]; rfl
          | some y' =>
            obtain rfl : y' = y := Option.some.inj ((hexv_small hfb).symm.trans hb)
            rw [dig_of_hexv hfa, dig_of_hexv hfb, beq_self_eq_true, beq_self_eq_true]; rfl

/-- What stands at the front of a text that is not empty: a byte and how many bytes stand for it. -/
def rdH (l : List UInt8) : Option (UInt8 × Nat) :=
  if (l.headD 0).toNat ≠ 38 then some (l.headD 0, 1) else (ents.find? fun e => Lib.hasPrefix l e.2).map fun e => (e.1, e.2.length)
def rdU (l : List UInt8) : Option (UInt8 × Nat) :=
  if (l.headD 0).toNat = 43 then some (32, 1) else if (l.headD 0).toNat ≠ 37 then some (l.headD 0, 1) else (two true (l.drop 1)).map fun c => (c, 3)
def rdS (l : List UInt8) : Option (UInt8 × Nat) :=
  if (l.headD 0).toNat ≠ 92 then some (l.headD 0, 1) else if ((l.drop 1).headD 0).toNat ≠ 120 then none else (two false (l.drop 2)).map fun c => (c, 4)

/-- A reading takes at least one byte, and no more than there are. -/
def Eats (rd : List UInt8 → Option (UInt8 × Nat)) : Prop := ∀ l c k, l ≠ [] → rd l = some (c, k) → 1 ≤ k ∧ k ≤ l.length
theorem len_of_ne {l : List UInt8} (h : l ≠ []) : 1 ≤ l.length := Nat.pos_of_ne_zero (by simpa using h)
theorem two_len {s : Bool} {l : List UInt8} {c : UInt8} (h : two s l = some c) : 2 ≤ l.length := by
  match l with
  | [] => cases h
  | [_] => cases h
  | _ :: _ :: _ => simp
theorem eats_H : Eats rdH := fun l c k hl h => by
  have h1 := len_of_ne hl
  unfold rdH at h
  split at h
  · cases h; omega
  · obtain ⟨e, he, hk⟩ := Option.map_eq_some_iff.1 h
    have hp := List.find?_some he
    have hm := List.mem_of_find?_eq_some he
    have hle := (List.isPrefixOf_iff_prefix.1 hp).length_le
    cases hk
    refine ⟨?_, hle⟩
    have : ∀ e ∈ ents, 1 ≤ e.2.length := by decide
    exact this e hm
theorem eats_U : Eats rdU := fun l c k hl h => by
  have h1 := len_of_ne hl
  unfold rdU at h
  split at h
  · cases h; omega
  · split at h
    · cases h; omega
    · obtain ⟨e, he, hk⟩ := Option.map_eq_some_iff.1 h
      have := two_len he
      rw [List.length_drop] at this
      cases hk; omega
theorem eats_S : Eats rdS := fun l c k hl h => by
  have h1 := len_of_ne hl
  unfold rdS at h
  split at h
  · cases h; omega
  · split at h
    · cases h
    · obtain ⟨e, he, hk⟩ := Option.map_eq_some_iff.1 h
      have := two_len he
      rw [List.length_drop] at this
      cases hk; omega

/-- The whole text read, piece by piece. -/
def unF (rd : List UInt8 → Option (UInt8 × Nat)) : Nat → List UInt8 → Option (List UInt8)
  | _, [] => some []
  | 0, _ :: _ => none
  | f + 1, c :: r => match rd (c :: r) with
    | none => none
    | some (b, k) => (unF rd f ((c :: r).drop k)).map (b :: ·)
def un (rd : List UInt8 → Option (UInt8 × Nat)) (l : List UInt8) : Option (List UInt8) := unF rd l.length l
theorem unF_fuel {rd} (hE : Eats rd) : ∀ f l, l.length ≤ f → unF rd f l = un rd l := by
  intro f
  induction f using Nat.strongRecOn with
  | _ f ih =>
    intro l hl
    match l, f, hl with
    | [], f, _ => cases f <;> rfl
    | c :: r, 0, hl => simp at hl
    | c :: r, f + 1, hl =>
      rw [un, List.length_cons]
      unfold unF
      cases hr : rd (c :: r) with
      | none => rfl
      | some bk =>
        obtain ⟨b, k⟩ := bk
        obtain ⟨h1, h2⟩ := hE _ b k (by simp) hr
        have hd : ((c :: r).drop k).length ≤ r.length := by rw [List.length_drop, List.length_cons]; omega
        have hr2 : r.length ≤ f := by simpa using hl
        show Option.map _ _ = Option.map _ _
        rw [ih f (by omega) _ (by omega)]
        by_cases hf : r.length < f + 1
        · rw [ih r.length hf _ hd]
        · omega
theorem un_nil (rd) : un rd [] = some [] := rfl
theorem un_none {rd} (hE : Eats rd) {l : List UInt8} (hl : l ≠ []) (h : rd l = none) : un rd l = none := by
  match l, hl with
  | c :: r, _ => rw [un, List.length_cons, unF, h]
theorem un_some {rd} (hE : Eats rd) {l : List UInt8} (hl : l ≠ []) {b : UInt8} {k : Nat} (h : rd l = some (b, k)) : un rd l = (un rd (l.drop k)).map (b :: ·) := by
  match l, hl with
  | c :: r, _ =>
    obtain ⟨h1, h2⟩ := hE _ b k (by simp) h
    rw [un, List.length_cons, unF, h]
    show Option.map _ _ = Option.map _ _
    rw [unF_fuel hE r.length _ (by rw [List.length_drop, List.length_cons]; omega)]
theorem un_len {rd} (hE : Eats rd) : ∀ n l r, l.length ≤ n → un rd l = some r → r.length ≤ l.length := by
  intro n
  induction n with
  | zero => intro l r hl h; obtain rfl : l = [] := by simpa using hl
            cases h; simp
  | succ n ih =>
    intro l r hl h
    by_cases h0 : l = []
    · subst h0; cases h; simp
    · cases hr : rd l with
      | none => rw [un_none hE h0 hr] at h; cases h
      | some bk =>
        obtain ⟨b, k⟩ := bk
        obtain ⟨h1, h2⟩ := hE _ b k h0 hr
        rw [un_some hE h0 hr] at h
        obtain ⟨r', hr', rfl⟩ := Option.map_eq_some_iff.1 h
        have := ih _ r' (by rw [List.length_drop]; omega) hr'
        rw [List.length_drop] at this
        rw [List.length_cons]; omega
/-- In the middle of the text: what has been read stands before what is to come. -/
def pre (a : List UInt8) (o : Option (List UInt8)) : Option (List UInt8) := o.map (a ++ ·)
theorem pre_nil (o) : pre [] o = o := by cases o <;> rfl
theorem pre_none (a) : pre a none = none := rfl
theorem pre_some (a b) : pre a (some b) = some (a ++ b) := rfl
theorem pre_step (a) (b : UInt8) (o) : pre a (o.map (b :: ·)) = pre (a ++ [b]) o := by cases o <;> simp [pre]
theorem mid_some {rd} (hE : Eats rd) {l : List UInt8} {i : Nat} (hi : i < l.length) {a : List UInt8} {b : UInt8} {k : Nat} (h : rd (l.drop i) = some (b, k)) (hm : un rd l = pre a (un rd (l.drop i))) :
    un rd l = pre (a ++ [b]) (un rd (l.drop (i + k))) := by
  have hne : l.drop i ≠ [] := fun hh => by have := congrArg List.length hh; rw [List.length_drop] at this; simp at this; omega
  rw [hm, un_some hE hne h, pre_step, List.drop_drop]
theorem mid_none {rd} (hE : Eats rd) {l : List UInt8} {i : Nat} (hi : i < l.length) {a : List UInt8} (h : rd (l.drop i) = none) (hm : un rd l = pre a (un rd (l.drop i))) : un rd l = none := by
  have hne : l.drop i ≠ [] := fun hh => by have := congrArg List.length hh; rw [List.length_drop] at this; simp at this; omega
  rw [hm, un_none hE hne h]; rfl
theorem mid_end {rd} {l : List UInt8} {i : Nat} (hi : l.length ≤ i) {a : List UInt8} (hm : un rd l = pre a (un rd (l.drop i))) : un rd l = some a := by
  rw [hm, List.drop_of_length_le hi, un_nil, pre_some, List.append_nil]

/-- Reading undoes escaping. -/
def Undoes (rd : List UInt8 → Option (UInt8 × Nat)) (q : UInt8 → List UInt8) : Prop := ∀ c r, rd (fill q c ++ r) = some (c, (fill q c).length)
theorem un_esc {rd q} (hE : Eats rd) (hU : Undoes rd q) (l : List UInt8) : un rd (esc q l) = some l := by
  induction l with
  | nil => rfl
  | cons c l ih =>
    rw [esc_cons, un_some hE (fun h => fill_ne q c (List.append_eq_nil_iff.1 h).1) (hU c _), List.drop_left, ih]
    rfl
theorem undoes_H : Undoes rdH ent := fun c r => by
  by_cases hc : ent c = []
  · rw [fill_nil hc]
    have : c.toNat ≠ 38 := fun hh => by unfold ent at hc; rw [if_pos hh] at hc; cases hc
    show (if c.toNat ≠ 38 then some (c, 1) else _) = some (c, 1)
    rw [if_pos this]
  · rw [fill_not hc]
    have e : ∀ n, c.toNat = n → c = UInt8.ofNat n := fun n h => by rw [← h, UInt8.ofNat_toNat]
    have key : ∀ n, n < 256 → ent (UInt8.ofNat n) ≠ [] → n = 38 ∨ n = 60 ∨ n = 62 ∨ n = 34 ∨ n = 39 := by decide +kernel
    have hk := key c.toNat c.toNat_lt (by rw [UInt8.ofNat_toNat]; exact hc)
    rcases hk with h | h | h | h | h <;> (rw [e _ h]; rfl)
theorem undoes_U : Undoes rdU urlQ := fun c r => by
  by_cases hc : Plain c.toNat
  · have hq : urlQ c = [] := if_pos hc
    rw [fill_nil hq]
    have h1 : c.toNat ≠ 43 := fun hh => by rw [hh] at hc; exact absurd hc (by decide)
    have h2 : c.toNat ≠ 37 := fun hh => by rw [hh] at hc; exact absurd hc (by decide)
    show (if c.toNat = 43 then some (32, 1) else if c.toNat ≠ 37 then some (c, 1) else _) = some (c, 1)
    rw [if_neg h1, if_pos h2]
  · have hq : urlQ c = 37 :: pair c := if_neg hc
    rw [fill_not (by rw [hq]; simp), hq]
    show (two true (pair c ++ r)).map (fun c => (c, 3)) = some (c, 3)
    rw [two_pair]; rfl
theorem undoes_S : Undoes rdS scrQ := fun c r => by
  by_cases hc : Bare c.toNat
  · have hq : scrQ c = [] := if_pos hc
    rw [fill_nil hq]
    have h1 : c.toNat ≠ 92 := fun hh => by rw [hh] at hc; exact absurd hc (by decide)
    show (if c.toNat ≠ 92 then some (c, 1) else _) = some (c, 1)
    rw [if_pos h1]
  · have hq : scrQ c = 92 :: 120 :: pair c := if_neg hc
    rw [fill_not (by rw [hq]; simp), hq]
    show (two false (pair c ++ r)).map (fun c => (c, 4)) = some (c, 4)
    rw [two_pair]; rfl

end Go.Proofs.YtakdbfifbkngnaaGreatDoor.esc

/-
  The project's escaper and unescaper, whatever function they are given: they escape a text byte by byte, and read it back piece by piece.
  Conditions: the text has at most 2^40 bytes; the given function returns what stands for a byte, or what stands at the front of a text, and only makes memory.
-/
namespace Go.Proofs.YtakdbfifbkngnaaGreatDoor.seq
open Go.ChangeShapes Go.WideShapes Go.ChangeAt Go.RowKit
set_option linter.unusedVariables false

abbrev tx (l : List UInt8) : ByteArray := ⟨l.toArray⟩
theorem tx_size (l : List UInt8) : (tx l).size = l.length := rfl
theorem tx_eta (s : ByteArray) : tx s.data.toList = s := Joins.bytes_eta s
theorem tx_empty {l : List UInt8} (h : l ≠ []) : (tx l).toList.isEmpty = false := by
  rw [ByteArray.toList_eq]
  cases l with
  | nil => exact absurd rfl h
  | cons a l => rfl
theorem len_eq (s : ByteArray) : s.data.toList.length = s.size := Array.length_toList

/-- A call that returns a text and only makes memory. -/
def StrQ (w : World) (l : List UInt8) (e : Ending) (w' : World) : Prop := e = .returned (.string (tx l)) ∧ Below w.heap.size w w'

/-- What a function must do to be given to the escaper; E is what it wants of the world. -/
structure Seqs (E : World → Prop) (F : FuncId) (q : UInt8 → List UInt8) : Prop where
  six : esc.Six q
  enters : ∀ args w, (callFunc F args).run Tryz.prog w = .ok (.enter F args) w
  calls : ∀ (c : UInt8) (w : World), E w → Calls Tryz.prog F #[.int .u8 c.toNat] w (StrQ w (q c))
def Stays (E : World → Prop) : Prop := ∀ w w', E w → Below w.heap.size w w' → E w'

set_option maxHeartbeats 1000000 in
theorem escB {E : World → Prop} (hE : Stays E) {F : FuncId} {q : UInt8 → List UInt8} (hF : Seqs E F q) (s : ByteArray) (hs : s.size ≤ 1099511627776) (w : World) (hw : E w) :
    Calls Tryz.prog 37 #[.string s, .func (.func F) #[] #[]] w (StrQ w (esc.esc q s.data.toList)) := by
  have hen := hF.enters
  have HF := Lib.hid hF; have HW := Lib.hid hw; have HE := Lib.hid hE; clear hF hw hE
  go_enter Tryz.func37, Tryz.ntmps37
  go_wp2_with (fail)
  go_loopw [10] (fun i wr => ∃ k : Nat, i = .int .i64 k ∧ k ≤ s.size ∧ Hid (bld.Bl w.heap.size w.heap.size (esc.esc q (s.data.toList.take k)) wr) ∧ Hid (Below w.heap.size w wr)) (fun i _ => s.size - (intOf i).toNat)
  case atStart => exact ⟨0, rfl, by omega, bld.new_ w, (Below.refl _ _).alloc (Nat.le_refl _) _⟩
  case round =>
    obtain ⟨k, rfl, hk, HBl, HB⟩ := hrel
    by_cases hlt : k < s.size
    · obtain ⟨t, ht⟩ : ∃ t, t = tx (q s[k]) := ⟨_, rfl⟩
      have hstep : esc.esc q (s.data.toList.take (k + 1)) = esc.esc q (s.data.toList.take k) ++ esc.fill q s[k] := esc.esc_step q s.data.toList k (by rw [len_eq]; exact hlt)
      have hlen := HF.out.six.take s.data.toList k
      have ht6 : t.size ≤ 6 := by rw [ht, tx_size]; exact HF.out.six _
      have HS := Lib.hid hstep; have HL := Lib.hid hlen; have HT := Lib.hid ht; clear hstep hlen ht
      go_wp2_with (fail)
      refine (HF.out.calls s[k] wr (HE.out _ _ HW.out HB.out)).mono ?_
      rintro e w1 ⟨he, hb1⟩
      rw [← HT.out] at he
      subst he
      have HB1 := Lib.hid (HB.out.trans (hb1.mono HB.out.size)); have HBl1 := Lib.hid (HBl.out.below hb1); clear hb1
      by_cases hq : q s[k] = []
      · have hte : t = ⟨#[]⟩ := by rw [HT.out, hq]
        subst hte
        have HQ := Lib.hid (esc.fill_nil hq); clear hq
        go_wp2_with (fail)
        refine (bld.wByte w.heap.size w.heap.size _ s[k] _ HBl1.out (by have := HL.out; omega) HB1.out.size).mono ?_
        rintro e w2 ⟨rfl, hbl, hb2⟩
        have HB2 := Lib.hid (HB1.out.trans hb2); have HBl2 := Lib.hid hbl; clear hbl hb2
        go_wp2
        go_roundw
        case measure => first | (simp only [RowKit.intOf]; omega) | (have e : ∀ x : Int, intOf (.int .i64 x) = x := fun _ => rfl; simp only [e]; omega)
        case rel => exact ⟨k + 1, rfl, by omega, by show bld.Bl _ _ _ _; rw [HS.out, HQ.out]; exact HBl2.out, HB2.out⟩
      · have hte : t.toList.isEmpty = false := by rw [HT.out]; exact tx_empty hq
        have HQ := Lib.hid (esc.fill_not hq); clear hq
        go_wp2_with (fail)
        refine (bld.wText w.heap.size w.heap.size _ t _ HBl1.out (by have := HL.out; omega) HB1.out.size).mono ?_
        rintro e w2 ⟨rfl, hbl, hb2⟩
        have HB2 := Lib.hid (HB1.out.trans hb2); have HBl2 := Lib.hid hbl; clear hbl hb2
        go_wp2
        go_roundw
        case measure => first | (simp only [RowKit.intOf]; omega) | (have e : ∀ x : Int, intOf (.int .i64 x) = x := fun _ => rfl; simp only [e]; omega)
        case rel => exact ⟨k + 1, rfl, by omega, by show bld.Bl _ _ _ _; rw [HS.out, HQ.out]; have := HBl2.out; rw [HT.out] at this; exact this, HB2.out⟩
    · obtain rfl : k = s.size := by omega
      have HA : Hid (esc.esc q (s.data.toList.take s.size) = esc.esc q s.data.toList) := by show _ = _; rw [List.take_of_length_le (by rw [len_eq]; omega)]
      go_wp2_with (fail)
      refine (bld.text w.heap.size w.heap.size _ _ HBl.out HB.out.size).mono ?_
      rintro e w2 ⟨rfl, hb2⟩
      rw [HA.out]
      have HB2 := Lib.hid (HB.out.trans hb2); clear hb2
      go_wp2
      go_ret
      exact ⟨rfl, HB2.out⟩

/-- What a function gives back that reads the front of a text. -/
def RdE (o : Option (UInt8 × Nat)) (e : Ending) : Prop :=
  (o = none ∧ ∃ (c : Int) (k : Int), e = .returned (.tuple #[.int .u8 c, .int .i64 k, .bool false])) ∨
  (∃ (b : UInt8) (k : Nat), o = some (b, k) ∧ e = .returned (.tuple #[.int .u8 b.toNat, .int .i64 k, .bool true]))
structure Reads (E : World → Prop) (F : FuncId) (rd : List UInt8 → Option (UInt8 × Nat)) : Prop where
  eats : esc.Eats rd
  enters : ∀ args w, (callFunc F args).run Tryz.prog w = .ok (.enter F args) w
  calls : ∀ (s : ByteArray) (w : World), E w → s.size ≤ 1099511627776 → s.size ≠ 0 → Calls Tryz.prog F #[.string s] w fun e w' => RdE (rd s.data.toList) e ∧ Below w.heap.size w w'
/-- What an unescaper gives back. -/
def UnQ (w : World) (o : Option (List UInt8)) (e : Ending) (w' : World) : Prop := e = .returned (.tuple #[.string (tx (o.getD [])), .bool o.isSome]) ∧ Below w.heap.size w w'

def strSize : Value → Nat
  | .string t => t.size
  | _ => 0
theorem empty_of {t : ByteArray} (h : t.size = 0) : t = ⟨#[]⟩ := by
  apply ByteArray.ext
  exact Array.eq_empty_of_size_eq_zero h
theorem isEmpty_of {t : ByteArray} (h : t.size ≠ 0) : t.toList.isEmpty = false := by
  have := tx_empty (l := t.data.toList) (fun hh => h (by rw [← len_eq, hh]; rfl))
  rwa [tx_eta] at this


end Go.Proofs.YtakdbfifbkngnaaGreatDoor.seq

/-
  What QuoteText of the project and of the model returns: the text between two marks, with a backslash ahead of each mark and each backslash.
  Conditions: the text has at most 2^40 bytes.
-/
namespace Go.Proofs.YtakdbfifbkngnaaGreatDoor.seq
open Go.ChangeShapes Go.WideShapes Go.ChangeAt Go.RowKit mem
set_option linter.unusedVariables false

def quoQ (c : UInt8) : List UInt8 := if c = 39 then [92, 39] else if c = 92 then [92, 92] else []
theorem six_quo : esc.Six quoQ := fun c => by unfold quoQ; split <;> first | (split <;> simp) | simp
theorem quo_none {c : UInt8} (h1 : c ≠ 39) (h2 : c ≠ 92) : quoQ c = [] := by unfold quoQ; rw [if_neg h1, if_neg h2]
theorem fill_quo_none {c : UInt8} (h1 : c ≠ 39) (h2 : c ≠ 92) : esc.fill quoQ c = [c] := esc.fill_nil (quo_none h1 h2)
theorem fill_quo_yes {c : UInt8} (h : c = 39 ∨ c = 92) : esc.fill quoQ c = [92, c] := by rcases h with rfl | rfl <;> rfl
/-- A quoted text. -/
def quoL (l : List UInt8) : List UInt8 := 39 :: (esc.esc quoQ l ++ [39])
theorem quoL_len (l : List UInt8) : (quoL l).length ≤ 6 * l.length + 2 := by have := six_quo.esc l; unfold quoL; simp; omega
theorem stays_any : Stays (fun _ => True) := fun _ _ _ _ => trivial
theorem byte_eq {c : UInt8} {n : Nat} (hn : n < 256) : c = UInt8.ofNat n ↔ c.toNat = n :=
  ⟨fun h => by rw [h]; exact Nat.mod_eq_of_lt hn, fun h => by rw [← h, UInt8.ofNat_toNat]⟩
theorem ne39 {c : UInt8} (h : c ≠ 39) : ¬ (c.toNat : Int) = 39 := fun e => h ((byte_eq (n := 39) (by omega)).2 (by omega))
theorem ne92 {c : UInt8} (h : c ≠ 92) : ¬ (c.toNat : Int) = 92 := fun e => h ((byte_eq (n := 92) (by omega)).2 (by omega))

theorem quotedSeq (c : UInt8) (w : World) : Calls Tryz.prog 38 #[.int .u8 c.toNat] w (StrQ w (quoQ c)) := by
  by_cases h1 : c = 39
  · subst h1
    go_enter Tryz.func38, Tryz.ntmps38
    go_wp2
    go_ret
    exact ⟨rfl, Below.refl _ _⟩
  · by_cases h2 : c = 92
    · subst h2
      go_enter Tryz.func38, Tryz.ntmps38
      go_wp2
      go_ret
      exact ⟨rfl, Below.refl _ _⟩
    · have n1 := ne39 h1
      have n2 := ne92 h2
      have HQ := Lib.hid (quo_none h1 h2)
      clear h1 h2
      go_enter Tryz.func38, Tryz.ntmps38
      go_wp2
      go_ret
      exact ⟨by rw [HQ.out]; rfl, Below.refl _ _⟩
theorem quoSeq : Seqs (fun _ => True) 38 quoQ := ⟨six_quo, enters_of Tryz.func38 (by kernel_rfl) rfl, fun c w _ => quotedSeq c w⟩

theorem app_tx' (a b : List UInt8) : tx a ++ tx b = tx (a ++ b) := by
  apply ByteArray.ext
  simp [tx]
theorem quo_i (s : ByteArray) (hs : s.size ≤ 1099511627776) (w : World) :
    Calls Tryz.prog 11 #[.string s] w (StrQ w (quoL s.data.toList)) := by
  obtain ⟨t, ht⟩ : ∃ t, t = tx (esc.esc quoQ s.data.toList) := ⟨_, rfl⟩
  have h6 := six_quo.esc s.data.toList
  have hsz : t.size ≤ 6597069766656 := by rw [ht, tx_size]; rw [len_eq] at h6; omega
  have HT : Hid ((⟨#[39]⟩ ++ t) ++ ⟨#[39]⟩ = tx (quoL s.data.toList)) := Lib.hid (by
    rw [ht, show (⟨#[39]⟩ : ByteArray) = tx [39] from rfl, app_tx', app_tx']; rfl)
  have H := Lib.hid ht
  clear ht h6
  go_enter Tryz.func11, Tryz.ntmps11
  go_wp2_with (fail)
  refine (escB stays_any quoSeq s hs _ trivial).mono ?_
  rintro e w1 ⟨he, hb⟩
  obtain rfl : e = .returned (.string t) := he.trans (by rw [H.out])
  have HB := Lib.hid hb
  clear he hb
  go_wp2
  go_ret
  exact ⟨by rw [← HT.out]; rfl, HB.out⟩

def num (l : List UInt8) : List Int := l.map fun b => (b.toNat : Int)
theorem num_len (l : List UInt8) : (num l).length = l.length := List.length_map _
theorem num_snoc (l : List UInt8) (b : UInt8) : num (l ++ [b]) = num l ++ [(b.toNat : Int)] := List.map_append
theorem num_tx (l : List UInt8) : strOfNums (num l) = tx l := by
  have := mem.strOf_txt (tx l)
  rwa [show mem.txt (tx l) = num l from by unfold mem.txt num tx; rfl] at this


end Go.Proofs.YtakdbfifbkngnaaGreatDoor.seq

/-
  How a slice of bytes that came in is opened, and the last step of every law: a call that returns true and changes nothing that was there meets its row.
  Conditions: those that each theorem names.
-/
namespace Go.Proofs.YtakdbfifbkngnaaGreatDoor.opn
open Go.ChangeShapes Go.WideShapes Go.ChangeAt Go.RowKit mem
set_option linter.unusedVariables false

section
variable {H : Type} {enc : TypeId × Value → H} {P : Program}

theorem all_stay (hl : laidOutB P = true) {W W' : World} (hb : Below W.heap.size W W') : ∀ (ts : List TypeId) (vs : List Value) (ds : List (DataW H)) (ps : List MemPlace),
    (∀ t ∈ ts, P.readableRec t = true ∧ t < P.types.size) → (∀ x ∈ ps, x.block < W.heap.size) → DataW.TrodAll enc P W 0 (fun _ => true) true ts vs ds ps →
    DataW.TrodAll enc P W' 0 (fun b => decide (b < W.heap.size)) true ts vs ds ps
  | [], vs, ds, ps, _, _, h => by
    obtain ⟨rfl, rfl, rfl⟩ := trodAll_nil h
    exact trodAll_mk0
  | t :: ts, vs, ds, ps, hr, hlt, h => by
    obtain ⟨v, vs', d, ds', p, q, rfl, rfl, rfl, h0, h1⟩ := trodAll_cons h
    have ht := hr t List.mem_cons_self
    exact trodAll_cons_mk (Below.trod hl ht.1 ht.2 h0 hb (fun x hx => hlt x (List.mem_append_left _ hx)))
      (all_stay hl hb ts vs' ds' q (fun u hu => hr u (List.mem_cons_of_mem _ hu)) (fun x hx => hlt x (List.mem_append_right _ hx)) h1)

/-- A law's post, from what its walk gives. -/
theorem post_true {f : Func} {s : ChangeSpec} {W W' : World} {args : Array Value} {ds : List (DataW H)} {before : List MemPlace} {tb : TypeId}
    (hW : DataW.Whole enc P f.params.toList s.vars false W args.toList ds [] before) (hv : s.vars = []) (hp : DataW.TrodAll enc P W 0 (fun _ => true) true f.params.toList args.toList ds before)
    (hfn : s.fn H (ds ++ []) = { results := [.lit (.bool true)], args := ds }) (hr : f.resultTypes = #[tb]) (htb : P.underlying tb = some .bool)
    (hl : laidOutB P = true) (hrd : f.params.toList.all (fun t => P.readableRec t && decide (t < P.types.size)) = true) (hb : Below W.heap.size W W') :
    s.post enc P f false true false false W args (.bool true) W' := by
  have hst := all_stay (enc := enc) hl hb f.params.toList args.toList ds before (fun t ht => by have := List.all_eq_true.1 hrd t ht; simpa using this) (fun x hx => hW.lt x hx) hp
  refine ⟨ds, [], before, [], before, [], hW, ?_, ?_, ?_, hb.frame _, fun h => by cases h⟩
  · rw [hfn, hr]
    exact trodAll_mk1 (shut_bool htb _)
  · rw [hfn]
    exact hst
  · rw [hfn, hv]
    rfl

theorem wf_u8 {n : Int} (h : (Lit.int .u8 n).wf = true) : 0 ≤ n ∧ n ≤ 255 := by
  have e1 : IntKind.u8.min = 0 := rfl
  have e2 : IntKind.u8.max = 255 := rfl
  simp [Lit.wf, e1, e2] at h
  omega

/-- A slice of bytes that came in. -/
theorem open_bytes {W : World} {base : Nat} {t e : TypeId} {v : Value} {d : DataW H} {ps : List MemPlace} (ht : P.underlying t = some (.slice e)) (he : P.underlying e = some (.int .u8)) (hc : P.cellsOf e = 1)
    (hval : Value.okWide P W .any base t v) (h : DataW.Trod enc P W 0 (fun _ => true) true t v d ps) :
    ∃ (A : Option Addr) (n c : Nat) (l : List Int), v = .slice A n c ∧ n ≤ maxLen ∧ Rd W A n l := by
  obtain ⟨A, n, c, rfl⟩ := okWide_slice ht hval
  obtain ⟨fuel, hf⟩ := h
  rcases open_ints ht he hc hf with ⟨hcs, _⟩ | ⟨a, len, cap, zs, hcs, _, hl, hm, hz, _, hcell, hwz⟩
  · simp [Value.cells] at hcs
    obtain ⟨rfl, rfl, rfl⟩ := hcs
    exact ⟨none, 0, 0, [], rfl, Nat.zero_le _, rfl, (fun _ h => by cases h), fun hn => absurd hn (by omega)⟩
  · simp [Value.cells] at hcs
    obtain ⟨rfl, rfl, rfl⟩ := hcs
    simp only [if_true] at hz
    have hle : n ≤ zs.length := by omega
    refine ⟨some a, n, c, zs.take n, rfl, by omega, by rw [List.length_take]; omega, fun x hx => wf_u8 (hwz x (List.mem_of_mem_take hx)), fun hn => ⟨a, rfl, fun j x hx => ?_⟩⟩
    have hj : j < n := by
      have := (List.getElem?_eq_some_iff.1 hx).1
      rw [List.length_take] at this
      omega
    rw [List.getElem?_take, if_pos hj] at hx
    have hcj := hcell j (by omega)
    rw [hcj]
    simp [List.getD, hx]
end
end Go.Proofs.YtakdbfifbkngnaaGreatDoor.opn

/-
  The last step of a law whose row says that package variables of the project read as they did.
  Conditions: those that each theorem names.
-/
namespace Go.Proofs.YtakdbfifbkngnaaGreatDoor.opn
open Go.ChangeShapes Go.WideShapes Go.ChangeAt Go.RowKit mem
set_option linter.unusedVariables false

section
variable {H : Type} {enc : TypeId × Value → H} {P : Program}

theorem vars_stay (hl : laidOutB P = true) {W W' : World} (hb : Below W.heap.size W W') : ∀ (ns : List String) (gs : List (DataW H)) (ps : List MemPlace),
    (∀ n ∈ ns, ∀ g t, P.globalNamed n = some g → (P.globals[g]?).map (·.type) = some t → P.readableRec t = true ∧ t < P.types.size) → (∀ x ∈ ps, x.block < W.heap.size) → DataW.TrodVars enc P W (fun _ => true) ns gs ps →
    DataW.TrodVars enc P W' (fun b => decide (b < W.heap.size)) ns gs ps
  | [], [], _, _, _, h => h
  | [], _ :: _, _, _, _, h => by cases h
  | _ :: _, [], _, _, _, h => by cases h
  | n :: ns, d :: ds, ps, hr, hlt, ⟨g, t, cs, fuel, p, q, h1, h2, h3, h4, hs, e⟩ => by
    obtain ⟨r1, r2⟩ := hr n List.mem_cons_self g t h1 h2
    have hT : DataW.Trod enc P W 0 (fun _ => true) true t (.agg cs) d p := ⟨fuel, h4⟩
    obtain ⟨fuel', h5⟩ := Below.trod hl r1 r2 hT hb (fun x hx => hlt x (by rw [e]; exact List.mem_append_left _ (List.mem_append_right _ hx)))
    exact ⟨g, t, cs, fuel', p, q, h1, h2, Joins.var_stays h1 h3 hb (Nat.le_refl _), h5, vars_stay hl hb ns ds q (fun m hm => hr m (List.mem_cons_of_mem _ hm)) (fun x hx => hlt x (by rw [e]; exact List.mem_append_right _ hx)) hs, e⟩

/-- A law's post, from what its walk gives; its row names package variables. -/
theorem post_true_vars {f : Func} {s : ChangeSpec} {W W' : World} {args : Array Value} {ds gs : List (DataW H)} {p q : List MemPlace} {tb : TypeId}
    (hW : DataW.Whole enc P f.params.toList s.vars false W args.toList ds gs (p ++ q)) (hp : DataW.TrodAll enc P W 0 (fun _ => true) true f.params.toList args.toList ds p) (hq : DataW.TrodVars enc P W (fun _ => true) s.vars gs q)
    (hfn : s.fn H (ds ++ gs) = { results := [.lit (.bool true)], args := ds, vars := gs }) (hr : f.resultTypes = #[tb]) (htb : P.underlying tb = some .bool)
    (hl : laidOutB P = true) (hrd : f.params.toList.all (fun t => P.readableRec t && decide (t < P.types.size)) = true)
    (hrv : s.vars.all (fun n => match P.globalNamed n with | none => true | some g => match (P.globals[g]?).map (·.type) with | none => true | some t => P.readableRec t && decide (t < P.types.size)) = true) (hb : Below W.heap.size W W') :
    s.post enc P f false true false false W args (.bool true) W' := by
  have hst := all_stay (enc := enc) hl hb f.params.toList args.toList ds p (fun t ht => by have := List.all_eq_true.1 hrd t ht; simpa using this) (fun x hx => hW.lt x (List.mem_append_left _ hx)) hp
  have hsv := vars_stay (enc := enc) hl hb s.vars gs q (fun n hn g t h1 h2 => by
    have := List.all_eq_true.1 hrv n hn
    rw [h1] at this
    simp only [h2] at this
    simpa using this) (fun x hx => hW.lt x (List.mem_append_right _ hx)) hq
  refine ⟨ds, gs, p ++ q, [], p, q, hW, ?_, ?_, ?_, hb.frame _, fun h => by cases h⟩
  · rw [hfn, hr]
    exact trodAll_mk1 (shut_bool htb _)
  · rw [hfn]
    exact hst
  · rw [hfn]
    exact hsv

end
end Go.Proofs.YtakdbfifbkngnaaGreatDoor.opn

