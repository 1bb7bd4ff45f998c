/-
  A list of items copied into a new block, of the project.
  Conditions: those that each theorem names.
-/
import Derived.Test.YtbgffmiffmmohaaGreatDoorSpB4
import Derived.Test.YtbgffmiffmmohaaGreatDoorSpSGraph
import Derived.Laws.CopyRow
import Derived.Lib.SliceRun
namespace Go.Proofs.YtbgffmiffmmohaaGreatDoor.tree
open Go.ChangeShapes Go.WideShapes Go.ChangeAt Go.RowKit
set_option linter.unusedVariables false

/-- 'copy' of items: all cells of n items go over. -/
theorem run_copy_8 {P : Program} (w : World) (dT sT ty elem : TypeId) (g o dLen dCap : Nat) (a : Addr) (sLen sCap : Nat) (cur : Array Value) (t : TypeId) (cs : List Value) (n : Nat)
    (hu : P.underlying dT = some (.slice elem)) (hs : (P.info? elem).map (·.size) = some 8) (hg : w.heap[g]? = some (.cells cur t (0, 0))) (hn : n = Nat.min sLen dLen) (hl : cs.length = n * 8)
    (hsrc : ∀ j v, cs[j]? = some v → w.cell? (a.add j) = some v) (ho : o + cs.length ≤ cur.size) (h1 : ∀ v ∈ cs, v.oneCell' = true) :
    (Builtin.copy_ #[dT, sT] ty #[.slice (some ⟨g, o, none⟩) dLen dCap, .slice (some a) sLen sCap]).run P w = .ok (goInt n) (w.setRow g (cur.toList.take o ++ cs ++ cur.toList.drop (o + cs.length)).toArray) := by
  have hld := run_loadCells_list (P := P) w a cs hsrc
  have hst := run_storeCells_at (P := P) g o t cs 0 cur w hg (by simpa using ho) h1
  cases hq : P.info? elem with
  | none => simp [hq] at hs
  | some i =>
    have hi : i.size = 8 := by simpa [hq] using hs
    rw [hl] at hld
    simp only [Nat.add_zero] at hst
    simp [Builtin.copy_, run_underlying hu, Builtin.lenOf, Builtin.firstCells, sizeOf, typeInfo, hq, hi, ← hn, hld, hst]

/-- The cells of a list of items. -/
theorem IsIn.cells {w : World} {S : Nat → Prop} {ks : List Ky} {vs : List Tr} {a : Addr} (h : IsIn w S ks vs (some a)) :
    ∃ cs : List Value, cs.length = vs.length * 8 ∧ (∀ j v, cs[j]? = some v → w.cell? (a.add j) = some v) ∧ (∀ v ∈ cs, v.oneCell' = true) ∧
      ∀ i, i < vs.length → ∃ y k n s x ks' vs' A c, ks[i]? = some y ∧ vs[i]? = some (.mk k n s x ks' vs') ∧ (I64 y.num ∧ y.str.size ≤ maxLen) ∧ (I64 k ∧ I64 n ∧ I64 x ∧ s.size ≤ maxLen) ∧ xAt8 cs i y k n s x A vs'.length c ∧ TIn w S (.mk k n s x ks' vs') (vV k n s x A vs'.length c) := by
  have one : ∀ i q, i < vs.length → q < 8 → ∃ u, w.cell? (a.add (i * 8 + q)) = some u ∧ u.oneCell' = true := by
    intro i q hi hq
    obtain ⟨a', y, k, n, s, x, ks', vs', A', c', e, -, -, -, -, -, -, -, hc⟩ := h.item hi
    obtain rfl := Option.some.inj e
    have sp : ∀ j, j ≠ 0 → a.add (i * 8 + j) = ⟨(a.add (i * 8)).block, (a.add (i * 8)).off + j, none⟩ := fun j hj => by rw [← add_add', add_pos _ _ hj]
    match q, hq with
    | 0, _ => exact ⟨_, hc.c0, rfl⟩
    | 1, _ => exact ⟨_, (sp 1 (by omega)).symm ▸ hc.c1, rfl⟩
    | 2, _ => exact ⟨_, (sp 2 (by omega)).symm ▸ hc.c2, rfl⟩
    | 3, _ => exact ⟨_, (sp 3 (by omega)).symm ▸ hc.c3, rfl⟩
    | 4, _ => exact ⟨_, (sp 4 (by omega)).symm ▸ hc.c4, rfl⟩
    | 5, _ => exact ⟨_, (sp 5 (by omega)).symm ▸ hc.c5, rfl⟩
    | 6, _ => exact ⟨_, (sp 6 (by omega)).symm ▸ hc.c6, rfl⟩
    | 7, _ => exact ⟨_, (sp 7 (by omega)).symm ▸ hc.c7, rfl⟩
  have get : ∀ j, ((List.range (vs.length * 8)).map fun j => (w.cell? (a.add j)).getD undef)[j]? = if j < vs.length * 8 then some ((w.cell? (a.add j)).getD undef) else none := by
    intro j
    rw [List.getElem?_map]
    split
    · rename_i hj; rw [List.getElem?_range hj]; rfl
    · rename_i hj; rw [List.getElem?_eq_none (by rw [List.length_range]; omega)]; rfl
  refine ⟨(List.range (vs.length * 8)).map fun j => (w.cell? (a.add j)).getD undef, by simp, fun j v hv => ?_, fun v hv => ?_, fun i hi => ?_⟩
  · rw [get] at hv
    split at hv
    · rename_i hj
      obtain ⟨u, hu, -⟩ := one (j / 8) (j % 8) (by omega) (by omega)
      rw [show j / 8 * 8 + j % 8 = j by omega] at hu
      rw [hu] at hv ⊢
      exact hv
    · cases hv
  · obtain ⟨j, hj, rfl⟩ := List.mem_map.1 hv
    rw [List.mem_range] at hj
    obtain ⟨u, hu, h1⟩ := one (j / 8) (j % 8) (by omega) (by omega)
    rw [show j / 8 * 8 + j % 8 = j by omega] at hu
    rw [hu]
    exact h1
  · obtain ⟨a', y, k, n, s, x, ks', vs', A', c', e, -, hy, ht, hti, hyb, hkb, -, hc⟩ := h.item hi
    obtain rfl := Option.some.inj e
    refine ⟨y, k, n, s, x, ks', vs', A', c', hy, ht, hyb, hkb, fun q hq => ?_, hti⟩
    have sp : ∀ j, j ≠ 0 → a.add (i * 8 + j) = ⟨(a.add (i * 8)).block, (a.add (i * 8)).off + j, none⟩ := fun j hj => by rw [← add_add', add_pos _ _ hj]
    rw [get, if_pos (by omega)]
    match q, hq with
    | 0, _ => rw [Nat.add_zero, hc.c0]; rfl
    | 1, _ => rw [sp 1 (by omega), hc.c1]; rfl
    | 2, _ => rw [sp 2 (by omega), hc.c2]; rfl
    | 3, _ => rw [sp 3 (by omega), hc.c3]; rfl
    | 4, _ => rw [sp 4 (by omega), hc.c4]; rfl
    | 5, _ => rw [sp 5 (by omega), hc.c5]; rfl
    | 6, _ => rw [sp 6 (by omega), hc.c6]; rfl
    | 7, _ => rw [sp 7 (by omega), hc.c7]; rfl

/-- Items in a row, whose own lists lie where they lay. -/
def Shal (w : World) (S : Nat → Prop) (g : Nat) (ks : List Ky) (vs : List Tr) : Prop :=
  ∃ arr2, w.heap[g]? = some (.cells arr2 IE (0, 0)) ∧ vs.length * 8 ≤ arr2.size ∧ ∀ i y2 k2 n2 s2 x2 ks2 vs2, ks[i]? = some y2 → vs[i]? = some (.mk k2 n2 s2 x2 ks2 vs2) → ∃ A2 c2, (I64 y2.num ∧ y2.str.size ≤ maxLen) ∧ (I64 k2 ∧ I64 n2 ∧ I64 x2 ∧ s2.size ≤ maxLen) ∧ ks2.length = vs2.length ∧ (vs2.length ≤ c2 ∧ c2 ≤ maxLen) ∧ At8r arr2 i y2 k2 n2 s2 x2 A2 vs2.length c2 ∧ IsIn w S ks2 vs2 A2

def CiQ (w : World) (S : Nat → Prop) (ks : List Ky) (vs : List Tr) (L : Nat) (e : Ending) (w' : World) : Prop :=
  ∃ A' c', e = .returned (.slice A' L c') ∧ (L ≤ c' ∧ c' ≤ maxLen) ∧ (0 < L → ∃ g, A' = some ⟨g, 0, none⟩ ∧ w.heap.size ≤ g ∧ Shal w' S g ks vs) ∧ Below w.heap.size w w'

theorem setRow_size (w : World) (g : Nat) (cur : Array Value) : (w.setRow g cur).heap.size = w.heap.size := by unfold World.setRow; simp
theorem setRow_other {w : World} {g k : Nat} {cur : Array Value} (h : k ≠ g) : (w.setRow g cur).heap[k]? = w.heap[k]? := by
  unfold World.setRow
  simp only [Array.getElem?_modify]
  rw [if_neg (Ne.symm h)]
theorem setRow_below {w w' : World} {B g : Nat} (h : Below B w w') (hg : B ≤ g) (cur : Array Value) : Below B w (w'.setRow g cur) :=
  ⟨h.os, h.tape, h.output, by rw [setRow_size]; exact h.size, fun b hb => (setRow_other (by omega)).trans (h.block b hb)⟩

set_option maxHeartbeats 800000 in
theorem copyItems (ks : List Ky) (vs : List Tr) (A : Option Addr) (c : Nat) (w : World) (S : Nat → Prop) (h : IsIn w S ks vs A) (hL : vs.length ≤ 1000000000) (hS : ∀ b, S b → b < w.heap.size) :
    Calls Tryz.prog 162 #[.slice A vs.length c] w (CiQ w S ks vs vs.length) := by
  obtain ⟨L, HL⟩ : ∃ L, Hid (L = vs.length) := ⟨_, Lib.hid rfl⟩
  rw [← HL.out] at hL ⊢
  cases A with
  | none =>
    have h0 : L = 0 := by
      rcases Nat.eq_zero_or_pos L with h0 | h0
      · exact h0
      · obtain ⟨_, _, C, hc, -⟩ := h
        obtain ⟨a, ha, -⟩ := hc 0 (by rw [← HL.out]; exact h0)
        cases ha
    subst h0
    have heq := Lib.run_eql_slice_nil (P := Tryz.prog) w 30 IE none 0 c 0 0 Tryz.underlying30
    clear h hS
    go_enter Tryz.func162, Tryz.ntmps162
    go_wp2_with (fail)
    go_ret
    exact ⟨none, 0, rfl, ⟨by omega, by unfold maxLen; omega⟩, fun h => absurd h (by omega), Below.refl _ _⟩
  | some a =>
    obtain ⟨cs, hcl, hsrc, hone, hit⟩ := h.cells
    obtain ⟨i0, hi, hz⟩ := ie_info
    have hmk := run_make (P := Tryz.prog) w 30 IE i0 _ Tryz.underlying30 hi hz.1 .i64 .i64 L L (by omega) (Int.le_refl _) (by rw [hz.2.2]; omega) (by omega)
    rw [hz.2.1] at hmk
    simp only [Int.toNat_natCast] at hmk
    obtain ⟨arr0, HA⟩ : ∃ a, Hid (a = madeCells (Value.agg #[.bool false, .int .i64 0, .string ⟨#[]⟩, .int .i64 0, .int .i64 0, .string ⟨#[]⟩, .int .i64 0, .slice none 0 0]).cells (L * 8)) := ⟨_, Lib.hid rfl⟩
    rw [← HA.out] at hmk
    have hsz : arr0.size = L * 8 := by rw [HA.out, madeSize]
    have hcp := run_copy_8 (P := Tryz.prog) (w.alloc (.cells arr0 IE)) 30 30 3 IE w.heap.size 0 L L a L c arr0 IE cs L Tryz.underlying30 (by rw [hi]; exact congrArg some hz.2.1) (heap_alloc_new w _) (by simp) (by rw [hcl, HL.out]) (fun j v hv => cell_stays (fun hlt => (b1 w _).block _ hlt) (hsrc j v hv)) (by rw [hcl, ← HL.out, hsz]; omega) hone
    have heq := Lib.run_eql_slice_nil (P := Tryz.prog) w 30 IE (some a) L c 0 0 Tryz.underlying30
    have HCL := Lib.hid hcl
    have HIT := Lib.hid hit
    have HSZ := Lib.hid hsz
    have HS := Lib.hid hS
    clear h hi hz hsrc hone hit hcl hsz hS
    go_enter Tryz.func162, Tryz.ntmps162
    go_wp2_with (fail)
    go_ret
    refine ⟨_, L, rfl, ⟨Nat.le_refl _, by unfold maxLen; omega⟩, fun _ => ⟨_, rfl, Nat.le_refl _, _, setRow_heap _ _ _ _ _ _ (heap_alloc_new w _), ?_, fun i y2 k2 n2 s2 x2 ks2 vs2 hy2 hv2 => ?_⟩, setRow_below (b1 w _) (Nat.le_refl _) _⟩
    · simp [HCL.out]
    · have hil : i < vs.length := (List.getElem?_eq_some_iff.1 hv2).1
      obtain ⟨y, k, n, s, x, ks', vs', A', c', e1, e2, e3, e4, e5, e6⟩ := HIT.out i hil
      rw [hy2] at e1
      rw [hv2] at e2
      obtain rfl := Option.some.inj e1
      obtain ⟨rfl, rfl, rfl, rfl, rfl, rfl⟩ : k2 = k ∧ n2 = n ∧ s2 = s ∧ x2 = x ∧ ks2 = ks' ∧ vs2 = vs' := by simpa using e2
      obtain ⟨A3, c3, e7, -, hin⟩ := e6.out
      have hcap := e6.cap
      simp at e7
      obtain ⟨rfl, rfl⟩ := e7
      refine ⟨A', c', e3, e4, hin.1, hcap, fun q hq => ?_, hin.stays (fun _ h => h) fun b hb hlt => (setRow_other (by have := HS.out b hb; omega)).trans ((b1 w _).block b hlt)⟩
      rw [← e5 q hq]
      simp
      rw [List.getElem?_append_left (by rw [HCL.out]; omega)]

end Go.Proofs.YtbgffmiffmmohaaGreatDoor.tree

