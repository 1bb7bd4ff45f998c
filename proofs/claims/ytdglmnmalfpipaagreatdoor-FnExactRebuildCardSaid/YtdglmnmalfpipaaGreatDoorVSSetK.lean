/-
  SetKey of the project.
  Conditions: the values hold at most 2^20 and two items and 10^9 letters; the package variables of the library's reading of numbers hold what the program's text lays.
-/
import Derived.Test.YtdglmnmalfpipaaGreatDoorVB13
import Derived.Test.YtdglmnmalfpipaaGreatDoorVSGetK
import Derived.Test.YtdglmnmalfpipaaGreatDoorVB1
namespace Go.Proofs.YtdglmnmalfpipaaGreatDoor.tree
open Go.ChangeShapes Go.WideShapes Go.ChangeAt Go.RowKit
set_option linter.unusedVariables false

/-- Four new blocks in a row. -/
theorem al4 (w : World) (c0 c1 c2 c3 : Array Value) (t0 t1 t2 t3 : TypeId) (W : World) (hW : W = (((w.alloc (.cells c0 t0)).alloc (.cells c1 t1)).alloc (.cells c2 t2)).alloc (.cells c3 t3)) :
    W.heap[w.heap.size]? = some (.cells c0 t0 (0, 0)) ∧ W.heap[w.heap.size + 1]? = some (.cells c1 t1 (0, 0)) ∧ W.heap[w.heap.size + 1 + 1]? = some (.cells c2 t2 (0, 0)) ∧ W.heap[w.heap.size + 1 + 1 + 1]? = some (.cells c3 t3 (0, 0)) ∧ W.heap.size = w.heap.size + 1 + 1 + 1 + 1 ∧ Below w.heap.size w W := by
  obtain ⟨h0, h1, h2, hs, hb⟩ := al3 w c0 c1 c2 t0 t1 t2
  subst hW
  have h3 := heap_alloc_new (((w.alloc (.cells c0 t0)).alloc (.cells c1 t1)).alloc (.cells c2 t2)) (.cells c3 t3)
  rw [hs] at h3
  exact ⟨keepAlloc h0, keepAlloc h1, keepAlloc h2, h3, by simp, hb.alloc hb.size _⟩

/-- The cells of a list of items, of none too. -/
theorem IsIn.cellsA {w : World} {S : Nat → Prop} {ks : List Ky} {vs : List Tr} {A : Option Addr} (h : IsIn w S ks vs A) :
    ∃ cs : List Value, cs.length = vs.length * 8 ∧ (∀ j v, cs[j]? = some v → ∃ a, A = some a ∧ w.cell? (a.add j) = some v) ∧ (∀ v ∈ cs, v.oneCell' = true) ∧
      ∀ i, i < vs.length → ∃ y k n s x ks' vs' A c, ks[i]? = some y ∧ vs[i]? = some (.mk k n s x ks' vs') ∧ (I64 y.num ∧ y.str.size ≤ maxLen) ∧ (I64 k ∧ I64 n ∧ I64 x ∧ s.size ≤ maxLen) ∧ xAt8 cs i y k n s x A vs'.length c ∧ TIn w S (.mk k n s x ks' vs') (vV k n s x A vs'.length c) := by
  cases A with
  | some a =>
    obtain ⟨cs, h1, h2, h3, h4⟩ := h.cells
    exact ⟨cs, h1, fun j v hv => ⟨a, rfl, h2 j v hv⟩, h3, h4⟩
  | none =>
    have h0 : vs.length = 0 := by
      rcases Nat.eq_zero_or_pos vs.length with h0 | h0
      · exact h0
      · obtain ⟨_, _, C, hc, -⟩ := h
        obtain ⟨a, ha, -⟩ := hc 0 h0
        cases ha
    exact ⟨[], by simp [h0], fun j v hv => by simp at hv, fun v hv => by simp at hv, fun i hi => by omega⟩

/-- 'copy' of items, of none too. -/
theorem run_copy_A {P : Program} (w : World) (dT sT ty elem : TypeId) (g dLen dCap : Nat) (A : Option Addr) (sLen sCap : Nat) (cur : Array Value) (t : TypeId) (cs : List Value) (n : Nat)
    (hu : P.underlying dT = some (.slice elem)) (hs : (P.info? elem).map (·.size) = some 8) (hg : w.heap[g]? = some (.cells cur t (0, 0))) (hn : n = Nat.min sLen dLen) (hl : cs.length = n * 8)
    (hsrc : ∀ j v, cs[j]? = some v → ∃ a, A = some a ∧ w.cell? (a.add j) = some v) (ho : cs.length ≤ cur.size) (h1 : ∀ v ∈ cs, v.oneCell' = true) (hA : A = none → sLen = 0) :
    (Builtin.copy_ #[dT, sT] ty #[.slice (some ⟨g, 0, none⟩) dLen dCap, .slice A sLen sCap]).run P w = .ok (goInt n) (w.setRow g (cs ++ cur.toList.drop cs.length).toArray) := by
  cases A with
  | some a =>
    have := run_copy_8 (P := P) w dT sT ty elem g 0 dLen dCap a sLen sCap cur t cs n hu hs hg hn hl (fun j v hv => by
      obtain ⟨a', e, h⟩ := hsrc j v hv
      obtain rfl := Option.some.inj e
      exact h) (by omega) h1
    simpa using this
  | none =>
    have h0 := hA rfl
    subst h0
    have hn0 : n = 0 := by rw [hn]; exact Nat.zero_min _
    subst hn0
    have hc : cs = [] := List.eq_nil_of_length_eq_zero (by omega)
    subst hc
    have e : w.setRow g ([] ++ cur.toList.drop ([] : List Value).length).toArray = w := by
      have := setRow_self w g cur t (0, 0) hg
      simpa using this
    rw [e]
    cases hq : P.info? elem with
    | none => simp [hq] at hs
    | some i =>
      have hi : i.size = 8 := by simpa [hq] using hs
      simp [Builtin.copy_, run_underlying hu, Builtin.lenOf, Builtin.firstCells, sizeOf, typeInfo, hq, storeCells]

theorem max_nxt (x : Int) (y : Ky) (h : y.text = false) : nums.mx x (y.num + 1) = nxt x y := by
  unfold nums.mx nxt
  rw [h]
  simp
theorem keyB_num {y : Ky} (h : keyB y = true) (ht : y.text = false) : -1000000000 ≤ y.num ∧ y.num ≤ 1000000000 := by
  unfold keyB nums.inr at h
  rw [ht] at h
  simp at h
  exact h.1


end Go.Proofs.YtdglmnmalfpipaaGreatDoor.tree

