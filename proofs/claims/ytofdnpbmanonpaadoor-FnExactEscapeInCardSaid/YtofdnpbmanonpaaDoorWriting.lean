/-
  How the project finds what to call in a context.
  Conditions: none.
-/
import Derived.Test.YtofdnpbmanonpaaDoorSeq
import Derived.WalkKit
import Derived.Laws.NewBlocks
namespace Go.Proofs.YtofdnpbmanonpaaDoor.seq
open Go.ChangeShapes Go.WideShapes Go.ChangeAt Go.RowKit
set_option linter.unusedVariables false

/-- The pair of a function that escapes and one that reads back. -/
def pairOf (f g : FuncId) : Value := .agg #[.func (.func f) #[] #[], .func (.func g) #[] #[]]
def nil2 : Array Value := #[.nilFunc, .nilFunc]
def nil8 : Array Value := #[.nilFunc, .nilFunc, .nilFunc, .nilFunc, .nilFunc, .nilFunc, .nilFunc, .nilFunc]
def tbl : Array Value := #[.func (.func 45) #[] #[], .func (.func 46) #[] #[], .func (.func 15) #[] #[], .func (.func 14) #[] #[], .func (.func 17) #[] #[], .func (.func 16) #[] #[], .func (.func 19) #[] #[], .func (.func 18) #[] #[]]
abbrev WR : TypeId := 38
abbrev W4 : TypeId := 50

theorem st {W : World} {g : Nat} {cs : Array Value} {t : TypeId} (h : W.heap[g]? = some (.cells cs t (0, 0))) (j : Nat) (hj : j < cs.size) (v : Value) (hv : v.oneCell' = true) :
    (store ⟨g, j, none⟩ v).run Tryd.prog W = .ok () (W.setCell ⟨g, j, none⟩ v) ∧ (W.setCell ⟨g, j, none⟩ v).heap[g]? = some (.cells (cs.setIfInBounds j v) t (0, 0)) := by
  constructor
  · rw [run_store _ _ _ _ _ hv, Lib.cell_of_heap h, Array.getElem?_eq_getElem hj, Lib.frozen_of_heap h]
    rfl
  · simp [World.setCell, Array.getElem?_modify, h]
theorem other {W : World} (g k j : Nat) (v : Value) (h : k ≠ g) : (W.setCell ⟨g, j, none⟩ v).heap[k]? = W.heap[k]? := Below.heap_setCell _ _ _ _ (fun e => h (by simpa using e))

/-- The table is laid. -/
theorem laid (w : World) : ∃ W3 : World, W3.heap[w.heap.size + 1]? = some (.cells tbl W4 (0, 0)) ∧ W3.heap[w.heap.size]? = some (.cells nil2 WR (0, 0)) ∧ Below w.heap.size w W3 ∧
    ((
      (Sem.run Tryd.prog (store ⟨w.heap.size + 1, 0, none⟩ (.func (.func 45) #[] #[])) ((w.alloc (.cells #[.nilFunc, .nilFunc] WR)).alloc (.cells #[.nilFunc, .nilFunc, .nilFunc, .nilFunc, .nilFunc, .nilFunc, .nilFunc, .nilFunc] W4))).andThen fun a w' =>
      (Sem.run Tryd.prog (store ⟨w.heap.size + 1, 1, none⟩ (.func (.func 46) #[] #[])) w').andThen fun a w' =>
      (Sem.run Tryd.prog (store ⟨w.heap.size + 1, 2, none⟩ (.func (.func 15) #[] #[])) w').andThen fun a w' =>
      (Sem.run Tryd.prog (store ⟨w.heap.size + 1, 3, none⟩ (.func (.func 14) #[] #[])) w').andThen fun a w' =>
      (Sem.run Tryd.prog (store ⟨w.heap.size + 1, 4, none⟩ (.func (.func 17) #[] #[])) w').andThen fun a w' =>
      (Sem.run Tryd.prog (store ⟨w.heap.size + 1, 5, none⟩ (.func (.func 16) #[] #[])) w').andThen fun a w' =>
      (Sem.run Tryd.prog (store ⟨w.heap.size + 1, 6, none⟩ (.func (.func 19) #[] #[])) w').andThen fun a w' =>
      Sem.run Tryd.prog (store ⟨w.heap.size + 1, 7, none⟩ (.func (.func 18) #[] #[])) w').andThen fun a w' => Result.ok Next.skip w') = Result.ok Next.skip W3 := by
  have hA : ((w.alloc (.cells #[.nilFunc, .nilFunc] WR)).alloc (.cells #[.nilFunc, .nilFunc, .nilFunc, .nilFunc, .nilFunc, .nilFunc, .nilFunc, .nilFunc] W4)).heap[w.heap.size + 1]? = some (.cells nil8 W4 (0, 0)) := by
    have h := heap_alloc_new (w.alloc (.cells nil2 WR)) (.cells nil8 W4)
    have e : (w.alloc (.cells nil2 WR)).heap.size = w.heap.size + 1 := by simp
    rw [e] at h
    exact h
  have hB : ((w.alloc (.cells #[.nilFunc, .nilFunc] WR)).alloc (.cells #[.nilFunc, .nilFunc, .nilFunc, .nilFunc, .nilFunc, .nilFunc, .nilFunc, .nilFunc] W4)).heap[w.heap.size]? = some (.cells nil2 WR (0, 0)) := by
    rw [Lib.alloc_old _ _ _ (by simp)]
    exact heap_alloc_new w _
  have hC : Below w.heap.size w ((w.alloc (.cells #[.nilFunc, .nilFunc] WR)).alloc (.cells #[.nilFunc, .nilFunc, .nilFunc, .nilFunc, .nilFunc, .nilFunc, .nilFunc, .nilFunc] W4)) := ((Below.refl w.heap.size w).alloc (Nat.le_refl _) _).alloc (by simp) _
  generalize (w.alloc (.cells #[.nilFunc, .nilFunc] WR)).alloc (.cells #[.nilFunc, .nilFunc, .nilFunc, .nilFunc, .nilFunc, .nilFunc, .nilFunc, .nilFunc] W4) = U0 at *
  obtain ⟨s0, h0⟩ := st hA 0 (by decide) (.func (.func 45) #[] #[]) rfl
  have b0 := (Below.setCell hC (p := ⟨w.heap.size + 1, 0, none⟩) (Nat.le_succ _) (.func (.func 45) #[] #[]))
  have o0 := (other (W := _) (w.heap.size + 1) w.heap.size 0 (.func (.func 45) #[] #[]) (by omega)).trans hB
  rw [s0]
  simp only [Result.andThen_ok]
  obtain ⟨s1, h1⟩ := st h0 1 (by decide) (.func (.func 46) #[] #[]) rfl
  have b1 := (Below.setCell b0 (p := ⟨w.heap.size + 1, 1, none⟩) (Nat.le_succ _) (.func (.func 46) #[] #[]))
  have o1 := (other (W := _) (w.heap.size + 1) w.heap.size 1 (.func (.func 46) #[] #[]) (by omega)).trans o0
  rw [s1]
  simp only [Result.andThen_ok]
  obtain ⟨s2, h2⟩ := st h1 2 (by decide) (.func (.func 15) #[] #[]) rfl
  have b2 := (Below.setCell b1 (p := ⟨w.heap.size + 1, 2, none⟩) (Nat.le_succ _) (.func (.func 15) #[] #[]))
  have o2 := (other (W := _) (w.heap.size + 1) w.heap.size 2 (.func (.func 15) #[] #[]) (by omega)).trans o1
  rw [s2]
  simp only [Result.andThen_ok]
  obtain ⟨s3, h3⟩ := st h2 3 (by decide) (.func (.func 14) #[] #[]) rfl
  have b3 := (Below.setCell b2 (p := ⟨w.heap.size + 1, 3, none⟩) (Nat.le_succ _) (.func (.func 14) #[] #[]))
  have o3 := (other (W := _) (w.heap.size + 1) w.heap.size 3 (.func (.func 14) #[] #[]) (by omega)).trans o2
  rw [s3]
  simp only [Result.andThen_ok]
  obtain ⟨s4, h4⟩ := st h3 4 (by decide) (.func (.func 17) #[] #[]) rfl
  have b4 := (Below.setCell b3 (p := ⟨w.heap.size + 1, 4, none⟩) (Nat.le_succ _) (.func (.func 17) #[] #[]))
  have o4 := (other (W := _) (w.heap.size + 1) w.heap.size 4 (.func (.func 17) #[] #[]) (by omega)).trans o3
  rw [s4]
  simp only [Result.andThen_ok]
  obtain ⟨s5, h5⟩ := st h4 5 (by decide) (.func (.func 16) #[] #[]) rfl
  have b5 := (Below.setCell b4 (p := ⟨w.heap.size + 1, 5, none⟩) (Nat.le_succ _) (.func (.func 16) #[] #[]))
  have o5 := (other (W := _) (w.heap.size + 1) w.heap.size 5 (.func (.func 16) #[] #[]) (by omega)).trans o4
  rw [s5]
  simp only [Result.andThen_ok]
  obtain ⟨s6, h6⟩ := st h5 6 (by decide) (.func (.func 19) #[] #[]) rfl
  have b6 := (Below.setCell b5 (p := ⟨w.heap.size + 1, 6, none⟩) (Nat.le_succ _) (.func (.func 19) #[] #[]))
  have o6 := (other (W := _) (w.heap.size + 1) w.heap.size 6 (.func (.func 19) #[] #[]) (by omega)).trans o5
  rw [s6]
  simp only [Result.andThen_ok]
  obtain ⟨s7, h7⟩ := st h6 7 (by decide) (.func (.func 18) #[] #[]) rfl
  have b7 := (Below.setCell b6 (p := ⟨w.heap.size + 1, 7, none⟩) (Nat.le_succ _) (.func (.func 18) #[] #[]))
  have o7 := (other (W := _) (w.heap.size + 1) w.heap.size 7 (.func (.func 18) #[] #[]) (by omega)).trans o6
  rw [s7]
  simp only [Result.andThen_ok]
  exact ⟨_, h7, o7, b7, rfl⟩

theorem upon_eq {P : Program} {o : Oper} {a : Act} {K : Act → World → Prop} {Q : Exit → Act → World → Prop} {r r' : Result Next} (h : r = r') (hu : Oper.upon P o a K Q r') : Oper.upon P o a K Q r := by rw [h]; exact hu

theorem two_st {W a : World} {g : Nat} (h : W.heap[g]? = some (.cells nil2 WR (0, 0))) (hb : Below g a W) (x y : FuncId) : ∃ W' : World, W'.heap[g]? = some (.cells #[.func (.func x) #[] #[], .func (.func y) #[] #[]] WR (0, 0)) ∧ Below g a W' ∧
    (((Sem.run Tryd.prog (store ⟨g, 0, none⟩ (.func (.func x) #[] #[])) W).andThen fun a w' => Sem.run Tryd.prog (store ⟨g, 1, none⟩ (.func (.func y) #[] #[])) w').andThen fun a w' => Result.ok Next.skip w') = Result.ok Next.skip W' := by
  obtain ⟨s0, h0⟩ := st h 0 (by decide) (.func (.func x) #[] #[]) rfl
  have b0 := (Below.setCell hb (p := ⟨g, 0, none⟩) (Nat.le_refl _) (.func (.func x) #[] #[]))
  rw [s0]
  simp only [Result.andThen_ok]
  obtain ⟨s1, h1⟩ := st h0 1 (by simp [nil2]) (.func (.func y) #[] #[]) rfl
  have b1 := (Below.setCell b0 (p := ⟨g, 1, none⟩) (Nat.le_refl _) (.func (.func y) #[] #[]))
  rw [s1]
  simp only [Result.andThen_ok]
  exact ⟨_, h1, b1, rfl⟩

set_option maxHeartbeats 1000000 in
set_option maxRecDepth 100000 in
theorem writing0 (w : World) : Calls Tryd.prog 30 #[.int .i64 0] w fun e w' => e = .returned (pairOf 45 46) ∧ Below w.heap.size w w' := by
  obtain ⟨W3, hA, hB, hC, hL⟩ := laid w
  have HA := Lib.hid hA; have HB := Lib.hid hB; have HC := Lib.hid hC; have HL := Lib.hid hL; clear hA hB hC hL
  go_enter Tryd.func30, Tryd.ntmps30
  go_wp2
  refine upon_eq HL.out ?_
  rw [Oper.upon_skip]
  go_wp2
  go_loop [10] (fun v => ∃ (j : Nat) (z : Int), v = .int .i64 z ∧ z = (j : Int) ∧ j ≤ 0) (fun v => 0 - (intOf v).toNat)
  case atStart => exact ⟨0, 0, rfl, rfl, by omega⟩
  case round =>
    obtain ⟨j, z, rfl, hz, hj⟩ := hrel
    have hc : (j = 0 ∧ z = 0) := by omega
    clear hz hj
    obtain ⟨rfl, rfl⟩ := hc
    have k0 : W3.cell? ⟨w.heap.size + 1, 0, none⟩ = some (.func (.func 45) #[] #[]) := Lib.cell_of_heap HA.out 0
    have k1 : W3.cell? ⟨w.heap.size + 1, 1, none⟩ = some (.func (.func 46) #[] #[]) := Lib.cell_of_heap HA.out 1
    obtain ⟨W5, hR, hD, hS⟩ := two_st HB.out HC.out 45 46
    have HR := Lib.hid hR; have HD := Lib.hid hD; have HS := Lib.hid hS; clear hR hD hS
    go_wp2
    refine upon_eq HS.out ?_
    rw [Oper.upon_skip]
    have d0 : W5.cell? ⟨w.heap.size, 0, none⟩ = some (.func (.func 45) #[] #[]) := Lib.cell_of_heap HR.out 0
    have d1 : W5.cell? ⟨w.heap.size, 1, none⟩ = some (.func (.func 46) #[] #[]) := Lib.cell_of_heap HR.out 1
    go_wp2
    refine bodyPost_ret (v := pairOf 45 46) (by unfold pairOf; simp [results, Tryd.results30, go_sem, d0, d1]) rfl ⟨rfl, HD.out⟩

set_option maxHeartbeats 1000000 in
set_option maxRecDepth 100000 in
theorem writing1 (w : World) : Calls Tryd.prog 30 #[.int .i64 1] w fun e w' => e = .returned (pairOf 15 14) ∧ Below w.heap.size w w' := by
  obtain ⟨W3, hA, hB, hC, hL⟩ := laid w
  have HA := Lib.hid hA; have HB := Lib.hid hB; have HC := Lib.hid hC; have HL := Lib.hid hL; clear hA hB hC hL
  go_enter Tryd.func30, Tryd.ntmps30
  go_wp2
  refine upon_eq HL.out ?_
  rw [Oper.upon_skip]
  go_wp2
  go_loop [10] (fun v => ∃ (j : Nat) (z : Int), v = .int .i64 z ∧ z = (j : Int) ∧ j ≤ 1) (fun v => 1 - (intOf v).toNat)
  case atStart => exact ⟨0, 0, rfl, rfl, by omega⟩
  case round =>
    obtain ⟨j, z, rfl, hz, hj⟩ := hrel
    have hc : (j = 0 ∧ z = 0) ∨ (j = 1 ∧ z = 1) := by omega
    clear hz hj
    rcases hc with ⟨rfl, rfl⟩ | ⟨rfl, rfl⟩
    · go_wp2
      exact ⟨⟨1, 1, rfl, rfl, by omega⟩, by simp [RowKit.intOf]⟩
    · have k0 : W3.cell? ⟨w.heap.size + 1, 2, none⟩ = some (.func (.func 15) #[] #[]) := Lib.cell_of_heap HA.out 2
      have k1 : W3.cell? ⟨w.heap.size + 1, 3, none⟩ = some (.func (.func 14) #[] #[]) := Lib.cell_of_heap HA.out 3
      obtain ⟨W5, hR, hD, hS⟩ := two_st HB.out HC.out 15 14
      have HR := Lib.hid hR; have HD := Lib.hid hD; have HS := Lib.hid hS; clear hR hD hS
      go_wp2
      refine upon_eq HS.out ?_
      rw [Oper.upon_skip]
      have d0 : W5.cell? ⟨w.heap.size, 0, none⟩ = some (.func (.func 15) #[] #[]) := Lib.cell_of_heap HR.out 0
      have d1 : W5.cell? ⟨w.heap.size, 1, none⟩ = some (.func (.func 14) #[] #[]) := Lib.cell_of_heap HR.out 1
      go_wp2
      refine bodyPost_ret (v := pairOf 15 14) (by unfold pairOf; simp [results, Tryd.results30, go_sem, d0, d1]) rfl ⟨rfl, HD.out⟩

set_option maxHeartbeats 1000000 in
set_option maxRecDepth 100000 in
theorem writing2 (w : World) : Calls Tryd.prog 30 #[.int .i64 2] w fun e w' => e = .returned (pairOf 17 16) ∧ Below w.heap.size w w' := by
  obtain ⟨W3, hA, hB, hC, hL⟩ := laid w
  have HA := Lib.hid hA; have HB := Lib.hid hB; have HC := Lib.hid hC; have HL := Lib.hid hL; clear hA hB hC hL
  go_enter Tryd.func30, Tryd.ntmps30
  go_wp2
  refine upon_eq HL.out ?_
  rw [Oper.upon_skip]
  go_wp2
  go_loop [10] (fun v => ∃ (j : Nat) (z : Int), v = .int .i64 z ∧ z = (j : Int) ∧ j ≤ 2) (fun v => 2 - (intOf v).toNat)
  case atStart => exact ⟨0, 0, rfl, rfl, by omega⟩
  case round =>
    obtain ⟨j, z, rfl, hz, hj⟩ := hrel
    have hc : (j = 0 ∧ z = 0) ∨ (j = 1 ∧ z = 1) ∨ (j = 2 ∧ z = 2) := by omega
    clear hz hj
    rcases hc with ⟨rfl, rfl⟩ | ⟨rfl, rfl⟩ | ⟨rfl, rfl⟩
    · go_wp2
      exact ⟨⟨1, 1, rfl, rfl, by omega⟩, by simp [RowKit.intOf]⟩
    · go_wp2
      exact ⟨⟨2, 2, rfl, rfl, by omega⟩, by simp [RowKit.intOf]⟩
    · have k0 : W3.cell? ⟨w.heap.size + 1, 4, none⟩ = some (.func (.func 17) #[] #[]) := Lib.cell_of_heap HA.out 4
      have k1 : W3.cell? ⟨w.heap.size + 1, 5, none⟩ = some (.func (.func 16) #[] #[]) := Lib.cell_of_heap HA.out 5
      obtain ⟨W5, hR, hD, hS⟩ := two_st HB.out HC.out 17 16
      have HR := Lib.hid hR; have HD := Lib.hid hD; have HS := Lib.hid hS; clear hR hD hS
      go_wp2
      refine upon_eq HS.out ?_
      rw [Oper.upon_skip]
      have d0 : W5.cell? ⟨w.heap.size, 0, none⟩ = some (.func (.func 17) #[] #[]) := Lib.cell_of_heap HR.out 0
      have d1 : W5.cell? ⟨w.heap.size, 1, none⟩ = some (.func (.func 16) #[] #[]) := Lib.cell_of_heap HR.out 1
      go_wp2
      refine bodyPost_ret (v := pairOf 17 16) (by unfold pairOf; simp [results, Tryd.results30, go_sem, d0, d1]) rfl ⟨rfl, HD.out⟩

set_option maxHeartbeats 1000000 in
set_option maxRecDepth 100000 in
theorem writing3 (w : World) : Calls Tryd.prog 30 #[.int .i64 3] w fun e w' => e = .returned (pairOf 19 18) ∧ Below w.heap.size w w' := by
  obtain ⟨W3, hA, hB, hC, hL⟩ := laid w
  have HA := Lib.hid hA; have HB := Lib.hid hB; have HC := Lib.hid hC; have HL := Lib.hid hL; clear hA hB hC hL
  go_enter Tryd.func30, Tryd.ntmps30
  go_wp2
  refine upon_eq HL.out ?_
  rw [Oper.upon_skip]
  go_wp2
  go_loop [10] (fun v => ∃ (j : Nat) (z : Int), v = .int .i64 z ∧ z = (j : Int) ∧ j ≤ 3) (fun v => 3 - (intOf v).toNat)
  case atStart => exact ⟨0, 0, rfl, rfl, by omega⟩
  case round =>
    obtain ⟨j, z, rfl, hz, hj⟩ := hrel
    have hc : (j = 0 ∧ z = 0) ∨ (j = 1 ∧ z = 1) ∨ (j = 2 ∧ z = 2) ∨ (j = 3 ∧ z = 3) := by omega
    clear hz hj
    rcases hc with ⟨rfl, rfl⟩ | ⟨rfl, rfl⟩ | ⟨rfl, rfl⟩ | ⟨rfl, rfl⟩
    · go_wp2
      exact ⟨⟨1, 1, rfl, rfl, by omega⟩, by simp [RowKit.intOf]⟩
    · go_wp2
      exact ⟨⟨2, 2, rfl, rfl, by omega⟩, by simp [RowKit.intOf]⟩
    · go_wp2
      exact ⟨⟨3, 3, rfl, rfl, by omega⟩, by simp [RowKit.intOf]⟩
    · have k0 : W3.cell? ⟨w.heap.size + 1, 6, none⟩ = some (.func (.func 19) #[] #[]) := Lib.cell_of_heap HA.out 6
      have k1 : W3.cell? ⟨w.heap.size + 1, 7, none⟩ = some (.func (.func 18) #[] #[]) := Lib.cell_of_heap HA.out 7
      obtain ⟨W5, hR, hD, hS⟩ := two_st HB.out HC.out 19 18
      have HR := Lib.hid hR; have HD := Lib.hid hD; have HS := Lib.hid hS; clear hR hD hS
      go_wp2
      refine upon_eq HS.out ?_
      rw [Oper.upon_skip]
      have d0 : W5.cell? ⟨w.heap.size, 0, none⟩ = some (.func (.func 19) #[] #[]) := Lib.cell_of_heap HR.out 0
      have d1 : W5.cell? ⟨w.heap.size, 1, none⟩ = some (.func (.func 18) #[] #[]) := Lib.cell_of_heap HR.out 1
      go_wp2
      refine bodyPost_ret (v := pairOf 19 18) (by unfold pairOf; simp [results, Tryd.results30, go_sem, d0, d1]) rfl ⟨rfl, HD.out⟩

set_option maxHeartbeats 1000000 in
set_option maxRecDepth 100000 in
theorem writingX (x : Int) (h0 : ¬ 0 = x) (h1 : ¬ 1 = x) (h2 : ¬ 2 = x) (h3 : ¬ 3 = x) (w : World) : Calls Tryd.prog 30 #[.int .i64 x] w fun e w' => e = .returned (pairOf 45 46) ∧ Below w.heap.size w w' := by
  obtain ⟨W3, hA, hB, hC, hL⟩ := laid w
  have HA := Lib.hid hA; have HB := Lib.hid hB; have HC := Lib.hid hC; have HL := Lib.hid hL; clear hA hB hC hL
  go_enter Tryd.func30, Tryd.ntmps30
  go_wp2
  refine upon_eq HL.out ?_
  rw [Oper.upon_skip]
  go_wp2
  go_loop [10] (fun v => ∃ (j : Nat) (z : Int), v = .int .i64 z ∧ z = (j : Int) ∧ j ≤ 4) (fun v => 4 - (intOf v).toNat)
  case atStart => exact ⟨0, 0, rfl, rfl, by omega⟩
  case round =>
    obtain ⟨j, z, rfl, hz, hj⟩ := hrel
    have hc : (j = 0 ∧ z = 0) ∨ (j = 1 ∧ z = 1) ∨ (j = 2 ∧ z = 2) ∨ (j = 3 ∧ z = 3) ∨ (j = 4 ∧ z = 4) := by omega
    clear hz hj
    rcases hc with ⟨rfl, rfl⟩ | ⟨rfl, rfl⟩ | ⟨rfl, rfl⟩ | ⟨rfl, rfl⟩ | ⟨rfl, rfl⟩
    · go_wp2
      exact ⟨⟨1, 1, rfl, rfl, by omega⟩, by simp [RowKit.intOf]⟩
    · go_wp2
      exact ⟨⟨2, 2, rfl, rfl, by omega⟩, by simp [RowKit.intOf]⟩
    · go_wp2
      exact ⟨⟨3, 3, rfl, rfl, by omega⟩, by simp [RowKit.intOf]⟩
    · go_wp2
      exact ⟨⟨4, 4, rfl, rfl, by omega⟩, by simp [RowKit.intOf]⟩
    · have k0 : W3.cell? ⟨w.heap.size + 1, 0, none⟩ = some (.func (.func 45) #[] #[]) := Lib.cell_of_heap HA.out 0
      have k1 : W3.cell? ⟨w.heap.size + 1, 1, none⟩ = some (.func (.func 46) #[] #[]) := Lib.cell_of_heap HA.out 1
      obtain ⟨W5, hR, hD, hS⟩ := two_st HB.out HC.out 45 46
      have HR := Lib.hid hR; have HD := Lib.hid hD; have HS := Lib.hid hS; clear hR hD hS
      go_wp2
      refine upon_eq HS.out ?_
      rw [Oper.upon_skip]
      have d0 : W5.cell? ⟨w.heap.size, 0, none⟩ = some (.func (.func 45) #[] #[]) := Lib.cell_of_heap HR.out 0
      have d1 : W5.cell? ⟨w.heap.size, 1, none⟩ = some (.func (.func 46) #[] #[]) := Lib.cell_of_heap HR.out 1
      go_wp2
      refine bodyPost_ret (v := pairOf 45 46) (by unfold pairOf; simp [results, Tryd.results30, go_sem, d0, d1]) rfl ⟨rfl, HD.out⟩

end Go.Proofs.YtofdnpbmanonpaaDoor.seq
