/-
  What the texts behind this one use: 11 parts of one proof.
  Conditions: those that each theorem names.
-/
import Derived.Test.YtdglmnmalfpipaaGreatDoorVB1
import Derived.WalkKit
import Derived.ProofKit
import Derived.ChangeArms
import Derived.OpenShut
import Derived.Laws.NewBlocks
import Derived.Lib.Hide
import Derived.Test.YtdglmnmalfpipaaGreatDoorRows
import Derived.Test.YtdglmnmalfpipaaGreatDoorShelf
import Derived.IntWalk
import Derived.Lib.SmallJoins
import Derived.BigQuiet
import Derived.Deep.QuietTactic
import Derived.WalkLawsBesides
import Derived.Laws.BitsLemmas
import Derived.Laws.Closers25b
import Derived.OwnWalk
import Derived.Laws.AppendOwn
import Derived.ChangeVars
import Derived.Deep.LoopGhost
import Derived.Deep.RegionWith
/-
  Arith of the project and of the model.
  Conditions: the two numbers are machine integers.
-/
namespace Go.Proofs.YtdglmnmalfpipaaGreatDoor.ari
open Go.ChangeShapes Go.WideShapes Go.ChangeAt Go.RowKit
set_option linter.unusedVariables false

/-- Whether a number is one of a script. -/
def ok (n : Int) : Bool := nums.inr n (-1000000000) 1000000000
theorem ok_bd {n : Int} (h : ok n = true) : -1000000000 ≤ n ∧ n ≤ 1000000000 := by
  unfold ok nums.inr at h
  simp at h
  exact h
/-- What an operator makes of two numbers. -/
def arN (op a b : Int) : Int := if op = 1 then a + b else if op = 2 then a - b else if op = 3 then a * b else if op = 4 then a.tdiv b else a.tmod b
/-- A result, and its error. -/
def fin (n : Int) : Int × Int := if ok n = true then (n, 0) else (0, 3)
def arT (op a b : Int) : Int × Int := if nums.inr op 1 5 = false then (0, 2) else if ok a = false then (0, 3) else if ok b = false then (0, 3) else if 4 ≤ op ∧ b = 0 then (0, 4) else fin (arN op a b)
theorem arT_op {op a b : Int} (h : nums.inr op 1 5 = false) : arT op a b = (0, 2) := by unfold arT; rw [if_pos h]
theorem arT_a {op a b : Int} (h : nums.inr op 1 5 = true) (ha : ok a = false) : arT op a b = (0, 3) := by unfold arT; rw [if_neg (by rw [h]; simp), if_pos ha]
theorem arT_b {op a b : Int} (h : nums.inr op 1 5 = true) (ha : ok a = true) (hb : ok b = false) : arT op a b = (0, 3) := by unfold arT; rw [if_neg (by rw [h]; simp), if_neg (by rw [ha]; simp), if_pos hb]
theorem arT_zero {op a b : Int} (h : nums.inr op 1 5 = true) (ha : ok a = true) (hb : ok b = true) (hz : 4 ≤ op ∧ b = 0) : arT op a b = (0, 4) := by unfold arT; rw [if_neg (by rw [h]; simp), if_neg (by rw [ha]; simp), if_neg (by rw [hb]; simp), if_pos hz]
theorem arT_n {op a b : Int} (h : nums.inr op 1 5 = true) (ha : ok a = true) (hb : ok b = true) (hz : ¬ (4 ≤ op ∧ b = 0)) : arT op a b = fin (arN op a b) := by unfold arT; rw [if_neg (by rw [h]; simp), if_neg (by rw [ha]; simp), if_neg (by rw [hb]; simp), if_neg hz]
theorem mul_bd {a b : Int} (ha : -1000000000 ≤ a ∧ a ≤ 1000000000) (hb : -1000000000 ≤ b ∧ b ≤ 1000000000) : -1000000000000000000 ≤ a * b ∧ a * b ≤ 1000000000000000000 := by
  have h : (a * b).natAbs ≤ 1000000000 * 1000000000 := by
    rw [Int.natAbs_mul]
    exact Nat.mul_le_mul (by omega) (by omega)
  omega
theorem div_bd {a b : Int} (ha : -1000000000 ≤ a ∧ a ≤ 1000000000) : -1000000000 ≤ a.tdiv b ∧ a.tdiv b ≤ 1000000000 := by
  have h : (a.tdiv b).natAbs ≤ a.natAbs := by
    rw [Int.natAbs_tdiv]
    exact Nat.div_le_self _ _
  omega
theorem mod_bd {a b : Int} (ha : -1000000000 ≤ a ∧ a ≤ 1000000000) : -1000000000 ≤ a.tmod b ∧ a.tmod b ≤ 1000000000 := by
  have h : (a.tmod b).natAbs ≤ a.natAbs := by
    rw [Int.natAbs_tmod]
    exact Nat.mod_le _ _
  omega
def ArQ (w : World) (p : Int × Int) (e : Ending) (w' : World) : Prop := e = .returned (.tuple #[.int .i64 p.1, .int .i64 p.2]) ∧ Below w.heap.size w w'

theorem in1 (op : Int) (q : Bool) (h : nums.inr op 1 5 = q) (w : World) : Calls Tryz.prog 66 #[.int .i64 op, .int .i64 1, .int .i64 5] w fun e w' => e = .returned (.bool q) ∧ w = w' := h ▸ nums.l1In op 1 5 w
theorem inS (n : Int) (q : Bool) (h : ok n = q) (w : World) : Calls Tryz.prog 66 #[.int .i64 n, .int .i64 (-1000000000), .int .i64 1000000000] w fun e w' => e = .returned (.bool q) ∧ w = w' := h ▸ nums.l1In n (-1000000000) 1000000000 w
theorem in1_i (op : Int) (q : Bool) (h : nums.inr op 1 5 = q) (w : World) : Calls Tryz.prog 95 #[.int .i64 op, .int .i64 1, .int .i64 5] w fun e w' => e = .returned (.bool q) ∧ w = w' := h ▸ nums.implInRange op 1 5 w
theorem script (n : Int) (q : Bool) (h : ok n = q) (w : World) : Calls Tryz.prog 96 #[.int .i64 n] w fun e w' => e = .returned (.bool q) ∧ w = w' := by
  have IR : ∀ w, Calls Tryz.prog 95 #[.int .i64 n, .int .i64 (-1000000000), .int .i64 1000000000] w fun e w' => e = .returned (.bool q) ∧ w = w' := fun w => h ▸ nums.implInRange n (-1000000000) 1000000000 w
  clear h
  go_enter Tryz.func96, Tryz.ntmps96
  go_wp2_with (fail)
  refine (IR _).mono ?_
  rintro e w1 ⟨rfl, rfl⟩
  go_wp2_with (fail)
  go_ret
  exact ⟨rfl, rfl⟩




abbrev OF : TypeId := 130
def fns : Array Value := #[.nilFunc, .func (.func 164) #[] #[], .func (.func 165) #[] #[], .func (.func 166) #[] #[], .func (.func 167) #[] #[], .func (.func 168) #[] #[]]
theorem arithmetic_i (w : World) : Calls Tryz.prog 97 #[] w fun e w' => ∃ g, e = .returned (.slice (some ⟨g, 0, none⟩) 6 6) ∧ w'.heap[g]? = some (.cells fns OF (0, 0)) ∧ w.heap.size ≤ g ∧ Below w.heap.size w w' := by
  go_enter Tryz.func97, Tryz.ntmps97
  go_wp2
  go_ret
  exact ⟨_, rfl, heap_alloc_new w _, Nat.le_refl _, (Below.refl w.heap.size w).alloc (Nat.le_refl _) _⟩

theorem sum_i (a b N : Int) (hN : a + b = N) (hk : -1000000000000000000 ≤ N ∧ N ≤ 1000000000000000000) (w : World) : Calls Tryz.prog 164 #[.agg #[.int .i64 a, .int .i64 b]] w fun e w' => e = .returned (.int .i64 N) ∧ Below w.heap.size w w' := by
  have hwr : IntKind.i64.wrap (a + b) = N := by rw [hN, IntKind.wrap_i64]; omega
  go_enter Tryz.func164, Tryz.ntmps164
  go_wp2
  try rw [hwr]
  try rw [hN]
  go_ret
  exact ⟨by first | rfl | rw [hwr] | rw [hN], by first | exact Below.refl _ _ | exact (Below.refl w.heap.size w).alloc (Nat.le_refl _) _⟩

theorem difference_i (a b N : Int) (hN : a - b = N) (hk : -1000000000000000000 ≤ N ∧ N ≤ 1000000000000000000) (w : World) : Calls Tryz.prog 165 #[.agg #[.int .i64 a, .int .i64 b]] w fun e w' => e = .returned (.int .i64 N) ∧ Below w.heap.size w w' := by
  have hwr : IntKind.i64.wrap (a - b) = N := by rw [hN, IntKind.wrap_i64]; omega
  go_enter Tryz.func165, Tryz.ntmps165
  go_wp2
  try rw [hwr]
  try rw [hN]
  go_ret
  exact ⟨by first | rfl | rw [hwr] | rw [hN], by first | exact Below.refl _ _ | exact (Below.refl w.heap.size w).alloc (Nat.le_refl _) _⟩

theorem product_i (a b N : Int) (hN : a * b = N) (hk : -1000000000000000000 ≤ N ∧ N ≤ 1000000000000000000) (w : World) : Calls Tryz.prog 166 #[.agg #[.int .i64 a, .int .i64 b]] w fun e w' => e = .returned (.int .i64 N) ∧ Below w.heap.size w w' := by
  have hwr : IntKind.i64.wrap (a * b) = N := by rw [hN, IntKind.wrap_i64]; omega
  go_enter Tryz.func166, Tryz.ntmps166
  go_wp2
  try rw [hwr]
  try rw [hN]
  go_ret
  exact ⟨by first | rfl | rw [hwr] | rw [hN], by first | exact Below.refl _ _ | exact (Below.refl w.heap.size w).alloc (Nat.le_refl _) _⟩

theorem quotient_i (a b N : Int) (hN : a.tdiv b = N) (hk : -1000000000000000000 ≤ N ∧ N ≤ 1000000000000000000) (hz : ¬ b = 0) (w : World) : Calls Tryz.prog 167 #[.agg #[.int .i64 a, .int .i64 b]] w fun e w' => e = .returned (.int .i64 N) ∧ Below w.heap.size w w' := by
  have hwr : IntKind.i64.wrap (a.tdiv b) = N := by rw [hN, IntKind.wrap_i64]; omega
  go_enter Tryz.func167, Tryz.ntmps167
  go_wp2
  try rw [hwr]
  try rw [hN]
  go_ret
  exact ⟨by first | rfl | rw [hwr] | rw [hN], by first | exact Below.refl _ _ | exact (Below.refl w.heap.size w).alloc (Nat.le_refl _) _⟩

theorem remainder_i (a b N : Int) (hN : a.tmod b = N) (hk : -1000000000000000000 ≤ N ∧ N ≤ 1000000000000000000) (hz : ¬ b = 0) (w : World) : Calls Tryz.prog 168 #[.agg #[.int .i64 a, .int .i64 b]] w fun e w' => e = .returned (.int .i64 N) ∧ Below w.heap.size w w' := by
  have hwr : IntKind.i64.wrap (a.tmod b) = N := by rw [hN, IntKind.wrap_i64]; omega
  go_enter Tryz.func168, Tryz.ntmps168
  go_wp2
  try rw [hwr]
  try rw [hN]
  go_ret
  exact ⟨by first | rfl | rw [hwr] | rw [hN], by first | exact Below.refl _ _ | exact (Below.refl w.heap.size w).alloc (Nat.le_refl _) _⟩


set_option maxHeartbeats 4000000 in
theorem arith_i (op a b : Int) (w : World) : Calls Tryz.prog 35 #[.int .i64 op, .int .i64 a, .int .i64 b] w (ArQ w (arT op a b)) := by
  cases h1 : nums.inr op 1 5 with
  | false =>
    rw [arT_op h1]
    have I1 := Lib.hid (in1_i op false h1)
    clear h1
    go_enter Tryz.func35, Tryz.ntmps35
    go_wp2_with (fail)
    refine (I1.out _).mono ?_
    rintro e w1 ⟨rfl, rfl⟩
    go_wp2_with (fail)
    go_ret2
    exact ⟨rfl, Below.refl _ _⟩
  | true =>
    have I1 := Lib.hid (in1_i op true h1)
    have hop : op = 1 ∨ op = 2 ∨ op = 3 ∨ op = 4 ∨ op = 5 := by
      unfold nums.inr at h1
      simp at h1
      omega
    cases h2 : ok a with
    | false =>
      rw [arT_a h1 h2]
      have I2 := Lib.hid (script a false h2)
      clear h1 h2 hop
      go_enter Tryz.func35, Tryz.ntmps35
      go_wp2_with (fail)
      refine (I1.out _).mono ?_
      rintro e w1 ⟨rfl, rfl⟩
      go_wp2_with (fail)
      refine (I2.out _).mono ?_
      rintro e w1 ⟨rfl, rfl⟩
      go_wp2_with (fail)
      go_ret2
      exact ⟨rfl, Below.refl _ _⟩
    | true =>
      have I2 := Lib.hid (script a true h2)
      have ha := ok_bd h2
      cases h3 : ok b with
      | false =>
        rw [arT_b h1 h2 h3]
        have I3 := Lib.hid (script b false h3)
        clear h1 h2 h3 hop
        go_enter Tryz.func35, Tryz.ntmps35
        go_wp2_with (fail)
        refine (I1.out _).mono ?_
        rintro e w1 ⟨rfl, rfl⟩
        go_wp2_with (fail)
        refine (I2.out _).mono ?_
        rintro e w1 ⟨rfl, rfl⟩
        go_wp2_with (fail)
        refine (I3.out _).mono ?_
        rintro e w1 ⟨rfl, rfl⟩
        go_wp2_with (fail)
        go_ret2
        exact ⟨rfl, Below.refl _ _⟩
      | true =>
        have I3 := Lib.hid (script b true h3)
        have hb := ok_bd h3
        by_cases hz : 4 ≤ op ∧ b = 0
        · rw [arT_zero h1 h2 h3 hz]
          obtain ⟨hz, rfl⟩ := hz
          obtain rfl | rfl : op = 4 ∨ op = 5 := by omega
          all_goals
            clear h1 h2 h3 hop hz
            go_enter Tryz.func35, Tryz.ntmps35
            go_wp2_with (fail)
            refine (I1.out _).mono ?_
            rintro e w1 ⟨rfl, rfl⟩
            go_wp2_with (fail)
            refine (I2.out _).mono ?_
            rintro e w1 ⟨rfl, rfl⟩
            go_wp2_with (fail)
            refine (I3.out _).mono ?_
            rintro e w1 ⟨rfl, rfl⟩
            go_wp2_with (fail)
            go_ret2
            exact ⟨rfl, Below.refl _ _⟩
        · rw [arT_n h1 h2 h3 hz]
          obtain ⟨N, HN⟩ : ∃ N, Hid (arN op a b = N) := ⟨_, Lib.hid rfl⟩
          rw [HN.out]
          have HMD := Lib.hid (mul_bd ha hb)
          have HDD := Lib.hid (div_bd (b := b) ha)
          have HOD := Lib.hid (mod_bd (b := b) ha)
          have hk : Hid (-1000000000000000000 ≤ N ∧ N ≤ 1000000000000000000) := Lib.hid (by
            rw [← HN.out]
            have h1 := HMD.out
            have h2 := HDD.out
            have h3 := HOD.out
            unfold arN
            split
            · omega
            · split
              · omega
              · split
                · omega
                · split <;> omega)
          have IN0 := fun q (h : ok N = q) => script N q h
          have hq : ∃ q, ok N = q := ⟨_, rfl⟩
          have EN : Hid ((ok N = true → fin N = (N, 0)) ∧ (ok N = false → fin N = (0, 3))) := Lib.hid ⟨fun h => by unfold fin; rw [if_pos h], fun h => by unfold fin; rw [if_neg (by rw [h]; simp)]⟩
          clear h1 h2 h3
          obtain ⟨q, hq⟩ := hq
          have IN := Lib.hid (IN0 q hq)
          have HQ := Lib.hid hq
          clear IN0 hq
          rcases hop with rfl | rfl | rfl | rfl | rfl
          · have hN : a + b = N := HN.out
            have hbd := hk.out
            rw [← hN] at hbd
            have hwr : IntKind.i64.wrap (a + b) = N := by rw [IntKind.wrap_i64]; omega
            have HNN := Lib.hid hN
            have HKK := Lib.hid hk.out
            clear HN HMD HDD HOD hk hz hN hbd
            try clear hwr
            cases q
            · rw [EN.out.2 HQ.out]
              rcases Decidable.em (b = 0) with rfl | hb0
              all_goals
                go_enter Tryz.func35, Tryz.ntmps35
                go_wp2_with (fail)
                refine (I1.out _).mono ?_
                rintro e w1 ⟨rfl, rfl⟩
                go_wp2_with (fail)
                refine (I2.out _).mono ?_
                rintro e w1 ⟨rfl, rfl⟩
                go_wp2_with (fail)
                refine (I3.out _).mono ?_
                rintro e w1 ⟨rfl, rfl⟩
                go_wp2_with (fail)
                refine (arithmetic_i _).mono ?_
                rintro e w2 ⟨g, rfl, hg, hlt, hb⟩
                have HB := Lib.hid hb
                have kc : w2.cell? ⟨g, 1, none⟩ = some (.func (.func 164) #[] #[]) := Lib.cell_of_heap hg 1
                clear hg hlt hb
                go_wp2_with (fail)
                clear kc
                refine (sum_i a _ N HNN.out HKK.out _).mono ?_
                rintro e w3 ⟨rfl, hb3⟩
                replace HB := Lib.hid (HB.out.trans (hb3.mono HB.out.size))
                clear hb3
                go_wp2_with (fail)
                refine (IN.out _).mono ?_
                rintro e w1 ⟨rfl, rfl⟩
                go_wp2_with (fail)
                go_ret2
                exact ⟨rfl, HB.out⟩
            · rw [EN.out.1 HQ.out]
              rcases Decidable.em (b = 0) with rfl | hb0
              all_goals
                go_enter Tryz.func35, Tryz.ntmps35
                go_wp2_with (fail)
                refine (I1.out _).mono ?_
                rintro e w1 ⟨rfl, rfl⟩
                go_wp2_with (fail)
                refine (I2.out _).mono ?_
                rintro e w1 ⟨rfl, rfl⟩
                go_wp2_with (fail)
                refine (I3.out _).mono ?_
                rintro e w1 ⟨rfl, rfl⟩
                go_wp2_with (fail)
                refine (arithmetic_i _).mono ?_
                rintro e w2 ⟨g, rfl, hg, hlt, hb⟩
                have HB := Lib.hid hb
                have kc : w2.cell? ⟨g, 1, none⟩ = some (.func (.func 164) #[] #[]) := Lib.cell_of_heap hg 1
                clear hg hlt hb
                go_wp2_with (fail)
                clear kc
                refine (sum_i a _ N HNN.out HKK.out _).mono ?_
                rintro e w3 ⟨rfl, hb3⟩
                replace HB := Lib.hid (HB.out.trans (hb3.mono HB.out.size))
                clear hb3
                go_wp2_with (fail)
                refine (IN.out _).mono ?_
                rintro e w1 ⟨rfl, rfl⟩
                go_wp2_with (fail)
                go_ret2
                exact ⟨rfl, HB.out⟩
          · have hN : a - b = N := HN.out
            have hbd := hk.out
            rw [← hN] at hbd
            have hwr : IntKind.i64.wrap (a - b) = N := by rw [IntKind.wrap_i64]; omega
            have HNN := Lib.hid hN
            have HKK := Lib.hid hk.out
            clear HN HMD HDD HOD hk hz hN hbd
            try clear hwr
            cases q
            · rw [EN.out.2 HQ.out]
              rcases Decidable.em (b = 0) with rfl | hb0
              all_goals
                go_enter Tryz.func35, Tryz.ntmps35
                go_wp2_with (fail)
                refine (I1.out _).mono ?_
                rintro e w1 ⟨rfl, rfl⟩
                go_wp2_with (fail)
                refine (I2.out _).mono ?_
                rintro e w1 ⟨rfl, rfl⟩
                go_wp2_with (fail)
                refine (I3.out _).mono ?_
                rintro e w1 ⟨rfl, rfl⟩
                go_wp2_with (fail)
                refine (arithmetic_i _).mono ?_
                rintro e w2 ⟨g, rfl, hg, hlt, hb⟩
                have HB := Lib.hid hb
                have kc : w2.cell? ⟨g, 2, none⟩ = some (.func (.func 165) #[] #[]) := Lib.cell_of_heap hg 2
                clear hg hlt hb
                go_wp2_with (fail)
                clear kc
                refine (difference_i a _ N HNN.out HKK.out _).mono ?_
                rintro e w3 ⟨rfl, hb3⟩
                replace HB := Lib.hid (HB.out.trans (hb3.mono HB.out.size))
                clear hb3
                go_wp2_with (fail)
                refine (IN.out _).mono ?_
                rintro e w1 ⟨rfl, rfl⟩
                go_wp2_with (fail)
                go_ret2
                exact ⟨rfl, HB.out⟩
            · rw [EN.out.1 HQ.out]
              rcases Decidable.em (b = 0) with rfl | hb0
              all_goals
                go_enter Tryz.func35, Tryz.ntmps35
                go_wp2_with (fail)
                refine (I1.out _).mono ?_
                rintro e w1 ⟨rfl, rfl⟩
                go_wp2_with (fail)
                refine (I2.out _).mono ?_
                rintro e w1 ⟨rfl, rfl⟩
                go_wp2_with (fail)
                refine (I3.out _).mono ?_
                rintro e w1 ⟨rfl, rfl⟩
                go_wp2_with (fail)
                refine (arithmetic_i _).mono ?_
                rintro e w2 ⟨g, rfl, hg, hlt, hb⟩
                have HB := Lib.hid hb
                have kc : w2.cell? ⟨g, 2, none⟩ = some (.func (.func 165) #[] #[]) := Lib.cell_of_heap hg 2
                clear hg hlt hb
                go_wp2_with (fail)
                clear kc
                refine (difference_i a _ N HNN.out HKK.out _).mono ?_
                rintro e w3 ⟨rfl, hb3⟩
                replace HB := Lib.hid (HB.out.trans (hb3.mono HB.out.size))
                clear hb3
                go_wp2_with (fail)
                refine (IN.out _).mono ?_
                rintro e w1 ⟨rfl, rfl⟩
                go_wp2_with (fail)
                go_ret2
                exact ⟨rfl, HB.out⟩
          · have hN : a * b = N := HN.out
            have hbd := hk.out
            rw [← hN] at hbd
            have hwr : IntKind.i64.wrap (a * b) = N := by rw [IntKind.wrap_i64]; omega
            have HNN := Lib.hid hN
            have HKK := Lib.hid hk.out
            clear HN HMD HDD HOD hk hz hN hbd
            try clear hwr
            cases q
            · rw [EN.out.2 HQ.out]
              rcases Decidable.em (b = 0) with rfl | hb0
              all_goals
                go_enter Tryz.func35, Tryz.ntmps35
                go_wp2_with (fail)
                refine (I1.out _).mono ?_
                rintro e w1 ⟨rfl, rfl⟩
                go_wp2_with (fail)
                refine (I2.out _).mono ?_
                rintro e w1 ⟨rfl, rfl⟩
                go_wp2_with (fail)
                refine (I3.out _).mono ?_
                rintro e w1 ⟨rfl, rfl⟩
                go_wp2_with (fail)
                refine (arithmetic_i _).mono ?_
                rintro e w2 ⟨g, rfl, hg, hlt, hb⟩
                have HB := Lib.hid hb
                have kc : w2.cell? ⟨g, 3, none⟩ = some (.func (.func 166) #[] #[]) := Lib.cell_of_heap hg 3
                clear hg hlt hb
                go_wp2_with (fail)
                clear kc
                refine (product_i a _ N HNN.out HKK.out _).mono ?_
                rintro e w3 ⟨rfl, hb3⟩
                replace HB := Lib.hid (HB.out.trans (hb3.mono HB.out.size))
                clear hb3
                go_wp2_with (fail)
                refine (IN.out _).mono ?_
                rintro e w1 ⟨rfl, rfl⟩
                go_wp2_with (fail)
                go_ret2
                exact ⟨rfl, HB.out⟩
            · rw [EN.out.1 HQ.out]
              rcases Decidable.em (b = 0) with rfl | hb0
              all_goals
                go_enter Tryz.func35, Tryz.ntmps35
                go_wp2_with (fail)
                refine (I1.out _).mono ?_
                rintro e w1 ⟨rfl, rfl⟩
                go_wp2_with (fail)
                refine (I2.out _).mono ?_
                rintro e w1 ⟨rfl, rfl⟩
                go_wp2_with (fail)
                refine (I3.out _).mono ?_
                rintro e w1 ⟨rfl, rfl⟩
                go_wp2_with (fail)
                refine (arithmetic_i _).mono ?_
                rintro e w2 ⟨g, rfl, hg, hlt, hb⟩
                have HB := Lib.hid hb
                have kc : w2.cell? ⟨g, 3, none⟩ = some (.func (.func 166) #[] #[]) := Lib.cell_of_heap hg 3
                clear hg hlt hb
                go_wp2_with (fail)
                clear kc
                refine (product_i a _ N HNN.out HKK.out _).mono ?_
                rintro e w3 ⟨rfl, hb3⟩
                replace HB := Lib.hid (HB.out.trans (hb3.mono HB.out.size))
                clear hb3
                go_wp2_with (fail)
                refine (IN.out _).mono ?_
                rintro e w1 ⟨rfl, rfl⟩
                go_wp2_with (fail)
                go_ret2
                exact ⟨rfl, HB.out⟩
          · have hN : a.tdiv b = N := HN.out
            have hbd := hk.out
            rw [← hN] at hbd
            have hb0 : ¬ b = 0 := by omega
            have hwr : IntKind.i64.wrap (a.tdiv b) = N := by rw [IntKind.wrap_i64]; omega
            have HNN := Lib.hid hN
            have HKK := Lib.hid hk.out
            clear HN HMD HDD HOD hk hz hN hbd
            try clear hwr
            cases q
            · rw [EN.out.2 HQ.out]
              go_enter Tryz.func35, Tryz.ntmps35
              go_wp2_with (fail)
              refine (I1.out _).mono ?_
              rintro e w1 ⟨rfl, rfl⟩
              go_wp2_with (fail)
              refine (I2.out _).mono ?_
              rintro e w1 ⟨rfl, rfl⟩
              go_wp2_with (fail)
              refine (I3.out _).mono ?_
              rintro e w1 ⟨rfl, rfl⟩
              go_wp2_with (fail)
              refine (arithmetic_i _).mono ?_
              rintro e w2 ⟨g, rfl, hg, hlt, hb⟩
              have HB := Lib.hid hb
              have kc : w2.cell? ⟨g, 4, none⟩ = some (.func (.func 167) #[] #[]) := Lib.cell_of_heap hg 4
              clear hg hlt hb
              go_wp2_with (fail)
              clear kc
              refine (quotient_i a _ N HNN.out HKK.out hb0 _).mono ?_
              rintro e w3 ⟨rfl, hb3⟩
              replace HB := Lib.hid (HB.out.trans (hb3.mono HB.out.size))
              clear hb3
              go_wp2_with (fail)
              refine (IN.out _).mono ?_
              rintro e w1 ⟨rfl, rfl⟩
              go_wp2_with (fail)
              go_ret2
              exact ⟨rfl, HB.out⟩
            · rw [EN.out.1 HQ.out]
              go_enter Tryz.func35, Tryz.ntmps35
              go_wp2_with (fail)
              refine (I1.out _).mono ?_
              rintro e w1 ⟨rfl, rfl⟩
              go_wp2_with (fail)
              refine (I2.out _).mono ?_
              rintro e w1 ⟨rfl, rfl⟩
              go_wp2_with (fail)
              refine (I3.out _).mono ?_
              rintro e w1 ⟨rfl, rfl⟩
              go_wp2_with (fail)
              refine (arithmetic_i _).mono ?_
              rintro e w2 ⟨g, rfl, hg, hlt, hb⟩
              have HB := Lib.hid hb
              have kc : w2.cell? ⟨g, 4, none⟩ = some (.func (.func 167) #[] #[]) := Lib.cell_of_heap hg 4
              clear hg hlt hb
              go_wp2_with (fail)
              clear kc
              refine (quotient_i a _ N HNN.out HKK.out hb0 _).mono ?_
              rintro e w3 ⟨rfl, hb3⟩
              replace HB := Lib.hid (HB.out.trans (hb3.mono HB.out.size))
              clear hb3
              go_wp2_with (fail)
              refine (IN.out _).mono ?_
              rintro e w1 ⟨rfl, rfl⟩
              go_wp2_with (fail)
              go_ret2
              exact ⟨rfl, HB.out⟩
          · have hN : a.tmod b = N := HN.out
            have hbd := hk.out
            rw [← hN] at hbd
            have hb0 : ¬ b = 0 := by omega
            have HNN := Lib.hid hN
            have HKK := Lib.hid hk.out
            clear HN HMD HDD HOD hk hz hN hbd
            try clear hwr
            cases q
            · rw [EN.out.2 HQ.out]
              go_enter Tryz.func35, Tryz.ntmps35
              go_wp2_with (fail)
              refine (I1.out _).mono ?_
              rintro e w1 ⟨rfl, rfl⟩
              go_wp2_with (fail)
              refine (I2.out _).mono ?_
              rintro e w1 ⟨rfl, rfl⟩
              go_wp2_with (fail)
              refine (I3.out _).mono ?_
              rintro e w1 ⟨rfl, rfl⟩
              go_wp2_with (fail)
              refine (arithmetic_i _).mono ?_
              rintro e w2 ⟨g, rfl, hg, hlt, hb⟩
              have HB := Lib.hid hb
              have kc : w2.cell? ⟨g, 5, none⟩ = some (.func (.func 168) #[] #[]) := Lib.cell_of_heap hg 5
              clear hg hlt hb
              go_wp2_with (fail)
              clear kc
              refine (remainder_i a _ N HNN.out HKK.out hb0 _).mono ?_
              rintro e w3 ⟨rfl, hb3⟩
              replace HB := Lib.hid (HB.out.trans (hb3.mono HB.out.size))
              clear hb3
              go_wp2_with (fail)
              refine (IN.out _).mono ?_
              rintro e w1 ⟨rfl, rfl⟩
              go_wp2_with (fail)
              go_ret2
              exact ⟨rfl, HB.out⟩
            · rw [EN.out.1 HQ.out]
              go_enter Tryz.func35, Tryz.ntmps35
              go_wp2_with (fail)
              refine (I1.out _).mono ?_
              rintro e w1 ⟨rfl, rfl⟩
              go_wp2_with (fail)
              refine (I2.out _).mono ?_
              rintro e w1 ⟨rfl, rfl⟩
              go_wp2_with (fail)
              refine (I3.out _).mono ?_
              rintro e w1 ⟨rfl, rfl⟩
              go_wp2_with (fail)
              refine (arithmetic_i _).mono ?_
              rintro e w2 ⟨g, rfl, hg, hlt, hb⟩
              have HB := Lib.hid hb
              have kc : w2.cell? ⟨g, 5, none⟩ = some (.func (.func 168) #[] #[]) := Lib.cell_of_heap hg 5
              clear hg hlt hb
              go_wp2_with (fail)
              clear kc
              refine (remainder_i a _ N HNN.out HKK.out hb0 _).mono ?_
              rintro e w3 ⟨rfl, hb3⟩
              replace HB := Lib.hid (HB.out.trans (hb3.mono HB.out.size))
              clear hb3
              go_wp2_with (fail)
              refine (IN.out _).mono ?_
              rintro e w1 ⟨rfl, rfl⟩
              go_wp2_with (fail)
              go_ret2
              exact ⟨rfl, HB.out⟩

end Go.Proofs.YtdglmnmalfpipaaGreatDoor.ari

/-
  The digits at the beginning of a text and the number that they give, held to a limit; without the program.
  Conditions: those that each theorem names.
-/
namespace Go.Proofs.YtdglmnmalfpipaaGreatDoor.lead
set_option linter.unusedVariables false

def dg (b : UInt8) : Bool := decide (48 ≤ b.toNat) && decide (b.toNat ≤ 57)
theorem dg_iff {b : UInt8} : dg b = true ↔ 48 ≤ b.toNat ∧ b.toNat ≤ 57 := by unfold dg; simp
theorem dg_no {b : UInt8} : dg b = false ↔ ¬ (48 ≤ b.toNat ∧ b.toNat ≤ 57) := by rw [← dg_iff]; simp
/-- The digits at the beginning. -/
def ld : List UInt8 → List UInt8
  | [] => []
  | b :: r => if dg b then b :: ld r else []
def stp (a : Nat) (b : UInt8) : Nat := min (10 * a + (b.toNat - 48)) 1000000001
theorem stp_eq (a : Nat) (b : UInt8) : stp a b = min (10 * a + (b.toNat - 48)) 1000000001 := by unfold stp; rfl
/-- The number of digits behind the number a, held to 1000000001. -/
def mg (a : Nat) (l : List UInt8) : Nat := l.foldl stp a
theorem mg_nil (a : Nat) : mg a [] = a := by unfold mg; rw [List.foldl_nil]
theorem mg_cons (a : Nat) (b : UInt8) (l : List UInt8) : mg a (b :: l) = mg (min (10 * a + (b.toNat - 48)) 1000000001) l := by unfold mg; rw [List.foldl_cons, stp_eq]
theorem ld_nil : ld [] = [] := rfl
theorem ld_yes {b : UInt8} {r : List UInt8} (h : dg b = true) : ld (b :: r) = b :: ld r := by rw [ld, if_pos h]
theorem ld_no {b : UInt8} {r : List UInt8} (h : dg b = false) : ld (b :: r) = [] := by rw [ld, if_neg (by simp [h])]
theorem mg_le : ∀ (l : List UInt8) (a : Nat), a ≤ 1000000001 → mg a l ≤ 1000000001
  | [], a, h => by rw [mg_nil]; exact h
  | b :: l, a, h => by rw [mg_cons]; exact mg_le l _ (Nat.min_le_right _ _)
theorem ld_len : ∀ l : List UInt8, (ld l).length ≤ l.length
  | [] => by simp [ld]
  | b :: r => by
    rw [ld]
    split
    · simp only [List.length_cons]; have := ld_len r; omega
    · simp
theorem ld_take : ∀ l : List UInt8, l.take (ld l).length = ld l
  | [] => by simp [ld]
  | b :: r => by
    rw [ld]
    split
    · rw [List.length_cons, List.take_succ_cons, ld_take r]
    · simp
theorem ld_dig : ∀ (l : List UInt8) (b : UInt8), b ∈ ld l → dg b = true
  | [], b, h => by simp [ld] at h
  | c :: r, b, h => by
    rw [ld] at h
    split at h
    · rename_i hc
      rcases List.mem_cons.1 h with rfl | h
      · exact hc
      · exact ld_dig r b h
    · simp at h
theorem ld_all : ∀ l : List UInt8, (∀ b ∈ l, dg b = true) → ld l = l
  | [], _ => rfl
  | b :: r, h => by rw [ld_yes (h b List.mem_cons_self), ld_all r fun c hc => h c (List.mem_cons_of_mem _ hc)]
theorem ld_ld (l : List UInt8) : ld (ld l) = ld l := ld_all _ (ld_dig l)
theorem ld_full {l : List UInt8} (h : (ld l).length = l.length) : ld l = l := by rw [← ld_take l, h, List.take_length]

theorem size_eq (s : ByteArray) : s.data.toList.length = s.size := Array.length_toList
theorem drop_at {s : ByteArray} {k : Nat} (h : k < s.size) : s.data.toList.drop k = s[k] :: s.data.toList.drop (k + 1) := by
  rw [List.drop_eq_getElem_cons (by rw [size_eq]; exact h)]
  rfl
theorem drop_end {s : ByteArray} {k : Nat} (h : s.size ≤ k) : s.data.toList.drop k = [] := List.drop_eq_nil_of_le (by rw [size_eq]; exact h)

/-- At place k, with the number n so far: what stands behind gives R and ends at K. -/
def At (s : ByteArray) (k n R K : Nat) : Prop := mg n (ld (s.data.toList.drop k)) = R ∧ k + (ld (s.data.toList.drop k)).length = K ∧ n ≤ 1000000001
theorem At.start (s : ByteArray) (k : Nat) : At s k 0 (mg 0 (ld (s.data.toList.drop k))) (k + (ld (s.data.toList.drop k)).length) := ⟨rfl, rfl, by omega⟩
theorem At.step {s : ByteArray} {k n R K : Nat} (h : At s k n R K) (hk : k < s.size) (hd : dg s[k] = true) : At s (k + 1) (min (10 * n + (s[k].toNat - 48)) 1000000001) R K := by
  obtain ⟨h1, h2, h3⟩ := h
  rw [drop_at hk, ld_yes hd] at h1 h2
  rw [mg_cons] at h1
  rw [List.length_cons] at h2
  exact ⟨h1, by omega, Nat.min_le_right _ _⟩
theorem At.stop {s : ByteArray} {k n R K : Nat} (h : At s k n R K) (hk : k < s.size) (hd : dg s[k] = false) : n = R ∧ k = K := by
  obtain ⟨h1, h2, h3⟩ := h
  rw [drop_at hk, ld_no hd] at h1 h2
  rw [mg_nil] at h1
  exact ⟨h1, by simpa using h2⟩
theorem At.fin {s : ByteArray} {k n R K : Nat} (h : At s k n R K) (hk : s.size ≤ k) : n = R ∧ k = K := by
  obtain ⟨h1, h2, h3⟩ := h
  rw [drop_end hk] at h1 h2
  rw [ld_nil] at h1 h2
  rw [mg_nil] at h1
  exact ⟨h1, by simpa using h2⟩

/-- Whether the text begins with the sign. -/
def neg (s : ByteArray) : Bool := s.data.toList.head? == some 45
def off (s : ByteArray) : Nat := if neg s then 1 else 0
def digs (s : ByteArray) : List UInt8 := ld (s.data.toList.drop (off s))
def mag (s : ByteArray) : Nat := mg 0 (digs s)
/-- LeadingInt. -/
def li (s : ByteArray) : Int := if neg s then -((min (mag s) 1000000000 : Nat) : Int) else ((min (mag s) 1000000000 : Nat) : Int)
/-- IsNumeric. -/
def isn (s : ByteArray) : Bool := decide (1 ≤ s.size - off s) && decide (s.size - off s ≤ 10) && decide ((digs s).length = s.size - off s) && decide (mag s ≤ 1000000000)
theorem mag_le (s : ByteArray) : mag s ≤ 1000000001 := mg_le _ _ (by omega)
theorem neg_lt {s : ByteArray} (h : neg s = true) : 0 < s.size := by
  rcases Nat.eq_zero_or_pos s.size with hz | hz
  · have : s.data.toList = [] := List.eq_nil_of_length_eq_zero (by rw [size_eq]; omega)
    unfold neg at h
    rw [this] at h
    simp at h
  · exact hz
theorem neg_at {s : ByteArray} (h : 0 < s.size) : neg s = (s[0] == 45) := by
  unfold neg
  have : s.data.toList.head? = some s[0] := by
    rw [List.head?_eq_getElem?, List.getElem?_eq_getElem (by rw [size_eq]; exact h)]
    rfl
  rw [this]
  rfl
theorem off_le (s : ByteArray) : off s ≤ s.size := by
  unfold off
  split
  · rename_i h; exact neg_lt h
  · omega
/-- What the model's scan gives: the number and how many bytes it takes. -/
def scn (s : ByteArray) : Int × Nat := if (digs s).length = 0 then (0, 0) else if neg s then (-(mag s : Int), 1 + (digs s).length) else ((mag s : Int), (digs s).length)
theorem li_scn (s : ByteArray) : li s = max (-1000000000) (min 1000000000 (scn s).1) := by
  unfold li scn
  by_cases h0 : (digs s).length = 0
  · have hm : mag s = 0 := by unfold mag; rw [List.eq_nil_of_length_eq_zero h0, mg_nil]
    rw [if_pos h0, hm]
    split <;> simp <;> omega
  · rw [if_neg h0]
    split <;> omega
theorem scn_le (s : ByteArray) : -1000000001 ≤ (scn s).1 ∧ (scn s).1 ≤ 1000000001 := by
  have := mag_le s
  unfold scn
  split
  · simp
  · split <;> simp <;> omega
theorem scn_take (s : ByteArray) : (scn s).2 ≤ s.size := by
  have h1 : (digs s).length ≤ s.size - off s := by
    unfold digs
    have := ld_len (s.data.toList.drop (off s))
    rw [List.length_drop, size_eq] at this
    exact this
  have h2 := off_le s
  unfold scn
  split
  · simp
  · unfold off at h1 h2
    split <;> rename_i hn <;> simp only [hn] at h1 h2 <;> simp at h1 h2 ⊢ <;> omega
theorem isn_scn (s : ByteArray) : isn s = (decide ((0 : Int) < (scn s).2) && decide ((scn s).2 = s.size) && (decide ((-1000000000 : Int) ≤ (scn s).1) && decide ((scn s).1 ≤ (1000000000 : Int))) && (decide ((scn s).2 ≤ 10) || decide ((scn s).2 = 11) && neg s)) := by
  have h1 : (digs s).length ≤ s.size - off s := by
    unfold digs
    have := ld_len (s.data.toList.drop (off s))
    rw [List.length_drop, size_eq] at this
    exact this
  have h2 := off_le s
  have hm := mag_le s
  unfold isn scn
  rw [Bool.eq_iff_iff]
  simp only [Bool.and_eq_true, Bool.or_eq_true, decide_eq_true_eq]
  unfold off at h1 h2 ⊢
  by_cases h0 : (digs s).length = 0
  · rw [if_pos h0]
    constructor
    · rintro ⟨⟨⟨a, b⟩, c⟩, d⟩; omega
    · rintro ⟨⟨⟨a, b⟩, c⟩, d⟩; simp at a
  · rw [if_neg h0]
    by_cases hn : neg s = true
    · simp only [hn, if_true] at h1 h2 ⊢
      constructor
      · rintro ⟨⟨⟨a, b⟩, c⟩, d⟩; simp; omega
      · rintro ⟨⟨⟨a, b⟩, c⟩, d⟩; simp at a c d; omega
    · simp only [hn] at h1 h2 ⊢
      simp at h1 h2
      constructor
      · rintro ⟨⟨⟨a, b⟩, c⟩, d⟩; simp at a b c ⊢; omega
      · rintro ⟨⟨⟨a, b⟩, c⟩, d⟩; simp at a b c d ⊢; omega

end Go.Proofs.YtdglmnmalfpipaaGreatDoor.lead

/-
  The project's reading of the digits at the beginning of a text: leadingDigits, magnitude, LeadingInt and IsNumeric.
  Conditions: the text has at most 2^40 bytes.
-/
namespace Go.Proofs.YtdglmnmalfpipaaGreatDoor.lead
open Go.ChangeShapes Go.WideShapes Go.ChangeAt Go.RowKit
set_option linter.unusedVariables false

def tx (l : List UInt8) : ByteArray := ⟨l.toArray⟩
theorem tx_list (l : List UInt8) : (tx l).data.toList = l := by simp [tx]
theorem tx_size (l : List UInt8) : (tx l).size = l.length := by simp [tx, ByteArray.size]
theorem tx_of (s : ByteArray) : tx s.data.toList = s := by cases s; simp [tx]
theorem ext_tx (s : ByteArray) (k : Nat) : s.extract 0 k = tx (s.data.toList.take k) := by
  have : ∀ a b : ByteArray, a.data.toList = b.data.toList → a = b := fun a b h => by cases a; cases b; simp at h; congr
  apply this
  rw [tx_list]
  simp [ByteArray.data_extract]
theorem at_mem {s : ByteArray} {k : Nat} (hk : k < s.size) : s[k] ∈ s.data.toList := by
  have h : s.data.toList[k]'(by rw [size_eq]; exact hk) ∈ s.data.toList := List.getElem_mem _
  exact h

theorem bss {w w1 w2 : World} (h : Below w.heap.size w w1) (h2 : Below w1.heap.size w1 w2) : Below w.heap.size w w2 := h.trans (h2.mono h.size)

theorem isDigit (b : UInt8) (w : World) : Calls Tryz.prog 247 #[.int .u8 b.toNat] w fun e w' => e = .returned (.bool (dg b)) ∧ w = w' := by
  have hb0 : (0 : Int) ≤ (b.toNat : Int) := by omega
  have hb9 : (b.toNat : Int) ≤ 255 := by have := b.toNat_lt; omega
  by_cases h1 : 48 ≤ b.toNat
  · have i1 : (48 : Int) ≤ (b.toNat : Int) := by omega
    by_cases h2 : b.toNat ≤ 57
    · have i2 : (b.toNat : Int) ≤ 57 := by omega
      have HD : Hid (dg b = true) := Lib.hid (dg_iff.2 ⟨h1, h2⟩)
      clear h1 h2
      go_enter Tryz.func247, Tryz.ntmps247
      go_wp2
      go_ret
      exact ⟨by rw [HD.out]; rfl, rfl⟩
    · have i2 : ¬ (b.toNat : Int) ≤ 57 := by omega
      have HD : Hid (dg b = false) := Lib.hid (dg_no.2 fun h => h2 h.2)
      clear h1 h2
      go_enter Tryz.func247, Tryz.ntmps247
      go_wp2
      go_ret
      exact ⟨by rw [HD.out]; rfl, rfl⟩
  · have i1 : ¬ (48 : Int) ≤ (b.toNat : Int) := by omega
    have HD : Hid (dg b = false) := Lib.hid (dg_no.2 fun h => h1 h.1)
    clear h1
    go_enter Tryz.func247, Tryz.ntmps247
    go_wp2
    go_ret
    exact ⟨by rw [HD.out]; rfl, rfl⟩

/-- leadingDigits. -/
theorem leadingDigits (s : ByteArray) (hs : s.size ≤ 1099511627776) (w : World) : Calls Tryz.prog 234 #[.string s] w fun e w' => e = .returned (.string (tx (ld s.data.toList))) ∧ Below w.heap.size w w' := by
  have ST := At.start s 0
  obtain ⟨R, HR⟩ : ∃ R, Hid (mg 0 (ld (s.data.toList.drop 0)) = R) := ⟨_, Lib.hid rfl⟩
  obtain ⟨K, HK⟩ : ∃ K, Hid ((ld s.data.toList).length = K) := ⟨_, Lib.hid rfl⟩
  have HT : Hid (tx (ld s.data.toList) = s.extract 0 K) := Lib.hid (by rw [ext_tx, ← HK.out, ld_take])
  have hKs : K ≤ s.size := by rw [← HK.out, ← size_eq]; exact ld_len _
  have HF : Hid (K = s.size → s.extract 0 K = s) := Lib.hid fun h => by rw [h, ext_tx, ← size_eq, List.take_length, tx_of]
  rw [HR.out] at ST
  have hk0 : 0 + (ld (s.data.toList.drop 0)).length = K := by rw [← HK.out]; simp
  rw [hk0] at ST
  rw [HT.out]
  clear hk0 HT HR HK
  go_enter Tryz.func234, Tryz.ntmps234
  go_wp2
  go_loop [6] (fun i => ∃ (k n : Nat), k ≤ s.size ∧ i = .int .i64 k ∧ At s k n R K) (fun i => s.size - (RowKit.intOf i).toNat)
  case atStart => exact ⟨0, 0, by omega, rfl, ST⟩
  case round =>
    clear ST
    obtain ⟨k, n, hk, rfl, hA⟩ := hrel
    by_cases hlt : k < s.size
    · have hb0 : (0 : Int) ≤ (s[k].toNat : Int) := by omega
      have hb9 : (s[k].toNat : Int) ≤ 255 := by have := s[k].toNat_lt; omega
      by_cases hd : dg s[k] = true
      · have HA := Lib.hid (hA.step hlt hd)
        have HD := Lib.hid hd
        clear hA hd
        go_wp2_with (go_at_call 247; refine (isDigit _ _).mono ?_; rintro e w1 ⟨rfl, rfl⟩; rw [HD.out])
        exact ⟨⟨k + 1, _, by omega, by go_num, HA.out⟩, by simp only [RowKit.intOf]; omega⟩
      · have hd' : dg s[k] = false := by simpa using hd
        obtain ⟨-, rfl⟩ := hA.stop hlt hd'
        have HD := Lib.hid hd'
        clear hA hd hd'
        go_wp2_with (go_at_call 247; refine (isDigit _ _).mono ?_; rintro e w1 ⟨rfl, rfl⟩; rw [HD.out])
        go_ret
        exact ⟨rfl, Below.refl _ _⟩
    · obtain rfl : k = s.size := by omega
      obtain ⟨-, rfl⟩ := hA.fin (Nat.le_refl _)
      have HE := Lib.hid (HF.out rfl)
      clear hA
      go_wp2
      go_ret
      exact ⟨by first | rfl | (rw [HE.out]; rfl), Below.refl _ _⟩

/-- magnitude, of digits. -/
theorem magnitude (s : ByteArray) (hs : s.size ≤ 1099511627776) (hdig : ∀ b ∈ s.data.toList, dg b = true) (w : World) : Calls Tryz.prog 235 #[.string s] w fun e w' => e = .returned (.int .i64 (mg 0 s.data.toList)) ∧ Below w.heap.size w w' := by
  have ST := At.start s 0
  obtain ⟨K, HK⟩ : ∃ K, Hid (0 + (ld (s.data.toList.drop 0)).length = K) := ⟨_, Lib.hid rfl⟩
  obtain ⟨R, HR⟩ : ∃ R, Hid (mg 0 s.data.toList = R) := ⟨_, Lib.hid rfl⟩
  have hr : mg 0 (ld (s.data.toList.drop 0)) = R := by rw [List.drop_zero, ld_all _ hdig, HR.out]
  rw [hr, HK.out] at ST
  have hR : R ≤ 1000000001 := by rw [← HR.out]; exact mg_le _ _ (by omega)
  rw [HR.out]
  have HG := Lib.hid hdig
  clear hr HK HR hdig
  go_enter Tryz.func235, Tryz.ntmps235
  go_wp2
  go_loop [3, 7] (fun m i => ∃ (k n : Nat) (x : Int), k ≤ s.size ∧ i = .int .i64 k ∧ At s k n R K ∧ 0 ≤ x ∧ x ≤ 1000000001 ∧ Hid (x = (n : Int)) ∧ m = .int .i64 x) (fun _ i => s.size - (RowKit.intOf i).toNat)
  case atStart => exact ⟨0, 0, 0, by omega, rfl, ST, by omega, by omega, rfl, rfl⟩
  case round =>
    clear ST
    obtain ⟨k, n, x, hk, rfl, hA, x0, x1, HX, rfl⟩ := hrel
    by_cases hlt : k < s.size
    · have hb0 : (0 : Int) ≤ (s[k].toNat : Int) := by omega
      have hb9 : (s[k].toNat : Int) ≤ 255 := by have := s[k].toNat_lt; omega
      have hd := HG.out _ (at_mem hlt)
      have HA := Lib.hid (hA.step hlt hd)
      have hd' := dg_iff.1 hd
      obtain ⟨d1, d2⟩ := hd'
      have D1 : (48 : Int) ≤ (s[k].toNat : Int) := by omega
      have D2 : (s[k].toNat : Int) ≤ 57 := by omega
      clear hA hd
      go_wp2_with (go_at_call 190; refine (nums.implMin _ _ _).mono ?_; rintro e w1 ⟨rfl, rfl⟩)
      refine ⟨⟨k + 1, _, _, by omega, by go_num, HA.out, ?_, ?_, ?_, rfl⟩, by simp only [RowKit.intOf]; omega⟩
      · unfold nums.mn; split <;> omega
      · unfold nums.mn; split <;> omega
      · have := HX.out
        show _ = _
        unfold nums.mn
        split <;> omega
    · obtain ⟨rfl, -⟩ := hA.fin (by omega)
      have hx := HX.out
      subst hx
      clear hA HX
      go_wp2
      go_ret
      exact ⟨rfl, Below.refl _ _⟩

theorem cut_eq (s : ByteArray) : (Lib.hasPrefix s.data.toList [45] = neg s) ∧ (Lib.trimPrefix s.data.toList [45] = s.data.toList.drop (off s)) := by
  unfold off neg
  cases s.data.toList with
  | nil => exact ⟨rfl, rfl⟩
  | cons b r =>
    by_cases h : b = 45
    · subst h; exact ⟨rfl, rfl⟩
    · have h' : (b == 45) = false := by simpa using h
      have h2 : ((45 : UInt8) == b) = false := by simpa using fun e => h e.symm
      constructor
      · simp [Lib.hasPrefix, List.isPrefixOf, h2]
        exact fun e => h e
      · simp [Lib.trimPrefix, Lib.hasPrefix, List.isPrefixOf, h2, h']

/-- What stands behind the sign. -/
def beh (s : ByteArray) : ByteArray := tx (s.data.toList.drop (off s))
theorem beh_list (s : ByteArray) : (beh s).data.toList = s.data.toList.drop (off s) := tx_list _
theorem beh_size (s : ByteArray) : (beh s).size = s.size - off s := by unfold beh; rw [tx_size, List.length_drop, size_eq]

theorem leadingInt_i (s : ByteArray) (hs : s.size ≤ 1099511627776) (w : World) : Calls Tryz.prog 215 #[.string s] w fun e w' => e = .returned (.int .i64 (li s)) ∧ Below w.heap.size w w' := by
  have HC : Hid ((⟨(Lib.trimPrefix s.data.toList [45]).toArray⟩ : ByteArray) = beh s ∧ Lib.hasPrefix s.data.toList [45] = neg s) := Lib.hid ⟨by rw [(cut_eq s).2]; rfl, (cut_eq s).1⟩
  have hbs : (beh s).size ≤ 1099511627776 := by rw [beh_size]; omega
  have LD := leadingDigits (beh s) hbs
  rw [beh_list] at LD
  have hds : (tx (digs s)).size ≤ 1099511627776 := by
    rw [tx_size]
    unfold digs
    have := ld_len (s.data.toList.drop (off s))
    rw [List.length_drop, size_eq] at this
    omega
  have MG := magnitude (tx (digs s)) hds (by rw [tx_list]; exact ld_dig _)
  rw [tx_list] at MG
  have hm := mag_le s
  obtain ⟨m, HM⟩ : ∃ m, Hid (mag s = m) := ⟨_, Lib.hid rfl⟩
  have MG' : ∀ w, Calls Tryz.prog 235 #[.string (tx (digs s))] w fun e w' => e = .returned (.int .i64 (m : Int)) ∧ Below w.heap.size w w' := fun w => by rw [← HM.out]; exact MG w
  have LD' : ∀ w, Calls Tryz.prog 234 #[.string (beh s)] w fun e w' => e = .returned (.string (tx (digs s))) ∧ Below w.heap.size w w' := LD
  have HR : Hid (li s = if neg s then -((min m 1000000000 : Nat) : Int) else ((min m 1000000000 : Nat) : Int)) := Lib.hid (by unfold li; rw [HM.out])
  rw [HM.out] at hm
  obtain ⟨B, HB⟩ : ∃ B, Hid (beh s = B) := ⟨_, Lib.hid rfl⟩
  obtain ⟨D, HD⟩ : ∃ D, Hid (tx (digs s) = D) := ⟨_, Lib.hid rfl⟩
  obtain ⟨g, HG⟩ : ∃ g, Hid (neg s = g) := ⟨_, Lib.hid rfl⟩
  rw [HB.out] at HC hbs LD'
  rw [HD.out] at MG' LD'
  rw [HG.out] at HC HR
  have HMG := Lib.hid MG'
  have HLD := Lib.hid LD'
  clear LD MG LD' MG' hds HM
  have x0 : (0 : Int) ≤ (m : Int) := by omega
  have x1 : (m : Int) ≤ 1000000001 := by omega
  rw [HR.out]
  cases g
  all_goals
    go_enter Tryz.func215, Tryz.ntmps215
    go_wp2_with (fail)
    refine (Tryz.strings_CutPrefix s ⟨#[45]⟩ _).mono ?_
    rintro e w1 ⟨he, rfl⟩
    have he2 : ∀ x, Lib.hasPrefix s.data.toList [45] = x → e = .returned (.tuple #[.string B, .bool x]) := fun x hx => he.trans (by rw [← HC.out.1, ← hx])
    replace he := he2 _ HC.out.2
    clear he2
    subst he
    go_wp2_with (fail)
    refine (HLD.out _).mono ?_
    rintro e w2 ⟨rfl, hb2⟩
    have HB2 := Lib.hid hb2
    clear hb2
    go_wp2_with (fail)
    refine (HMG.out _).mono ?_
    rintro e w3 ⟨rfl, hb3⟩
    have HB3 := Lib.hid (bss HB2.out hb3)
    clear hb3
    go_wp2_with (fail)
    refine (nums.implMin _ _ _).mono ?_
    rintro e w4 ⟨rfl, rfl⟩
    have hmn : nums.mn (m : Int) 1000000000 = ((min m 1000000000 : Nat) : Int) := by unfold nums.mn; split <;> omega
    rw [hmn]
    obtain ⟨q, hq⟩ : ∃ q : Int, q = ((min m 1000000000 : Nat) : Int) := ⟨_, rfl⟩
    have q0 : 0 ≤ q := by omega
    have q1 : q ≤ 1000000000 := by omega
    rw [← hq]
    have HQ := Lib.hid hq
    clear hmn hq
    go_wp2_with (fail)
    go_ret
    exact ⟨by rw [← HQ.out]; rfl, HB3.out⟩

end Go.Proofs.YtdglmnmalfpipaaGreatDoor.lead

/-
  The model's reading of the digits at the beginning of a text: l8Scan, LeadingInt and IsNumeric; and the project's IsNumeric.
  Conditions: the text has at most 2^40 bytes.
-/
namespace Go.Proofs.YtdglmnmalfpipaaGreatDoor.lead
open Go.ChangeShapes Go.WideShapes Go.ChangeAt Go.RowKit
set_option linter.unusedVariables false

theorem sMax (a b : Int) (w : World) : Calls Tryz.prog 133 #[.int .i64 a, .int .i64 b] w fun e w' => e = .returned (.int .i64 (nums.mx a b)) ∧ w = w' := by
  by_cases h : a < b
  all_goals
    go_enter Tryz.func133, Tryz.ntmps133
    go_wp2
    go_ret
    exact ⟨nums.ret_int (by unfold nums.mx; split <;> omega), rfl⟩

def ScQ (s : ByteArray) (w : World) (e : Ending) (w' : World) : Prop := e = .returned (.tuple #[.int .i64 (scn s).1, .int .i64 ((scn s).2 : Int)]) ∧ Below w.heap.size w w'

theorem nn_of {b : UInt8} (h : (b == 45) = false) : ((b.toNat : Int) == 45) = false := by
  rw [beq_eq_false_iff_ne] at h ⊢
  intro e
  apply h
  apply UInt8.toNat_inj.1
  have : (45 : UInt8).toNat = 45 := rfl
  omega


end Go.Proofs.YtdglmnmalfpipaaGreatDoor.lead

/-
  LeadingInt of the model, IsNumeric of both sides.
  Conditions: the text has at most 2^40 bytes.
-/
namespace Go.Proofs.YtdglmnmalfpipaaGreatDoor.lead
open Go.ChangeShapes Go.WideShapes Go.ChangeAt Go.RowKit
set_option linter.unusedVariables false


theorem bytes_ne {a b : ByteArray} (h : a ≠ b) : (a.toList == b.toList) = false := by
  rw [beq_eq_false_iff_ne]
  intro hh
  exact h (by rw [ByteArray.toList_eq, ByteArray.toList_eq] at hh; exact Go.WideShapes.bytes_inj hh)

set_option maxHeartbeats 1000000 in
theorem isNumeric_i (s : ByteArray) (hs : s.size ≤ 1099511627776) (w : World) : Calls Tryz.prog 214 #[.string s] w fun e w' => e = .returned (.bool (isn s)) ∧ Below w.heap.size w w' := by
  have HC : Hid ((⟨(Lib.trimPrefix s.data.toList [45]).toArray⟩ : ByteArray) = beh s) := Lib.hid (by rw [(cut_eq s).2]; rfl)
  have hbs : (beh s).size ≤ 1099511627776 := by rw [beh_size]; omega
  have LD := leadingDigits (beh s) hbs
  rw [beh_list] at LD
  have LD' : ∀ w, Calls Tryz.prog 234 #[.string (beh s)] w fun e w' => e = .returned (.string (tx (digs s))) ∧ Below w.heap.size w w' := LD
  have hI : isn s = (decide (1 ≤ (beh s).size) && decide ((beh s).size ≤ 10) && decide ((digs s).length = (beh s).size) && decide (mag s ≤ 1000000000)) := by unfold isn; rw [beh_size]
  have hE : tx (digs s) = beh s → (digs s).length = (beh s).size := fun h => by rw [← h, tx_size]
  have hN : tx (digs s) ≠ beh s → ¬ (digs s).length = (beh s).size := fun h hl => h (by
    unfold beh
    congr 1
    unfold digs at hl ⊢
    exact ld_full (by rw [hl, beh_size, List.length_drop, size_eq]))
  have MG : tx (digs s) = beh s → ∀ w, Calls Tryz.prog 235 #[.string (beh s)] w fun e w' => e = .returned (.int .i64 (mag s : Int)) ∧ Below w.heap.size w w' := fun h w => by
    have := magnitude (beh s) hbs (by rw [← h, tx_list]; exact ld_dig _) w
    have e : mg 0 (beh s).data.toList = mag s := by rw [← h, tx_list]; rfl
    rw [e] at this
    exact this
  obtain ⟨m, HM⟩ : ∃ m, Hid (mag s = m) := ⟨_, Lib.hid rfl⟩
  obtain ⟨B, HB⟩ : ∃ B, Hid (beh s = B) := ⟨_, Lib.hid rfl⟩
  obtain ⟨D, HD⟩ : ∃ D, Hid (tx (digs s) = D) := ⟨_, Lib.hid rfl⟩
  obtain ⟨d, HDL⟩ : ∃ d, Hid ((digs s).length = d) := ⟨_, Lib.hid rfl⟩
  rw [HB.out] at HC hbs LD' hI hE hN MG
  rw [HD.out] at LD' hE hN MG
  rw [HDL.out] at hI hE hN
  rw [HM.out] at hI MG
  have HLD := Lib.hid LD'
  rw [hI]
  clear LD LD' hI HM HB HD HDL
  by_cases c1 : 1 ≤ B.size ∧ B.size ≤ 10
  · have HIN : Hid (nums.inr (B.size : Int) 1 10 = true) := Lib.hid (by unfold nums.inr; simp; omega)
    by_cases c2 : D = B
    · subst c2
      have HMG := Lib.hid (MG rfl)
      have c3 := hE rfl
      have c4 : (D.toList == D.toList) = true := by simp
      by_cases c5 : m ≤ 1000000000
      · have c6 : (m : Int) ≤ 1000000000 := by omega
        have hv : (decide (1 ≤ D.size) && decide (D.size ≤ 10) && decide (d = D.size) && decide (m ≤ 1000000000)) = true := by simp [c1.1, c1.2, c3, c5]
        rw [hv]
        clear hv c1 hE hN MG c3 c5
        go_enter Tryz.func214, Tryz.ntmps214
        go_wp2_with (fail)
        refine (Tryz.strings_TrimPrefix s ⟨#[45]⟩ _).mono ?_
        rintro e w1 ⟨he, rfl⟩
        obtain rfl : e = .returned (.string D) := he.trans (by rw [← HC.out])
        go_wp2_with (fail)
        refine (nums.implInRange _ _ _ _).mono ?_
        rintro e w2 ⟨rfl, rfl⟩
        rw [HIN.out]
        go_wp2_with (fail)
        refine (HLD.out _).mono ?_
        rintro e w3 ⟨rfl, hb3⟩
        have HB3 := Lib.hid hb3
        clear hb3
        go_wp2_with (fail)
        refine (HMG.out _).mono ?_
        rintro e w4 ⟨rfl, hb4⟩
        have HB4 := Lib.hid (bss HB3.out hb4)
        clear hb4
        go_wp2_with (fail)
        go_ret
        exact ⟨rfl, HB4.out⟩
      · have c6 : ¬ (m : Int) ≤ 1000000000 := by omega
        have HD6 : Hid (decide ((m : Int) ≤ 1000000000) = false) := Lib.hid (decide_eq_false c6)
        have hv : (decide (1 ≤ D.size) && decide (D.size ≤ 10) && decide (d = D.size) && decide (m ≤ 1000000000)) = false := by simp [c5]
        rw [hv]
        clear hv c1 hE hN MG c3 c5
        go_enter Tryz.func214, Tryz.ntmps214
        go_wp2_with (fail)
        refine (Tryz.strings_TrimPrefix s ⟨#[45]⟩ _).mono ?_
        rintro e w1 ⟨he, rfl⟩
        obtain rfl : e = .returned (.string D) := he.trans (by rw [← HC.out])
        go_wp2_with (fail)
        refine (nums.implInRange _ _ _ _).mono ?_
        rintro e w2 ⟨rfl, rfl⟩
        rw [HIN.out]
        go_wp2_with (fail)
        refine (HLD.out _).mono ?_
        rintro e w3 ⟨rfl, hb3⟩
        have HB3 := Lib.hid hb3
        clear hb3
        go_wp2_with (fail)
        refine (HMG.out _).mono ?_
        rintro e w4 ⟨rfl, hb4⟩
        have HB4 := Lib.hid (bss HB3.out hb4)
        clear hb4
        go_wp2_with (fail)
        go_ret
        exact ⟨by first | rfl | (show Ending.returned (.bool (decide _)) = _; rw [HD6.out]), HB4.out⟩
    · have c4 := bytes_ne c2
      have hv : (decide (1 ≤ B.size) && decide (B.size ≤ 10) && decide (d = B.size) && decide (m ≤ 1000000000)) = false := by simp [hN c2]
      rw [hv]
      clear hv c1 hE hN MG c2
      go_enter Tryz.func214, Tryz.ntmps214
      go_wp2_with (fail)
      refine (Tryz.strings_TrimPrefix s ⟨#[45]⟩ _).mono ?_
      rintro e w1 ⟨he, rfl⟩
      obtain rfl : e = .returned (.string B) := he.trans (by rw [← HC.out])
      go_wp2_with (fail)
      refine (nums.implInRange _ _ _ _).mono ?_
      rintro e w2 ⟨rfl, rfl⟩
      rw [HIN.out]
      go_wp2_with (fail)
      refine (HLD.out _).mono ?_
      rintro e w3 ⟨rfl, hb3⟩
      have HB3 := Lib.hid hb3
      clear hb3
      go_wp2_with (fail)
      go_ret
      exact ⟨rfl, HB3.out⟩
  · have HIN : Hid (nums.inr (B.size : Int) 1 10 = false) := Lib.hid (by unfold nums.inr; simp; omega)
    have hv : (decide (1 ≤ B.size) && decide (B.size ≤ 10) && decide (d = B.size) && decide (m ≤ 1000000000)) = false := by
      by_cases a : 1 ≤ B.size
      · have : ¬ B.size ≤ 10 := fun h => c1 ⟨a, h⟩
        simp [this]
      · simp [a]
    rw [hv]
    clear hv c1 hE hN MG
    go_enter Tryz.func214, Tryz.ntmps214
    go_wp2_with (fail)
    refine (Tryz.strings_TrimPrefix s ⟨#[45]⟩ _).mono ?_
    rintro e w1 ⟨he, rfl⟩
    obtain rfl : e = .returned (.string B) := he.trans (by rw [← HC.out])
    go_wp2_with (fail)
    refine (nums.implInRange _ _ _ _).mono ?_
    rintro e w2 ⟨rfl, rfl⟩
    rw [HIN.out]
    go_wp2_with (fail)
    go_ret
    exact ⟨rfl, Below.refl _ _⟩


end Go.Proofs.YtdglmnmalfpipaaGreatDoor.lead

/-
  Relation of the project and of the model.
  Conditions: none.
-/
namespace Go.Proofs.YtdglmnmalfpipaaGreatDoor.rels
open Go.ChangeShapes Go.WideShapes Go.ChangeAt Go.RowKit
set_option linter.unusedVariables false

/-- Whether an order satisfies an operator. -/
def relB (op o : Int) : Bool := if op = 7 then decide (o = 0) else if op = 8 then !decide (o = 0) else if op = 11 then decide (o = -1) else if op = 12 then decide (o = -1) || decide (o = 0) else if op = 13 then decide (o = 1) else if op = 14 then decide (o = 1) || decide (o = 0) else false
theorem relB_out {op o : Int} (h : ¬ (op = 7 ∨ op = 8 ∨ op = 11 ∨ op = 12 ∨ op = 13 ∨ op = 14)) : relB op o = false := by
  unfold relB
  rw [if_neg (by omega), if_neg (by omega), if_neg (by omega), if_neg (by omega), if_neg (by omega), if_neg (by omega)]

set_option maxHeartbeats 4000000 in
theorem relation_i (op o : Int) (w : World) : Calls Tryz.prog 105 #[.int .i64 op, .int .i64 o] w fun e w' => e = .returned (.bool (relB op o)) ∧ w = w' := by
  by_cases h : op = 7 ∨ op = 8 ∨ op = 11 ∨ op = 12 ∨ op = 13 ∨ op = 14
  · rcases h with rfl | rfl | rfl | rfl | rfl | rfl
    all_goals
      obtain rfl | rfl | rfl | ⟨h0, h1, h2⟩ : o = -1 ∨ o = 0 ∨ o = 1 ∨ (¬ o = -1 ∧ ¬ o = 0 ∧ ¬ o = 1) := by omega
      all_goals
        go_enter Tryz.func105, Tryz.ntmps105
        go_wp2
        go_ret
        first
        | exact ⟨rfl, rfl⟩
        | exact ⟨by simp [relB, *], rfl⟩
  · rw [relB_out h]
    obtain ⟨h0, h1, h2, h3, h4, h5⟩ : ¬ op = 7 ∧ ¬ op = 8 ∧ ¬ op = 11 ∧ ¬ op = 12 ∧ ¬ op = 13 ∧ ¬ op = 14 := by omega
    clear h
    go_enter Tryz.func105, Tryz.ntmps105
    go_wp2
    go_ret
    exact ⟨rfl, rfl⟩


end Go.Proofs.YtdglmnmalfpipaaGreatDoor.rels

/-
  The model's cursor over the bytes of a draw: what its functions return, and that they write nothing but the cursor.
  Conditions: the cursor is one that the draw has made; the texts and numbers of a list are of bounded size.
-/
namespace Go.Proofs.YtdglmnmalfpipaaGreatDoor.draw
open Go.ChangeShapes Go.WideShapes Go.ChangeAt Go.RowKit
set_option linter.unusedVariables false

theorem and255 (n : Int) : bits .and .i64 n 255 = n % 256 := by
  have h255 : (BitVec.ofInt 64 255).toNat = 2 ^ 8 - 1 := by decide
  have key : (BitVec.ofInt 64 n &&& BitVec.ofInt 64 255).toNat = (n % ((2 ^ 64 : Nat) : Int)).toNat % 2 ^ 8 := by
    rw [BitVec.toNat_and, BitVec.toNat_ofInt, h255, Nat.and_two_pow_sub_one_eq_mod]
  show IntKind.i64.wrap ((BitVec.ofInt 64 n &&& BitVec.ofInt 64 255).toNat : Nat) = n % 256
  rw [key, IntKind.wrap_i64]
  omega

/-- A slice of bytes that lies below block N. -/
def Code (w : World) (N : Nat) (A : Option Addr) (n : Nat) : Prop :=
  0 < n → ∃ a, A = some a ∧ a.block < N ∧ ∀ j, j < n → ∃ v : Int, 0 ≤ v ∧ v ≤ 255 ∧ w.cell? (a.add j) = some (.int .u8 v)

theorem Code.at_ {w : World} {N n k : Nat} {A : Option Addr} (h : Code w N A n) (hk : k < n) : ∃ (a : Addr) (v : Int), A = some a ∧ 0 ≤ v ∧ v ≤ 255 ∧ w.cell? (a.add k) = some (.int .u8 v) := by
  obtain ⟨a, e, _, hc⟩ := h (by omega)
  obtain ⟨v, h0, h1, h2⟩ := hc k hk
  exact ⟨a, v, e, h0, h1, h2⟩

theorem add_block (a : Addr) (n : Nat) : (a.add n).block = a.block := by unfold Addr.add; split <;> rfl

theorem Code.grown {w w' : World} {N n : Nat} {A : Option Addr} (h : Code w N A n) (hN : N ≤ w.heap.size) (hg : w.grownBy w' (some N)) : Code w' N A n := fun hn => by
  obtain ⟨a, e, hb, hc⟩ := h hn
  refine ⟨a, e, hb, fun j hj => ?_⟩
  obtain ⟨v, h0, h1, h2⟩ := hc j hj
  exact ⟨v, h0, h1, (World.cell?_of_block (hg.block _ (by rw [add_block]; omega) (by rw [add_block]; intro e; injection e; omega))).trans h2⟩

/-- Block N is a cursor. -/
def Cur (w : World) (N : Nat) : Prop :=
  ∃ (A : Option Addr) (n c : Nat) (i h : Int), w.heap[N]? = some (.cells #[.slice A n c, .int .i64 i, .int .i64 h] 158 (0, 0)) ∧ Code w N A n ∧ n ≤ 9223372036854775807 ∧ 0 ≤ i ∧ i ≤ (n : Int)

def ByteQ (N : Nat) (w : World) (e : Ending) (w' : World) : Prop :=
  ∃ x : Int, e = .returned (.int .i64 x) ∧ 0 ≤ x ∧ x ≤ 255 ∧ Cur w' N ∧ w.grownBy w' (some N)

theorem only_set {a w : World} {N : Nat} (h : a.grownBy w (some N)) (o : Nat) (u : Value) : a.grownBy (w.setCell ⟨N, o, none⟩ u) (some N) :=
  ⟨h.os, h.tape, h.output, by simpa [World.setCell] using h.size, fun k hk hne => (Below.heap_setCell w ⟨N, o, none⟩ u k (fun e => hne (by rw [e]))).trans (h.block k hk hne)⟩
theorem only_draws {a w : World} {r : Option Nat} (h : a.grownBy w r) (n : Nat) : a.grownBy (w.drewN n) r := ⟨h.os, h.tape, h.output, h.size, h.block⟩
theorem only_new {a w : World} {r : Option Nat} (h : a.grownBy w r) (o : Obj) : a.grownBy (w.alloc o) r :=
  ⟨h.os, h.tape, h.output, Nat.le_trans h.size (by simp), fun k hk hne => (Below.heap_alloc w o k (Nat.lt_of_lt_of_le hk h.size)).trans (h.block k hk hne)⟩
theorem only_trans {a b c : World} {r : Option Nat} (h : a.grownBy b r) (k : b.grownBy c r) : a.grownBy c r :=
  ⟨k.os.trans h.os, k.tape.trans h.tape, k.output.trans h.output, Nat.le_trans h.size k.size, fun j hj hne => (k.block j (Nat.lt_of_lt_of_le hj h.size) hne).trans (h.block j hj hne)⟩
theorem block_lt {w : World} {N : Nat} {o : Obj} (h : w.heap[N]? = some o) : N < w.heap.size := by
  rcases Nat.lt_or_ge N w.heap.size with hlt | hge
  · exact hlt
  · rw [Array.getElem?_eq_none hge] at h; cases h

theorem byte (N : Nat) (w : World) (hC : Cur w N) :
    Calls Tryz.prog 162 #[.pointer (some ⟨N, 0, none⟩)] w (ByteQ N w) := by
  obtain ⟨A, n, c, i, h, hb, hcode, hn, hi0, hi1⟩ := hC
  have c0 : w.cell? ⟨N, 0, none⟩ = some (.slice A n c) := Joins.cell_of_block hb 0
  have c1 : w.cell? ⟨N, 1, none⟩ = some (.int .i64 i) := Joins.cell_of_block hb 1
  have c2 : w.cell? ⟨N, 2, none⟩ = some (.int .i64 h) := Joins.cell_of_block hb 2
  have f1 : w.frozen? ⟨N, 1, none⟩ = false := Joins.unfrozen_of_block hb 1
  have f2 : w.frozen? ⟨N, 2, none⟩ = false := Joins.unfrozen_of_block hb 2
  have hs : ∀ v m, ((w.setCell ⟨N, 2, none⟩ v).drewN m).heap[N]? = some (.cells #[.slice A n c, .int .i64 i, v] 158 (0, 0)) := fun v m => Joins.block_setCell hb v
  have hg : ∀ v m, w.grownBy ((w.setCell ⟨N, 2, none⟩ v).drewN m) (some N) := fun v m => only_draws (only_set (World.grownBy.refl _ _) 2 v) m
  have hN := block_lt hb
  have HS := Lib.hid hs; have HC := Lib.hid hcode; clear hs hb hcode
  go_enter Tryz.func162, Tryz.ntmps162
  go_wp2
  go_quiet (fail)
  rw [and255]
  have hs1 := HS.out (Value.int IntKind.i64 (wrap64 (wrap64 (h * 6364136223846793005) + 1442695040888963407))) nq
  have hg1 := hg (Value.int IntKind.i64 (wrap64 (wrap64 (h * 6364136223846793005) + 1442695040888963407))) nq
  generalize wrap64 (wrap64 (h * 6364136223846793005) + 1442695040888963407) = h1 at *
  generalize wrap64 (h * 6364136223846793005) = h2 at *
  generalize hx : (bits BinOp.xor IntKind.i64 (h1 / 8589934592) (h1 / 140737488355328)) % 256 = x at *
  have x0 : 0 ≤ x := by omega
  have x1 : x ≤ 255 := by omega
  clear hx
  have hcode1 := HC.out.grown (by omega) hg1
  generalize ((w.setCell ⟨N, 2, none⟩ (.int .i64 h1)).drewN nq) = w1 at *
  clear c0 c1 c2 f1 f2 hg HS HC
  have c0 : w1.cell? ⟨N, 0, none⟩ = some (.slice A n c) := Joins.cell_of_block hs1 0
  have c1 : w1.cell? ⟨N, 1, none⟩ = some (.int .i64 i) := Joins.cell_of_block hs1 1
  have f1 : w1.frozen? ⟨N, 1, none⟩ = false := Joins.unfrozen_of_block hs1 1
  by_cases hlt : i < (n : Int)
  · obtain ⟨k, rfl⟩ := Int.eq_ofNat_of_zero_le hi0
    obtain ⟨a, v, rfl, v0, v1, hv⟩ := hcode1.at_ (k := k) (by omega)
    have HS1 := Lib.hid hs1; have HC1 := Lib.hid hcode1; have HG1 := Lib.hid hg1; clear hs1 hcode1 hg1
    go_wp2
    go_quiet (fail)
    go_wp2
    go_quiet (fail)
    rw [and255]
    generalize hy : (x + v) % 256 = y at *
    have y0 : 0 ≤ y := by omega
    have y1 : y ≤ 255 := by omega
    clear hy
    go_wp2
    go_ret
    refine ⟨y, rfl, y0, y1, ⟨some a, n, c, (k : Int) + 1, h1, Joins.block_setCell HS1.out _, HC1.out.grown (block_lt HS1.out |> Nat.le_of_lt) (only_draws (only_set (World.grownBy.refl _ _) 1 _) _), hn, by omega, by omega⟩, only_draws (only_set HG1.out 1 _) _⟩
  · have HS1 := Lib.hid hs1; have HC1 := Lib.hid hcode1; have HG1 := Lib.hid hg1; clear hs1 hcode1 hg1
    go_wp2
    go_quiet (fail)
    go_wp2
    go_ret
    exact ⟨x, rfl, x0, x1, ⟨A, n, c, i, h1, HS1.out, HC1.out, hn, hi0, hi1⟩, only_draws HG1.out _⟩

def IntQ (lo hi : Int) (N : Nat) (w : World) (e : Ending) (w' : World) : Prop :=
  ∃ r : Int, e = .returned (.int .i64 r) ∧ lo ≤ r ∧ r ≤ hi ∧ Cur w' N ∧ w.grownBy w' (some N)

theorem IntQ.mono {lo hi lo' hi' : Int} {N : Nat} {w w' : World} {e : Ending} (h : IntQ lo hi N w e w') (h0 : lo' ≤ lo) (h1 : hi ≤ hi') : IntQ lo' hi' N w e w' := by
  obtain ⟨r, he, a, b, c, d⟩ := h
  exact ⟨r, he, by omega, by omega, c, d⟩

/-- A number from 0 to n - 1; 0 where n is not above 0. -/
theorem below (N : Nat) (n : Int) (hn : n ≤ 1000000000) (w : World) (hC : Cur w N) :
    Calls Tryz.prog 93 #[.pointer (some ⟨N, 0, none⟩), .int .i64 n] w (IntQ 0 (max (n - 1) 0) N w) := by
  have HC := Lib.hid hC; clear hC
  by_cases h0 : n ≤ 0
  · go_enter Tryz.func93, Tryz.ntmps93
    go_wp2
    go_ret
    exact ⟨0, rfl, by omega, by omega, HC.out, World.grownBy.refl _ _⟩
  · by_cases h1 : n ≤ 256
    · go_enter Tryz.func93, Tryz.ntmps93
      go_wp2_with (fail)
      refine (byte N _ HC.out).mono ?_
      rintro e w1 ⟨x, rfl, x0, x1, hC1, hg1⟩
      have m0 := Int.emod_nonneg x (b := n) (by omega)
      have m1 := Int.emod_lt_of_pos x (b := n) (by omega)
      have HC1 := Lib.hid hC1; have HG1 := Lib.hid hg1; clear hC1 hg1
      go_wp2
      go_ret
      exact ⟨x % n, rfl, m0, by omega, HC1.out, HG1.out⟩
    · go_enter Tryz.func93, Tryz.ntmps93
      go_wp2_with (fail)
      refine (byte N _ HC.out).mono ?_
      rintro e w1 ⟨x, rfl, x0, x1, hC1, hg1⟩
      have HC1 := Lib.hid hC1; have HG1 := Lib.hid hg1; clear hC1 hg1
      go_wp2_with (fail)
      refine (byte N _ HC1.out).mono ?_
      rintro e w2 ⟨y, rfl, y0, y1, hC2, hg2⟩
      have HC2 := Lib.hid hC2; have HG2 := Lib.hid hg2; clear hC2 hg2
      go_wp2_with (fail)
      refine (byte N _ HC2.out).mono ?_
      rintro e w3 ⟨z, rfl, z0, z1, hC3, hg3⟩
      have m0 := Int.emod_nonneg (x * 65536 + y * 256 + z) (b := n) (by omega)
      have m1 := Int.emod_lt_of_pos (x * 65536 + y * 256 + z) (b := n) (by omega)
      have HC3 := Lib.hid hC3; have HG3 := Lib.hid hg3; clear hC3 hg3
      go_wp2
      go_ret
      exact ⟨(x * 65536 + y * 256 + z) % n, rfl, m0, by omega, HC3.out, only_trans (only_trans HG1.out HG2.out) HG3.out⟩

def BoolQ (N : Nat) (w : World) (e : Ending) (w' : World) : Prop :=
  ∃ b : Bool, e = .returned (.bool b) ∧ Cur w' N ∧ w.grownBy w' (some N)

theorem once (N : Nat) (n : Int) (hn : n ≤ 1000000000) (w : World) (hC : Cur w N) :
    Calls Tryz.prog 56 #[.pointer (some ⟨N, 0, none⟩), .int .i64 n] w (BoolQ N w) := by
  have HC := Lib.hid hC; clear hC
  go_enter Tryz.func56, Tryz.ntmps56
  go_wp2_with (fail)
  refine (below N n hn _ HC.out).mono ?_
  rintro e w1 ⟨x, rfl, x0, x1, hC1, hg1⟩
  have HC1 := Lib.hid hC1; have HG1 := Lib.hid hg1; clear hC1 hg1
  go_wp2
  go_ret
  exact ⟨_, rfl, HC1.out, HG1.out⟩

/-- A slice of numbers between lo and hi in a block other than the cursor's. -/
def Ints (lo hi : Int) (w : World) (N L n : Nat) : Prop := L ≠ N ∧ L < w.heap.size ∧ ∀ j, j < n → ∃ v : Int, lo ≤ v ∧ v ≤ hi ∧ w.cell? ⟨L, j, none⟩ = some (.int .i64 v)

theorem pickInt (lo hi : Int) (N L n c : Nat) (hn : 1 ≤ n) (hn2 : n ≤ 1000000) (w : World) (hC : Cur w N) (hL : Ints lo hi w N L n) :
    Calls Tryz.prog 128 #[.pointer (some ⟨N, 0, none⟩), .slice (some ⟨L, 0, none⟩) n c] w (IntQ lo hi N w) := by
  have HC := Lib.hid hC; have HL := Lib.hid hL; clear hC hL
  go_enter Tryz.func128, Tryz.ntmps128
  go_wp2_with (fail)
  refine (below N (n : Int) (by omega) _ HC.out).mono ?_
  rintro e w1 ⟨x, rfl, x0, x1, hC1, hg1⟩
  obtain ⟨k, rfl⟩ := Int.eq_ofNat_of_zero_le x0
  have hk : k < n := by omega
  have hcell : ∃ v : Int, lo ≤ v ∧ v ≤ hi ∧ w1.cell? ⟨L, k, none⟩ = some (.int .i64 v) := by
    obtain ⟨l1, l2, l3⟩ := HL.out
    obtain ⟨v, v0, v1, hv⟩ := l3 k hk
    exact ⟨v, v0, v1, hg1.cell hv (by intro e; injection e with e; exact l1 e)⟩
  obtain ⟨v, v0, v1, hv⟩ := hcell
  have HC1 := Lib.hid hC1; have HG1 := Lib.hid hg1; clear hC1 hg1
  go_wp2
  go_ret
  exact ⟨v, rfl, v0, v1, HC1.out, HG1.out⟩

/-- A slice of texts of at most m bytes in a block other than the cursor's. -/
def Strs (m : Nat) (w : World) (N L n : Nat) : Prop := L ≠ N ∧ L < w.heap.size ∧ ∀ j, j < n → ∃ s : ByteArray, s.size ≤ m ∧ w.cell? ⟨L, j, none⟩ = some (.string s)

def StrQ (m : Nat) (N : Nat) (w : World) (e : Ending) (w' : World) : Prop :=
  ∃ s : ByteArray, e = .returned (.string s) ∧ s.size ≤ m ∧ Cur w' N ∧ w.grownBy w' (some N)

theorem pickStr (m N L n c : Nat) (hn : 1 ≤ n) (hn2 : n ≤ 1000000) (w : World) (hC : Cur w N) (hL : Strs m w N L n) :
    Calls Tryz.prog 86 #[.pointer (some ⟨N, 0, none⟩), .slice (some ⟨L, 0, none⟩) n c] w (StrQ m N w) := by
  have HC := Lib.hid hC; have HL := Lib.hid hL; clear hC hL
  go_enter Tryz.func86, Tryz.ntmps86
  go_wp2_with (fail)
  refine (below N (n : Int) (by omega) _ HC.out).mono ?_
  rintro e w1 ⟨x, rfl, x0, x1, hC1, hg1⟩
  obtain ⟨k, rfl⟩ := Int.eq_ofNat_of_zero_le x0
  have hk : k < n := by omega
  have hcell : ∃ s : ByteArray, s.size ≤ m ∧ w1.cell? ⟨L, k, none⟩ = some (.string s) := by
    obtain ⟨l1, l2, l3⟩ := HL.out
    obtain ⟨v, v0, hv⟩ := l3 k hk
    exact ⟨v, v0, hg1.cell hv (by intro e; injection e with e; exact l1 e)⟩
  obtain ⟨v, v0, hv⟩ := hcell
  have HC1 := Lib.hid hC1; have HG1 := Lib.hid hg1; clear hC1 hg1
  go_wp2
  go_ret
  exact ⟨v, rfl, v0, HC1.out, HG1.out⟩

end Go.Proofs.YtdglmnmalfpipaaGreatDoor.draw

/-
  The model's draws of one number, and of a cursor: each changes nothing that was there but the cursor.
  Conditions: the bytes of the draw are at most 1048576.
-/
namespace Go.Proofs.YtdglmnmalfpipaaGreatDoor.draw
open Go.ChangeShapes Go.WideShapes Go.ChangeAt Go.RowKit
set_option linter.unusedVariables false

theorem and30 (n : Int) : bits .and .i64 n 1073741823 = n % 1073741824 := by
  have h30 : (BitVec.ofInt 64 1073741823).toNat = 2 ^ 30 - 1 := by decide
  have key : (BitVec.ofInt 64 n &&& BitVec.ofInt 64 1073741823).toNat = (n % ((2 ^ 64 : Nat) : Int)).toNat % 2 ^ 30 := by
    rw [BitVec.toNat_and, BitVec.toNat_ofInt, h30, Nat.and_two_pow_sub_one_eq_mod]
  show IntKind.i64.wrap ((BitVec.ofInt 64 n &&& BitVec.ofInt 64 1073741823).toNat : Nat) = n % 1073741824
  rw [key, IntKind.wrap_i64]
  omega

theorem Code.keep {w w' : World} {N n : Nat} {A : Option Addr} (h : Code w N A n) (hk : ∀ k, k < N → w'.heap[k]? = w.heap[k]?) : Code w' N A n := fun hn => by
  obtain ⟨a, e, hb, hc⟩ := h hn
  refine ⟨a, e, hb, fun j hj => ?_⟩
  obtain ⟨v, h0, h1, h2⟩ := hc j hj
  exact ⟨v, h0, h1, (World.cell?_of_block (hk _ (by rw [add_block]; omega))).trans h2⟩

theorem Code.later {w w' : World} {n : Nat} {A : Option Addr} (h : Code w w.heap.size A n) (hb : Below w.heap.size w w') : Code w' w'.heap.size A n := fun hn => by
  obtain ⟨a, e, hlt, hc⟩ := (h.keep fun k hk => hb.block k hk) hn
  exact ⟨a, e, Nat.lt_of_lt_of_le hlt hb.size, hc⟩

theorem Cur.keep {w w' : World} {N : Nat} (h : Cur w N) (hk : ∀ k, k < w.heap.size → w'.heap[k]? = w.heap[k]?) : Cur w' N := by
  obtain ⟨A, n, c, i, x, hb, hc, hn, i0, i1⟩ := h
  have hN := block_lt hb
  exact ⟨A, n, c, i, x, (hk N hN).trans hb, hc.keep fun k hlt => hk k (by omega), hn, i0, i1⟩
theorem Cur.new {w : World} {N : Nat} (h : Cur w N) (o : Obj) : Cur (w.alloc o) N := h.keep fun k hk => Below.heap_alloc w o k hk
theorem Cur.below {w w' : World} {N : Nat} (h : Cur w N) (hb : Below w.heap.size w w') : Cur w' N := h.keep hb.block
theorem Cur.lt {w : World} {N : Nat} (h : Cur w N) : N < w.heap.size := by
  obtain ⟨A, n, c, i, x, hb, _⟩ := h
  exact block_lt hb

theorem ints_new (lo hi : Int) (w : World) (t : TypeId) (zs : List Int) (h : ∀ z ∈ zs, lo ≤ z ∧ z ≤ hi) (N : Nat) (hN : N < w.heap.size) :
    Ints lo hi (w.alloc (.cells (zs.map (Value.int .i64)).toArray t)) N w.heap.size zs.length := by
  refine ⟨by omega, by simp, fun j hj => ?_⟩
  obtain ⟨a, b⟩ := h zs[j] (List.getElem_mem _)
  refine ⟨zs[j], a, b, ?_⟩
  rw [World.cell?_alloc_new]
  simp [hj]

theorem odd (N : Nat) (w : World) (hC : Cur w N) :
    Calls Tryz.prog 57 #[.pointer (some ⟨N, 0, none⟩)] w (IntQ (-9223372036854775808) 9223372036854775807 N w) := by
  have hN := hC.lt
  have HI := Lib.hid (ints_new (-9223372036854775808) 9223372036854775807 w 3 [-1, 0, 1, 2, 255, 256, 65535, 2147483647, 2147483648, 4294967295, 4294967296, -2147483648, 9223372036854775807, -9223372036854775808] (by decide) N hN)
  have HC := Lib.hid hC; clear hC
  go_enter Tryz.func57, Tryz.ntmps57
  go_wp2_with (fail)
  refine (pickInt (-9223372036854775808) 9223372036854775807 N w.heap.size 14 14 (by omega) (by omega) _ (HC.out.new _) HI.out).mono ?_
  rintro e w1 ⟨x, rfl, x0, x1, hC1, hg1⟩
  have HC1 := Lib.hid hC1; have HG1 := Lib.hid hg1; clear hC1 hg1
  go_wp2
  go_ret
  exact ⟨x, rfl, x0, x1, HC1.out, only_trans (World.grownBy_alloc _ _ _) HG1.out⟩

theorem numOf (N : Nat) (w : World) (hC : Cur w N) :
    Calls Tryz.prog 163 #[.pointer (some ⟨N, 0, none⟩)] w (IntQ 0 1000000000000 N w) := by
  have HC := Lib.hid hC; clear hC
  go_enter Tryz.func163, Tryz.ntmps163
  go_wp2_with (fail)
  refine (below N 4 (by omega) _ HC.out).mono ?_
  rintro e w1 ⟨x, rfl, x0, x1, hC1, hg1⟩
  have hN1 := hC1.lt
  have HC1 := Lib.hid hC1; have HG1 := Lib.hid hg1; clear hC1 hg1
  obtain rfl | rfl | rfl | rfl : x = 0 ∨ x = 1 ∨ x = 2 ∨ x = 3 := by omega
  · go_wp2_with (fail)
    refine (below N 2000 (by omega) _ HC1.out).mono ?_
    rintro e w2 ⟨y, rfl, y0, y1, hC2, hg2⟩
    have HC2 := Lib.hid hC2; have HG2 := Lib.hid hg2; clear hC2 hg2
    go_wp2
    go_ret
    exact ⟨y, rfl, y0, by omega, HC2.out, only_trans HG1.out HG2.out⟩
  · go_wp2_with (fail)
    have HI := Lib.hid (ints_new 0 1000000000000 w1 3 [0, 1, 127, 128, 999999999, 1000000000, 1000000001, 2147483647, 1000000000000] (by decide) N hN1)
    refine (pickInt 0 1000000000000 N w1.heap.size 9 9 (by omega) (by omega) _ (HC1.out.new _) HI.out).mono ?_
    rintro e w2 ⟨y, rfl, y0, y1, hC2, hg2⟩
    have HC2 := Lib.hid hC2; have HG2 := Lib.hid hg2; clear hC2 hg2
    go_wp2
    go_ret
    exact ⟨y, rfl, y0, by omega, HC2.out, only_trans (only_trans HG1.out (World.grownBy_alloc _ _ _)) HG2.out⟩
  · go_wp2_with (fail)
    refine (below N 1000000 (by omega) _ HC1.out).mono ?_
    rintro e w2 ⟨y, rfl, y0, y1, hC2, hg2⟩
    have HC2 := Lib.hid hC2; have HG2 := Lib.hid hg2; clear hC2 hg2
    go_wp2_with (fail)
    refine (below N 1000000 (by omega) _ HC2.out).mono ?_
    rintro e w3 ⟨z, rfl, z0, z1, hC3, hg3⟩
    have HC3 := Lib.hid hC3; have HG3 := Lib.hid hg3; clear hC3 hg3
    have p0 : 0 ≤ y * z := Int.mul_nonneg y0 z0
    have p1 : y * z ≤ 1000000 * 1000000 := Int.mul_le_mul (by omega) (by omega) z0 (by omega)
    have p2 : y * z ≤ 1000000000000 := by omega
    clear p1
    go_wp2
    go_ret
    exact ⟨y * z, rfl, p0, p2, HC3.out, only_trans (only_trans HG1.out HG2.out) HG3.out⟩
  · go_wp2_with (fail)
    refine (below N 20 (by omega) _ HC1.out).mono ?_
    rintro e w2 ⟨y, rfl, y0, y1, hC2, hg2⟩
    have HC2 := Lib.hid hC2; have HG2 := Lib.hid hg2; clear hC2 hg2
    go_wp2
    go_ret
    exact ⟨y, rfl, y0, by omega, HC2.out, only_trans HG1.out HG2.out⟩

theorem one (N : Nat) (w : World) (hC : Cur w N) :
    Calls Tryz.prog 94 #[.pointer (some ⟨N, 0, none⟩)] w (IntQ (-9223372036854775808) 9223372036854775807 N w) := by
  have HC := Lib.hid hC; clear hC
  go_enter Tryz.func94, Tryz.ntmps94
  go_wp2_with (fail)
  refine (below N 8 (by omega) _ HC.out).mono ?_
  rintro e w1 ⟨x, rfl, x0, x1, hC1, hg1⟩
  have HC1 := Lib.hid hC1; have HG1 := Lib.hid hg1; clear hC1 hg1
  by_cases e0 : x = 0
  · subst e0
    go_wp2_with (fail)
    refine (odd N _ HC1.out).mono ?_
    rintro e w2 ⟨y, rfl, y0, y1, hC2, hg2⟩
    have HC2 := Lib.hid hC2; have HG2 := Lib.hid hg2; clear hC2 hg2
    go_wp2
    go_ret
    exact ⟨y, rfl, y0, by omega, HC2.out, only_trans HG1.out HG2.out⟩
  · by_cases e1 : x = 1
    · subst e1
      go_wp2_with (fail)
      refine (numOf N _ HC1.out).mono ?_
      rintro e w2 ⟨y, rfl, y0, y1, hC2, hg2⟩
      have HC2 := Lib.hid hC2; have HG2 := Lib.hid hg2; clear hC2 hg2
      go_wp2
      go_ret
      exact ⟨-y, rfl, by omega, by omega, HC2.out, only_trans HG1.out HG2.out⟩
    · have b0 : (x == 0) = false := by rw [beq_eq_false_iff_ne]; exact e0
      have b1 : (x == 1) = false := by rw [beq_eq_false_iff_ne]; exact e1
      go_wp2_with (fail)
      refine (numOf N _ HC1.out).mono ?_
      rintro e w2 ⟨y, rfl, y0, y1, hC2, hg2⟩
      have HC2 := Lib.hid hC2; have HG2 := Lib.hid hg2; clear hC2 hg2
      go_wp2
      go_ret
      exact ⟨y, rfl, by omega, by omega, HC2.out, only_trans HG1.out HG2.out⟩

theorem cur_new (w : World) (A : Option Addr) (n c : Nat) (x : Int) (hn : n ≤ 1048576) (hA : Code w w.heap.size A n) :
    Cur (w.alloc (.cells #[.slice A n c, .int .i64 0, .int .i64 x] 158)) w.heap.size :=
  ⟨A, n, c, 0, x, by show (w.heap.push _)[w.heap.size]? = _; simp, hA.keep fun k hk => Below.heap_alloc w _ k hk, by omega, by omega, by omega⟩

def NewQ (w : World) (e : Ending) (w' : World) : Prop :=
  ∃ N : Nat, e = .returned (.pointer (some ⟨N, 0, none⟩)) ∧ w.heap.size ≤ N ∧ Cur w' N ∧ Below w.heap.size w w'

theorem new (A : Option Addr) (n c : Nat) (hn : n ≤ 1048576) (w : World) (hA : Code w w.heap.size A n) :
    Calls Tryz.prog 54 #[.slice A n c] w (NewQ w) := by
  have HA := Lib.hid hA; clear hA
  go_enter Tryz.func54, Tryz.ntmps54
  go_wp2
  go_loop [3, 4] (fun h i => ∃ (k : Nat) (x : Int), k ≤ n ∧ i = .int .i64 k ∧ 0 ≤ x ∧ x ≤ 1073741824 ∧ h = .int .i64 x) (fun _ i => n - (RowKit.intOf i).toNat)
  case atStart => exact ⟨0, 193017 + (n : Int), by omega, rfl, by omega, by omega, rfl⟩
  case round =>
    obtain ⟨k, x, hk, rfl, x0, x1, rfl⟩ := hrel
    by_cases hlt : k < n
    · obtain ⟨a, v, rfl, v0, v1, hv⟩ := HA.out.at_ hlt
      by_cases h4 : (k : Int) < 4000
      · go_wp2
        rw [and30]
        exact ⟨⟨k + 1, (x * 137 + v + 11) % 1073741824, by omega, by go_num, by omega, by omega, rfl⟩, by simp only [RowKit.intOf]; omega⟩
      · go_wp2
        go_ret
        exact ⟨w.heap.size, rfl, Nat.le_refl _, cur_new w _ n c x hn HA.out, Joins.below_alloc1 w _⟩
    · go_wp2
      go_ret
      exact ⟨w.heap.size, rfl, Nat.le_refl _, cur_new w _ n c x hn HA.out, Joins.below_alloc1 w _⟩

theorem below_of {B N : Nat} {a b c : World} (h : Below B a b) (hg : b.grownBy c (some N)) (hN : B ≤ N) (hs : B ≤ b.heap.size) : Below B a c :=
  h.grown hg hs (by intro k e; injection e with e; omega)


end Go.Proofs.YtdglmnmalfpipaaGreatDoor.draw

/-
  The last step of a law whose row says that package variables of the project read as they did.
  Conditions: those that each theorem names.
-/
namespace Go.Proofs.YtdglmnmalfpipaaGreatDoor.opn
open Go.ChangeShapes Go.WideShapes Go.ChangeAt Go.RowKit mem
set_option linter.unusedVariables false

section
variable {H : Type} {enc : TypeId × Value → H} {P : Program}

theorem vars_stay (hl : laidOutB P = true) {W W' : World} (hb : Below W.heap.size W W') : ∀ (ns : List String) (gs : List (DataW H)) (ps : List MemPlace),
    (∀ n ∈ ns, ∀ g t, P.globalNamed n = some g → (P.globals[g]?).map (·.type) = some t → P.readableRec t = true ∧ t < P.types.size) → (∀ x ∈ ps, x.block < W.heap.size) → DataW.TrodVars enc P W (fun _ => true) ns gs ps →
    DataW.TrodVars enc P W' (fun b => decide (b < W.heap.size)) ns gs ps
  | [], [], _, _, _, h => h
  | [], _ :: _, _, _, _, h => by cases h
  | _ :: _, [], _, _, _, h => by cases h
  | n :: ns, d :: ds, ps, hr, hlt, ⟨g, t, cs, fuel, p, q, h1, h2, h3, h4, hs, e⟩ => by
    obtain ⟨r1, r2⟩ := hr n List.mem_cons_self g t h1 h2
    have hT : DataW.Trod enc P W 0 (fun _ => true) true t (.agg cs) d p := ⟨fuel, h4⟩
    obtain ⟨fuel', h5⟩ := Below.trod hl r1 r2 hT hb (fun x hx => hlt x (by rw [e]; exact List.mem_append_left _ (List.mem_append_right _ hx)))
    exact ⟨g, t, cs, fuel', p, q, h1, h2, Joins.var_stays h1 h3 hb (Nat.le_refl _), h5, vars_stay hl hb ns ds q (fun m hm => hr m (List.mem_cons_of_mem _ hm)) (fun x hx => hlt x (by rw [e]; exact List.mem_append_right _ hx)) hs, e⟩

/-- A law's post, from what its walk gives; its row names package variables. -/
theorem post_true_vars {f : Func} {s : ChangeSpec} {W W' : World} {args : Array Value} {ds gs : List (DataW H)} {p q : List MemPlace} {tb : TypeId}
    (hW : DataW.Whole enc P f.params.toList s.vars false W args.toList ds gs (p ++ q)) (hp : DataW.TrodAll enc P W 0 (fun _ => true) true f.params.toList args.toList ds p) (hq : DataW.TrodVars enc P W (fun _ => true) s.vars gs q)
    (hfn : s.fn H (ds ++ gs) = { results := [.lit (.bool true)], args := ds, vars := gs }) (hr : f.resultTypes = #[tb]) (htb : P.underlying tb = some .bool)
    (hl : laidOutB P = true) (hrd : f.params.toList.all (fun t => P.readableRec t && decide (t < P.types.size)) = true)
    (hrv : s.vars.all (fun n => match P.globalNamed n with | none => true | some g => match (P.globals[g]?).map (·.type) with | none => true | some t => P.readableRec t && decide (t < P.types.size)) = true) (hb : Below W.heap.size W W') :
    s.post enc P f false true false false W args (.bool true) W' := by
  have hst := all_stay (enc := enc) hl hb f.params.toList args.toList ds p (fun t ht => by have := List.all_eq_true.1 hrd t ht; simpa using this) (fun x hx => hW.lt x (List.mem_append_left _ hx)) hp
  have hsv := vars_stay (enc := enc) hl hb s.vars gs q (fun n hn g t h1 h2 => by
    have := List.all_eq_true.1 hrv n hn
    rw [h1] at this
    simp only [h2] at this
    simpa using this) (fun x hx => hW.lt x (List.mem_append_right _ hx)) hq
  refine ⟨ds, gs, p ++ q, [], p, q, hW, ?_, ?_, ?_, hb.frame _, fun h => by cases h⟩
  · rw [hfn, hr]
    exact trodAll_mk1 (shut_bool htb _)
  · rw [hfn]
    exact hst
  · rw [hfn]
    exact hsv

end
end Go.Proofs.YtdglmnmalfpipaaGreatDoor.opn

/-
  The last step of a law whose row names package variables that read as they did, each shown by itself.
  Conditions: those that the theorem names.
-/
namespace Go.Proofs.YtdglmnmalfpipaaGreatDoor.opn
open Go.ChangeShapes Go.WideShapes Go.ChangeAt Go.RowKit mem
set_option linter.unusedVariables false

theorem post_true_vars2 {H : Type} {enc : TypeId × Value → H} {P : Program} {f : Func} {s : ChangeSpec} {W W' : World} {args : Array Value} {ds gs : List (DataW H)} {p q : List MemPlace} {tb : TypeId}
    (hW : DataW.Whole enc P f.params.toList s.vars false W args.toList ds gs (p ++ q)) (hp : DataW.TrodAll enc P W 0 (fun _ => true) true f.params.toList args.toList ds p)
    (hfn : s.fn H (ds ++ gs) = { results := [.lit (.bool true)], args := ds, vars := gs }) (hr : f.resultTypes = #[tb]) (htb : P.underlying tb = some .bool)
    (hl : laidOutB P = true) (hrd : f.params.toList.all (fun t => P.readableRec t && decide (t < P.types.size)) = true) (hb : Below W.heap.size W W')
    (hsv : DataW.TrodVars enc P W' (fun b => decide (b < W.heap.size)) s.vars gs q) :
    s.post enc P f false true false false W args (.bool true) W' := by
  have hst := all_stay (enc := enc) hl hb f.params.toList args.toList ds p (fun t ht => by have := List.all_eq_true.1 hrd t ht; simpa using this) (fun x hx => hW.lt x (List.mem_append_left _ hx)) hp
  refine ⟨ds, gs, p ++ q, [], p, q, hW, ?_, ?_, ?_, hb.frame _, fun h => by cases h⟩
  · rw [hfn, hr]
    exact trodAll_mk1 (shut_bool htb _)
  · rw [hfn]
    exact hst
  · rw [hfn]
    exact hsv

end Go.Proofs.YtdglmnmalfpipaaGreatDoor.opn

/-
  The model's draws of lists: a new slice of a bounded number of bytes or of integers; nothing that was there is changed but the cursor.
  Conditions: those that each theorem names.
-/
namespace Go.Proofs.YtdglmnmalfpipaaGreatDoor.draw
open Go.ChangeShapes Go.WideShapes Go.ChangeAt Go.RowKit mem imem
set_option linter.unusedVariables false

theorem code_of_rd {w : World} {A : Option Addr} {n : Nat} {l : List Int} (h : Rd w A n l) : Code w w.heap.size A n := fun hn => by
  obtain ⟨a, e, hlt⟩ := h.lt hn
  refine ⟨a, e, hlt, fun j hj => ?_⟩
  obtain ⟨a', v, e', hv, v0, v1, hc⟩ := h.at_ hj
  rw [e] at e'
  obtain rfl := Option.some.inj e'
  exact ⟨v, v0, v1, hc⟩
theorem Cur.far {w w' : World} {N B : Nat} (h : Cur w N) (hb : Below B w w') (hN : N < B) : Cur w' N := by
  obtain ⟨A, n, c, i, x, hbk, hc, hn, i0, i1⟩ := h
  exact ⟨A, n, c, i, x, (hb.block N hN).trans hbk, hc.keep fun k hlt => hb.block k (by omega), hn, i0, i1⟩
theorem only_far {a w w' : World} {N : Nat} (h : a.grownBy w (some N)) (hb : Below a.heap.size w w') : a.grownBy w' (some N) :=
  ⟨hb.os.trans h.os, hb.tape.trans h.tape, hb.output.trans h.output, Nat.le_trans h.size hb.size, fun k hk hne => (hb.block k hk).trans (h.block k hk hne)⟩





end Go.Proofs.YtdglmnmalfpipaaGreatDoor.draw

