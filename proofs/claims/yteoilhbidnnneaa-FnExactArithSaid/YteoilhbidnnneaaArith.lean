/-
  Arith of the project and of the model.
  Conditions: the two numbers are machine integers.
-/
import Derived.Test.YteoilhbidnnneaaSmall
import Derived.WalkKit
import Derived.ProofKit
import Derived.ChangeArms
import Derived.OpenShut
import Derived.Laws.NewBlocks
namespace Go.Proofs.Yteoilhbidnnneaa.ari
open Go.ChangeShapes Go.WideShapes Go.ChangeAt Go.RowKit
set_option linter.unusedVariables false

/-- Whether a number is one of a script. -/
def ok (n : Int) : Bool := nums.inr n (-1000000000) 1000000000
theorem ok_bd {n : Int} (h : ok n = true) : -1000000000 ≤ n ∧ n ≤ 1000000000 := by
  unfold ok nums.inr at h
  simp at h
  exact h
/-- What an operator makes of two numbers. -/
def arN (op a b : Int) : Int := if op = 1 then a + b else if op = 2 then a - b else if op = 3 then a * b else if op = 4 then a.tdiv b else a.tmod b
/-- A result, and its error. -/
def fin (n : Int) : Int × Int := if ok n = true then (n, 0) else (0, 3)
def arT (op a b : Int) : Int × Int := if nums.inr op 1 5 = false then (0, 2) else if ok a = false then (0, 3) else if ok b = false then (0, 3) else if 4 ≤ op ∧ b = 0 then (0, 4) else fin (arN op a b)
theorem arT_op {op a b : Int} (h : nums.inr op 1 5 = false) : arT op a b = (0, 2) := by unfold arT; rw [if_pos h]
theorem arT_a {op a b : Int} (h : nums.inr op 1 5 = true) (ha : ok a = false) : arT op a b = (0, 3) := by unfold arT; rw [if_neg (by rw [h]; simp), if_pos ha]
theorem arT_b {op a b : Int} (h : nums.inr op 1 5 = true) (ha : ok a = true) (hb : ok b = false) : arT op a b = (0, 3) := by unfold arT; rw [if_neg (by rw [h]; simp), if_neg (by rw [ha]; simp), if_pos hb]
theorem arT_zero {op a b : Int} (h : nums.inr op 1 5 = true) (ha : ok a = true) (hb : ok b = true) (hz : 4 ≤ op ∧ b = 0) : arT op a b = (0, 4) := by unfold arT; rw [if_neg (by rw [h]; simp), if_neg (by rw [ha]; simp), if_neg (by rw [hb]; simp), if_pos hz]
theorem arT_n {op a b : Int} (h : nums.inr op 1 5 = true) (ha : ok a = true) (hb : ok b = true) (hz : ¬ (4 ≤ op ∧ b = 0)) : arT op a b = fin (arN op a b) := by unfold arT; rw [if_neg (by rw [h]; simp), if_neg (by rw [ha]; simp), if_neg (by rw [hb]; simp), if_neg hz]
theorem mul_bd {a b : Int} (ha : -1000000000 ≤ a ∧ a ≤ 1000000000) (hb : -1000000000 ≤ b ∧ b ≤ 1000000000) : -1000000000000000000 ≤ a * b ∧ a * b ≤ 1000000000000000000 := by
  have h : (a * b).natAbs ≤ 1000000000 * 1000000000 := by
    rw [Int.natAbs_mul]
    exact Nat.mul_le_mul (by omega) (by omega)
  omega
theorem div_bd {a b : Int} (ha : -1000000000 ≤ a ∧ a ≤ 1000000000) : -1000000000 ≤ a.tdiv b ∧ a.tdiv b ≤ 1000000000 := by
  have h : (a.tdiv b).natAbs ≤ a.natAbs := by
    rw [Int.natAbs_tdiv]
    exact Nat.div_le_self _ _
  omega
theorem mod_bd {a b : Int} (ha : -1000000000 ≤ a ∧ a ≤ 1000000000) : -1000000000 ≤ a.tmod b ∧ a.tmod b ≤ 1000000000 := by
  have h : (a.tmod b).natAbs ≤ a.natAbs := by
    rw [Int.natAbs_tmod]
    exact Nat.mod_le _ _
  omega
def ArQ (w : World) (p : Int × Int) (e : Ending) (w' : World) : Prop := e = .returned (.tuple #[.int .i64 p.1, .int .i64 p.2]) ∧ Below w.heap.size w w'

theorem in1 (op : Int) (q : Bool) (h : nums.inr op 1 5 = q) (w : World) : Calls Try.prog 9 #[.int .i64 op, .int .i64 1, .int .i64 5] w fun e w' => e = .returned (.bool q) ∧ w = w' := h ▸ nums.l1In op 1 5 w
theorem inS (n : Int) (q : Bool) (h : ok n = q) (w : World) : Calls Try.prog 9 #[.int .i64 n, .int .i64 (-1000000000), .int .i64 1000000000] w fun e w' => e = .returned (.bool q) ∧ w = w' := h ▸ nums.l1In n (-1000000000) 1000000000 w
theorem in1_i (op : Int) (q : Bool) (h : nums.inr op 1 5 = q) (w : World) : Calls Try.prog 10 #[.int .i64 op, .int .i64 1, .int .i64 5] w fun e w' => e = .returned (.bool q) ∧ w = w' := h ▸ nums.implInRange op 1 5 w
theorem script (n : Int) (q : Bool) (h : ok n = q) (w : World) : Calls Try.prog 11 #[.int .i64 n] w fun e w' => e = .returned (.bool q) ∧ w = w' := by
  have IR : ∀ w, Calls Try.prog 10 #[.int .i64 n, .int .i64 (-1000000000), .int .i64 1000000000] w fun e w' => e = .returned (.bool q) ∧ w = w' := fun w => h ▸ nums.implInRange n (-1000000000) 1000000000 w
  clear h
  go_enter Try.func11, Try.ntmps11
  go_wp2_with (fail)
  refine (IR _).mono ?_
  rintro e w1 ⟨rfl, rfl⟩
  go_wp2_with (fail)
  go_ret
  exact ⟨rfl, rfl⟩


set_option maxHeartbeats 4000000 in
theorem arith_s (op a b : Int) (w : World) : Calls Try.prog 5 #[.int .i64 op, .int .i64 a, .int .i64 b] w (ArQ w (arT op a b)) := by
  cases h1 : nums.inr op 1 5 with
  | false =>
    rw [arT_op h1]
    have I1 := Lib.hid (in1 op false h1)
    clear h1
    go_enter Try.func5, Try.ntmps5
    go_wp2_with (fail)
    refine (I1.out _).mono ?_
    rintro e w1 ⟨rfl, rfl⟩
    go_wp2_with (fail)
    go_ret2
    exact ⟨rfl, Below.refl _ _⟩
  | true =>
    have I1 := Lib.hid (in1 op true h1)
    have hop : op = 1 ∨ op = 2 ∨ op = 3 ∨ op = 4 ∨ op = 5 := by
      unfold nums.inr at h1
      simp at h1
      omega
    cases h2 : ok a with
    | false =>
      rw [arT_a h1 h2]
      have I2 := Lib.hid (inS a false h2)
      clear h1 h2 hop
      go_enter Try.func5, Try.ntmps5
      go_wp2_with (fail)
      refine (I1.out _).mono ?_
      rintro e w1 ⟨rfl, rfl⟩
      go_wp2_with (fail)
      refine (I2.out _).mono ?_
      rintro e w1 ⟨rfl, rfl⟩
      go_wp2_with (fail)
      go_ret2
      exact ⟨rfl, Below.refl _ _⟩
    | true =>
      have I2 := Lib.hid (inS a true h2)
      have ha := ok_bd h2
      cases h3 : ok b with
      | false =>
        rw [arT_b h1 h2 h3]
        have I3 := Lib.hid (inS b false h3)
        clear h1 h2 h3 hop
        go_enter Try.func5, Try.ntmps5
        go_wp2_with (fail)
        refine (I1.out _).mono ?_
        rintro e w1 ⟨rfl, rfl⟩
        go_wp2_with (fail)
        refine (I2.out _).mono ?_
        rintro e w1 ⟨rfl, rfl⟩
        go_wp2_with (fail)
        refine (I3.out _).mono ?_
        rintro e w1 ⟨rfl, rfl⟩
        go_wp2_with (fail)
        go_ret2
        exact ⟨rfl, Below.refl _ _⟩
      | true =>
        have I3 := Lib.hid (inS b true h3)
        have hb := ok_bd h3
        by_cases hz : 4 ≤ op ∧ b = 0
        · rw [arT_zero h1 h2 h3 hz]
          obtain ⟨hz, rfl⟩ := hz
          obtain rfl | rfl : op = 4 ∨ op = 5 := by omega
          all_goals
            clear h1 h2 h3 hop hz
            go_enter Try.func5, Try.ntmps5
            go_wp2_with (fail)
            refine (I1.out _).mono ?_
            rintro e w1 ⟨rfl, rfl⟩
            go_wp2_with (fail)
            refine (I2.out _).mono ?_
            rintro e w1 ⟨rfl, rfl⟩
            go_wp2_with (fail)
            refine (I3.out _).mono ?_
            rintro e w1 ⟨rfl, rfl⟩
            go_wp2_with (fail)
            go_ret2
            exact ⟨rfl, Below.refl _ _⟩
        · rw [arT_n h1 h2 h3 hz]
          obtain ⟨N, HN⟩ : ∃ N, Hid (arN op a b = N) := ⟨_, Lib.hid rfl⟩
          rw [HN.out]
          have HMD := Lib.hid (mul_bd ha hb)
          have HDD := Lib.hid (div_bd (b := b) ha)
          have HOD := Lib.hid (mod_bd (b := b) ha)
          have hk : Hid (-1000000000000000000 ≤ N ∧ N ≤ 1000000000000000000) := Lib.hid (by
            rw [← HN.out]
            have h1 := HMD.out
            have h2 := HDD.out
            have h3 := HOD.out
            unfold arN
            split
            · omega
            · split
              · omega
              · split
                · omega
                · split <;> omega)
          have IN0 := fun q (h : ok N = q) => inS N q h
          have hq : ∃ q, ok N = q := ⟨_, rfl⟩
          have EN : Hid ((ok N = true → fin N = (N, 0)) ∧ (ok N = false → fin N = (0, 3))) := Lib.hid ⟨fun h => by unfold fin; rw [if_pos h], fun h => by unfold fin; rw [if_neg (by rw [h]; simp)]⟩
          clear h1 h2 h3
          obtain ⟨q, hq⟩ := hq
          have IN := Lib.hid (IN0 q hq)
          have HQ := Lib.hid hq
          clear IN0 hq
          rcases hop with rfl | rfl | rfl | rfl | rfl
          · have hN : a + b = N := HN.out
            have hbd := hk.out
            rw [← hN] at hbd
            have hwr : IntKind.i64.wrap (a + b) = N := by rw [IntKind.wrap_i64]; omega
            clear HN HMD HDD HOD hk hz
            cases q
            · rw [EN.out.2 HQ.out]
              go_enter Try.func5, Try.ntmps5
              go_wp2_with (fail)
              refine (I1.out _).mono ?_
              rintro e w1 ⟨rfl, rfl⟩
              go_wp2_with (fail)
              refine (I2.out _).mono ?_
              rintro e w1 ⟨rfl, rfl⟩
              go_wp2_with (fail)
              refine (I3.out _).mono ?_
              rintro e w1 ⟨rfl, rfl⟩
              go_wp2_with (fail)
              try rw [hwr]
              try rw [hN]
              refine (IN.out _).mono ?_
              rintro e w1 ⟨rfl, rfl⟩
              go_wp2_with (fail)
              go_ret2
              exact ⟨rfl, Below.refl _ _⟩
            · rw [EN.out.1 HQ.out]
              go_enter Try.func5, Try.ntmps5
              go_wp2_with (fail)
              refine (I1.out _).mono ?_
              rintro e w1 ⟨rfl, rfl⟩
              go_wp2_with (fail)
              refine (I2.out _).mono ?_
              rintro e w1 ⟨rfl, rfl⟩
              go_wp2_with (fail)
              refine (I3.out _).mono ?_
              rintro e w1 ⟨rfl, rfl⟩
              go_wp2_with (fail)
              try rw [hwr]
              try rw [hN]
              refine (IN.out _).mono ?_
              rintro e w1 ⟨rfl, rfl⟩
              go_wp2_with (fail)
              go_ret2
              exact ⟨rfl, Below.refl _ _⟩
          · have hN : a - b = N := HN.out
            have hbd := hk.out
            rw [← hN] at hbd
            have hwr : IntKind.i64.wrap (a - b) = N := by rw [IntKind.wrap_i64]; omega
            clear HN HMD HDD HOD hk hz
            cases q
            · rw [EN.out.2 HQ.out]
              go_enter Try.func5, Try.ntmps5
              go_wp2_with (fail)
              refine (I1.out _).mono ?_
              rintro e w1 ⟨rfl, rfl⟩
              go_wp2_with (fail)
              refine (I2.out _).mono ?_
              rintro e w1 ⟨rfl, rfl⟩
              go_wp2_with (fail)
              refine (I3.out _).mono ?_
              rintro e w1 ⟨rfl, rfl⟩
              go_wp2_with (fail)
              try rw [hwr]
              try rw [hN]
              refine (IN.out _).mono ?_
              rintro e w1 ⟨rfl, rfl⟩
              go_wp2_with (fail)
              go_ret2
              exact ⟨rfl, Below.refl _ _⟩
            · rw [EN.out.1 HQ.out]
              go_enter Try.func5, Try.ntmps5
              go_wp2_with (fail)
              refine (I1.out _).mono ?_
              rintro e w1 ⟨rfl, rfl⟩
              go_wp2_with (fail)
              refine (I2.out _).mono ?_
              rintro e w1 ⟨rfl, rfl⟩
              go_wp2_with (fail)
              refine (I3.out _).mono ?_
              rintro e w1 ⟨rfl, rfl⟩
              go_wp2_with (fail)
              try rw [hwr]
              try rw [hN]
              refine (IN.out _).mono ?_
              rintro e w1 ⟨rfl, rfl⟩
              go_wp2_with (fail)
              go_ret2
              exact ⟨rfl, Below.refl _ _⟩
          · have hN : a * b = N := HN.out
            have hbd := hk.out
            rw [← hN] at hbd
            have hwr : IntKind.i64.wrap (a * b) = N := by rw [IntKind.wrap_i64]; omega
            clear HN HMD HDD HOD hk hz
            cases q
            · rw [EN.out.2 HQ.out]
              go_enter Try.func5, Try.ntmps5
              go_wp2_with (fail)
              refine (I1.out _).mono ?_
              rintro e w1 ⟨rfl, rfl⟩
              go_wp2_with (fail)
              refine (I2.out _).mono ?_
              rintro e w1 ⟨rfl, rfl⟩
              go_wp2_with (fail)
              refine (I3.out _).mono ?_
              rintro e w1 ⟨rfl, rfl⟩
              go_wp2_with (fail)
              try rw [hwr]
              try rw [hN]
              refine (IN.out _).mono ?_
              rintro e w1 ⟨rfl, rfl⟩
              go_wp2_with (fail)
              go_ret2
              exact ⟨rfl, Below.refl _ _⟩
            · rw [EN.out.1 HQ.out]
              go_enter Try.func5, Try.ntmps5
              go_wp2_with (fail)
              refine (I1.out _).mono ?_
              rintro e w1 ⟨rfl, rfl⟩
              go_wp2_with (fail)
              refine (I2.out _).mono ?_
              rintro e w1 ⟨rfl, rfl⟩
              go_wp2_with (fail)
              refine (I3.out _).mono ?_
              rintro e w1 ⟨rfl, rfl⟩
              go_wp2_with (fail)
              try rw [hwr]
              try rw [hN]
              refine (IN.out _).mono ?_
              rintro e w1 ⟨rfl, rfl⟩
              go_wp2_with (fail)
              go_ret2
              exact ⟨rfl, Below.refl _ _⟩
          · have hN : a.tdiv b = N := HN.out
            have hbd := hk.out
            rw [← hN] at hbd
            have hb0 : ¬ b = 0 := by omega
            have hwr : IntKind.i64.wrap (a.tdiv b) = N := by rw [IntKind.wrap_i64]; omega
            clear HN HMD HDD HOD hk hz
            cases q
            · rw [EN.out.2 HQ.out]
              go_enter Try.func5, Try.ntmps5
              go_wp2_with (fail)
              refine (I1.out _).mono ?_
              rintro e w1 ⟨rfl, rfl⟩
              go_wp2_with (fail)
              refine (I2.out _).mono ?_
              rintro e w1 ⟨rfl, rfl⟩
              go_wp2_with (fail)
              refine (I3.out _).mono ?_
              rintro e w1 ⟨rfl, rfl⟩
              go_wp2_with (fail)
              try rw [hwr]
              try rw [hN]
              refine (IN.out _).mono ?_
              rintro e w1 ⟨rfl, rfl⟩
              go_wp2_with (fail)
              go_ret2
              exact ⟨rfl, Below.refl _ _⟩
            · rw [EN.out.1 HQ.out]
              go_enter Try.func5, Try.ntmps5
              go_wp2_with (fail)
              refine (I1.out _).mono ?_
              rintro e w1 ⟨rfl, rfl⟩
              go_wp2_with (fail)
              refine (I2.out _).mono ?_
              rintro e w1 ⟨rfl, rfl⟩
              go_wp2_with (fail)
              refine (I3.out _).mono ?_
              rintro e w1 ⟨rfl, rfl⟩
              go_wp2_with (fail)
              try rw [hwr]
              try rw [hN]
              refine (IN.out _).mono ?_
              rintro e w1 ⟨rfl, rfl⟩
              go_wp2_with (fail)
              go_ret2
              exact ⟨rfl, Below.refl _ _⟩
          · have hN : a.tmod b = N := HN.out
            have hbd := hk.out
            rw [← hN] at hbd
            have hb0 : ¬ b = 0 := by omega
            clear HN HMD HDD HOD hk hz
            cases q
            · rw [EN.out.2 HQ.out]
              go_enter Try.func5, Try.ntmps5
              go_wp2_with (fail)
              refine (I1.out _).mono ?_
              rintro e w1 ⟨rfl, rfl⟩
              go_wp2_with (fail)
              refine (I2.out _).mono ?_
              rintro e w1 ⟨rfl, rfl⟩
              go_wp2_with (fail)
              refine (I3.out _).mono ?_
              rintro e w1 ⟨rfl, rfl⟩
              go_wp2_with (fail)
              try rw [hwr]
              try rw [hN]
              refine (IN.out _).mono ?_
              rintro e w1 ⟨rfl, rfl⟩
              go_wp2_with (fail)
              go_ret2
              exact ⟨rfl, Below.refl _ _⟩
            · rw [EN.out.1 HQ.out]
              go_enter Try.func5, Try.ntmps5
              go_wp2_with (fail)
              refine (I1.out _).mono ?_
              rintro e w1 ⟨rfl, rfl⟩
              go_wp2_with (fail)
              refine (I2.out _).mono ?_
              rintro e w1 ⟨rfl, rfl⟩
              go_wp2_with (fail)
              refine (I3.out _).mono ?_
              rintro e w1 ⟨rfl, rfl⟩
              go_wp2_with (fail)
              try rw [hwr]
              try rw [hN]
              refine (IN.out _).mono ?_
              rintro e w1 ⟨rfl, rfl⟩
              go_wp2_with (fail)
              go_ret2
              exact ⟨rfl, Below.refl _ _⟩


abbrev OF : TypeId := 27
def fns : Array Value := #[.nilFunc, .func (.func 13) #[] #[], .func (.func 14) #[] #[], .func (.func 15) #[] #[], .func (.func 16) #[] #[], .func (.func 17) #[] #[]]
theorem arithmetic_i (w : World) : Calls Try.prog 12 #[] w fun e w' => ∃ g, e = .returned (.slice (some ⟨g, 0, none⟩) 6 6) ∧ w'.heap[g]? = some (.cells fns OF (0, 0)) ∧ w.heap.size ≤ g ∧ Below w.heap.size w w' := by
  go_enter Try.func12, Try.ntmps12
  go_wp2
  go_ret
  exact ⟨_, rfl, heap_alloc_new w _, Nat.le_refl _, (Below.refl w.heap.size w).alloc (Nat.le_refl _) _⟩

theorem sum_i (a b N : Int) (hN : a + b = N) (hk : -1000000000000000000 ≤ N ∧ N ≤ 1000000000000000000) (w : World) : Calls Try.prog 13 #[.agg #[.int .i64 a, .int .i64 b]] w fun e w' => e = .returned (.int .i64 N) ∧ Below w.heap.size w w' := by
  have hwr : IntKind.i64.wrap (a + b) = N := by rw [hN, IntKind.wrap_i64]; omega
  go_enter Try.func13, Try.ntmps13
  go_wp2
  try rw [hwr]
  try rw [hN]
  go_ret
  exact ⟨by first | rfl | rw [hwr] | rw [hN], by first | exact Below.refl _ _ | exact (Below.refl w.heap.size w).alloc (Nat.le_refl _) _⟩

theorem difference_i (a b N : Int) (hN : a - b = N) (hk : -1000000000000000000 ≤ N ∧ N ≤ 1000000000000000000) (w : World) : Calls Try.prog 14 #[.agg #[.int .i64 a, .int .i64 b]] w fun e w' => e = .returned (.int .i64 N) ∧ Below w.heap.size w w' := by
  have hwr : IntKind.i64.wrap (a - b) = N := by rw [hN, IntKind.wrap_i64]; omega
  go_enter Try.func14, Try.ntmps14
  go_wp2
  try rw [hwr]
  try rw [hN]
  go_ret
  exact ⟨by first | rfl | rw [hwr] | rw [hN], by first | exact Below.refl _ _ | exact (Below.refl w.heap.size w).alloc (Nat.le_refl _) _⟩

theorem product_i (a b N : Int) (hN : a * b = N) (hk : -1000000000000000000 ≤ N ∧ N ≤ 1000000000000000000) (w : World) : Calls Try.prog 15 #[.agg #[.int .i64 a, .int .i64 b]] w fun e w' => e = .returned (.int .i64 N) ∧ Below w.heap.size w w' := by
  have hwr : IntKind.i64.wrap (a * b) = N := by rw [hN, IntKind.wrap_i64]; omega
  go_enter Try.func15, Try.ntmps15
  go_wp2
  try rw [hwr]
  try rw [hN]
  go_ret
  exact ⟨by first | rfl | rw [hwr] | rw [hN], by first | exact Below.refl _ _ | exact (Below.refl w.heap.size w).alloc (Nat.le_refl _) _⟩

theorem quotient_i (a b N : Int) (hN : a.tdiv b = N) (hk : -1000000000000000000 ≤ N ∧ N ≤ 1000000000000000000) (hz : ¬ b = 0) (w : World) : Calls Try.prog 16 #[.agg #[.int .i64 a, .int .i64 b]] w fun e w' => e = .returned (.int .i64 N) ∧ Below w.heap.size w w' := by
  have hwr : IntKind.i64.wrap (a.tdiv b) = N := by rw [hN, IntKind.wrap_i64]; omega
  go_enter Try.func16, Try.ntmps16
  go_wp2
  try rw [hwr]
  try rw [hN]
  go_ret
  exact ⟨by first | rfl | rw [hwr] | rw [hN], by first | exact Below.refl _ _ | exact (Below.refl w.heap.size w).alloc (Nat.le_refl _) _⟩

theorem remainder_i (a b N : Int) (hN : a.tmod b = N) (hk : -1000000000000000000 ≤ N ∧ N ≤ 1000000000000000000) (hz : ¬ b = 0) (w : World) : Calls Try.prog 17 #[.agg #[.int .i64 a, .int .i64 b]] w fun e w' => e = .returned (.int .i64 N) ∧ Below w.heap.size w w' := by
  have hwr : IntKind.i64.wrap (a.tmod b) = N := by rw [hN, IntKind.wrap_i64]; omega
  go_enter Try.func17, Try.ntmps17
  go_wp2
  try rw [hwr]
  try rw [hN]
  go_ret
  exact ⟨by first | rfl | rw [hwr] | rw [hN], by first | exact Below.refl _ _ | exact (Below.refl w.heap.size w).alloc (Nat.le_refl _) _⟩


set_option maxHeartbeats 4000000 in
theorem arith_i (op a b : Int) (w : World) : Calls Try.prog 6 #[.int .i64 op, .int .i64 a, .int .i64 b] w (ArQ w (arT op a b)) := by
  cases h1 : nums.inr op 1 5 with
  | false =>
    rw [arT_op h1]
    have I1 := Lib.hid (in1_i op false h1)
    clear h1
    go_enter Try.func6, Try.ntmps6
    go_wp2_with (fail)
    refine (I1.out _).mono ?_
    rintro e w1 ⟨rfl, rfl⟩
    go_wp2_with (fail)
    go_ret2
    exact ⟨rfl, Below.refl _ _⟩
  | true =>
    have I1 := Lib.hid (in1_i op true h1)
    have hop : op = 1 ∨ op = 2 ∨ op = 3 ∨ op = 4 ∨ op = 5 := by
      unfold nums.inr at h1
      simp at h1
      omega
    cases h2 : ok a with
    | false =>
      rw [arT_a h1 h2]
      have I2 := Lib.hid (script a false h2)
      clear h1 h2 hop
      go_enter Try.func6, Try.ntmps6
      go_wp2_with (fail)
      refine (I1.out _).mono ?_
      rintro e w1 ⟨rfl, rfl⟩
      go_wp2_with (fail)
      refine (I2.out _).mono ?_
      rintro e w1 ⟨rfl, rfl⟩
      go_wp2_with (fail)
      go_ret2
      exact ⟨rfl, Below.refl _ _⟩
    | true =>
      have I2 := Lib.hid (script a true h2)
      have ha := ok_bd h2
      cases h3 : ok b with
      | false =>
        rw [arT_b h1 h2 h3]
        have I3 := Lib.hid (script b false h3)
        clear h1 h2 h3 hop
        go_enter Try.func6, Try.ntmps6
        go_wp2_with (fail)
        refine (I1.out _).mono ?_
        rintro e w1 ⟨rfl, rfl⟩
        go_wp2_with (fail)
        refine (I2.out _).mono ?_
        rintro e w1 ⟨rfl, rfl⟩
        go_wp2_with (fail)
        refine (I3.out _).mono ?_
        rintro e w1 ⟨rfl, rfl⟩
        go_wp2_with (fail)
        go_ret2
        exact ⟨rfl, Below.refl _ _⟩
      | true =>
        have I3 := Lib.hid (script b true h3)
        have hb := ok_bd h3
        by_cases hz : 4 ≤ op ∧ b = 0
        · rw [arT_zero h1 h2 h3 hz]
          obtain ⟨hz, rfl⟩ := hz
          obtain rfl | rfl : op = 4 ∨ op = 5 := by omega
          all_goals
            clear h1 h2 h3 hop hz
            go_enter Try.func6, Try.ntmps6
            go_wp2_with (fail)
            refine (I1.out _).mono ?_
            rintro e w1 ⟨rfl, rfl⟩
            go_wp2_with (fail)
            refine (I2.out _).mono ?_
            rintro e w1 ⟨rfl, rfl⟩
            go_wp2_with (fail)
            refine (I3.out _).mono ?_
            rintro e w1 ⟨rfl, rfl⟩
            go_wp2_with (fail)
            go_ret2
            exact ⟨rfl, Below.refl _ _⟩
        · rw [arT_n h1 h2 h3 hz]
          obtain ⟨N, HN⟩ : ∃ N, Hid (arN op a b = N) := ⟨_, Lib.hid rfl⟩
          rw [HN.out]
          have HMD := Lib.hid (mul_bd ha hb)
          have HDD := Lib.hid (div_bd (b := b) ha)
          have HOD := Lib.hid (mod_bd (b := b) ha)
          have hk : Hid (-1000000000000000000 ≤ N ∧ N ≤ 1000000000000000000) := Lib.hid (by
            rw [← HN.out]
            have h1 := HMD.out
            have h2 := HDD.out
            have h3 := HOD.out
            unfold arN
            split
            · omega
            · split
              · omega
              · split
                · omega
                · split <;> omega)
          have IN0 := fun q (h : ok N = q) => script N q h
          have hq : ∃ q, ok N = q := ⟨_, rfl⟩
          have EN : Hid ((ok N = true → fin N = (N, 0)) ∧ (ok N = false → fin N = (0, 3))) := Lib.hid ⟨fun h => by unfold fin; rw [if_pos h], fun h => by unfold fin; rw [if_neg (by rw [h]; simp)]⟩
          clear h1 h2 h3
          obtain ⟨q, hq⟩ := hq
          have IN := Lib.hid (IN0 q hq)
          have HQ := Lib.hid hq
          clear IN0 hq
          rcases hop with rfl | rfl | rfl | rfl | rfl
          · have hN : a + b = N := HN.out
            have hbd := hk.out
            rw [← hN] at hbd
            have hwr : IntKind.i64.wrap (a + b) = N := by rw [IntKind.wrap_i64]; omega
            have HNN := Lib.hid hN
            have HKK := Lib.hid hk.out
            clear HN HMD HDD HOD hk hz hN hbd
            try clear hwr
            cases q
            · rw [EN.out.2 HQ.out]
              rcases Decidable.em (b = 0) with rfl | hb0
              all_goals
                go_enter Try.func6, Try.ntmps6
                go_wp2_with (fail)
                refine (I1.out _).mono ?_
                rintro e w1 ⟨rfl, rfl⟩
                go_wp2_with (fail)
                refine (I2.out _).mono ?_
                rintro e w1 ⟨rfl, rfl⟩
                go_wp2_with (fail)
                refine (I3.out _).mono ?_
                rintro e w1 ⟨rfl, rfl⟩
                go_wp2_with (fail)
                refine (arithmetic_i _).mono ?_
                rintro e w2 ⟨g, rfl, hg, hlt, hb⟩
                have HB := Lib.hid hb
                have kc : w2.cell? ⟨g, 1, none⟩ = some (.func (.func 13) #[] #[]) := Lib.cell_of_heap hg 1
                clear hg hlt hb
                go_wp2_with (fail)
                clear kc
                refine (sum_i a _ N HNN.out HKK.out _).mono ?_
                rintro e w3 ⟨rfl, hb3⟩
                replace HB := Lib.hid (HB.out.trans (hb3.mono HB.out.size))
                clear hb3
                go_wp2_with (fail)
                refine (IN.out _).mono ?_
                rintro e w1 ⟨rfl, rfl⟩
                go_wp2_with (fail)
                go_ret2
                exact ⟨rfl, HB.out⟩
            · rw [EN.out.1 HQ.out]
              rcases Decidable.em (b = 0) with rfl | hb0
              all_goals
                go_enter Try.func6, Try.ntmps6
                go_wp2_with (fail)
                refine (I1.out _).mono ?_
                rintro e w1 ⟨rfl, rfl⟩
                go_wp2_with (fail)
                refine (I2.out _).mono ?_
                rintro e w1 ⟨rfl, rfl⟩
                go_wp2_with (fail)
                refine (I3.out _).mono ?_
                rintro e w1 ⟨rfl, rfl⟩
                go_wp2_with (fail)
                refine (arithmetic_i _).mono ?_
                rintro e w2 ⟨g, rfl, hg, hlt, hb⟩
                have HB := Lib.hid hb
                have kc : w2.cell? ⟨g, 1, none⟩ = some (.func (.func 13) #[] #[]) := Lib.cell_of_heap hg 1
                clear hg hlt hb
                go_wp2_with (fail)
                clear kc
                refine (sum_i a _ N HNN.out HKK.out _).mono ?_
                rintro e w3 ⟨rfl, hb3⟩
                replace HB := Lib.hid (HB.out.trans (hb3.mono HB.out.size))
                clear hb3
                go_wp2_with (fail)
                refine (IN.out _).mono ?_
                rintro e w1 ⟨rfl, rfl⟩
                go_wp2_with (fail)
                go_ret2
                exact ⟨rfl, HB.out⟩
          · have hN : a - b = N := HN.out
            have hbd := hk.out
            rw [← hN] at hbd
            have hwr : IntKind.i64.wrap (a - b) = N := by rw [IntKind.wrap_i64]; omega
            have HNN := Lib.hid hN
            have HKK := Lib.hid hk.out
            clear HN HMD HDD HOD hk hz hN hbd
            try clear hwr
            cases q
            · rw [EN.out.2 HQ.out]
              rcases Decidable.em (b = 0) with rfl | hb0
              all_goals
                go_enter Try.func6, Try.ntmps6
                go_wp2_with (fail)
                refine (I1.out _).mono ?_
                rintro e w1 ⟨rfl, rfl⟩
                go_wp2_with (fail)
                refine (I2.out _).mono ?_
                rintro e w1 ⟨rfl, rfl⟩
                go_wp2_with (fail)
                refine (I3.out _).mono ?_
                rintro e w1 ⟨rfl, rfl⟩
                go_wp2_with (fail)
                refine (arithmetic_i _).mono ?_
                rintro e w2 ⟨g, rfl, hg, hlt, hb⟩
                have HB := Lib.hid hb
                have kc : w2.cell? ⟨g, 2, none⟩ = some (.func (.func 14) #[] #[]) := Lib.cell_of_heap hg 2
                clear hg hlt hb
                go_wp2_with (fail)
                clear kc
                refine (difference_i a _ N HNN.out HKK.out _).mono ?_
                rintro e w3 ⟨rfl, hb3⟩
                replace HB := Lib.hid (HB.out.trans (hb3.mono HB.out.size))
                clear hb3
                go_wp2_with (fail)
                refine (IN.out _).mono ?_
                rintro e w1 ⟨rfl, rfl⟩
                go_wp2_with (fail)
                go_ret2
                exact ⟨rfl, HB.out⟩
            · rw [EN.out.1 HQ.out]
              rcases Decidable.em (b = 0) with rfl | hb0
              all_goals
                go_enter Try.func6, Try.ntmps6
                go_wp2_with (fail)
                refine (I1.out _).mono ?_
                rintro e w1 ⟨rfl, rfl⟩
                go_wp2_with (fail)
                refine (I2.out _).mono ?_
                rintro e w1 ⟨rfl, rfl⟩
                go_wp2_with (fail)
                refine (I3.out _).mono ?_
                rintro e w1 ⟨rfl, rfl⟩
                go_wp2_with (fail)
                refine (arithmetic_i _).mono ?_
                rintro e w2 ⟨g, rfl, hg, hlt, hb⟩
                have HB := Lib.hid hb
                have kc : w2.cell? ⟨g, 2, none⟩ = some (.func (.func 14) #[] #[]) := Lib.cell_of_heap hg 2
                clear hg hlt hb
                go_wp2_with (fail)
                clear kc
                refine (difference_i a _ N HNN.out HKK.out _).mono ?_
                rintro e w3 ⟨rfl, hb3⟩
                replace HB := Lib.hid (HB.out.trans (hb3.mono HB.out.size))
                clear hb3
                go_wp2_with (fail)
                refine (IN.out _).mono ?_
                rintro e w1 ⟨rfl, rfl⟩
                go_wp2_with (fail)
                go_ret2
                exact ⟨rfl, HB.out⟩
          · have hN : a * b = N := HN.out
            have hbd := hk.out
            rw [← hN] at hbd
            have hwr : IntKind.i64.wrap (a * b) = N := by rw [IntKind.wrap_i64]; omega
            have HNN := Lib.hid hN
            have HKK := Lib.hid hk.out
            clear HN HMD HDD HOD hk hz hN hbd
            try clear hwr
            cases q
            · rw [EN.out.2 HQ.out]
              rcases Decidable.em (b = 0) with rfl | hb0
              all_goals
                go_enter Try.func6, Try.ntmps6
                go_wp2_with (fail)
                refine (I1.out _).mono ?_
                rintro e w1 ⟨rfl, rfl⟩
                go_wp2_with (fail)
                refine (I2.out _).mono ?_
                rintro e w1 ⟨rfl, rfl⟩
                go_wp2_with (fail)
                refine (I3.out _).mono ?_
                rintro e w1 ⟨rfl, rfl⟩
                go_wp2_with (fail)
                refine (arithmetic_i _).mono ?_
                rintro e w2 ⟨g, rfl, hg, hlt, hb⟩
                have HB := Lib.hid hb
                have kc : w2.cell? ⟨g, 3, none⟩ = some (.func (.func 15) #[] #[]) := Lib.cell_of_heap hg 3
                clear hg hlt hb
                go_wp2_with (fail)
                clear kc
                refine (product_i a _ N HNN.out HKK.out _).mono ?_
                rintro e w3 ⟨rfl, hb3⟩
                replace HB := Lib.hid (HB.out.trans (hb3.mono HB.out.size))
                clear hb3
                go_wp2_with (fail)
                refine (IN.out _).mono ?_
                rintro e w1 ⟨rfl, rfl⟩
                go_wp2_with (fail)
                go_ret2
                exact ⟨rfl, HB.out⟩
            · rw [EN.out.1 HQ.out]
              rcases Decidable.em (b = 0) with rfl | hb0
              all_goals
                go_enter Try.func6, Try.ntmps6
                go_wp2_with (fail)
                refine (I1.out _).mono ?_
                rintro e w1 ⟨rfl, rfl⟩
                go_wp2_with (fail)
                refine (I2.out _).mono ?_
                rintro e w1 ⟨rfl, rfl⟩
                go_wp2_with (fail)
                refine (I3.out _).mono ?_
                rintro e w1 ⟨rfl, rfl⟩
                go_wp2_with (fail)
                refine (arithmetic_i _).mono ?_
                rintro e w2 ⟨g, rfl, hg, hlt, hb⟩
                have HB := Lib.hid hb
                have kc : w2.cell? ⟨g, 3, none⟩ = some (.func (.func 15) #[] #[]) := Lib.cell_of_heap hg 3
                clear hg hlt hb
                go_wp2_with (fail)
                clear kc
                refine (product_i a _ N HNN.out HKK.out _).mono ?_
                rintro e w3 ⟨rfl, hb3⟩
                replace HB := Lib.hid (HB.out.trans (hb3.mono HB.out.size))
                clear hb3
                go_wp2_with (fail)
                refine (IN.out _).mono ?_
                rintro e w1 ⟨rfl, rfl⟩
                go_wp2_with (fail)
                go_ret2
                exact ⟨rfl, HB.out⟩
          · have hN : a.tdiv b = N := HN.out
            have hbd := hk.out
            rw [← hN] at hbd
            have hb0 : ¬ b = 0 := by omega
            have hwr : IntKind.i64.wrap (a.tdiv b) = N := by rw [IntKind.wrap_i64]; omega
            have HNN := Lib.hid hN
            have HKK := Lib.hid hk.out
            clear HN HMD HDD HOD hk hz hN hbd
            try clear hwr
            cases q
            · rw [EN.out.2 HQ.out]
              go_enter Try.func6, Try.ntmps6
              go_wp2_with (fail)
              refine (I1.out _).mono ?_
              rintro e w1 ⟨rfl, rfl⟩
              go_wp2_with (fail)
              refine (I2.out _).mono ?_
              rintro e w1 ⟨rfl, rfl⟩
              go_wp2_with (fail)
              refine (I3.out _).mono ?_
              rintro e w1 ⟨rfl, rfl⟩
              go_wp2_with (fail)
              refine (arithmetic_i _).mono ?_
              rintro e w2 ⟨g, rfl, hg, hlt, hb⟩
              have HB := Lib.hid hb
              have kc : w2.cell? ⟨g, 4, none⟩ = some (.func (.func 16) #[] #[]) := Lib.cell_of_heap hg 4
              clear hg hlt hb
              go_wp2_with (fail)
              clear kc
              refine (quotient_i a _ N HNN.out HKK.out hb0 _).mono ?_
              rintro e w3 ⟨rfl, hb3⟩
              replace HB := Lib.hid (HB.out.trans (hb3.mono HB.out.size))
              clear hb3
              go_wp2_with (fail)
              refine (IN.out _).mono ?_
              rintro e w1 ⟨rfl, rfl⟩
              go_wp2_with (fail)
              go_ret2
              exact ⟨rfl, HB.out⟩
            · rw [EN.out.1 HQ.out]
              go_enter Try.func6, Try.ntmps6
              go_wp2_with (fail)
              refine (I1.out _).mono ?_
              rintro e w1 ⟨rfl, rfl⟩
              go_wp2_with (fail)
              refine (I2.out _).mono ?_
              rintro e w1 ⟨rfl, rfl⟩
              go_wp2_with (fail)
              refine (I3.out _).mono ?_
              rintro e w1 ⟨rfl, rfl⟩
              go_wp2_with (fail)
              refine (arithmetic_i _).mono ?_
              rintro e w2 ⟨g, rfl, hg, hlt, hb⟩
              have HB := Lib.hid hb
              have kc : w2.cell? ⟨g, 4, none⟩ = some (.func (.func 16) #[] #[]) := Lib.cell_of_heap hg 4
              clear hg hlt hb
              go_wp2_with (fail)
              clear kc
              refine (quotient_i a _ N HNN.out HKK.out hb0 _).mono ?_
              rintro e w3 ⟨rfl, hb3⟩
              replace HB := Lib.hid (HB.out.trans (hb3.mono HB.out.size))
              clear hb3
              go_wp2_with (fail)
              refine (IN.out _).mono ?_
              rintro e w1 ⟨rfl, rfl⟩
              go_wp2_with (fail)
              go_ret2
              exact ⟨rfl, HB.out⟩
          · have hN : a.tmod b = N := HN.out
            have hbd := hk.out
            rw [← hN] at hbd
            have hb0 : ¬ b = 0 := by omega
            have HNN := Lib.hid hN
            have HKK := Lib.hid hk.out
            clear HN HMD HDD HOD hk hz hN hbd
            try clear hwr
            cases q
            · rw [EN.out.2 HQ.out]
              go_enter Try.func6, Try.ntmps6
              go_wp2_with (fail)
              refine (I1.out _).mono ?_
              rintro e w1 ⟨rfl, rfl⟩
              go_wp2_with (fail)
              refine (I2.out _).mono ?_
              rintro e w1 ⟨rfl, rfl⟩
              go_wp2_with (fail)
              refine (I3.out _).mono ?_
              rintro e w1 ⟨rfl, rfl⟩
              go_wp2_with (fail)
              refine (arithmetic_i _).mono ?_
              rintro e w2 ⟨g, rfl, hg, hlt, hb⟩
              have HB := Lib.hid hb
              have kc : w2.cell? ⟨g, 5, none⟩ = some (.func (.func 17) #[] #[]) := Lib.cell_of_heap hg 5
              clear hg hlt hb
              go_wp2_with (fail)
              clear kc
              refine (remainder_i a _ N HNN.out HKK.out hb0 _).mono ?_
              rintro e w3 ⟨rfl, hb3⟩
              replace HB := Lib.hid (HB.out.trans (hb3.mono HB.out.size))
              clear hb3
              go_wp2_with (fail)
              refine (IN.out _).mono ?_
              rintro e w1 ⟨rfl, rfl⟩
              go_wp2_with (fail)
              go_ret2
              exact ⟨rfl, HB.out⟩
            · rw [EN.out.1 HQ.out]
              go_enter Try.func6, Try.ntmps6
              go_wp2_with (fail)
              refine (I1.out _).mono ?_
              rintro e w1 ⟨rfl, rfl⟩
              go_wp2_with (fail)
              refine (I2.out _).mono ?_
              rintro e w1 ⟨rfl, rfl⟩
              go_wp2_with (fail)
              refine (I3.out _).mono ?_
              rintro e w1 ⟨rfl, rfl⟩
              go_wp2_with (fail)
              refine (arithmetic_i _).mono ?_
              rintro e w2 ⟨g, rfl, hg, hlt, hb⟩
              have HB := Lib.hid hb
              have kc : w2.cell? ⟨g, 5, none⟩ = some (.func (.func 17) #[] #[]) := Lib.cell_of_heap hg 5
              clear hg hlt hb
              go_wp2_with (fail)
              clear kc
              refine (remainder_i a _ N HNN.out HKK.out hb0 _).mono ?_
              rintro e w3 ⟨rfl, hb3⟩
              replace HB := Lib.hid (HB.out.trans (hb3.mono HB.out.size))
              clear hb3
              go_wp2_with (fail)
              refine (IN.out _).mono ?_
              rintro e w1 ⟨rfl, rfl⟩
              go_wp2_with (fail)
              go_ret2
              exact ⟨rfl, HB.out⟩

end Go.Proofs.Yteoilhbidnnneaa.ari
