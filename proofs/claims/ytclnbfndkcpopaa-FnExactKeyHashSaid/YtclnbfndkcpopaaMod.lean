/-
  What Mod and InRange of the project and of the model, and the model's own range test, return at every integer; they change nothing.
  Conditions: none but that arguments are of Go's type int.
-/
import Derived.Test.YtclnbfndkcpopaaRows
import Derived.WalkKit
import Derived.ProofKit
import Derived.IntWalk
import Derived.Lib.Hide
import Derived.BigQuiet
import Derived.Deep.QuietTactic
import Derived.WalkLawsBesides
namespace Go.Proofs.Ytclnbfndkcpopaa.mdl
open Go.ChangeShapes Go.WideShapes Go.ChangeAt Go.RowKit
set_option linter.unusedVariables false

def inr (n l h : Int) : Bool := decide (l ≤ n) && decide (n ≤ h)
theorem inr_of {n l h : Int} (h0 : l ≤ n) (h1 : n ≤ h) : inr n l h = true := by unfold inr; simp; omega
theorem inr_not {n l h : Int} (hh : ¬ (l ≤ n ∧ n ≤ h)) : inr n l h = false := by unfold inr; simp; omega

theorem ret_int {k : IntKind} {a b : Int} (h : a = b) : Ending.returned (.int k a) = .returned (.int k b) := by rw [h]

theorem l1In (n l h : Int) (w : World) : Calls Try.prog 71 #[.int .i64 n, .int .i64 l, .int .i64 h] w fun e w' => e = .returned (.bool (inr n l h)) ∧ w = w' := by
  by_cases h1 : l ≤ n
  all_goals
    by_cases h2 : n ≤ h
    all_goals
      go_enter Try.func71, Try.ntmps71
      go_wp2
      go_ret
      exact ⟨by simp [inr, h1, h2], rfl⟩

theorem implInRange (n l h : Int) (w : World) : Calls Try.prog 73 #[.int .i64 n, .int .i64 l, .int .i64 h] w fun e w' => e = .returned (.bool (inr n l h)) ∧ w = w' := by
  by_cases h1 : l ≤ n
  all_goals
    by_cases h2 : n ≤ h
    all_goals
      go_enter Try.func73, Try.ntmps73
      go_wp2
      go_ret
      exact ⟨by simp [inr, h1, h2], rfl⟩

theorem tm_bd (n m : Int) (h : 1 ≤ m) : -m < n.tmod m ∧ n.tmod m < m ∧ (n.tmod m + m) % m = n % m ∧ (n.tmod m < 0 → n.tmod m + m = n % m) ∧ (0 ≤ n.tmod m → n.tmod m = n % m) := by
  have e1 := Int.emod_nonneg n (b := m) (by omega)
  have e2 := Int.emod_lt_of_pos n (b := m) (by omega)
  have e3 : (n % m + m) % m = n % m := by rw [Int.add_emod_right, Int.emod_emod]
  have e4 : n % m % m = n % m := Int.emod_emod _ _
  rw [Int.tmod_eq_emod]
  split
  · have z : n % m - ((0 : Nat) : Int) = n % m := by omega
    rw [z]; exact ⟨by omega, by omega, e3, by omega, by omega⟩
  · rename_i hn
    have h0 : n % m ≠ 0 := fun hh => hn (Or.inr (Int.dvd_of_emod_eq_zero hh))
    have h1 : (m.natAbs : Int) = m := by omega
    rw [h1]
    have e5 : n % m - m + m = n % m := by omega
    rw [e5]
    exact ⟨by omega, by omega, e4, by omega, by omega⟩

def md (n m : Int) : Int := if inr m 1 1000000000000 = true then n % m else 0

theorem specMod (n m : Int) (w : World) : Calls Try.prog 44 #[.int .i64 n, .int .i64 m] w fun e w' => e = .returned (.int .i64 (md n m)) ∧ w = w' := by
  by_cases h : inr m 1 1000000000000 = true
  · have h1 : 1 ≤ m := by simp [inr] at h; omega
    have h2 : m ≤ 1000000000000 := by simp [inr] at h; omega
    obtain ⟨b1, b2, b3, b4, b5⟩ := tm_bd n m h1
    have B3 := Lib.hid b3; clear b3
    have B4 := Lib.hid b4; clear b4
    have B5 := Lib.hid b5; clear b5
    go_enter Try.func44, Try.ntmps44
    go_wp2_with (first | (go_at_call 71; refine (l1In _ _ _ _).mono ?_; rintro e w' ⟨rfl, rfl⟩))
    go_ret
    exact ⟨ret_int (by unfold md; rw [if_pos h]; exact B3.out), rfl⟩
  · go_enter Try.func44, Try.ntmps44
    go_wp2_with (first | (go_at_call 71; refine (l1In _ _ _ _).mono ?_; rintro e w' ⟨rfl, rfl⟩))
    go_ret
    exact ⟨ret_int (by unfold md; simp [h]), rfl⟩

theorem implMod (n m : Int) (w : World) : Calls Try.prog 46 #[.int .i64 n, .int .i64 m] w fun e w' => e = .returned (.int .i64 (md n m)) ∧ w = w' := by
  by_cases h : inr m 1 1000000000000 = true
  · have h1 : 1 ≤ m := by simp [inr] at h; omega
    have h2 : m ≤ 1000000000000 := by simp [inr] at h; omega
    obtain ⟨b1, b2, b3, b4, b5⟩ := tm_bd n m h1
    have B3 := Lib.hid b3; clear b3
    have B4 := Lib.hid b4; clear b4
    have B5 := Lib.hid b5; clear b5
    by_cases h0 : n.tmod m < 0
    all_goals
      go_enter Try.func46, Try.ntmps46
      go_wp2_with (first | (go_at_call 73; refine (implInRange _ _ _ _).mono ?_; rintro e w' ⟨rfl, rfl⟩))
      go_ret
      exact ⟨ret_int (by unfold md; rw [if_pos h]; first | exact B4.out h0 | exact B5.out (by omega)), rfl⟩
  · go_enter Try.func46, Try.ntmps46
    go_wp2_with (first | (go_at_call 73; refine (implInRange _ _ _ _).mono ?_; rintro e w' ⟨rfl, rfl⟩))
    go_ret
    exact ⟨ret_int (by unfold md; simp [h]), rfl⟩

theorem md_pos (n m : Int) (h0 : 1 ≤ m) (h1 : m ≤ 1000000000000) : md n m = n % m := by unfold md; rw [if_pos (inr_of h0 h1)]

end Go.Proofs.Ytclnbfndkcpopaa.mdl
