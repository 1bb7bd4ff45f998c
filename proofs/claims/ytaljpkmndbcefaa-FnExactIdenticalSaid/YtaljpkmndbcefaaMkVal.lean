/-
  The values that are made out of nothing, and the laws' marks on them.
  Conditions: those that each theorem names.
-/
import Derived.Test.YtaljpkmndbcefaaTreeEq
namespace Go.Proofs.Ytaljpkmndbcefaa.tree
open Go.ChangeShapes Go.WideShapes Go.ChangeAt Go.RowKit
set_option linter.unusedVariables false

theorem IsIn.nil (w : World) (S : Nat → Prop) (A : Option Addr) : IsIn w S [] [] A := ⟨rfl, by simp, fun _ => #[], fun i hi => absurd hi (by simp), fun i hi => absurd hi (by simp)⟩
/-- A value with no items. -/
theorem flat {k n x : Int} {s : ByteArray} (hk : I64 k ∧ I64 n ∧ I64 x ∧ s.size ≤ maxLen) (w : World) (S : Nat → Prop) (A : Option Addr) (c : Nat) (hc : c ≤ maxLen) : TIn w S (.mk k n s x [] []) (vV k n s x A 0 c) := TIn.of c hk (IsIn.nil w S A) ⟨Nat.zero_le _, hc⟩

def GivesQ (w : World) (v : Value) (e : Ending) (w' : World) : Prop := e = .returned v ∧ Below w.heap.size w w'

theorem markItems0 (A : Option Addr) (c : Nat) (m : Int) (w : World) : Calls Try.prog 33 #[.slice A 0 c, .int .i64 m] w (GivesQ w (.int .i64 m)) := by
  go_enter Try.func33, Try.ntmps33
  go_wp2
  go_loopg [1, 5] 1 (fun gk l i wr => l = .int .i64 m ∧ i = .int .i64 0 ∧ gk = 1 ∧ w = wr)
  case atStart => exact ⟨rfl, rfl, rfl, rfl⟩
  case round =>
    obtain ⟨rfl, rfl, rfl, rfl⟩ := hrel
    go_wp2
    go_ret
    exact ⟨rfl, Below.refl _ _⟩

set_option maxRecDepth 100000 in
theorem heldItems0 (A : Option Addr) (c : Nat) (m : Int) (w : World) : Calls Try.prog 34 #[.slice A 0 c, .int .i64 m] w (GivesQ w (.int .i64 m)) := by
  go_enter Try.func34, Try.ntmps34
  go_wp2
  go_loopg [1, 5] 1 (fun gk l i wr => l = .int .i64 m ∧ i = .int .i64 0 ∧ gk = 1 ∧ w = wr)
  case atStart => exact ⟨rfl, rfl, rfl, rfl⟩
  case round =>
    obtain ⟨rfl, rfl, rfl, rfl⟩ := hrel
    go_wp2
    go_ret
    exact ⟨rfl, Below.refl _ _⟩

theorem markV0 (k n : Int) (s : ByteArray) (x : Int) (A : Option Addr) (c : Nat) (m : Int) (w : World) : Calls Try.prog 14 #[vV k n s x A 0 c, .int .i64 m] w (GivesQ w (.int .i64 m)) := by
  go_enter Try.func14, Try.ntmps14
  go_wp2_with (fail)
  refine (markItems0 A c m _).mono ?_
  rintro e w1 ⟨rfl, hb1⟩
  have HB := Lib.hid hb1
  clear hb1
  go_wp2_with (fail)
  go_ret
  exact ⟨rfl, bs (b1 _ _) HB.out⟩

theorem heldV0 (k n : Int) (s : ByteArray) (x : Int) (A : Option Addr) (c : Nat) (m : Int) (h0 : 0 ≤ m) (w : World) : Calls Try.prog 15 #[vV k n s x A 0 c, .int .i64 m] w (GivesQ w (.int .i64 m)) := by
  go_enter Try.func15, Try.ntmps15
  go_wp2_with (fail)
  refine (heldItems0 A c m _).mono ?_
  rintro e w1 ⟨rfl, hb1⟩
  have HB := Lib.hid hb1
  clear hb1
  go_wp2_with (fail)
  go_ret
  exact ⟨rfl, bs (b1 _ _) HB.out⟩

def boolV (b : Bool) : Value := if b then vV 1 1 ⟨#[]⟩ 0 none 0 0 else vV 1 0 ⟨#[]⟩ 0 none 0 0
theorem boolValue_i (b : Bool) (w : World) : Calls Try.prog 12 #[.bool b] w (GivesQ w (boolV b)) := by
  cases b
  · go_enter Try.func12, Try.ntmps12
    go_wp2
    exact bodyPost_ret (v := vV 1 0 ⟨#[]⟩ 0 none 0 0) (by simp [results, Try.results12, go_sem]) rfl ⟨rfl, b1 _ _⟩
  · go_enter Try.func12, Try.ntmps12
    go_wp2
    exact bodyPost_ret (v := vV 1 1 ⟨#[]⟩ 0 none 0 0) (by simp [results, Try.results12, go_sem]) rfl ⟨rfl, b1 _ _⟩
theorem boolValue_s (b : Bool) (w : World) : Calls Try.prog 11 #[.bool b] w (GivesQ w (boolV b)) := by
  cases b
  · go_enter Try.func11, Try.ntmps11
    go_wp2
    exact bodyPost_ret (v := vV 1 0 ⟨#[]⟩ 0 none 0 0) (by simp [results, Try.results11, go_sem]) rfl ⟨rfl, b1 _ _⟩
  · go_enter Try.func11, Try.ntmps11
    go_wp2
    exact bodyPost_ret (v := vV 1 1 ⟨#[]⟩ 0 none 0 0) (by simp [results, Try.results11, go_sem]) rfl ⟨rfl, b1 _ _⟩

theorem intValue_i (n : Int) (w : World) : Calls Try.prog 17 #[.int .i64 n] w (GivesQ w (vV 2 n ⟨#[]⟩ 0 none 0 0)) := by
  go_enter Try.func17, Try.ntmps17
  go_wp2
  exact bodyPost_ret (v := vV 2 n ⟨#[]⟩ 0 none 0 0) (by simp [results, Try.results17, go_sem]) rfl ⟨rfl, b1 _ _⟩
theorem intValue_s (n : Int) (w : World) : Calls Try.prog 16 #[.int .i64 n] w (GivesQ w (vV 2 n ⟨#[]⟩ 0 none 0 0)) := by
  go_enter Try.func16, Try.ntmps16
  go_wp2
  exact bodyPost_ret (v := vV 2 n ⟨#[]⟩ 0 none 0 0) (by simp [results, Try.results16, go_sem]) rfl ⟨rfl, b1 _ _⟩

theorem arrayValue_i (w : World) : Calls Try.prog 21 #[] w (GivesQ w (vV 4 0 ⟨#[]⟩ 0 none 0 0)) := by
  go_enter Try.func21, Try.ntmps21
  go_wp2
  exact bodyPost_ret (v := vV 4 0 ⟨#[]⟩ 0 none 0 0) (by simp [results, Try.results21, go_sem]) rfl ⟨rfl, b1 _ _⟩
theorem arrayValue_s (w : World) : Calls Try.prog 20 #[] w (GivesQ w (vV 4 0 ⟨#[]⟩ 0 none 0 0)) := by
  go_enter Try.func20, Try.ntmps20
  go_wp2
  exact bodyPost_ret (v := vV 4 0 ⟨#[]⟩ 0 none 0 0) (by simp [results, Try.results20, go_sem]) rfl ⟨rfl, b1 _ _⟩

theorem textValue_s (s : ByteArray) (w : World) : Calls Try.prog 18 #[.string s] w (GivesQ w (vV 3 0 s 0 none 0 0)) := by
  go_enter Try.func18, Try.ntmps18
  go_wp2
  exact bodyPost_ret (v := vV 3 0 s 0 none 0 0) (by simp [results, Try.results18, go_sem]) rfl ⟨rfl, b1 _ _⟩

end Go.Proofs.Ytaljpkmndbcefaa.tree
