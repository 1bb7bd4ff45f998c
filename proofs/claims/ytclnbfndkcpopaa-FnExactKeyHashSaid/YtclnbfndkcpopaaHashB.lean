/-
  What the digests of a number and of the bytes of a text are, of the project and of the model.
  Conditions: slices have at most 2^44 numbers, texts at most 2^47 bytes.
-/
import Derived.Test.YtclnbfndkcpopaaDig
import Derived.Test.YtclnbfndkcpopaaMod
import Derived.Test.YtclnbfndkcpopaaMemI
import Derived.WalkSmall
import Derived.Lib.OthersKept
import Derived.Deep.LoopGhost
namespace Go.Proofs.Ytclnbfndkcpopaa.hsh
open Go.ChangeShapes Go.WideShapes Go.ChangeAt Go.RowKit mem imem
set_option linter.unusedVariables false

theorem ret_int {k : IntKind} {a b : Int} (h : a = b) : Ending.returned (.int k a) = .returned (.int k b) := by rw [h]

theorem implMod31 (v : Int) (w : World) : Calls Try.prog 46 #[.int .i64 v, .int .i64 2147483647] w fun e w' => e = .returned (.int .i64 (v % 2147483647)) ∧ w = w' := by
  have h := mdl.implMod v 2147483647 w
  rwa [mdl.md_pos v 2147483647 (by omega) (by omega)] at h
theorem specMod31 (v : Int) (w : World) : Calls Try.prog 44 #[.int .i64 v, .int .i64 2147483647] w fun e w' => e = .returned (.int .i64 (v % 2147483647)) ∧ w = w' := by
  have h := mdl.specMod v 2147483647 w
  rwa [mdl.md_pos v 2147483647 (by omega) (by omega)] at h

theorem number (d v : Int) (hd : dig.In d) (w : World) :
    Calls Try.prog 85 #[.int .i64 d, .int .i64 v] w fun e w' => e = .returned (.int .i64 (dig.step d v)) ∧ w = w' := by
  obtain ⟨d0, d1⟩ := hd
  generalize hm : v % 2147483647 = m
  have m0 : 0 ≤ m := by omega
  have m1 : m ≤ 2147483646 := by omega
  have HM := Lib.hid hm; clear hm
  go_enter Try.func85, Try.ntmps85
  go_wp2_with (go_at_call 46; refine (implMod31 v _).mono ?_; rintro e w' ⟨rfl, rfl⟩; rw [HM.out])
  go_ret
  exact ⟨ret_int (by unfold dig.step; rw [HM.out]), rfl⟩

theorem txt_get (s : ByteArray) (k : Nat) (h : k < s.size) : (txt s)[k]? = some ((s[k]'h).toNat : Int) := by
  unfold txt
  rw [List.getElem?_map, List.getElem?_eq_getElem (by simpa using h)]
  rfl

theorem bytes (d : Int) (hd : dig.In d) (s : ByteArray) (hs : s.size ≤ 140737488355328) (w : World) :
    Calls Try.prog 72 #[.int .i64 d, .string s] w fun e w' => e = .returned (.int .i64 (dig.fold d (txt s))) ∧ w = w' := by
  have HD := Lib.hid hd; clear hd
  go_enter Try.func72, Try.ntmps72
  go_wp2
  go_loopg [0, 5, 8] s.size (fun gk x y i wr => ∃ (k : Nat) (z : Int), k ≤ s.size ∧ i = .int .i64 k ∧ x = .int .i64 z ∧ gk + k = s.size ∧ dig.fold d ((txt s).take k) = z ∧ dig.In z ∧ w = wr)
  case atStart => exact ⟨0, d, by omega, rfl, rfl, by omega, rfl, HD.out, rfl⟩
  case round =>
    obtain ⟨k, z, hkn, rfl, rfl, hk, hz, hzi, rfl⟩ := hrel
    have HZ := Lib.hid hz; have HI := Lib.hid hzi; have HK := Lib.hid hk; clear hz hzi hk
    by_cases hlt : k < s.size
    · have hv1 := (s[k]'hlt).toNat_lt
      have HT := Lib.hid (dig.fold_take d (txt_get s k hlt))
      go_wp2_with (go_at_call 85; refine (number z _ HI.out _).mono ?_; rintro e w' ⟨rfl, rfl⟩)
      go_roundg (s.size - (k + 1))
      case measure => have := HK.out; omega
      case rel => exact ⟨k + 1, _, by omega, by go_num, rfl, by have := HK.out; omega, by rw [HT.out, HZ.out], dig.step_in _ _, rfl⟩
    · have HT := Lib.hid (dig.fold_all (l := txt s) (k := k) d (by have := txt_len s; omega))
      go_wp2
      go_ret
      exact ⟨ret_int (by rw [← HZ.out, HT.out]), rfl⟩

theorem specText (s : ByteArray) (hs : s.size ≤ 140737488355328) (w : World) :
    Calls Try.prog 43 #[.string s] w fun e w' => e = .returned (.int .i64 (dig.fold 11 (txt s))) ∧ w = w' := by
  go_enter Try.func43, Try.ntmps43
  go_wp2
  go_loopg [3, 4] s.size (fun gk x i wr => ∃ (k : Nat) (z : Int), k ≤ s.size ∧ i = .int .i64 k ∧ x = .int .i64 z ∧ gk + k = s.size ∧ dig.fold 11 ((txt s).take k) = z ∧ 0 ≤ z ∧ z ≤ 2147483646 ∧ w = wr)
  case atStart => exact ⟨0, 11, by omega, rfl, rfl, by omega, rfl, by omega, by omega, rfl⟩
  case round =>
    obtain ⟨k, z, hkn, rfl, rfl, hk, hz, z0, z1, rfl⟩ := hrel
    have HZ := Lib.hid hz; have HK := Lib.hid hk; clear hz hk
    by_cases hlt : k < s.size
    · have hv1 := (s[k]'hlt).toNat_lt
      have HT := Lib.hid (dig.fold_take 11 (txt_get s k hlt))
      have HS := Lib.hid (dig.step_byte z ((s[k]'hlt).toNat : Int) (by omega) (by omega))
      have HI := Lib.hid (dig.step_in z ((s[k]'hlt).toNat : Int))
      go_wp2
      go_roundg (s.size - (k + 1))
      case measure => have := HK.out; omega
      case rel => exact ⟨k + 1, _, by omega, by go_num, rfl, by have := HK.out; omega, by rw [HT.out, HZ.out, HS.out], by rw [HS.out]; exact HI.out.1, by rw [HS.out]; exact HI.out.2, rfl⟩
    · have HT := Lib.hid (dig.fold_all (l := txt s) (k := k) 11 (by have := txt_len s; omega))
      go_wp2
      go_ret
      exact ⟨ret_int (by rw [← HZ.out, HT.out]), rfl⟩

end Go.Proofs.Ytclnbfndkcpopaa.hsh
