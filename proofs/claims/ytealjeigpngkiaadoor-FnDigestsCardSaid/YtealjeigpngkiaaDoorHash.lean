/-
  What the digests of the project and of the model return: the fold of the numbers, of the bytes of a text, of a key round the numbers.
  Conditions: slices have at most 2^44 numbers, texts at most 2^47 bytes.
-/
import Derived.Test.YtealjeigpngkiaaDoorDig
import Derived.Test.YtealjeigpngkiaaDoorMod
import Derived.Test.YtealjeigpngkiaaDoorMemI
import Derived.WalkSmall
import Derived.Lib.OthersKept
import Derived.Deep.LoopGhost
namespace Go.Proofs.YtealjeigpngkiaaDoor.hsh
open Go.ChangeShapes Go.WideShapes Go.ChangeAt Go.RowKit mem imem
set_option linter.unusedVariables false

theorem ret_int {k : IntKind} {a b : Int} (h : a = b) : Ending.returned (.int k a) = .returned (.int k b) := by rw [h]

theorem implMod31 (v : Int) (w : World) : Calls Tryd.prog 9 #[.int .i64 v, .int .i64 2147483647] w fun e w' => e = .returned (.int .i64 (v % 2147483647)) ∧ w = w' := by
  have h := mdl.implMod v 2147483647 w
  rwa [mdl.md_pos v 2147483647 (by omega) (by omega)] at h

theorem number (d v : Int) (hd : dig.In d) (w : World) :
    Calls Tryd.prog 23 #[.int .i64 d, .int .i64 v] w fun e w' => e = .returned (.int .i64 (dig.step d v)) ∧ w = w' := by
  obtain ⟨d0, d1⟩ := hd
  generalize hm : v % 2147483647 = m
  have m0 : 0 ≤ m := by omega
  have m1 : m ≤ 2147483646 := by omega
  have HM := Lib.hid hm; clear hm
  go_enter Tryd.func23, Tryd.ntmps23
  go_wp2_with (go_at_call 9; refine (implMod31 v _).mono ?_; rintro e w' ⟨rfl, rfl⟩; rw [HM.out])
  go_ret
  exact ⟨ret_int (by unfold dig.step; rw [HM.out]), rfl⟩

theorem numbers (d : Int) (hd : dig.In d) (A : Option Addr) (n c : Nat) (l : List Int) (hn : n ≤ 17592186044416) (w : World) (hA : RdI w A n l) :
    Calls Tryd.prog 16 #[.int .i64 d, .slice A n c] w fun e w' => e = .returned (.int .i64 (dig.fold d l)) ∧ w = w' := by
  have hl := hA.len
  have HA := Lib.hid hA; have HL := Lib.hid hl; have HD := Lib.hid hd; clear hA hl hd
  go_enter Tryd.func16, Tryd.ntmps16
  go_wp2
  go_loopg [0, 6, 9] n (fun gk x y i wr => ∃ (k : Nat) (z : Int), k ≤ n ∧ i = .int .i64 k ∧ x = .int .i64 z ∧ gk + k = n ∧ dig.fold d (l.take k) = z ∧ dig.In z ∧ w = wr)
  case atStart => exact ⟨0, d, by omega, rfl, rfl, by omega, rfl, HD.out, rfl⟩
  case round =>
    obtain ⟨k, z, hkn, rfl, rfl, hk, hz, hzi, rfl⟩ := hrel
    have HZ := Lib.hid hz; have HI := Lib.hid hzi; have HK := Lib.hid hk; clear hz hzi hk
    by_cases hlt : k < n
    · obtain ⟨a, v, rfl, hv, hc⟩ := HA.out.at_ hlt
      have HT := Lib.hid (dig.fold_take d hv)
      clear hv
      go_wp2_with (go_at_call 23; refine (number z v HI.out _).mono ?_; rintro e w' ⟨rfl, rfl⟩)
      go_roundg (n - (k + 1))
      case measure => have := HK.out; omega
      case rel => exact ⟨k + 1, _, by omega, by go_num, rfl, by have := HK.out; omega, by rw [HT.out, HZ.out], dig.step_in _ _, rfl⟩
    · have HT := Lib.hid (dig.fold_all (l := l) (k := k) d (by have := HL.out; omega))
      go_wp2
      go_ret
      exact ⟨ret_int (by rw [← HZ.out, HT.out]), rfl⟩

theorem implHash (A : Option Addr) (n c : Nat) (l : List Int) (hn : n ≤ 17592186044416) (w : World) (hA : RdI w A n l) :
    Calls Tryd.prog 7 #[.slice A n c] w fun e w' => e = .returned (.int .i64 (dig.fold 11 l)) ∧ w = w' := by
  have HA := Lib.hid hA; clear hA
  go_enter Tryd.func7, Tryd.ntmps7
  go_wp2_with (go_at_call 16; refine (numbers 11 dig.in11 A n c l hn _ HA.out).mono ?_; rintro e w' ⟨rfl, rfl⟩)
  go_ret
  exact ⟨rfl, rfl⟩

theorem implKeyed (key : Int) (A : Option Addr) (n c : Nat) (l : List Int) (hn : n ≤ 17592186044416) (w : World) (hA : RdI w A n l) :
    Calls Tryd.prog 12 #[.int .i64 key, .slice A n c] w fun e w' => e = .returned (.int .i64 (dig.fold 11 (key :: l ++ [key]))) ∧ w = w' := by
  have HA := Lib.hid hA; clear hA
  have h1 := dig.step_in 11 key
  have h2 := dig.fold_in h1 l
  have e3 : dig.fold 11 (key :: l ++ [key]) = dig.step (dig.fold (dig.step 11 key) l) key := by
    rw [show key :: l ++ [key] = key :: (l ++ [key]) from rfl, dig.fold_cons, dig.fold_app]
    rfl
  have H1 := Lib.hid h1; have H2 := Lib.hid h2; have E3 := Lib.hid e3; clear h1 h2 e3
  go_enter Tryd.func12, Tryd.ntmps12
  go_wp2_with (fail)
  refine (number 11 key dig.in11 _).mono ?_
  rintro e w1 ⟨rfl, rfl⟩
  go_wp2_with (fail)
  refine (numbers _ H1.out A n c l hn _ HA.out).mono ?_
  rintro e w2 ⟨rfl, rfl⟩
  go_wp2_with (fail)
  refine (number _ key H2.out _).mono ?_
  rintro e w3 ⟨rfl, rfl⟩
  go_wp2
  go_ret
  exact ⟨ret_int E3.out.symm, rfl⟩


theorem txt_get (s : ByteArray) (k : Nat) (h : k < s.size) : (txt s)[k]? = some ((s[k]'h).toNat : Int) := by
  unfold txt
  rw [List.getElem?_map, List.getElem?_eq_getElem (by simpa using h)]
  rfl

theorem bytes (d : Int) (hd : dig.In d) (s : ByteArray) (hs : s.size ≤ 140737488355328) (w : World) :
    Calls Tryd.prog 20 #[.int .i64 d, .string s] w fun e w' => e = .returned (.int .i64 (dig.fold d (txt s))) ∧ w = w' := by
  have HD := Lib.hid hd; clear hd
  go_enter Tryd.func20, Tryd.ntmps20
  go_wp2
  go_loopg [0, 5, 8] s.size (fun gk x y i wr => ∃ (k : Nat) (z : Int), k ≤ s.size ∧ i = .int .i64 k ∧ x = .int .i64 z ∧ gk + k = s.size ∧ dig.fold d ((txt s).take k) = z ∧ dig.In z ∧ w = wr)
  case atStart => exact ⟨0, d, by omega, rfl, rfl, by omega, rfl, HD.out, rfl⟩
  case round =>
    obtain ⟨k, z, hkn, rfl, rfl, hk, hz, hzi, rfl⟩ := hrel
    have HZ := Lib.hid hz; have HI := Lib.hid hzi; have HK := Lib.hid hk; clear hz hzi hk
    by_cases hlt : k < s.size
    · have hv1 := (s[k]'hlt).toNat_lt
      have HT := Lib.hid (dig.fold_take d (txt_get s k hlt))
      go_wp2_with (go_at_call 23; refine (number z _ HI.out _).mono ?_; rintro e w' ⟨rfl, rfl⟩)
      go_roundg (s.size - (k + 1))
      case measure => have := HK.out; omega
      case rel => exact ⟨k + 1, _, by omega, by go_num, rfl, by have := HK.out; omega, by rw [HT.out, HZ.out], dig.step_in _ _, rfl⟩
    · have HT := Lib.hid (dig.fold_all (l := txt s) (k := k) d (by have := txt_len s; omega))
      go_wp2
      go_ret
      exact ⟨ret_int (by rw [← HZ.out, HT.out]), rfl⟩


end Go.Proofs.YtealjeigpngkiaaDoor.hsh
