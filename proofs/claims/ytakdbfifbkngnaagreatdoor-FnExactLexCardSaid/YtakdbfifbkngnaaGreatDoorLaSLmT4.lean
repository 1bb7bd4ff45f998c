/-
  The model's reading of a token: a string.
  Conditions: the text has at most 10^6 bytes.
-/
import Derived.Test.YtakdbfifbkngnaaGreatDoorLaSLmT0
namespace Go.Proofs.YtakdbfifbkngnaaGreatDoor.lex
open Go.ChangeShapes Go.WideShapes Go.ChangeAt Go.RowKit mem
set_option linter.unusedVariables false

set_option maxHeartbeats 4000000 in
set_option maxRecDepth 100000 in
theorem token_t (s : ByteArray) (hs : s.size ≤ 1000000) (k : Nat) (hk : k < s.size) (hqn : (s[k].toNat : Int) = 39) (w : World) : TkC s k w (strR (s.data.toList.drop (k + 1))) := by
  have hb0 : (0 : Int) ≤ (s[k].toNat : Int) := by omega
  have hb9 : (s[k].toNat : Int) ≤ 255 := by have := s[k].toNat_lt; omega
  have hk9 : (k : Int) ≤ 1000000 := by omega
  have R0 := tkR0 w k 5
  have T0 := tkT0 w k 5
  have HB0 := tkB0 w k 5
  unfold TkC
  have SS := string_s s (by omega) k hk
  cases hr : strR (s.data.toList.drop (k + 1)) with
  | bad c =>
    rw [hr] at SS
    have hc : c = 3 := by
      unfold strR at hr
      split at hr
      · split at hr
        · cases hr
        · cases hr; rfl
      · cases hr; rfl
    subst hc
    unfold StrE at SS
    have HSS := Lib.hid SS
    clear SS hr
    go_enter Tryz.func58, Tryz.ntmps58
    go_wp2_with (first
      | (go_at_call 101; refine (letter39 _).mono ?_; rintro e w2 ⟨rfl, rfl⟩)
      | (go_at_call 102; refine (digit39 _).mono ?_; rintro e w2 ⟨rfl, rfl⟩)
      | (go_at_call 104; refine (HSS.out _).mono ?_; rintro e w1 ⟨rfl, hb⟩; have HB := Lib.hid (bs HB0.out hb); have R1 := Lib.hid (carry hb R0.out); have T1 := Lib.hid (carry hb T0.out); obtain ⟨r, f⟩ := rowc R1.out; obtain ⟨rt, ft⟩ := rowc T1.out; clear hb))
    try go_wp2_with (fail)
    try go_wp2_with (fail)
    generalize hwF : (((World.setCell _ ⟨w.heap.size, 0, none⟩ _).setCell ⟨w.heap.size, 1, none⟩ _).setCell ⟨w.heap.size, 2, none⟩ _).setCell ⟨w.heap.size, 3, none⟩ _ = wF
    obtain ⟨rF, oF, bF⟩ := fill4 (setT R1.out (by omega)) hwF
    refine bodyPost_ret (v := .tuple #[.agg #[.int .i64 5, .int .i64 0, .string ⟨#[]⟩, .int .i64 (k : Int)], .int .i64 (k : Int), .int .i64 3]) ?_ rfl ?_
    · simp [results, Tryz.results58, go_sem, rF]
    · refine ⟨?_, bF _ _ (Nat.le_refl _) (Below.setCell HB.out (Nat.le_succ _) _)⟩
      exact ⟨5, 0, ⟨#[]⟩, rfl⟩
  | good kk nn t z =>
    rw [hr] at SS
    have hkk : kk = 5 ∧ nn = 0 := by
      unfold strR at hr
      split at hr
      · split at hr
        · cases hr; exact ⟨rfl, rfl⟩
        · cases hr
      · cases hr
    obtain ⟨rfl, rfl⟩ := hkk
    obtain ⟨tt, htt⟩ : ∃ tt, tx t = tt := ⟨_, rfl⟩
    obtain ⟨kz, hkz⟩ : ∃ q, k + z = q := ⟨_, rfl⟩
    replace SS : ∀ w, Calls Tryz.prog 104 #[.string s, .int .i64 (k : Int)] w fun e w' => e = .returned (.tuple #[.string tt, .int .i64 ((kz : Nat) : Int)]) ∧ Below w.heap.size w w' := fun w => by
      have h2 : Calls Tryz.prog 104 #[.string s, .int .i64 (k : Int)] w fun e w' => e = .returned (.tuple #[.string (tx t), .int .i64 ((k + z : Nat) : Int)]) ∧ Below w.heap.size w w' := SS w
      rw [htt, hkz] at h2
      exact h2
    have hkz0 : ¬ ((kz : Nat) : Int) < 0 := by omega
    have HSS := Lib.hid SS
    clear SS hr
    go_enter Tryz.func58, Tryz.ntmps58
    go_wp2_with (first
      | (go_at_call 101; refine (letter39 _).mono ?_; rintro e w2 ⟨rfl, rfl⟩)
      | (go_at_call 102; refine (digit39 _).mono ?_; rintro e w2 ⟨rfl, rfl⟩)
      | (go_at_call 104; refine (HSS.out _).mono ?_; rintro e w1 ⟨rfl, hb⟩; have HB := Lib.hid (bs HB0.out hb); have R1 := Lib.hid (carry hb R0.out); have T1 := Lib.hid (carry hb T0.out); obtain ⟨r, f⟩ := rowc R1.out; obtain ⟨rt, ft⟩ := rowc T1.out; clear hb))
    try go_wp2_with (fail)
    try go_wp2_with (fail)
    generalize hwF : (((World.setCell _ ⟨w.heap.size, 0, none⟩ _).setCell ⟨w.heap.size, 1, none⟩ _).setCell ⟨w.heap.size, 2, none⟩ _).setCell ⟨w.heap.size, 3, none⟩ _ = wF
    obtain ⟨rF, oF, bF⟩ := fill4 (setT R1.out (by omega)) hwF
    refine bodyPost_ret (v := .tuple #[.agg #[.int .i64 5, .int .i64 0, .string tt, .int .i64 (k : Int)], .int .i64 (kz : Int), .int .i64 0]) ?_ rfl ?_
    · simp [results, Tryz.results58, go_sem, rF]
    · refine ⟨?_, bF _ _ (Nat.le_refl _) (Below.setCell HB.out (Nat.le_succ _) _)⟩
      show _ = Ending.returned (.tuple #[.agg #[_, _, .string (tx t), _], .int .i64 ((k + z : Nat) : Int), _])
      rw [htt, hkz]
      rfl

end Go.Proofs.YtakdbfifbkngnaaGreatDoor.lex

