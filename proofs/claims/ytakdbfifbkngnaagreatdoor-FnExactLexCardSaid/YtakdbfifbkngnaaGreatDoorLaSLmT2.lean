/-
  The model's reading of a token: a name.
  Conditions: the text has at most 10^6 bytes.
-/
import Derived.Test.YtakdbfifbkngnaaGreatDoorLaSLmT0
namespace Go.Proofs.YtakdbfifbkngnaaGreatDoor.lex
open Go.ChangeShapes Go.WideShapes Go.ChangeAt Go.RowKit mem
set_option linter.unusedVariables false

set_option maxHeartbeats 4000000 in
set_option maxRecDepth 100000 in
theorem token_n (s : ByteArray) (hs : s.size ≤ 1000000) (k : Nat) (hk : k < s.size) (h36 : ¬ (s[k].toNat : Int) = 36) (HL : Hid (isLn s[k].toNat = true)) (w : World) : TkC s k w (.good 3 0 ((s.data.toList.drop k).take (nameLen (s.data.toList.drop k))) (nameLen (s.data.toList.drop k))) := by
  have hb0 : (0 : Int) ≤ (s[k].toNat : Int) := by omega
  have hb9 : (s[k].toNat : Int) ≤ 255 := by have := s[k].toNat_lt; omega
  have hk9 : (k : Int) ≤ 1000000 := by omega
  have R0 := tkR0 w k 0
  have T0 := tkT0 w k 0
  have HB0 := tkB0 w k 0
  have hbn : ((s[k].toNat : Int) == 36) = false := beq_eq_false_iff_ne.2 h36
  unfold TkC
  have hne := nameEnd_le s k (by omega)
  obtain ⟨n, hn⟩ : ∃ n, nameLen (s.data.toList.drop k) = n := ⟨_, rfl⟩
  obtain ⟨E, hE⟩ : ∃ E, nameEnd s k = E := ⟨_, rfl⟩
  have hEn : E = k + n := by rw [← hE]; unfold nameEnd; rw [hn]
  rw [hE] at hne
  obtain ⟨hle1, hle2⟩ := hne
  have NS := name_s s (by omega) k (by omega)
  rw [hE] at NS
  have HX : Hid (s.extract k E = tx ((s.data.toList.drop k).take n)) := Lib.hid (by rw [hEn, ext_list])
  have HNS := Lib.hid NS
  rw [hn]
  have HEn := Lib.hid hEn
  clear NS hE hn hEn
  go_enter Tryz.func58, Tryz.ntmps58
  go_wp2_with (first
    | (go_at_call 101; refine (letter_s _ _).mono ?_; rintro e w2 ⟨rfl, rfl⟩; rw [HL.out])
    | (go_at_call 100; refine (HNS.out _).mono ?_; rintro e w1 ⟨rfl, hb⟩; have HB := Lib.hid (bs HB0.out hb); have R1 := Lib.hid (carry hb R0.out); have T1 := Lib.hid (carry hb T0.out); obtain ⟨r, f⟩ := rowc R1.out; obtain ⟨rt, ft⟩ := rowc T1.out; clear hb))
  try go_wp2_with (fail)
  try go_wp2_with (fail)
  generalize hwF : (((World.setCell _ ⟨w.heap.size, 0, none⟩ _).setCell ⟨w.heap.size, 1, none⟩ _).setCell ⟨w.heap.size, 2, none⟩ _).setCell ⟨w.heap.size, 3, none⟩ _ = wF
  obtain ⟨rF, oF, bF⟩ := fill4 (setT (setT R1.out (by omega)) (by omega)) hwF
  refine bodyPost_ret (v := .tuple #[.agg #[.int .i64 3, .int .i64 0, .string (s.extract k E), .int .i64 (k : Int)], .int .i64 (E : Int), .int .i64 0]) ?_ rfl ?_
  · simp [results, Tryz.results58, go_sem, rF]
  · refine ⟨?_, bF _ _ (Nat.le_refl _) (Below.setCell (Below.setCell HB.out (Nat.le_succ _) _) (Nat.le_succ _) _)⟩
    show _ = Ending.returned (.tuple #[.agg #[_, _, .string (tx ((s.data.toList.drop k).take n)), _], .int .i64 ((k + n : Nat) : Int), _])
    rw [← HX.out, ← HEn.out]
    rfl

end Go.Proofs.YtakdbfifbkngnaaGreatDoor.lex

