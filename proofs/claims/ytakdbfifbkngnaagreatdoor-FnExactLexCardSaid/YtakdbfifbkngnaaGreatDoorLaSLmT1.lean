/-
  The model's reading of a token: a variable.
  Conditions: the text has at most 10^6 bytes.
-/
import Derived.Test.YtakdbfifbkngnaaGreatDoorLaSLmT0
namespace Go.Proofs.YtakdbfifbkngnaaGreatDoor.lex
open Go.ChangeShapes Go.WideShapes Go.ChangeAt Go.RowKit mem
set_option linter.unusedVariables false

set_option maxHeartbeats 4000000 in
set_option maxRecDepth 100000 in
theorem token_v (s : ByteArray) (hs : s.size ≤ 1000000) (k : Nat) (hk : k < s.size) (hbn : (s[k].toNat : Int) = 36) (w : World) : TkC s k w (varR (s.data.toList.drop (k + 1))) := by
  have hb0 : (0 : Int) ≤ (s[k].toNat : Int) := by omega
  have hb9 : (s[k].toNat : Int) ≤ 255 := by have := s[k].toNat_lt; omega
  have hk9 : (k : Int) ≤ 1000000 := by omega
  have R0 := tkR0 w k 0
  have T0 := tkT0 w k 0
  have HB0 := tkB0 w k 0
  unfold TkC
  have hne := nameEnd_le s (k + 1) hk
  obtain ⟨n, hn⟩ : ∃ n, nameLen (s.data.toList.drop (k + 1)) = n := ⟨_, rfl⟩
  obtain ⟨k1, hk1⟩ : ∃ q, q = k + 1 := ⟨_, rfl⟩
  obtain ⟨E, hE⟩ : ∃ E, nameEnd s (k + 1) = E := ⟨_, rfl⟩
  have hEn : E = k1 + n := by rw [← hE, hk1]; unfold nameEnd; rw [hn]
  rw [hE] at hne
  have hki : (k : Int) + 1 = (k1 : Int) := by omega
  have hle1 : k1 ≤ E := by omega
  have hle2 : E ≤ s.size := hne.2
  have NS := name_s s (by omega) (k + 1) hk
  rw [hE, ← hk1] at NS
  have HX : Hid (s.extract k1 E = tx ((s.data.toList.drop (k + 1)).take n)) := Lib.hid (by rw [hEn, ext_list, hk1])
  have HNS := Lib.hid NS
  have HV : Hid (varR (s.data.toList.drop (k + 1)) = if n = 0 then .bad 2 else .good 2 0 ((s.data.toList.drop (k + 1)).take n) (n + 1)) := Lib.hid (by unfold varR; rw [hn])
  rw [HV.out]
  have HEn := Lib.hid hEn
  have HK1 := Lib.hid hk1
  clear NS hE HV
  by_cases hn0 : n = 0
  · have hx : s.extract k1 E = ⟨#[]⟩ := by rw [HX.out, hn0]; rfl
    rw [if_pos hn0]
    clear hn0 hn hEn hk1
    go_enter Tryz.func58, Tryz.ntmps58
    go_wp2_with (fail)
    go_wp2_with (fail)
    refine (HNS.out _).mono ?_
    rintro e w1 ⟨rfl, hb⟩
    have HB := Lib.hid (bs HB0.out hb)
    have R1 := Lib.hid (carry hb R0.out)
    have T1 := Lib.hid (carry hb T0.out)
    obtain ⟨r, f⟩ := rowc R1.out
    obtain ⟨rt, ft⟩ := rowc T1.out
    clear hb
    go_wp2_with (fail)
    try go_wp2_with (fail)
    generalize hwF : (((World.setCell _ ⟨w.heap.size, 0, none⟩ _).setCell ⟨w.heap.size, 1, none⟩ _).setCell ⟨w.heap.size, 2, none⟩ _).setCell ⟨w.heap.size, 3, none⟩ _ = wF
    obtain ⟨rF, oF, bF⟩ := fill4 (setT (setT R1.out (by omega)) (by omega)) hwF
    refine bodyPost_ret (v := .tuple #[.agg #[.int .i64 2, .int .i64 0, .string ⟨#[]⟩, .int .i64 (k : Int)], .int .i64 (k : Int), .int .i64 2]) ?_ rfl ?_
    · simp [results, Tryz.results58, go_sem, rF]
    · refine ⟨?_, bF _ _ (Nat.le_refl _) (Below.setCell (Below.setCell HB.out (Nat.le_succ _) _) (Nat.le_succ _) _)⟩
      exact ⟨2, 0, ⟨#[]⟩, rfl⟩
  · have hx : (s.extract k1 E).toList.isEmpty = false := by
      refine isEmpty_no ?_
      rw [ByteArray.size_extract]
      omega
    rw [if_neg hn0]
    clear hn0 hn hEn hk1
    go_enter Tryz.func58, Tryz.ntmps58
    go_wp2_with (fail)
    go_wp2_with (fail)
    refine (HNS.out _).mono ?_
    rintro e w1 ⟨rfl, hb⟩
    have HB := Lib.hid (bs HB0.out hb)
    have R1 := Lib.hid (carry hb R0.out)
    have T1 := Lib.hid (carry hb T0.out)
    obtain ⟨r, f⟩ := rowc R1.out
    obtain ⟨rt, ft⟩ := rowc T1.out
    clear hb
    go_wp2_with (fail)
    try go_wp2_with (fail)
    generalize hwF : (((World.setCell _ ⟨w.heap.size, 0, none⟩ _).setCell ⟨w.heap.size, 1, none⟩ _).setCell ⟨w.heap.size, 2, none⟩ _).setCell ⟨w.heap.size, 3, none⟩ _ = wF
    obtain ⟨rF, oF, bF⟩ := fill4 (setT (setT R1.out (by omega)) (by omega)) hwF
    refine bodyPost_ret (v := .tuple #[.agg #[.int .i64 2, .int .i64 0, .string (s.extract k1 E), .int .i64 (k : Int)], .int .i64 (E : Int), .int .i64 0]) ?_ rfl ?_
    · simp [results, Tryz.results58, go_sem, rF]
    · refine ⟨?_, bF _ _ (Nat.le_refl _) (Below.setCell (Below.setCell HB.out (Nat.le_succ _) _) (Nat.le_succ _) _)⟩
      show _ = Ending.returned (.tuple #[.agg #[_, _, .string (tx ((s.data.toList.drop (k + 1)).take n)), _], .int .i64 ((k + (n + 1) : Nat) : Int), _])
      rw [← HX.out, show k + (n + 1) = E by have h1 := HEn.out; have h2 := HK1.out; omega]
      rfl

end Go.Proofs.YtakdbfifbkngnaaGreatDoor.lex

