/-
  The model's reading of a token: a mark.
  Conditions: the text has at most 10^6 bytes.
-/
import Derived.Test.YtakdbfifbkngnaaGreatDoorLaSLmT0
namespace Go.Proofs.YtakdbfifbkngnaaGreatDoor.lex
open Go.ChangeShapes Go.WideShapes Go.ChangeAt Go.RowKit mem
set_option linter.unusedVariables false

set_option maxHeartbeats 4000000 in
set_option maxRecDepth 100000 in
theorem token_m (s : ByteArray) (hs : s.size ≤ 1000000) (k : Nat) (hk : k < s.size) (h36 : ¬ (s[k].toNat : Int) = 36) (HL : Hid (isLn s[k].toNat = false)) (HD : Hid (isDn s[k].toNat = false)) (hqm : ¬ (s[k].toNat : Int) = 39) (w : World) : TkC s k w (markR (s.data.toList.drop k)) := by
  have hb0 : (0 : Int) ≤ (s[k].toNat : Int) := by omega
  have hb9 : (s[k].toNat : Int) ≤ 255 := by have := s[k].toNat_lt; omega
  have hk9 : (k : Int) ≤ 1000000 := by omega
  have R0 := tkR0 w k 6
  have T0 := tkT0 w k 6
  have HB0 := tkB0 w k 6
  have hbn : ((s[k].toNat : Int) == 36) = false := beq_eq_false_iff_ne.2 h36
  have hq39 : ((s[k].toNat : Int) == 39) = false := beq_eq_false_iff_ne.2 hqm
  unfold TkC
  have MS := mark_s s (by omega) k hk
  have hml := mark_len (s.data.toList.drop k)
  obtain ⟨m, hm⟩ : ∃ m, tx (mark (s.data.toList.drop k)) = m := ⟨_, rfl⟩
  rw [hm] at MS
  have hms : m.size = (mark (s.data.toList.drop k)).length := by rw [← hm, tx_size]
  have HMS := Lib.hid MS
  clear MS
  by_cases hm0 : mark (s.data.toList.drop k) = []
  · have hmr : markR (s.data.toList.drop k) = .bad 2 := by unfold markR; rw [if_pos hm0]
    rw [hmr]
    obtain rfl := empty_is (t := m) (by rw [hms, hm0]; rfl)
    clear hm hms hml hm0 hmr
    go_enter Tryz.func58, Tryz.ntmps58
    go_wp2_with (first
      | (go_at_call 101; refine (letter_s _ _).mono ?_; rintro e w2 ⟨rfl, rfl⟩; rw [HL.out])
      | (go_at_call 102; refine (digit_s _ _).mono ?_; rintro e w2 ⟨rfl, rfl⟩; rw [HD.out])
      | (go_at_call 105; refine (HMS.out _).mono ?_; rintro e w1 ⟨rfl, hb⟩; have HB := Lib.hid (bs HB0.out hb); have R1 := Lib.hid (carry hb R0.out); have T1 := Lib.hid (carry hb T0.out); obtain ⟨r, f⟩ := rowc R1.out; obtain ⟨rt, ft⟩ := rowc T1.out; clear hb))
    try go_wp2_with (fail)
    try go_wp2_with (fail)
    generalize hwF : (((World.setCell _ ⟨w.heap.size, 0, none⟩ _).setCell ⟨w.heap.size, 1, none⟩ _).setCell ⟨w.heap.size, 2, none⟩ _).setCell ⟨w.heap.size, 3, none⟩ _ = wF
    obtain ⟨rF, oF, bF⟩ := fill4 (setT R1.out (by omega)) hwF
    refine bodyPost_ret (v := .tuple #[.agg #[.int .i64 6, .int .i64 0, .string ⟨#[]⟩, .int .i64 (k : Int)], .int .i64 (k : Int), .int .i64 2]) ?_ rfl ?_
    · simp [results, Tryz.results58, go_sem, rF]
    · refine ⟨?_, bF _ _ (Nat.le_refl _) (Below.setCell HB.out (Nat.le_succ _) _)⟩
      exact ⟨6, 0, ⟨#[]⟩, rfl⟩
  · have hmr : markR (s.data.toList.drop k) = .good 6 0 (mark (s.data.toList.drop k)) (mark (s.data.toList.drop k)).length := by unfold markR; rw [if_neg hm0]
    have hme := isEmpty_no (t := m) (by rw [hms]; intro e; exact hm0 (List.eq_nil_of_length_eq_zero e))
    have HMR : Hid (∀ e, e = .returned (.tuple #[.agg #[.int .i64 6, .int .i64 0, .string m, .int .i64 (k : Int)], .int .i64 ((k : Int) + (m.size : Int)), .int .i64 0]) → TkE k (markR (s.data.toList.drop k)) e) := Lib.hid fun e he => by
      rw [hmr]
      show e = .returned (.tuple #[.agg #[.int .i64 6, .int .i64 0, .string (tx (mark (s.data.toList.drop k))), .int .i64 (k : Int)], .int .i64 ((k + (mark (s.data.toList.drop k)).length : Nat) : Int), .int .i64 0])
      rw [he, hm, ← hms]
      simp
    have hm3 : m.size ≤ 3 := by omega
    clear hm hms hml hm0 hmr
    go_enter Tryz.func58, Tryz.ntmps58
    go_wp2_with (first
      | (go_at_call 101; refine (letter_s _ _).mono ?_; rintro e w2 ⟨rfl, rfl⟩; rw [HL.out])
      | (go_at_call 102; refine (digit_s _ _).mono ?_; rintro e w2 ⟨rfl, rfl⟩; rw [HD.out])
      | (go_at_call 105; refine (HMS.out _).mono ?_; rintro e w1 ⟨rfl, hb⟩; have HB := Lib.hid (bs HB0.out hb); have R1 := Lib.hid (carry hb R0.out); have T1 := Lib.hid (carry hb T0.out); obtain ⟨r, f⟩ := rowc R1.out; obtain ⟨rt, ft⟩ := rowc T1.out; clear hb))
    have rd := rowc (w := (w1.setCell ⟨w.heap.size + 1, 2, none⟩ (.string m)).drew) (setT (w := w1) R1.out (by omega))
    have rs := rowc (w := w1.setCell ⟨w.heap.size + 1, 2, none⟩ (.string m)) (setT (w := w1) R1.out (by omega))
    obtain ⟨rd1, rd2⟩ := rd
    obtain ⟨rs1, rs2⟩ := rs
    go_region
    all_goals
      go_wp2_with (fail)
      generalize hwF : (((World.setCell _ ⟨w.heap.size, 0, none⟩ _).setCell ⟨w.heap.size, 1, none⟩ _).setCell ⟨w.heap.size, 2, none⟩ _).setCell ⟨w.heap.size, 3, none⟩ _ = wF
      obtain ⟨rF, oF, bF⟩ := fill4 (by first | exact setT R1.out (by omega) | exact setT (w := w1.drew) R1.out (by omega)) hwF
      refine bodyPost_ret (v := .tuple #[.agg #[.int .i64 6, .int .i64 0, .string m, .int .i64 (k : Int)], .int .i64 ((k : Int) + (m.size : Int)), .int .i64 0]) ?_ rfl ?_
      · simp [results, Tryz.results58, go_sem, rF]
      · have hbb : Below w.heap.size w wF := bF _ _ (Nat.le_refl _) (by first | exact Below.setCell HB.out (Nat.le_succ _) _ | exact Below.setCell HB.out.drew (Nat.le_succ _) _ | exact (Below.setCell HB.out (Nat.le_succ _) _).drew)
        exact ⟨HMR.out _ rfl, by first | exact hbb | exact hbb.drew⟩

end Go.Proofs.YtakdbfifbkngnaaGreatDoor.lex

