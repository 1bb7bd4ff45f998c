/-
  The model's reading of a token: an integer.
  Conditions: the text has at most 10^6 bytes.
-/
import Derived.Test.YtakdbfifbkngnaaGreatDoorLaSLmT0
import Derived.Test.YtakdbfifbkngnaaGreatDoorLaB1
namespace Go.Proofs.YtakdbfifbkngnaaGreatDoor.lex
open Go.ChangeShapes Go.WideShapes Go.ChangeAt Go.RowKit mem
set_option linter.unusedVariables false

set_option maxHeartbeats 8000000 in
set_option maxRecDepth 100000 in
theorem token_i (s : ByteArray) (hs : s.size ≤ 1000000) (k : Nat) (hk : k < s.size) (h36 : ¬ (s[k].toNat : Int) = 36) (HL : Hid (isLn s[k].toNat = false)) (HD : Hid (isDn s[k].toNat = true)) (w : World) : TkC s k w (intR (s.data.toList.drop k)) := by
  have hb0 : (0 : Int) ≤ (s[k].toNat : Int) := by omega
  have hb9 : (s[k].toNat : Int) ≤ 255 := by have := s[k].toNat_lt; omega
  have hk9 : (k : Int) ≤ 1000000 := by omega
  have R0 := tkR0 w k 0
  have T0 := tkT0 w k 0
  have HB0 := tkB0 w k 0
  have hbn : ((s[k].toNat : Int) == 36) = false := beq_eq_false_iff_ne.2 h36
  have hh := drop_at hk
  obtain ⟨n, HN⟩ : ∃ n, Hid ((lead.ld (s.data.toList.drop k)).length = n) := ⟨_, Lib.hid rfl⟩
  obtain ⟨x, HX⟩ : ∃ x, Hid ((dec.pr 0 1000000000000 (lead.ld (s.data.toList.drop k))).1 = x) := ⟨_, Lib.hid rfl⟩
  obtain ⟨b, HBb⟩ : ∃ b, Hid ((dec.pr 0 1000000000000 (lead.ld (s.data.toList.drop k))).2 = b) := ⟨_, Lib.hid rfl⟩
  have hx : -9223372036854775808 ≤ x ∧ x ≤ 1000000000000 := by
    cases hbb : b with
    | true => have := dec.pr_true (HBb.out.trans hbb); rw [HX.out] at this; omega
    | false => have := dec.pr_false (HBb.out.trans hbb); rw [HX.out] at this; omega
  obtain ⟨hx0, hx1⟩ := hx
  have HV : Hid (((b = false ∨ ¬ x ≤ 1000000000) → intR (s.data.toList.drop k) = .bad 4) ∧ ((b = true ∧ x ≤ 1000000000) → intR (s.data.toList.drop k) = .good 4 x [] n)) := Lib.hid (by
    have hl : lead.ld (s.data.toList.drop k) = s[k] :: lead.ld (s.data.toList.drop (k + 1)) := by rw [hh]; exact lead.ld_yes HD.out
    have h2 := pr_two (l := lead.ld (s.data.toList.drop (k + 1))) HD.out
    rw [← hl, HX.out, HBb.out] at h2
    unfold intR
    constructor
    · intro h
      have hn : ¬ (b = true ∧ x ≤ 1000000000) := by
        rintro ⟨h3, h4⟩
        rcases h with h | h
        · rw [h3] at h; cases h
        · exact h h4
      rw [h2.trans (if_neg hn)]
      rfl
    · intro h
      rw [h2.trans (if_pos h), HBb.out, if_pos h.1, HX.out, HN.out])
  obtain ⟨W0, HW0⟩ : ∃ W, Hid ((w.alloc (.cells #[.int .i64 0, .int .i64 0, .string ⟨#[]⟩, .int .i64 0] IT)).alloc (.cells #[.int .i64 0, .int .i64 0, .string ⟨#[]⟩, .int .i64 (k : Int)] IT) = W) := ⟨_, Lib.hid rfl⟩
  rw [HW0.out] at R0 T0 HB0
  clear hh
  unfold TkC
  go_enter Tryz.func58, Tryz.ntmps58
  go_wp2_with (first
    | (go_at_call 101; refine (letter_s _ _).mono ?_; rintro e w2 ⟨rfl, rfl⟩; rw [HL.out])
    | (go_at_call 102; refine (digit_s _ _).mono ?_; rintro e w2 ⟨rfl, rfl⟩; rw [HD.out]))
  try go_wp2_with (fail)
  rw [HW0.out]
  go_loopg [8] (s.size - k) (fun gk v wr => ∃ p : Nat, v = .int .i64 p ∧ gk + p = s.size ∧ k ≤ p ∧ p ≤ s.size ∧ Hid (k + n = p + (lead.ld (s.data.toList.drop p)).length) ∧ W0 = wr)
  case atStart => exact ⟨k, rfl, by omega, by omega, by omega, Lib.hid (by rw [HN.out]), rfl⟩
  case round =>
    obtain ⟨p, rfl, hgk, hkp, hps, HR, rfl⟩ := hrel
    by_cases hlt : p < s.size
    · have hp0 : (0 : Int) ≤ (s[p].toNat : Int) := by omega
      have hp9 : (s[p].toNat : Int) ≤ 255 := by have := s[p].toNat_lt; omega
      obtain ⟨d, HD2⟩ : ∃ d, Hid (isDn s[p].toNat = d) := ⟨_, Lib.hid rfl⟩
      have hdp := drop_at hlt
      cases d with
      | true =>
        have HR2 : Hid (k + n = p + 1 + (lead.ld (s.data.toList.drop (p + 1))).length) := Lib.hid (by
          have := HR.out
          rw [hdp, lead.ld_yes (show lead.dg s[p] = true from HD2.out)] at this
          simp only [List.length_cons] at this
          omega)
        clear hdp
        go_wp2_with (first
          | (go_at_call 102; refine (digit_s _ _).mono ?_; rintro e w2 ⟨rfl, rfl⟩; rw [HD2.out]))
        go_roundg (s.size - (p + 1))
        case rel => exact ⟨p + 1, by go_num, by omega, by omega, by omega, HR2, rfl⟩
        case measure => omega
      | false =>
        have HNO : Hid ((lead.ld (s.data.toList.drop p)).length = 0) := Lib.hid (by rw [hdp, lead.ld_no (show lead.dg s[p] = false from HD2.out)]; rfl)
        clear hdp
        have hep : p = k + n := by have h1 := HN.out; have h2 := HR.out; rw [HNO.out] at h2; omega
        have hD : (s.extract k p).data.toList = lead.ld (s.data.toList.drop k) := by rw [hep, ext_list, tx_list, ← HN.out, lead.ld_take]
        have PI := prs.specParse (s.extract k p) (by rw [ByteArray.size_extract]; omega)
        rw [hD] at PI
        unfold prs.two at PI
        rw [HX.out, HBb.out] at PI
        have HPI := Lib.hid PI
        have HEP := Lib.hid hep
        clear hD PI hep
        cases b with
        | false =>
          go_wp2_with (first
            | (go_at_call 102; refine (digit_s _ _).mono ?_; rintro e w2 ⟨rfl, rfl⟩; rw [HD2.out])
            | (go_at_call 103; refine (HPI.out _).mono ?_; rintro e w1 ⟨rfl, hb⟩; have HB := Lib.hid (bs HB0.out hb); have R1 := Lib.hid (carry hb R0.out); have T1 := Lib.hid (carry hb T0.out); obtain ⟨r, f⟩ := rowc R1.out; obtain ⟨rt, ft⟩ := rowc T1.out; clear hb))
          try go_wp2_with (fail)
          try go_wp2_with (fail)
          generalize hwF : (((World.setCell _ ⟨w.heap.size, 0, none⟩ _).setCell ⟨w.heap.size, 1, none⟩ _).setCell ⟨w.heap.size, 2, none⟩ _).setCell ⟨w.heap.size, 3, none⟩ _ = wF
          obtain ⟨rF, oF, bF⟩ := fill4 R1.out hwF
          refine bodyPost_ret (v := .tuple #[.agg #[.int .i64 0, .int .i64 0, .string ⟨#[]⟩, .int .i64 (k : Int)], .int .i64 (k : Int), .int .i64 4]) ?_ rfl ?_
          · simp [results, Tryz.results58, go_sem, rF]
          · refine ⟨?_, bF _ _ (Nat.le_refl _) HB.out⟩
            rw [HV.out.1 (.inl (by first | rfl | trivial))]
            exact ⟨0, 0, ⟨#[]⟩, rfl⟩
        | true =>
          by_cases h9 : x ≤ 1000000000
          · have h9n : ¬ (1000000000 : Int) < x := by omega
            go_wp2_with (first
              | (go_at_call 102; refine (digit_s _ _).mono ?_; rintro e w2 ⟨rfl, rfl⟩; rw [HD2.out])
              | (go_at_call 103; refine (HPI.out _).mono ?_; rintro e w1 ⟨rfl, hb⟩; have HB := Lib.hid (bs HB0.out hb); have R1 := Lib.hid (carry hb R0.out); have T1 := Lib.hid (carry hb T0.out); obtain ⟨r, f⟩ := rowc R1.out; obtain ⟨rt, ft⟩ := rowc T1.out; clear hb))
            try go_wp2_with (fail)
            try go_wp2_with (fail)
            generalize hwF : (((World.setCell _ ⟨w.heap.size, 0, none⟩ _).setCell ⟨w.heap.size, 1, none⟩ _).setCell ⟨w.heap.size, 2, none⟩ _).setCell ⟨w.heap.size, 3, none⟩ _ = wF
            obtain ⟨rF, oF, bF⟩ := fill4 (setT (setT R1.out (by omega)) (by omega)) hwF
            refine bodyPost_ret (v := .tuple #[.agg #[.int .i64 4, .int .i64 x, .string ⟨#[]⟩, .int .i64 (k : Int)], .int .i64 (p : Int), .int .i64 0]) ?_ rfl ?_
            · simp [results, Tryz.results58, go_sem, rF]
            · refine ⟨?_, bF _ _ (Nat.le_refl _) (Below.setCell (Below.setCell HB.out (Nat.le_succ _) _) (Nat.le_succ _) _)⟩
              rw [HV.out.2 ⟨by first | rfl | trivial, h9⟩]
              show _ = Ending.returned (.tuple #[.agg #[_, _, .string (tx []), _], .int .i64 ((k + n : Nat) : Int), _])
              rw [← HEP.out]
              rfl
          · have h9n : (1000000000 : Int) < x := by omega
            go_wp2_with (first
              | (go_at_call 102; refine (digit_s _ _).mono ?_; rintro e w2 ⟨rfl, rfl⟩; rw [HD2.out])
              | (go_at_call 103; refine (HPI.out _).mono ?_; rintro e w1 ⟨rfl, hb⟩; have HB := Lib.hid (bs HB0.out hb); have R1 := Lib.hid (carry hb R0.out); have T1 := Lib.hid (carry hb T0.out); obtain ⟨r, f⟩ := rowc R1.out; obtain ⟨rt, ft⟩ := rowc T1.out; clear hb))
            try go_wp2_with (fail)
            try go_wp2_with (fail)
            generalize hwF : (((World.setCell _ ⟨w.heap.size, 0, none⟩ _).setCell ⟨w.heap.size, 1, none⟩ _).setCell ⟨w.heap.size, 2, none⟩ _).setCell ⟨w.heap.size, 3, none⟩ _ = wF
            obtain ⟨rF, oF, bF⟩ := fill4 R1.out hwF
            refine bodyPost_ret (v := .tuple #[.agg #[.int .i64 0, .int .i64 0, .string ⟨#[]⟩, .int .i64 (k : Int)], .int .i64 (k : Int), .int .i64 4]) ?_ rfl ?_
            · simp [results, Tryz.results58, go_sem, rF]
            · refine ⟨?_, bF _ _ (Nat.le_refl _) HB.out⟩
              rw [HV.out.1 (.inr h9)]
              exact ⟨0, 0, ⟨#[]⟩, rfl⟩
    · have HNE : Hid ((lead.ld (s.data.toList.drop p)).length = 0) := Lib.hid (by rw [lead.drop_end (by omega)]; rfl)
      have hep : p = k + n := by have h1 := HN.out; have h2 := HR.out; rw [HNE.out] at h2; omega
      have hD : (s.extract k p).data.toList = lead.ld (s.data.toList.drop k) := by rw [hep, ext_list, tx_list, ← HN.out, lead.ld_take]
      have PI := prs.specParse (s.extract k p) (by rw [ByteArray.size_extract]; omega)
      rw [hD] at PI
      unfold prs.two at PI
      rw [HX.out, HBb.out] at PI
      have HPI := Lib.hid PI
      have HEP := Lib.hid hep
      clear hD PI hep
      cases b with
      | false =>
        go_wp2_with (first
          | (go_at_call 103; refine (HPI.out _).mono ?_; rintro e w1 ⟨rfl, hb⟩; have HB := Lib.hid (bs HB0.out hb); have R1 := Lib.hid (carry hb R0.out); have T1 := Lib.hid (carry hb T0.out); obtain ⟨r, f⟩ := rowc R1.out; obtain ⟨rt, ft⟩ := rowc T1.out; clear hb))
        try go_wp2_with (fail)
        try go_wp2_with (fail)
        generalize hwF : (((World.setCell _ ⟨w.heap.size, 0, none⟩ _).setCell ⟨w.heap.size, 1, none⟩ _).setCell ⟨w.heap.size, 2, none⟩ _).setCell ⟨w.heap.size, 3, none⟩ _ = wF
        obtain ⟨rF, oF, bF⟩ := fill4 R1.out hwF
        refine bodyPost_ret (v := .tuple #[.agg #[.int .i64 0, .int .i64 0, .string ⟨#[]⟩, .int .i64 (k : Int)], .int .i64 (k : Int), .int .i64 4]) ?_ rfl ?_
        · simp [results, Tryz.results58, go_sem, rF]
        · refine ⟨?_, bF _ _ (Nat.le_refl _) HB.out⟩
          rw [HV.out.1 (.inl (by first | rfl | trivial))]
          exact ⟨0, 0, ⟨#[]⟩, rfl⟩
      | true =>
        by_cases h9 : x ≤ 1000000000
        · have h9n : ¬ (1000000000 : Int) < x := by omega
          go_wp2_with (first
            | (go_at_call 103; refine (HPI.out _).mono ?_; rintro e w1 ⟨rfl, hb⟩; have HB := Lib.hid (bs HB0.out hb); have R1 := Lib.hid (carry hb R0.out); have T1 := Lib.hid (carry hb T0.out); obtain ⟨r, f⟩ := rowc R1.out; obtain ⟨rt, ft⟩ := rowc T1.out; clear hb))
          try go_wp2_with (fail)
          try go_wp2_with (fail)
          generalize hwF : (((World.setCell _ ⟨w.heap.size, 0, none⟩ _).setCell ⟨w.heap.size, 1, none⟩ _).setCell ⟨w.heap.size, 2, none⟩ _).setCell ⟨w.heap.size, 3, none⟩ _ = wF
          obtain ⟨rF, oF, bF⟩ := fill4 (setT (setT R1.out (by omega)) (by omega)) hwF
          refine bodyPost_ret (v := .tuple #[.agg #[.int .i64 4, .int .i64 x, .string ⟨#[]⟩, .int .i64 (k : Int)], .int .i64 (p : Int), .int .i64 0]) ?_ rfl ?_
          · simp [results, Tryz.results58, go_sem, rF]
          · refine ⟨?_, bF _ _ (Nat.le_refl _) (Below.setCell (Below.setCell HB.out (Nat.le_succ _) _) (Nat.le_succ _) _)⟩
            rw [HV.out.2 ⟨by first | rfl | trivial, h9⟩]
            show _ = Ending.returned (.tuple #[.agg #[_, _, .string (tx []), _], .int .i64 ((k + n : Nat) : Int), _])
            rw [← HEP.out]
            rfl
        · have h9n : (1000000000 : Int) < x := by omega
          go_wp2_with (first
            | (go_at_call 103; refine (HPI.out _).mono ?_; rintro e w1 ⟨rfl, hb⟩; have HB := Lib.hid (bs HB0.out hb); have R1 := Lib.hid (carry hb R0.out); have T1 := Lib.hid (carry hb T0.out); obtain ⟨r, f⟩ := rowc R1.out; obtain ⟨rt, ft⟩ := rowc T1.out; clear hb))
          try go_wp2_with (fail)
          try go_wp2_with (fail)
          generalize hwF : (((World.setCell _ ⟨w.heap.size, 0, none⟩ _).setCell ⟨w.heap.size, 1, none⟩ _).setCell ⟨w.heap.size, 2, none⟩ _).setCell ⟨w.heap.size, 3, none⟩ _ = wF
          obtain ⟨rF, oF, bF⟩ := fill4 R1.out hwF
          refine bodyPost_ret (v := .tuple #[.agg #[.int .i64 0, .int .i64 0, .string ⟨#[]⟩, .int .i64 (k : Int)], .int .i64 (k : Int), .int .i64 4]) ?_ rfl ?_
          · simp [results, Tryz.results58, go_sem, rF]
          · refine ⟨?_, bF _ _ (Nat.le_refl _) HB.out⟩
            rw [HV.out.1 (.inr h9)]
            exact ⟨0, 0, ⟨#[]⟩, rfl⟩

end Go.Proofs.YtakdbfifbkngnaaGreatDoor.lex

