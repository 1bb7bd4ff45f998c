/-
  The project's reading of a token: readToken.
  Conditions: the text is not empty and has at most 2^40 bytes; the variables that are listed hold what the program's text lays.
-/
import Derived.Test.YtakdbfifbkngnaaGreatDoorLaB1
import Derived.Test.YtakdbfifbkngnaaGreatDoorLaSLxB
import Derived.Test.YtakdbfifbkngnaaGreatDoorLaSLxM
namespace Go.Proofs.YtakdbfifbkngnaaGreatDoor.lex
open Go.ChangeShapes Go.WideShapes Go.ChangeAt Go.RowKit
set_option linter.unusedVariables false

/-- What the listed variables hold, but for the one whose number is open. -/
structure Vars (w : World) : Prop where
  tabs : Tabs w
  env : prs.Env w
  mtab : MTab w
theorem Vars.stays {w w' : World} (h : Vars w) (hb : Below w.heap.size w w') : Vars w' := ⟨h.tabs.stays hb, h.env.stays hb, h.mtab.stays hb⟩

theorem RdE_form (r : TR) : ∃ (k n z c : Int) (t : ByteArray), RdE r = .returned (.tuple #[.agg #[.int .i64 k, .int .i64 n, .string t, .int .i64 0], .int .i64 z, .int .i64 c]) := by
  cases r with
  | bad c => exact ⟨0, 0, 0, c, ⟨#[]⟩, rfl⟩
  | good k n t z => exact ⟨k, n, z, 0, tx t, rfl⟩
theorem head_list {s : ByteArray} (h : 0 < s.size) : s.data.toList = s[0] :: s.data.toList.drop 1 := by
  have := drop_at (s := s) (k := 0) h
  rwa [List.drop_zero] at this
/-- The first character tells what the first byte tells. -/
theorem dec_head {s : ByteArray} (h : 0 < s.size) : (∀ p : Nat → Bool, (∀ n, 128 ≤ n → p n = false) → p (Lib.decodeGo s).1 = p s[0].toNat) := fun p hp => by
  unfold Lib.decodeGo
  rw [if_neg (by omega)]
  exact rune_is hp s 0 h
theorem dec_eq {s : ByteArray} (h : 0 < s.size) (c : Nat) (hc : c < 128) : (((Lib.decodeGo s).1 : Int) == (c : Int)) = (s[0].toNat == c) := by
  have := dec_head h (fun n => n == c) (fun n hn => beq_eq_false_iff_ne.2 (by omega))
  rw [← this]
  rw [Bool.eq_iff_iff, beq_iff_eq, beq_iff_eq]
  omega

set_option maxHeartbeats 2000000 in
set_option maxRecDepth 100000 in
theorem readToken (s : ByteArray) (hs : s.size ≤ 1099511627776) (h0 : 0 < s.size) (w : World) (hV : Vars w) : Calls Tryz.prog 69 #[.string s] w (RdQ w (tokR s.data.toList)) := by
  obtain ⟨R, HR⟩ : ∃ R, Hid ((Lib.decodeGo s).1 = R) := ⟨_, Lib.hid rfl⟩
  obtain ⟨K, HK⟩ : ∃ K, Hid ((Lib.decodeGo s).2 = K) := ⟨_, Lib.hid rfl⟩
  have CD := Tryz.utf8_DecodeRuneInString s
  have hR : R ≤ 1114111 := by rw [← HR.out]; exact rune_max s
  have hL := isLetter R hR
  have hD := isDigit' R hR
  have eL := dec_head h0 isLn (fun n => isLn_hi)
  have eD := dec_head h0 isDn (fun n => isDn_hi)
  have e36 := dec_eq h0 36 (by omega)
  have e39 := dec_eq h0 39 (by omega)
  rw [HR.out] at eL eD e36 e39
  rw [HR.out, HK.out] at CD
  rw [eL] at hL
  rw [eD] at hD
  have hh := head_list h0
  have htok : tokR s.data.toList = if s[0] = 36 then varR (s.data.toList.drop 1) else if isLn s[0].toNat then .good 3 0 (s.data.toList.take (nameLen s.data.toList)) (nameLen s.data.toList)
      else if isDn s[0].toNat then intR s.data.toList else if s[0] = 39 then strR (s.data.toList.drop 1) else markR s.data.toList := by
    rw [hh]
    rfl
  rw [htok]
  clear htok eL eD hh HR HK
  have b36 : (s[0].toNat == 36) = decide (s[0] = 36) := by
    rw [Bool.eq_iff_iff, beq_iff_eq, decide_eq_true_iff]
    exact ⟨fun h => UInt8.toNat_inj.1 h, fun h => by rw [h]; rfl⟩
  have b39 : (s[0].toNat == 39) = decide (s[0] = 39) := by
    rw [Bool.eq_iff_iff, beq_iff_eq, decide_eq_true_iff]
    exact ⟨fun h => UInt8.toNat_inj.1 h, fun h => by rw [h]; rfl⟩
  rw [b36] at e36
  rw [b39] at e39
  have HVV := Lib.hid hV
  have A0 := new4 w
  have hbA := Lib.hid (b1 w (.cells #[.int .i64 0, .int .i64 0, .string ⟨#[]⟩, .int .i64 0] IT))
  have NB : Hid (Tabs (w.alloc (.cells #[.int .i64 0, .int .i64 0, .string ⟨#[]⟩, .int .i64 0] IT))) := Lib.hid (hV.tabs.stays (b1 _ _))
  have HCD := Lib.hid CD
  clear b36 b39 CD hV
  by_cases h36 : s[0] = 36
  · rw [decide_eq_true h36] at e36
    rw [if_pos h36]
    clear h36
    obtain ⟨k, n, z, c, t, hform⟩ := RdE_form (varR (s.data.toList.drop 1))
    have HX := Lib.hid hform
    clear hform
    go_enter Tryz.func69, Tryz.ntmps69
    go_wp2_with (fail)
    refine (HCD.out _ NB.out).mono ?_
    rintro e w1 ⟨rfl, hb⟩
    have HB := Lib.hid (bs hbA.out hb)
    have A1 := Lib.hid (carry hb A0.out)
    have HV1 := Lib.hid (HVV.out.stays HB.out)
    clear hb
    go_wp2_with (first
      | (go_at_call 110; refine (readVariable s hs h0 _ HV1.out.tabs).mono ?_; rintro e w3 ⟨he, hb⟩; obtain rfl : e = .returned (.tuple #[.agg #[.int .i64 k, .int .i64 n, .string t, .int .i64 0], .int .i64 z, .int .i64 c]) := he.trans HX.out; have HB2 := Lib.hid (bs HB.out hb); have A2 := Lib.hid (carry hb A1.out); obtain ⟨r, f⟩ := rowc A2.out; clear hb he))
    generalize hwF : (((w3.setCell ⟨w.heap.size, 0, none⟩ _).setCell ⟨w.heap.size, 1, none⟩ _).setCell ⟨w.heap.size, 2, none⟩ _).setCell ⟨w.heap.size, 3, none⟩ _ = wF
    obtain ⟨rF, oF, bF⟩ := fill4 A2.out hwF
    refine bodyPost_ret (v := .tuple #[.agg #[.int .i64 k, .int .i64 n, .string t, .int .i64 0], .int .i64 z, .int .i64 c]) ?_ rfl ?_
    · simp [results, Tryz.results69, go_sem, rF]
    · exact ⟨HX.out.symm, bF _ _ (Nat.le_refl _) HB2.out⟩
  rw [decide_eq_false h36] at e36
  rw [if_neg h36]
  clear h36
  cases hl : isLn s[0].toNat with
  | true =>
    rw [hl] at hL
    have HL := Lib.hid hL
    rw [if_pos rfl]
    have hz := nameT_size s
    have ht : nameT s = tx (s.data.toList.take (nameLen s.data.toList)) := rfl
    obtain ⟨N, HNm⟩ : ∃ N, Hid (nameT s = N) := ⟨_, Lib.hid rfl⟩
    have LN := leadingName s hs
    rw [HNm.out] at LN hz ht
    have HLN := Lib.hid LN
    have HX : Hid (RdE (.good 3 0 (s.data.toList.take (nameLen s.data.toList)) (nameLen s.data.toList)) = .returned (.tuple #[.agg #[.int .i64 3, .int .i64 0, .string N, .int .i64 0], .int .i64 (N.size : Int), .int .i64 0])) := Lib.hid (by
      rw [hz, ht]
      rfl)
    clear LN hl hz ht
    go_enter Tryz.func69, Tryz.ntmps69
    go_wp2_with (fail)
    refine (HCD.out _ NB.out).mono ?_
    rintro e w1 ⟨rfl, hb⟩
    have HB := Lib.hid (bs hbA.out hb)
    have A1 := Lib.hid (carry hb A0.out)
    have HV1 := Lib.hid (HVV.out.stays HB.out)
    clear hb
    go_wp2_with (first
      | (go_at_call 111; refine (HL.out _).mono ?_; rintro e w2 ⟨rfl, rfl⟩)
      | (go_at_call 112; refine (HLN.out _ HV1.out.tabs).mono ?_; rintro e w3 ⟨he, hb⟩; subst he; have HB2 := Lib.hid (bs HB.out hb); have A2 := Lib.hid (carry hb A1.out); obtain ⟨r, f⟩ := rowc A2.out; clear hb))
    generalize hwF : (((w3.setCell ⟨w.heap.size, 0, none⟩ _).setCell ⟨w.heap.size, 1, none⟩ _).setCell ⟨w.heap.size, 2, none⟩ _).setCell ⟨w.heap.size, 3, none⟩ _ = wF
    obtain ⟨rF, oF, bF⟩ := fill4 A2.out hwF
    refine bodyPost_ret (v := .tuple #[.agg #[.int .i64 3, .int .i64 0, .string N, .int .i64 0], .int .i64 (N.size : Int), .int .i64 0]) ?_ rfl ?_
    · simp [results, Tryz.results69, go_sem, rF]
    · exact ⟨HX.out.symm, bF _ _ (Nat.le_refl _) HB2.out⟩
  | false =>
    rw [hl] at hL
    have HL := Lib.hid hL
    rw [if_neg (by simp)]
    clear hl
    cases hd : isDn s[0].toNat with
    | true =>
      rw [hd] at hD
      have HD := Lib.hid hD
      rw [if_pos rfl]
      clear hd
      obtain ⟨k, n, z, c, t, hform⟩ := RdE_form (intR s.data.toList)
      have HX := Lib.hid hform
      clear hform
      go_enter Tryz.func69, Tryz.ntmps69
      go_wp2_with (fail)
      refine (HCD.out _ NB.out).mono ?_
      rintro e w1 ⟨rfl, hb⟩
      have HB := Lib.hid (bs hbA.out hb)
      have A1 := Lib.hid (carry hb A0.out)
      have HV1 := Lib.hid (HVV.out.stays HB.out)
      clear hb
      go_wp2_with (first
        | (go_at_call 111; refine (HL.out _).mono ?_; rintro e w2 ⟨rfl, rfl⟩)
        | (go_at_call 113; refine (HD.out _).mono ?_; rintro e w2 ⟨rfl, rfl⟩)
        | (go_at_call 114; refine (readInteger s hs _ HV1.out.env).mono ?_; rintro e w3 ⟨he, hb⟩; obtain rfl : e = .returned (.tuple #[.agg #[.int .i64 k, .int .i64 n, .string t, .int .i64 0], .int .i64 z, .int .i64 c]) := he.trans HX.out; have HB2 := Lib.hid (bs HB.out hb); have A2 := Lib.hid (carry hb A1.out); obtain ⟨r, f⟩ := rowc A2.out; clear hb he))
      generalize hwF : (((w3.setCell ⟨w.heap.size, 0, none⟩ _).setCell ⟨w.heap.size, 1, none⟩ _).setCell ⟨w.heap.size, 2, none⟩ _).setCell ⟨w.heap.size, 3, none⟩ _ = wF
      obtain ⟨rF, oF, bF⟩ := fill4 A2.out hwF
      refine bodyPost_ret (v := .tuple #[.agg #[.int .i64 k, .int .i64 n, .string t, .int .i64 0], .int .i64 z, .int .i64 c]) ?_ rfl ?_
      · simp [results, Tryz.results69, go_sem, rF]
      · exact ⟨HX.out.symm, bF _ _ (Nat.le_refl _) HB2.out⟩
    | false =>
      rw [hd] at hD
      have HD := Lib.hid hD
      rw [if_neg (by simp)]
      clear hd
      by_cases h39 : s[0] = 39
      · rw [decide_eq_true h39] at e39
        rw [if_pos h39]
        clear h39
        obtain ⟨k, n, z, c, t, hform⟩ := RdE_form (strR (s.data.toList.drop 1))
        have HX := Lib.hid hform
        clear hform
        go_enter Tryz.func69, Tryz.ntmps69
        go_wp2_with (fail)
        refine (HCD.out _ NB.out).mono ?_
        rintro e w1 ⟨rfl, hb⟩
        have HB := Lib.hid (bs hbA.out hb)
        have A1 := Lib.hid (carry hb A0.out)
        have HV1 := Lib.hid (HVV.out.stays HB.out)
        clear hb
        go_wp2_with (first
          | (go_at_call 111; refine (HL.out _).mono ?_; rintro e w2 ⟨rfl, rfl⟩)
          | (go_at_call 113; refine (HD.out _).mono ?_; rintro e w2 ⟨rfl, rfl⟩)
          | (go_at_call 115; refine (readString s hs _).mono ?_; rintro e w3 ⟨he, hb⟩; obtain rfl : e = .returned (.tuple #[.agg #[.int .i64 k, .int .i64 n, .string t, .int .i64 0], .int .i64 z, .int .i64 c]) := he.trans HX.out; have HB2 := Lib.hid (bs HB.out hb); have A2 := Lib.hid (carry hb A1.out); obtain ⟨r, f⟩ := rowc A2.out; clear hb he))
        generalize hwF : (((w3.setCell ⟨w.heap.size, 0, none⟩ _).setCell ⟨w.heap.size, 1, none⟩ _).setCell ⟨w.heap.size, 2, none⟩ _).setCell ⟨w.heap.size, 3, none⟩ _ = wF
        obtain ⟨rF, oF, bF⟩ := fill4 A2.out hwF
        refine bodyPost_ret (v := .tuple #[.agg #[.int .i64 k, .int .i64 n, .string t, .int .i64 0], .int .i64 z, .int .i64 c]) ?_ rfl ?_
        · simp [results, Tryz.results69, go_sem, rF]
        · exact ⟨HX.out.symm, bF _ _ (Nat.le_refl _) HB2.out⟩
      · rw [decide_eq_false h39] at e39
        rw [if_neg h39]
        clear h39
        obtain ⟨k, n, z, c, t, hform⟩ := RdE_form (markR s.data.toList)
        have HX := Lib.hid hform
        clear hform
        go_enter Tryz.func69, Tryz.ntmps69
        go_wp2_with (fail)
        refine (HCD.out _ NB.out).mono ?_
        rintro e w1 ⟨rfl, hb⟩
        have HB := Lib.hid (bs hbA.out hb)
        have A1 := Lib.hid (carry hb A0.out)
        have HV1 := Lib.hid (HVV.out.stays HB.out)
        clear hb
        go_wp2_with (first
          | (go_at_call 111; refine (HL.out _).mono ?_; rintro e w2 ⟨rfl, rfl⟩)
          | (go_at_call 113; refine (HD.out _).mono ?_; rintro e w2 ⟨rfl, rfl⟩)
          | (go_at_call 116; refine (readMark s _ HV1.out.mtab).mono ?_; rintro e w3 ⟨he, hb⟩; obtain rfl : e = .returned (.tuple #[.agg #[.int .i64 k, .int .i64 n, .string t, .int .i64 0], .int .i64 z, .int .i64 c]) := he.trans HX.out; have HB2 := Lib.hid (bs HB.out hb); have A2 := Lib.hid (carry hb A1.out); obtain ⟨r, f⟩ := rowc A2.out; clear hb he))
        generalize hwF : (((w3.setCell ⟨w.heap.size, 0, none⟩ _).setCell ⟨w.heap.size, 1, none⟩ _).setCell ⟨w.heap.size, 2, none⟩ _).setCell ⟨w.heap.size, 3, none⟩ _ = wF
        obtain ⟨rF, oF, bF⟩ := fill4 A2.out hwF
        refine bodyPost_ret (v := .tuple #[.agg #[.int .i64 k, .int .i64 n, .string t, .int .i64 0], .int .i64 z, .int .i64 c]) ?_ rfl ?_
        · simp [results, Tryz.results69, go_sem, rF]
        · exact ⟨HX.out.symm, bF _ _ (Nat.le_refl _) HB2.out⟩

end Go.Proofs.YtakdbfifbkngnaaGreatDoor.lex

