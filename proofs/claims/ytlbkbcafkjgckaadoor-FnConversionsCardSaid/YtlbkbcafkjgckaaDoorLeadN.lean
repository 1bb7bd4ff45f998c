/-
  LeadingInt of the model, IsNumeric of both sides.
  Conditions: the text has at most 2^40 bytes.
-/
import Derived.Test.YtlbkbcafkjgckaaDoorLeadS
namespace Go.Proofs.YtlbkbcafkjgckaaDoor.lead
open Go.ChangeShapes Go.WideShapes Go.ChangeAt Go.RowKit
set_option linter.unusedVariables false

theorem leadingInt_s (s : ByteArray) (hs : s.size ≤ 1099511627776) (w : World) : Calls Tryd.prog 92 #[.string s] w fun e w' => e = .returned (.int .i64 (li s)) ∧ Below w.heap.size w w' := by
  have SC := l8Scan s hs
  have hb := scn_le s
  have hl := li_scn s
  have ht := scn_take s
  unfold ScQ at SC
  obtain ⟨⟨n, k⟩, HX⟩ : ∃ x, Hid (scn s = x) := ⟨_, Lib.hid rfl⟩
  rw [HX.out] at SC hb hl ht
  obtain ⟨hb0, hb1⟩ := hb
  simp only at SC hb0 hb1 ht
  have HSC := Lib.hid SC
  have HL := Lib.hid hl
  have HT : Hid (k ≤ s.size) := Lib.hid ht
  rw [HL.out]
  clear SC hl HX HL ht
  go_enter Tryd.func92, Tryd.ntmps92
  go_wp2_with (fail)
  refine (HSC.out _).mono ?_
  rintro e w1 ⟨rfl, hB1⟩
  have HB1 := Lib.hid hB1
  clear hB1
  go_wp2_with (fail)
  refine (sMin _ _ _).mono ?_
  rintro e w2 ⟨rfl, rfl⟩
  go_wp2_with (fail)
  refine (sMax _ _ _).mono ?_
  rintro e w3 ⟨rfl, rfl⟩
  have hm : nums.mx (-1000000000) (nums.mn 1000000000 n) = max (-1000000000) (min 1000000000 n) := by unfold nums.mx nums.mn; split <;> split <;> omega
  rw [hm]
  clear hm
  go_wp2_with (fail)
  go_ret
  exact ⟨rfl, HB1.out⟩

theorem bytes_ne {a b : ByteArray} (h : a ≠ b) : (a.toList == b.toList) = false := by
  rw [beq_eq_false_iff_ne]
  intro hh
  exact h (by rw [ByteArray.toList_eq, ByteArray.toList_eq] at hh; exact Go.WideShapes.bytes_inj hh)

set_option maxHeartbeats 1000000 in
theorem isNumeric_i (s : ByteArray) (hs : s.size ≤ 1099511627776) (w : World) : Calls Tryd.prog 40 #[.string s] w fun e w' => e = .returned (.bool (isn s)) ∧ Below w.heap.size w w' := by
  have HC : Hid ((⟨(Lib.trimPrefix s.data.toList [45]).toArray⟩ : ByteArray) = beh s) := Lib.hid (by rw [(cut_eq s).2]; rfl)
  have hbs : (beh s).size ≤ 1099511627776 := by rw [beh_size]; omega
  have LD := leadingDigits (beh s) hbs
  rw [beh_list] at LD
  have LD' : ∀ w, Calls Tryd.prog 80 #[.string (beh s)] w fun e w' => e = .returned (.string (tx (digs s))) ∧ Below w.heap.size w w' := LD
  have hI : isn s = (decide (1 ≤ (beh s).size) && decide ((beh s).size ≤ 10) && decide ((digs s).length = (beh s).size) && decide (mag s ≤ 1000000000)) := by unfold isn; rw [beh_size]
  have hE : tx (digs s) = beh s → (digs s).length = (beh s).size := fun h => by rw [← h, tx_size]
  have hN : tx (digs s) ≠ beh s → ¬ (digs s).length = (beh s).size := fun h hl => h (by
    unfold beh
    congr 1
    unfold digs at hl ⊢
    exact ld_full (by rw [hl, beh_size, List.length_drop, size_eq]))
  have MG : tx (digs s) = beh s → ∀ w, Calls Tryd.prog 79 #[.string (beh s)] w fun e w' => e = .returned (.int .i64 (mag s : Int)) ∧ Below w.heap.size w w' := fun h w => by
    have := magnitude (beh s) hbs (by rw [← h, tx_list]; exact ld_dig _) w
    have e : mg 0 (beh s).data.toList = mag s := by rw [← h, tx_list]; rfl
    rw [e] at this
    exact this
  obtain ⟨m, HM⟩ : ∃ m, Hid (mag s = m) := ⟨_, Lib.hid rfl⟩
  obtain ⟨B, HB⟩ : ∃ B, Hid (beh s = B) := ⟨_, Lib.hid rfl⟩
  obtain ⟨D, HD⟩ : ∃ D, Hid (tx (digs s) = D) := ⟨_, Lib.hid rfl⟩
  obtain ⟨d, HDL⟩ : ∃ d, Hid ((digs s).length = d) := ⟨_, Lib.hid rfl⟩
  rw [HB.out] at HC hbs LD' hI hE hN MG
  rw [HD.out] at LD' hE hN MG
  rw [HDL.out] at hI hE hN
  rw [HM.out] at hI MG
  have HLD := Lib.hid LD'
  rw [hI]
  clear LD LD' hI HM HB HD HDL
  by_cases c1 : 1 ≤ B.size ∧ B.size ≤ 10
  · have HIN : Hid (nums.inr (B.size : Int) 1 10 = true) := Lib.hid (by unfold nums.inr; simp; omega)
    by_cases c2 : D = B
    · subst c2
      have HMG := Lib.hid (MG rfl)
      have c3 := hE rfl
      have c4 : (D.toList == D.toList) = true := by simp
      by_cases c5 : m ≤ 1000000000
      · have c6 : (m : Int) ≤ 1000000000 := by omega
        have hv : (decide (1 ≤ D.size) && decide (D.size ≤ 10) && decide (d = D.size) && decide (m ≤ 1000000000)) = true := by simp [c1.1, c1.2, c3, c5]
        rw [hv]
        clear hv c1 hE hN MG c3 c5
        go_enter Tryd.func40, Tryd.ntmps40
        go_wp2_with (fail)
        refine (Tryd.strings_TrimPrefix s ⟨#[45]⟩ _).mono ?_
        rintro e w1 ⟨he, rfl⟩
        obtain rfl : e = .returned (.string D) := he.trans (by rw [← HC.out])
        go_wp2_with (fail)
        refine (nums.implInRange _ _ _ _).mono ?_
        rintro e w2 ⟨rfl, rfl⟩
        rw [HIN.out]
        go_wp2_with (fail)
        refine (HLD.out _).mono ?_
        rintro e w3 ⟨rfl, hb3⟩
        have HB3 := Lib.hid hb3
        clear hb3
        go_wp2_with (fail)
        refine (HMG.out _).mono ?_
        rintro e w4 ⟨rfl, hb4⟩
        have HB4 := Lib.hid (bss HB3.out hb4)
        clear hb4
        go_wp2_with (fail)
        go_ret
        exact ⟨rfl, HB4.out⟩
      · have c6 : ¬ (m : Int) ≤ 1000000000 := by omega
        have HD6 : Hid (decide ((m : Int) ≤ 1000000000) = false) := Lib.hid (decide_eq_false c6)
        have hv : (decide (1 ≤ D.size) && decide (D.size ≤ 10) && decide (d = D.size) && decide (m ≤ 1000000000)) = false := by simp [c5]
        rw [hv]
        clear hv c1 hE hN MG c3 c5
        go_enter Tryd.func40, Tryd.ntmps40
        go_wp2_with (fail)
        refine (Tryd.strings_TrimPrefix s ⟨#[45]⟩ _).mono ?_
        rintro e w1 ⟨he, rfl⟩
        obtain rfl : e = .returned (.string D) := he.trans (by rw [← HC.out])
        go_wp2_with (fail)
        refine (nums.implInRange _ _ _ _).mono ?_
        rintro e w2 ⟨rfl, rfl⟩
        rw [HIN.out]
        go_wp2_with (fail)
        refine (HLD.out _).mono ?_
        rintro e w3 ⟨rfl, hb3⟩
        have HB3 := Lib.hid hb3
        clear hb3
        go_wp2_with (fail)
        refine (HMG.out _).mono ?_
        rintro e w4 ⟨rfl, hb4⟩
        have HB4 := Lib.hid (bss HB3.out hb4)
        clear hb4
        go_wp2_with (fail)
        go_ret
        exact ⟨by first | rfl | (show Ending.returned (.bool (decide _)) = _; rw [HD6.out]), HB4.out⟩
    · have c4 := bytes_ne c2
      have hv : (decide (1 ≤ B.size) && decide (B.size ≤ 10) && decide (d = B.size) && decide (m ≤ 1000000000)) = false := by simp [hN c2]
      rw [hv]
      clear hv c1 hE hN MG c2
      go_enter Tryd.func40, Tryd.ntmps40
      go_wp2_with (fail)
      refine (Tryd.strings_TrimPrefix s ⟨#[45]⟩ _).mono ?_
      rintro e w1 ⟨he, rfl⟩
      obtain rfl : e = .returned (.string B) := he.trans (by rw [← HC.out])
      go_wp2_with (fail)
      refine (nums.implInRange _ _ _ _).mono ?_
      rintro e w2 ⟨rfl, rfl⟩
      rw [HIN.out]
      go_wp2_with (fail)
      refine (HLD.out _).mono ?_
      rintro e w3 ⟨rfl, hb3⟩
      have HB3 := Lib.hid hb3
      clear hb3
      go_wp2_with (fail)
      go_ret
      exact ⟨rfl, HB3.out⟩
  · have HIN : Hid (nums.inr (B.size : Int) 1 10 = false) := Lib.hid (by unfold nums.inr; simp; omega)
    have hv : (decide (1 ≤ B.size) && decide (B.size ≤ 10) && decide (d = B.size) && decide (m ≤ 1000000000)) = false := by
      by_cases a : 1 ≤ B.size
      · have : ¬ B.size ≤ 10 := fun h => c1 ⟨a, h⟩
        simp [this]
      · simp [a]
    rw [hv]
    clear hv c1 hE hN MG
    go_enter Tryd.func40, Tryd.ntmps40
    go_wp2_with (fail)
    refine (Tryd.strings_TrimPrefix s ⟨#[45]⟩ _).mono ?_
    rintro e w1 ⟨he, rfl⟩
    obtain rfl : e = .returned (.string B) := he.trans (by rw [← HC.out])
    go_wp2_with (fail)
    refine (nums.implInRange _ _ _ _).mono ?_
    rintro e w2 ⟨rfl, rfl⟩
    rw [HIN.out]
    go_wp2_with (fail)
    go_ret
    exact ⟨rfl, Below.refl _ _⟩

set_option maxHeartbeats 1000000 in
theorem isNumeric_s (s : ByteArray) (hs : s.size ≤ 1099511627776) (w : World) : Calls Tryd.prog 91 #[.string s] w fun e w' => e = .returned (.bool (isn s)) ∧ Below w.heap.size w w' := by
  have SC := l8Scan s hs
  have hb := scn_le s
  have hl := isn_scn s
  have ht := scn_take s
  unfold ScQ at SC
  obtain ⟨⟨n, k⟩, HX⟩ : ∃ x, Hid (scn s = x) := ⟨_, Lib.hid rfl⟩
  rw [HX.out] at SC hb hl ht
  obtain ⟨hb0, hb1⟩ := hb
  simp only at SC hb0 hb1 ht hl
  have HSC := Lib.hid SC
  rw [hl]
  clear SC hl HX
  by_cases c1 : 0 < k
  · have c1' : (0 : Int) < (k : Int) := by omega
    have d1 : decide ((0 : Int) < (k : Int)) = true := decide_eq_true c1'
    rw [d1]
    clear d1
    by_cases c2 : k = s.size
    · have d2 : decide (k = s.size) = true := decide_eq_true c2
      rw [d2]
      have h0 : 0 < s.size := by omega
      rw [neg_at h0]
      have HK : Hid (k = s.size) := Lib.hid c2
      subst c2
      clear d2 c1 c1'
      by_cases c3 : -1000000000 ≤ n ∧ n ≤ 1000000000
      · have HIN : Hid (nums.inr n (-1000000000) 1000000000 = true) := Lib.hid (by unfold nums.inr; simp; omega)
        have d3 : (decide ((-1000000000 : Int) ≤ n) && decide (n ≤ (1000000000 : Int))) = true := by simp [c3.1, c3.2]
        rw [d3]
        clear d3 c3
        by_cases c4 : s.size ≤ 10
        · have d4 : decide (s.size ≤ 10) = true := decide_eq_true c4
          have c4' : (s.size : Int) ≤ 10 := by omega
          rw [d4]
          clear d4
          go_enter Tryd.func91, Tryd.ntmps91
          go_wp2_with (first | (go_at_call 131; refine (HSC.out _).mono ?_; rintro e w1 ⟨rfl, hB1⟩; have HB1 := Lib.hid hB1; clear hB1) | (go_at_call 61; refine (nums.l1In _ _ _ _).mono ?_; rintro e w2 ⟨rfl, rfl⟩; rw [HIN.out]))
          go_ret
          exact ⟨rfl, HB1.out⟩
        · have d4 : decide (s.size ≤ 10) = false := decide_eq_false c4
          have c4' : ¬ (s.size : Int) ≤ 10 := by omega
          rw [d4]
          clear d4
          by_cases c5 : s.size = 11
          · have d5 : decide (s.size = 11) = true := decide_eq_true c5
            have c5' : (s.size : Int) = 11 := by omega
            rw [d5]
            clear d5
            have hb0 : (0 : Int) ≤ (s[0].toNat : Int) := by omega
            have hb9 : (s[0].toNat : Int) ≤ 255 := by have := s[0].toNat_lt; omega
            cases h45 : (s[0] == 45) with
            | true =>
              have h46 : (s[0].toNat : Int) = 45 := by
                have : s[0] = 45 := by simpa using h45
                rw [this]; rfl
              clear h45 c4 c5
              go_enter Tryd.func91, Tryd.ntmps91
              go_wp2_with (first | (go_at_call 131; refine (HSC.out _).mono ?_; rintro e w1 ⟨rfl, hB1⟩; have HB1 := Lib.hid hB1; clear hB1) | (go_at_call 61; refine (nums.l1In _ _ _ _).mono ?_; rintro e w2 ⟨rfl, rfl⟩; rw [HIN.out]))
              go_ret
              exact ⟨rfl, HB1.out⟩
            | false =>
              have h46 := nn_of h45
              clear h45 c4 c5
              go_enter Tryd.func91, Tryd.ntmps91
              go_wp2_with (first | (go_at_call 131; refine (HSC.out _).mono ?_; rintro e w1 ⟨rfl, hB1⟩; have HB1 := Lib.hid hB1; clear hB1) | (go_at_call 61; refine (nums.l1In _ _ _ _).mono ?_; rintro e w2 ⟨rfl, rfl⟩; rw [HIN.out]))
              go_ret
              exact ⟨rfl, HB1.out⟩
          · have d5 : decide (s.size = 11) = false := decide_eq_false c5
            have c5' : ((s.size : Int) == 11) = false := by rw [beq_eq_false_iff_ne]; omega
            have HD4 : Hid (decide ((s.size : Int) ≤ 10) = false) := Lib.hid (decide_eq_false c4')
            rw [d5]
            clear d5 c4 c5
            go_enter Tryd.func91, Tryd.ntmps91
            go_wp2_with (first | (go_at_call 131; refine (HSC.out _).mono ?_; rintro e w1 ⟨rfl, hB1⟩; have HB1 := Lib.hid hB1; clear hB1) | (go_at_call 61; refine (nums.l1In _ _ _ _).mono ?_; rintro e w2 ⟨rfl, rfl⟩; rw [HIN.out]))
            go_ret
            exact ⟨by first | rfl | (show Ending.returned (.bool (decide _)) = _; rw [HD4.out]; rfl), HB1.out⟩
      · have HIN : Hid (nums.inr n (-1000000000) 1000000000 = false) := Lib.hid (by unfold nums.inr; simp; omega)
        have d3 : (decide ((-1000000000 : Int) ≤ n) && decide (n ≤ (1000000000 : Int))) = false := by
          by_cases a : -1000000000 ≤ n
          · have : ¬ n ≤ 1000000000 := fun h => c3 ⟨a, h⟩
            simp [this]
          · simp [a]
        rw [d3]
        clear d3 c3
        go_enter Tryd.func91, Tryd.ntmps91
        go_wp2_with (first | (go_at_call 131; refine (HSC.out _).mono ?_; rintro e w1 ⟨rfl, hB1⟩; have HB1 := Lib.hid hB1; clear hB1) | (go_at_call 61; refine (nums.l1In _ _ _ _).mono ?_; rintro e w2 ⟨rfl, rfl⟩; rw [HIN.out]))
        go_ret
        exact ⟨rfl, HB1.out⟩
    · have d2 : decide (k = s.size) = false := decide_eq_false c2
      have c2' : ((k : Int) == (s.size : Int)) = false := by rw [beq_eq_false_iff_ne]; omega
      rw [d2]
      clear d2 c2
      go_enter Tryd.func91, Tryd.ntmps91
      go_wp2_with (first | (go_at_call 131; refine (HSC.out _).mono ?_; rintro e w1 ⟨rfl, hB1⟩; have HB1 := Lib.hid hB1; clear hB1) | (go_at_call 61; refine (nums.l1In _ _ _ _).mono ?_; rintro e w2 ⟨rfl, rfl⟩))
      go_ret
      exact ⟨rfl, HB1.out⟩
  · obtain rfl : k = 0 := by omega
    go_enter Tryd.func91, Tryd.ntmps91
    go_wp2_with (first | (go_at_call 131; refine (HSC.out _).mono ?_; rintro e w1 ⟨rfl, hB1⟩; have HB1 := Lib.hid hB1; clear hB1) | (go_at_call 61; refine (nums.l1In _ _ _ _).mono ?_; rintro e w2 ⟨rfl, rfl⟩))
    go_ret
    exact ⟨rfl, HB1.out⟩

end Go.Proofs.YtlbkbcafkjgckaaDoor.lead
