/-
  What the texts behind this one use: 12 parts of one proof.
  Conditions: those that each theorem names.
-/
import Derived.Test.YteoilhbidnnneaaGreatDoorBB2
import Derived.Test.YteoilhbidnnneaaGreatDoorBSTreeCp
import Derived.Test.YteoilhbidnnneaaGreatDoorBB1
import Derived.WalkKit
import Derived.ProofKit
import Derived.ChangeArms
import Derived.OpenShut
import Derived.Laws.NewBlocks
import Derived.Test.YteoilhbidnnneaaGreatDoorShelf
import Derived.Test.YteoilhbidnnneaaGreatDoorBSTreeEq
import Derived.Test.YteoilhbidnnneaaGreatDoorRows
import Derived.Carry
import Derived.ChangeVars
/-
  LeadingInt of the model, IsNumeric of both sides.
  Conditions: the text has at most 2^40 bytes.
-/
namespace Go.Proofs.YteoilhbidnnneaaGreatDoor.lead
open Go.ChangeShapes Go.WideShapes Go.ChangeAt Go.RowKit
set_option linter.unusedVariables false

theorem leadingInt_s (s : ByteArray) (hs : s.size ≤ 1099511627776) (w : World) : Calls Tryz.prog 92 #[.string s] w fun e w' => e = .returned (.int .i64 (li s)) ∧ Below w.heap.size w w' := by
  have SC := l8Scan s hs
  have hb := scn_le s
  have hl := li_scn s
  have ht := scn_take s
  unfold ScQ at SC
  obtain ⟨⟨n, k⟩, HX⟩ : ∃ x, Hid (scn s = x) := ⟨_, Lib.hid rfl⟩
  rw [HX.out] at SC hb hl ht
  obtain ⟨hb0, hb1⟩ := hb
  simp only at SC hb0 hb1 ht
  have HSC := Lib.hid SC
  have HL := Lib.hid hl
  have HT : Hid (k ≤ s.size) := Lib.hid ht
  rw [HL.out]
  clear SC hl HX HL ht
  go_enter Tryz.func92, Tryz.ntmps92
  go_wp2_with (fail)
  refine (HSC.out _).mono ?_
  rintro e w1 ⟨rfl, hB1⟩
  have HB1 := Lib.hid hB1
  clear hB1
  go_wp2_with (fail)
  refine (sMin _ _ _).mono ?_
  rintro e w2 ⟨rfl, rfl⟩
  go_wp2_with (fail)
  refine (sMax _ _ _).mono ?_
  rintro e w3 ⟨rfl, rfl⟩
  have hm : nums.mx (-1000000000) (nums.mn 1000000000 n) = max (-1000000000) (min 1000000000 n) := by unfold nums.mx nums.mn; split <;> split <;> omega
  rw [hm]
  clear hm
  go_wp2_with (fail)
  go_ret
  exact ⟨rfl, HB1.out⟩

theorem bytes_ne {a b : ByteArray} (h : a ≠ b) : (a.toList == b.toList) = false := by
  rw [beq_eq_false_iff_ne]
  intro hh
  exact h (by rw [ByteArray.toList_eq, ByteArray.toList_eq] at hh; exact Go.WideShapes.bytes_inj hh)

set_option maxHeartbeats 1000000 in
theorem isNumeric_i (s : ByteArray) (hs : s.size ≤ 1099511627776) (w : World) : Calls Tryz.prog 114 #[.string s] w fun e w' => e = .returned (.bool (isn s)) ∧ Below w.heap.size w w' := by
  have HC : Hid ((⟨(Lib.trimPrefix s.data.toList [45]).toArray⟩ : ByteArray) = beh s) := Lib.hid (by rw [(cut_eq s).2]; rfl)
  have hbs : (beh s).size ≤ 1099511627776 := by rw [beh_size]; omega
  have LD := leadingDigits (beh s) hbs
  rw [beh_list] at LD
  have LD' : ∀ w, Calls Tryz.prog 135 #[.string (beh s)] w fun e w' => e = .returned (.string (tx (digs s))) ∧ Below w.heap.size w w' := LD
  have hI : isn s = (decide (1 ≤ (beh s).size) && decide ((beh s).size ≤ 10) && decide ((digs s).length = (beh s).size) && decide (mag s ≤ 1000000000)) := by unfold isn; rw [beh_size]
  have hE : tx (digs s) = beh s → (digs s).length = (beh s).size := fun h => by rw [← h, tx_size]
  have hN : tx (digs s) ≠ beh s → ¬ (digs s).length = (beh s).size := fun h hl => h (by
    unfold beh
    congr 1
    unfold digs at hl ⊢
    exact ld_full (by rw [hl, beh_size, List.length_drop, size_eq]))
  have MG : tx (digs s) = beh s → ∀ w, Calls Tryz.prog 136 #[.string (beh s)] w fun e w' => e = .returned (.int .i64 (mag s : Int)) ∧ Below w.heap.size w w' := fun h w => by
    have := magnitude (beh s) hbs (by rw [← h, tx_list]; exact ld_dig _) w
    have e : mg 0 (beh s).data.toList = mag s := by rw [← h, tx_list]; rfl
    rw [e] at this
    exact this
  obtain ⟨m, HM⟩ : ∃ m, Hid (mag s = m) := ⟨_, Lib.hid rfl⟩
  obtain ⟨B, HB⟩ : ∃ B, Hid (beh s = B) := ⟨_, Lib.hid rfl⟩
  obtain ⟨D, HD⟩ : ∃ D, Hid (tx (digs s) = D) := ⟨_, Lib.hid rfl⟩
  obtain ⟨d, HDL⟩ : ∃ d, Hid ((digs s).length = d) := ⟨_, Lib.hid rfl⟩
  rw [HB.out] at HC hbs LD' hI hE hN MG
  rw [HD.out] at LD' hE hN MG
  rw [HDL.out] at hI hE hN
  rw [HM.out] at hI MG
  have HLD := Lib.hid LD'
  rw [hI]
  clear LD LD' hI HM HB HD HDL
  by_cases c1 : 1 ≤ B.size ∧ B.size ≤ 10
  · have HIN : Hid (nums.inr (B.size : Int) 1 10 = true) := Lib.hid (by unfold nums.inr; simp; omega)
    by_cases c2 : D = B
    · subst c2
      have HMG := Lib.hid (MG rfl)
      have c3 := hE rfl
      have c4 : (D.toList == D.toList) = true := by simp
      by_cases c5 : m ≤ 1000000000
      · have c6 : (m : Int) ≤ 1000000000 := by omega
        have hv : (decide (1 ≤ D.size) && decide (D.size ≤ 10) && decide (d = D.size) && decide (m ≤ 1000000000)) = true := by simp [c1.1, c1.2, c3, c5]
        rw [hv]
        clear hv c1 hE hN MG c3 c5
        go_enter Tryz.func114, Tryz.ntmps114
        go_wp2_with (fail)
        refine (Tryz.strings_TrimPrefix s ⟨#[45]⟩ _).mono ?_
        rintro e w1 ⟨he, rfl⟩
        obtain rfl : e = .returned (.string D) := he.trans (by rw [← HC.out])
        go_wp2_with (fail)
        refine (nums.implInRange _ _ _ _).mono ?_
        rintro e w2 ⟨rfl, rfl⟩
        rw [HIN.out]
        go_wp2_with (fail)
        refine (HLD.out _).mono ?_
        rintro e w3 ⟨rfl, hb3⟩
        have HB3 := Lib.hid hb3
        clear hb3
        go_wp2_with (fail)
        refine (HMG.out _).mono ?_
        rintro e w4 ⟨rfl, hb4⟩
        have HB4 := Lib.hid (bss HB3.out hb4)
        clear hb4
        go_wp2_with (fail)
        go_ret
        exact ⟨rfl, HB4.out⟩
      · have c6 : ¬ (m : Int) ≤ 1000000000 := by omega
        have HD6 : Hid (decide ((m : Int) ≤ 1000000000) = false) := Lib.hid (decide_eq_false c6)
        have hv : (decide (1 ≤ D.size) && decide (D.size ≤ 10) && decide (d = D.size) && decide (m ≤ 1000000000)) = false := by simp [c5]
        rw [hv]
        clear hv c1 hE hN MG c3 c5
        go_enter Tryz.func114, Tryz.ntmps114
        go_wp2_with (fail)
        refine (Tryz.strings_TrimPrefix s ⟨#[45]⟩ _).mono ?_
        rintro e w1 ⟨he, rfl⟩
        obtain rfl : e = .returned (.string D) := he.trans (by rw [← HC.out])
        go_wp2_with (fail)
        refine (nums.implInRange _ _ _ _).mono ?_
        rintro e w2 ⟨rfl, rfl⟩
        rw [HIN.out]
        go_wp2_with (fail)
        refine (HLD.out _).mono ?_
        rintro e w3 ⟨rfl, hb3⟩
        have HB3 := Lib.hid hb3
        clear hb3
        go_wp2_with (fail)
        refine (HMG.out _).mono ?_
        rintro e w4 ⟨rfl, hb4⟩
        have HB4 := Lib.hid (bss HB3.out hb4)
        clear hb4
        go_wp2_with (fail)
        go_ret
        exact ⟨by first | rfl | (show Ending.returned (.bool (decide _)) = _; rw [HD6.out]), HB4.out⟩
    · have c4 := bytes_ne c2
      have hv : (decide (1 ≤ B.size) && decide (B.size ≤ 10) && decide (d = B.size) && decide (m ≤ 1000000000)) = false := by simp [hN c2]
      rw [hv]
      clear hv c1 hE hN MG c2
      go_enter Tryz.func114, Tryz.ntmps114
      go_wp2_with (fail)
      refine (Tryz.strings_TrimPrefix s ⟨#[45]⟩ _).mono ?_
      rintro e w1 ⟨he, rfl⟩
      obtain rfl : e = .returned (.string B) := he.trans (by rw [← HC.out])
      go_wp2_with (fail)
      refine (nums.implInRange _ _ _ _).mono ?_
      rintro e w2 ⟨rfl, rfl⟩
      rw [HIN.out]
      go_wp2_with (fail)
      refine (HLD.out _).mono ?_
      rintro e w3 ⟨rfl, hb3⟩
      have HB3 := Lib.hid hb3
      clear hb3
      go_wp2_with (fail)
      go_ret
      exact ⟨rfl, HB3.out⟩
  · have HIN : Hid (nums.inr (B.size : Int) 1 10 = false) := Lib.hid (by unfold nums.inr; simp; omega)
    have hv : (decide (1 ≤ B.size) && decide (B.size ≤ 10) && decide (d = B.size) && decide (m ≤ 1000000000)) = false := by
      by_cases a : 1 ≤ B.size
      · have : ¬ B.size ≤ 10 := fun h => c1 ⟨a, h⟩
        simp [this]
      · simp [a]
    rw [hv]
    clear hv c1 hE hN MG
    go_enter Tryz.func114, Tryz.ntmps114
    go_wp2_with (fail)
    refine (Tryz.strings_TrimPrefix s ⟨#[45]⟩ _).mono ?_
    rintro e w1 ⟨he, rfl⟩
    obtain rfl : e = .returned (.string B) := he.trans (by rw [← HC.out])
    go_wp2_with (fail)
    refine (nums.implInRange _ _ _ _).mono ?_
    rintro e w2 ⟨rfl, rfl⟩
    rw [HIN.out]
    go_wp2_with (fail)
    go_ret
    exact ⟨rfl, Below.refl _ _⟩

set_option maxHeartbeats 1000000 in
theorem isNumeric_s (s : ByteArray) (hs : s.size ≤ 1099511627776) (w : World) : Calls Tryz.prog 91 #[.string s] w fun e w' => e = .returned (.bool (isn s)) ∧ Below w.heap.size w w' := by
  have SC := l8Scan s hs
  have hb := scn_le s
  have hl := isn_scn s
  have ht := scn_take s
  unfold ScQ at SC
  obtain ⟨⟨n, k⟩, HX⟩ : ∃ x, Hid (scn s = x) := ⟨_, Lib.hid rfl⟩
  rw [HX.out] at SC hb hl ht
  obtain ⟨hb0, hb1⟩ := hb
  simp only at SC hb0 hb1 ht hl
  have HSC := Lib.hid SC
  rw [hl]
  clear SC hl HX
  by_cases c1 : 0 < k
  · have c1' : (0 : Int) < (k : Int) := by omega
    have d1 : decide ((0 : Int) < (k : Int)) = true := decide_eq_true c1'
    rw [d1]
    clear d1
    by_cases c2 : k = s.size
    · have d2 : decide (k = s.size) = true := decide_eq_true c2
      rw [d2]
      have h0 : 0 < s.size := by omega
      rw [neg_at h0]
      have HK : Hid (k = s.size) := Lib.hid c2
      subst c2
      clear d2 c1 c1'
      by_cases c3 : -1000000000 ≤ n ∧ n ≤ 1000000000
      · have HIN : Hid (nums.inr n (-1000000000) 1000000000 = true) := Lib.hid (by unfold nums.inr; simp; omega)
        have d3 : (decide ((-1000000000 : Int) ≤ n) && decide (n ≤ (1000000000 : Int))) = true := by simp [c3.1, c3.2]
        rw [d3]
        clear d3 c3
        by_cases c4 : s.size ≤ 10
        · have d4 : decide (s.size ≤ 10) = true := decide_eq_true c4
          have c4' : (s.size : Int) ≤ 10 := by omega
          rw [d4]
          clear d4
          go_enter Tryz.func91, Tryz.ntmps91
          go_wp2_with (first | (go_at_call 123; refine (HSC.out _).mono ?_; rintro e w1 ⟨rfl, hB1⟩; have HB1 := Lib.hid hB1; clear hB1) | (go_at_call 46; refine (nums.l1In _ _ _ _).mono ?_; rintro e w2 ⟨rfl, rfl⟩; rw [HIN.out]))
          go_ret
          exact ⟨rfl, HB1.out⟩
        · have d4 : decide (s.size ≤ 10) = false := decide_eq_false c4
          have c4' : ¬ (s.size : Int) ≤ 10 := by omega
          rw [d4]
          clear d4
          by_cases c5 : s.size = 11
          · have d5 : decide (s.size = 11) = true := decide_eq_true c5
            have c5' : (s.size : Int) = 11 := by omega
            rw [d5]
            clear d5
            have hb0 : (0 : Int) ≤ (s[0].toNat : Int) := by omega
            have hb9 : (s[0].toNat : Int) ≤ 255 := by have := s[0].toNat_lt; omega
            cases h45 : (s[0] == 45) with
            | true =>
              have h46 : (s[0].toNat : Int) = 45 := by
                have : s[0] = 45 := by simpa using h45
                rw [this]; rfl
              clear h45 c4 c5
              go_enter Tryz.func91, Tryz.ntmps91
              go_wp2_with (first | (go_at_call 123; refine (HSC.out _).mono ?_; rintro e w1 ⟨rfl, hB1⟩; have HB1 := Lib.hid hB1; clear hB1) | (go_at_call 46; refine (nums.l1In _ _ _ _).mono ?_; rintro e w2 ⟨rfl, rfl⟩; rw [HIN.out]))
              go_ret
              exact ⟨rfl, HB1.out⟩
            | false =>
              have h46 := nn_of h45
              clear h45 c4 c5
              go_enter Tryz.func91, Tryz.ntmps91
              go_wp2_with (first | (go_at_call 123; refine (HSC.out _).mono ?_; rintro e w1 ⟨rfl, hB1⟩; have HB1 := Lib.hid hB1; clear hB1) | (go_at_call 46; refine (nums.l1In _ _ _ _).mono ?_; rintro e w2 ⟨rfl, rfl⟩; rw [HIN.out]))
              go_ret
              exact ⟨rfl, HB1.out⟩
          · have d5 : decide (s.size = 11) = false := decide_eq_false c5
            have c5' : ((s.size : Int) == 11) = false := by rw [beq_eq_false_iff_ne]; omega
            have HD4 : Hid (decide ((s.size : Int) ≤ 10) = false) := Lib.hid (decide_eq_false c4')
            rw [d5]
            clear d5 c4 c5
            go_enter Tryz.func91, Tryz.ntmps91
            go_wp2_with (first | (go_at_call 123; refine (HSC.out _).mono ?_; rintro e w1 ⟨rfl, hB1⟩; have HB1 := Lib.hid hB1; clear hB1) | (go_at_call 46; refine (nums.l1In _ _ _ _).mono ?_; rintro e w2 ⟨rfl, rfl⟩; rw [HIN.out]))
            go_ret
            exact ⟨by first | rfl | (show Ending.returned (.bool (decide _)) = _; rw [HD4.out]; rfl), HB1.out⟩
      · have HIN : Hid (nums.inr n (-1000000000) 1000000000 = false) := Lib.hid (by unfold nums.inr; simp; omega)
        have d3 : (decide ((-1000000000 : Int) ≤ n) && decide (n ≤ (1000000000 : Int))) = false := by
          by_cases a : -1000000000 ≤ n
          · have : ¬ n ≤ 1000000000 := fun h => c3 ⟨a, h⟩
            simp [this]
          · simp [a]
        rw [d3]
        clear d3 c3
        go_enter Tryz.func91, Tryz.ntmps91
        go_wp2_with (first | (go_at_call 123; refine (HSC.out _).mono ?_; rintro e w1 ⟨rfl, hB1⟩; have HB1 := Lib.hid hB1; clear hB1) | (go_at_call 46; refine (nums.l1In _ _ _ _).mono ?_; rintro e w2 ⟨rfl, rfl⟩; rw [HIN.out]))
        go_ret
        exact ⟨rfl, HB1.out⟩
    · have d2 : decide (k = s.size) = false := decide_eq_false c2
      have c2' : ((k : Int) == (s.size : Int)) = false := by rw [beq_eq_false_iff_ne]; omega
      rw [d2]
      clear d2 c2
      go_enter Tryz.func91, Tryz.ntmps91
      go_wp2_with (first | (go_at_call 123; refine (HSC.out _).mono ?_; rintro e w1 ⟨rfl, hB1⟩; have HB1 := Lib.hid hB1; clear hB1) | (go_at_call 46; refine (nums.l1In _ _ _ _).mono ?_; rintro e w2 ⟨rfl, rfl⟩))
      go_ret
      exact ⟨rfl, HB1.out⟩
  · obtain rfl : k = 0 := by omega
    go_enter Tryz.func91, Tryz.ntmps91
    go_wp2_with (first | (go_at_call 123; refine (HSC.out _).mono ?_; rintro e w1 ⟨rfl, hB1⟩; have HB1 := Lib.hid hB1; clear hB1) | (go_at_call 46; refine (nums.l1In _ _ _ _).mono ?_; rintro e w2 ⟨rfl, rfl⟩))
    go_ret
    exact ⟨rfl, HB1.out⟩

end Go.Proofs.YteoilhbidnnneaaGreatDoor.lead

/-
  ToBool and ToInt of the project and of the model.
  Conditions: the value holds at most 10^9 items and letters.
-/
namespace Go.Proofs.YteoilhbidnnneaaGreatDoor.tree
open Go.ChangeShapes Go.WideShapes Go.ChangeAt Go.RowKit
set_option linter.unusedVariables false

/-- Whether a text is neither empty nor "0". -/
def txB (s : ByteArray) : Bool := !(s.toList == []) && !(s.toList == [48])
/-- ToBool. -/
def tb : Tr → Bool
  | .mk k n s _ _ vs => if k = 0 then false else if k = 1 ∨ k = 2 then n != 0 else if k = 3 then txB s else if k = 4 then decide (0 < vs.length) else true
/-- ToInt. -/
def ti (t : Tr) : Int := match t with
  | .mk k n s _ _ _ => if k = 2 then n else if k = 3 then lead.li s else if tb t then 1 else 0

set_option maxHeartbeats 800000 in
theorem toBool_i (t : Tr) (v : Value) (w : World) (S : Nat → Prop) (h : TIn w S t v) : Calls Tryz.prog 55 #[v] w (GivesQ w (.bool (tb t))) := by
  obtain ⟨k, n, s, x, ks, vs⟩ := t
  obtain ⟨A, c, rfl, -, -⟩ := h.out
  have HT : Hid (tb (.mk k n s x ks vs) = if k = 0 then false else if k = 1 ∨ k = 2 then n != 0 else if k = 3 then txB s else if k = 4 then decide (0 < vs.length) else true) := Lib.hid rfl
  rw [HT.out]
  obtain ⟨L, HL⟩ : ∃ L, Hid (L = vs.length) := ⟨_, Lib.hid rfl⟩
  rw [← HL.out]
  clear h HT
  by_cases h0 : k = 0
  · subst h0
    rw [if_pos rfl]
    go_enter Tryz.func55, Tryz.ntmps55
    go_wp2
    go_ret
    exact ⟨rfl, b1 _ _⟩
  rw [if_neg h0]
  by_cases h1 : k = 1
  · subst h1
    rw [if_pos (.inl rfl)]
    go_enter Tryz.func55, Tryz.ntmps55
    go_wp2
    go_ret
    exact ⟨rfl, b1 _ _⟩
  by_cases h2 : k = 2
  · subst h2
    rw [if_pos (.inr rfl)]
    go_enter Tryz.func55, Tryz.ntmps55
    go_wp2
    go_ret
    exact ⟨rfl, b1 _ _⟩
  rw [if_neg (by omega)]
  by_cases h3 : k = 3
  · subst h3
    rw [if_pos rfl]
    have HX : Hid (txB s = (!(s.toList == []) && !(s.toList == [48]))) := Lib.hid rfl
    rw [HX.out]
    clear HX
    by_cases e0 : s.toList = []
    · have e0' : (s.toList == []) = true := by rw [e0]; rfl
      rw [e0']
      go_enter Tryz.func55, Tryz.ntmps55
      go_wp2
      go_ret
      exact ⟨rfl, b1 _ _⟩
    · have e0' : (s.toList == []) = false := by rw [beq_eq_false_iff_ne]; exact e0
      by_cases e1 : s.toList = [48]
      · have e1' : (s.toList == [48]) = true := by rw [e1]; rfl
        rw [e0', e1']
        clear e0 
        go_enter Tryz.func55, Tryz.ntmps55
        go_wp2
        go_ret
        exact ⟨rfl, b1 _ _⟩
      · have e1' : (s.toList == [48]) = false := by rw [beq_eq_false_iff_ne]; exact e1
        rw [e0', e1']
        go_enter Tryz.func55, Tryz.ntmps55
        go_wp2
        go_ret
        exact ⟨rfl, b1 _ _⟩
  rw [if_neg h3]
  by_cases h4 : k = 4
  · subst h4
    rw [if_pos rfl]
    by_cases hl : 0 < L
    · have HD : Hid (decide (0 < L) = true) := Lib.hid (decide_eq_true hl)
      rw [HD.out]
      go_enter Tryz.func55, Tryz.ntmps55
      go_wp2
      go_ret
      exact ⟨rfl, b1 _ _⟩
    · have HD : Hid (decide (0 < L) = false) := Lib.hid (decide_eq_false hl)
      rw [HD.out]
      obtain rfl : L = 0 := by omega
      go_enter Tryz.func55, Tryz.ntmps55
      go_wp2
      go_ret
      exact ⟨rfl, b1 _ _⟩
  · rw [if_neg h4]
    go_enter Tryz.func55, Tryz.ntmps55
    go_wp2
    go_ret
    exact ⟨rfl, b1 _ _⟩

set_option maxHeartbeats 800000 in
theorem toBool_s (t : Tr) (v : Value) (w : World) (S : Nat → Prop) (h : TIn w S t v) : Calls Tryz.prog 54 #[v] w (GivesQ w (.bool (tb t))) := by
  obtain ⟨k, n, s, x, ks, vs⟩ := t
  obtain ⟨A, c, rfl, -, -⟩ := h.out
  have HT : Hid (tb (.mk k n s x ks vs) = if k = 0 then false else if k = 1 ∨ k = 2 then n != 0 else if k = 3 then txB s else if k = 4 then decide (0 < vs.length) else true) := Lib.hid rfl
  rw [HT.out]
  obtain ⟨L, HL⟩ : ∃ L, Hid (L = vs.length) := ⟨_, Lib.hid rfl⟩
  rw [← HL.out]
  clear h HT
  by_cases h0 : k = 0
  · subst h0
    rw [if_pos rfl]
    go_enter Tryz.func54, Tryz.ntmps54
    go_wp2
    go_ret
    exact ⟨rfl, b1 _ _⟩
  rw [if_neg h0]
  by_cases h1 : k = 1
  · subst h1
    rw [if_pos (.inl rfl)]
    go_enter Tryz.func54, Tryz.ntmps54
    go_wp2
    go_ret
    exact ⟨rfl, b1 _ _⟩
  by_cases h2 : k = 2
  · subst h2
    rw [if_pos (.inr rfl)]
    go_enter Tryz.func54, Tryz.ntmps54
    go_wp2
    go_ret
    exact ⟨rfl, b1 _ _⟩
  rw [if_neg (by omega)]
  by_cases h3 : k = 3
  · subst h3
    rw [if_pos rfl]
    have HX : Hid (txB s = (!(s.toList == []) && !(s.toList == [48]))) := Lib.hid rfl
    rw [HX.out]
    clear HX
    by_cases e0 : s.toList = []
    · have e0' : (s.toList == []) = true := by rw [e0]; rfl
      rw [e0']
      go_enter Tryz.func54, Tryz.ntmps54
      go_wp2
      go_ret
      exact ⟨rfl, b1 _ _⟩
    · have e0' : (s.toList == []) = false := by rw [beq_eq_false_iff_ne]; exact e0
      by_cases e1 : s.toList = [48]
      · have e1' : (s.toList == [48]) = true := by rw [e1]; rfl
        rw [e0', e1']
        clear e0 
        go_enter Tryz.func54, Tryz.ntmps54
        go_wp2
        go_ret
        exact ⟨rfl, b1 _ _⟩
      · have e1' : (s.toList == [48]) = false := by rw [beq_eq_false_iff_ne]; exact e1
        rw [e0', e1']
        go_enter Tryz.func54, Tryz.ntmps54
        go_wp2
        go_ret
        exact ⟨rfl, b1 _ _⟩
  rw [if_neg h3]
  by_cases h4 : k = 4
  · subst h4
    rw [if_pos rfl]
    by_cases hl : 0 < L
    · have HD : Hid (decide (0 < L) = true) := Lib.hid (decide_eq_true hl)
      rw [HD.out]
      go_enter Tryz.func54, Tryz.ntmps54
      go_wp2
      go_ret
      exact ⟨rfl, b1 _ _⟩
    · have HD : Hid (decide (0 < L) = false) := Lib.hid (decide_eq_false hl)
      rw [HD.out]
      obtain rfl : L = 0 := by omega
      go_enter Tryz.func54, Tryz.ntmps54
      go_wp2
      go_ret
      exact ⟨rfl, b1 _ _⟩
  · rw [if_neg h4]
    go_enter Tryz.func54, Tryz.ntmps54
    go_wp2
    go_ret
    exact ⟨rfl, b1 _ _⟩

def boV (b : Bool) : Value := vV 1 (if b then 1 else 0) ⟨#[]⟩ 0 none 0 0
theorem boolValue_i' (b : Bool) (w : World) : Calls Tryz.prog 33 #[.bool b] w (GivesQ w (boV b)) := by
  cases b
  · go_enter Tryz.func33, Tryz.ntmps33
    go_wp2
    exact bodyPost_ret (v := vV 1 0 ⟨#[]⟩ 0 none 0 0) (by simp [results, Tryz.results33, go_sem]) rfl ⟨rfl, b1 _ _⟩
  · go_enter Tryz.func33, Tryz.ntmps33
    go_wp2
    exact bodyPost_ret (v := vV 1 1 ⟨#[]⟩ 0 none 0 0) (by simp [results, Tryz.results33, go_sem]) rfl ⟨rfl, b1 _ _⟩
theorem run_f1 (k n : Int) (s : ByteArray) (x : Int) (A : Option Addr) (L c : Nat) (W : World) : (Instr.field IV (vV k n s x A L c) 1).run Tryz.prog W = .ok (.int .i64 n) W := by kernel_rfl
theorem ti_mk (k n : Int) (s : ByteArray) (x : Int) (ks : List Ky) (vs : List Tr) : ti (.mk k n s x ks vs) = if k = 2 then n else if k = 3 then lead.li s else if tb (.mk k n s x ks vs) then 1 else 0 := rfl

/-- 1 or 0 for ToBool. -/
def tr01 (t : Tr) : Int := if tb t then 1 else 0
theorem truth_i (t : Tr) (v : Value) (w : World) (S : Nat → Prop) (h : TIn w S t v) : Calls Tryz.prog 109 #[v] w (GivesQ w (.int .i64 (tr01 t))) := by
  obtain ⟨k, n, s, x, ks, vs⟩ := t
  have TB := fun w' (hb : Below w.heap.size w w') => toBool_i (.mk k n s x ks vs) v w' S (h.below' hb)
  obtain ⟨A, c, rfl, -, -⟩ := h.out
  unfold tr01
  obtain ⟨b, HB⟩ : ∃ b, Hid (tb (.mk k n s x ks vs) = b) := ⟨_, Lib.hid rfl⟩
  rw [HB.out] at TB ⊢
  obtain ⟨L, HL⟩ : ∃ L, Hid (L = vs.length) := ⟨_, Lib.hid rfl⟩
  rw [← HL.out] at TB ⊢
  have HTB := Lib.hid TB
  clear h TB
  cases b
  · show Calls _ _ _ _ (GivesQ w (.int .i64 0))
    go_enter Tryz.func109, Tryz.ntmps109
    go_wp2_with (fail)
    refine (HTB.out _ (b1 w _)).mono ?_
    rintro e w1 ⟨rfl, hb1⟩
    have HB1 := Lib.hid (bs (b1 w _) hb1)
    clear hb1
    have BV : Hid (∀ w, Calls Tryz.prog 33 #[.bool false] w (GivesQ w (vV 1 0 ⟨#[]⟩ 0 none 0 0))) := Lib.hid (boolValue_i' false)
    have hf := run_f1 1 0 ⟨#[]⟩ 0 none 0 0
    unfold IV at hf
    unfold vV at BV hf
    go_wp2_with (fail)
    refine (BV.out _).mono ?_
    rintro e w2 ⟨rfl, hb2⟩
    have HB2 := Lib.hid (bs HB1.out hb2)
    clear hb2
    go_wp2_with (fail)
    go_ret
    exact ⟨rfl, HB2.out⟩
  · show Calls _ _ _ _ (GivesQ w (.int .i64 1))
    go_enter Tryz.func109, Tryz.ntmps109
    go_wp2_with (fail)
    refine (HTB.out _ (b1 w _)).mono ?_
    rintro e w1 ⟨rfl, hb1⟩
    have HB1 := Lib.hid (bs (b1 w _) hb1)
    clear hb1
    have BV : Hid (∀ w, Calls Tryz.prog 33 #[.bool true] w (GivesQ w (vV 1 1 ⟨#[]⟩ 0 none 0 0))) := Lib.hid (boolValue_i' true)
    have hf := run_f1 1 1 ⟨#[]⟩ 0 none 0 0
    unfold IV at hf
    unfold vV at BV hf
    go_wp2_with (fail)
    refine (BV.out _).mono ?_
    rintro e w2 ⟨rfl, hb2⟩
    have HB2 := Lib.hid (bs HB1.out hb2)
    clear hb2
    go_wp2_with (fail)
    go_ret
    exact ⟨rfl, HB2.out⟩

set_option maxHeartbeats 800000 in
theorem toInt_i (t : Tr) (v : Value) (w : World) (S : Nat → Prop) (h : TIn w S t v) (hT : tot t ≤ 1000000000) : Calls Tryz.prog 113 #[v] w (GivesQ w (.int .i64 (ti t))) := by
  obtain ⟨k, n, s, x, ks, vs⟩ := t
  have TB := fun w' (hb : Below w.heap.size w w') => truth_i (.mk k n s x ks vs) v w' S (h.below' hb)
  obtain ⟨A, c, rfl, -, -⟩ := h.out
  rw [tot_mk] at hT
  have LI := Lib.hid (lead.leadingInt_i s (by omega))
  rw [ti_mk]
  have eb : (if tb (.mk k n s x ks vs) then (1 : Int) else 0) = tr01 (.mk k n s x ks vs) := rfl
  rw [eb]
  obtain ⟨b, HB⟩ : ∃ b, Hid (tr01 (.mk k n s x ks vs) = b) := ⟨_, Lib.hid rfl⟩
  obtain ⟨q, HQ⟩ : ∃ q, Hid (lead.li s = q) := ⟨_, Lib.hid rfl⟩
  rw [HB.out] at TB ⊢
  rw [HQ.out] at LI ⊢
  obtain ⟨L, HL⟩ : ∃ L, Hid (L = vs.length) := ⟨_, Lib.hid rfl⟩
  rw [← HL.out] at TB ⊢
  have HTB := Lib.hid TB
  clear h hT TB eb
  by_cases h2 : k = 2
  · subst h2
    rw [if_pos rfl]
    go_enter Tryz.func113, Tryz.ntmps113
    go_wp2
    go_ret
    exact ⟨rfl, b1 _ _⟩
  rw [if_neg h2]
  by_cases h3 : k = 3
  · subst h3
    rw [if_pos rfl]
    go_enter Tryz.func113, Tryz.ntmps113
    go_wp2_with (fail)
    refine (LI.out _).mono ?_
    rintro e w1 ⟨rfl, hb1⟩
    have HB1 := Lib.hid (bs (b1 w _) hb1)
    clear hb1
    go_wp2_with (fail)
    go_ret
    exact ⟨rfl, HB1.out⟩
  rw [if_neg h3]
  go_enter Tryz.func113, Tryz.ntmps113
  go_wp2_with (fail)
  refine (HTB.out _ (b1 w _)).mono ?_
  rintro e w1 ⟨rfl, hb1⟩
  have HB1 := Lib.hid (bs (b1 w _) hb1)
  clear hb1
  go_wp2_with (fail)
  go_ret
  exact ⟨rfl, HB1.out⟩

set_option maxHeartbeats 800000 in
theorem toInt_s (t : Tr) (v : Value) (w : World) (S : Nat → Prop) (h : TIn w S t v) (hT : tot t ≤ 1000000000) : Calls Tryz.prog 90 #[v] w (GivesQ w (.int .i64 (ti t))) := by
  obtain ⟨k, n, s, x, ks, vs⟩ := t
  have TB := fun w' (hb : Below w.heap.size w w') => toBool_s (.mk k n s x ks vs) v w' S (h.below' hb)
  obtain ⟨A, c, rfl, -, -⟩ := h.out
  rw [tot_mk] at hT
  have LI := Lib.hid (lead.leadingInt_s s (by omega))
  rw [ti_mk]
  obtain ⟨b, HB⟩ : ∃ b, Hid (tb (.mk k n s x ks vs) = b) := ⟨_, Lib.hid rfl⟩
  obtain ⟨q, HQ⟩ : ∃ q, Hid (lead.li s = q) := ⟨_, Lib.hid rfl⟩
  rw [HB.out] at TB ⊢
  rw [HQ.out] at LI ⊢
  obtain ⟨L, HL⟩ : ∃ L, Hid (L = vs.length) := ⟨_, Lib.hid rfl⟩
  rw [← HL.out] at TB ⊢
  have HTB := Lib.hid TB
  clear h hT TB
  by_cases h2 : k = 2
  · subst h2
    rw [if_pos rfl]
    go_enter Tryz.func90, Tryz.ntmps90
    go_wp2
    go_ret
    exact ⟨rfl, b1 _ _⟩
  rw [if_neg h2]
  by_cases h3 : k = 3
  · subst h3
    rw [if_pos rfl]
    go_enter Tryz.func90, Tryz.ntmps90
    go_wp2_with (fail)
    refine (LI.out _).mono ?_
    rintro e w1 ⟨rfl, hb1⟩
    have HB1 := Lib.hid (bs (b1 w _) hb1)
    clear hb1
    go_wp2_with (fail)
    go_ret
    exact ⟨rfl, HB1.out⟩
  rw [if_neg h3]
  cases b
  · show Calls _ _ _ _ (GivesQ w (.int .i64 0))
    go_enter Tryz.func90, Tryz.ntmps90
    go_wp2_with (fail)
    refine (HTB.out _ (b1 w _)).mono ?_
    rintro e w1 ⟨rfl, hb1⟩
    have HB1 := Lib.hid (bs (b1 w _) hb1)
    clear hb1
    go_wp2_with (fail)
    go_ret
    exact ⟨rfl, HB1.out⟩
  · show Calls _ _ _ _ (GivesQ w (.int .i64 1))
    go_enter Tryz.func90, Tryz.ntmps90
    go_wp2_with (fail)
    refine (HTB.out _ (b1 w _)).mono ?_
    rintro e w1 ⟨rfl, hb1⟩
    have HB1 := Lib.hid (bs (b1 w _) hb1)
    clear hb1
    go_wp2_with (fail)
    go_ret
    exact ⟨rfl, HB1.out⟩

end Go.Proofs.YteoilhbidnnneaaGreatDoor.tree

/-
  Arith of the project and of the model.
  Conditions: the two numbers are machine integers.
-/
namespace Go.Proofs.YteoilhbidnnneaaGreatDoor.ari
open Go.ChangeShapes Go.WideShapes Go.ChangeAt Go.RowKit
set_option linter.unusedVariables false

/-- Whether a number is one of a script. -/
def ok (n : Int) : Bool := nums.inr n (-1000000000) 1000000000
theorem ok_bd {n : Int} (h : ok n = true) : -1000000000 ≤ n ∧ n ≤ 1000000000 := by
  unfold ok nums.inr at h
  simp at h
  exact h
/-- What an operator makes of two numbers. -/
def arN (op a b : Int) : Int := if op = 1 then a + b else if op = 2 then a - b else if op = 3 then a * b else if op = 4 then a.tdiv b else a.tmod b
/-- A result, and its error. -/
def fin (n : Int) : Int × Int := if ok n = true then (n, 0) else (0, 3)
def arT (op a b : Int) : Int × Int := if nums.inr op 1 5 = false then (0, 2) else if ok a = false then (0, 3) else if ok b = false then (0, 3) else if 4 ≤ op ∧ b = 0 then (0, 4) else fin (arN op a b)
theorem arT_op {op a b : Int} (h : nums.inr op 1 5 = false) : arT op a b = (0, 2) := by unfold arT; rw [if_pos h]
theorem arT_a {op a b : Int} (h : nums.inr op 1 5 = true) (ha : ok a = false) : arT op a b = (0, 3) := by unfold arT; rw [if_neg (by rw [h]; simp), if_pos ha]
theorem arT_b {op a b : Int} (h : nums.inr op 1 5 = true) (ha : ok a = true) (hb : ok b = false) : arT op a b = (0, 3) := by unfold arT; rw [if_neg (by rw [h]; simp), if_neg (by rw [ha]; simp), if_pos hb]
theorem arT_zero {op a b : Int} (h : nums.inr op 1 5 = true) (ha : ok a = true) (hb : ok b = true) (hz : 4 ≤ op ∧ b = 0) : arT op a b = (0, 4) := by unfold arT; rw [if_neg (by rw [h]; simp), if_neg (by rw [ha]; simp), if_neg (by rw [hb]; simp), if_pos hz]
theorem arT_n {op a b : Int} (h : nums.inr op 1 5 = true) (ha : ok a = true) (hb : ok b = true) (hz : ¬ (4 ≤ op ∧ b = 0)) : arT op a b = fin (arN op a b) := by unfold arT; rw [if_neg (by rw [h]; simp), if_neg (by rw [ha]; simp), if_neg (by rw [hb]; simp), if_neg hz]
theorem mul_bd {a b : Int} (ha : -1000000000 ≤ a ∧ a ≤ 1000000000) (hb : -1000000000 ≤ b ∧ b ≤ 1000000000) : -1000000000000000000 ≤ a * b ∧ a * b ≤ 1000000000000000000 := by
  have h : (a * b).natAbs ≤ 1000000000 * 1000000000 := by
    rw [Int.natAbs_mul]
    exact Nat.mul_le_mul (by omega) (by omega)
  omega
theorem div_bd {a b : Int} (ha : -1000000000 ≤ a ∧ a ≤ 1000000000) : -1000000000 ≤ a.tdiv b ∧ a.tdiv b ≤ 1000000000 := by
  have h : (a.tdiv b).natAbs ≤ a.natAbs := by
    rw [Int.natAbs_tdiv]
    exact Nat.div_le_self _ _
  omega
theorem mod_bd {a b : Int} (ha : -1000000000 ≤ a ∧ a ≤ 1000000000) : -1000000000 ≤ a.tmod b ∧ a.tmod b ≤ 1000000000 := by
  have h : (a.tmod b).natAbs ≤ a.natAbs := by
    rw [Int.natAbs_tmod]
    exact Nat.mod_le _ _
  omega
def ArQ (w : World) (p : Int × Int) (e : Ending) (w' : World) : Prop := e = .returned (.tuple #[.int .i64 p.1, .int .i64 p.2]) ∧ Below w.heap.size w w'

theorem in1 (op : Int) (q : Bool) (h : nums.inr op 1 5 = q) (w : World) : Calls Tryz.prog 46 #[.int .i64 op, .int .i64 1, .int .i64 5] w fun e w' => e = .returned (.bool q) ∧ w = w' := h ▸ nums.l1In op 1 5 w
theorem inS (n : Int) (q : Bool) (h : ok n = q) (w : World) : Calls Tryz.prog 46 #[.int .i64 n, .int .i64 (-1000000000), .int .i64 1000000000] w fun e w' => e = .returned (.bool q) ∧ w = w' := h ▸ nums.l1In n (-1000000000) 1000000000 w
theorem in1_i (op : Int) (q : Bool) (h : nums.inr op 1 5 = q) (w : World) : Calls Tryz.prog 23 #[.int .i64 op, .int .i64 1, .int .i64 5] w fun e w' => e = .returned (.bool q) ∧ w = w' := h ▸ nums.implInRange op 1 5 w
theorem script (n : Int) (q : Bool) (h : ok n = q) (w : World) : Calls Tryz.prog 24 #[.int .i64 n] w fun e w' => e = .returned (.bool q) ∧ w = w' := by
  have IR : ∀ w, Calls Tryz.prog 23 #[.int .i64 n, .int .i64 (-1000000000), .int .i64 1000000000] w fun e w' => e = .returned (.bool q) ∧ w = w' := fun w => h ▸ nums.implInRange n (-1000000000) 1000000000 w
  clear h
  go_enter Tryz.func24, Tryz.ntmps24
  go_wp2_with (fail)
  refine (IR _).mono ?_
  rintro e w1 ⟨rfl, rfl⟩
  go_wp2_with (fail)
  go_ret
  exact ⟨rfl, rfl⟩


set_option maxHeartbeats 4000000 in
theorem arith_s (op a b : Int) (w : World) : Calls Tryz.prog 49 #[.int .i64 op, .int .i64 a, .int .i64 b] w (ArQ w (arT op a b)) := by
  cases h1 : nums.inr op 1 5 with
  | false =>
    rw [arT_op h1]
    have I1 := Lib.hid (in1 op false h1)
    clear h1
    go_enter Tryz.func49, Tryz.ntmps49
    go_wp2_with (fail)
    refine (I1.out _).mono ?_
    rintro e w1 ⟨rfl, rfl⟩
    go_wp2_with (fail)
    go_ret2
    exact ⟨rfl, Below.refl _ _⟩
  | true =>
    have I1 := Lib.hid (in1 op true h1)
    have hop : op = 1 ∨ op = 2 ∨ op = 3 ∨ op = 4 ∨ op = 5 := by
      unfold nums.inr at h1
      simp at h1
      omega
    cases h2 : ok a with
    | false =>
      rw [arT_a h1 h2]
      have I2 := Lib.hid (inS a false h2)
      clear h1 h2 hop
      go_enter Tryz.func49, Tryz.ntmps49
      go_wp2_with (fail)
      refine (I1.out _).mono ?_
      rintro e w1 ⟨rfl, rfl⟩
      go_wp2_with (fail)
      refine (I2.out _).mono ?_
      rintro e w1 ⟨rfl, rfl⟩
      go_wp2_with (fail)
      go_ret2
      exact ⟨rfl, Below.refl _ _⟩
    | true =>
      have I2 := Lib.hid (inS a true h2)
      have ha := ok_bd h2
      cases h3 : ok b with
      | false =>
        rw [arT_b h1 h2 h3]
        have I3 := Lib.hid (inS b false h3)
        clear h1 h2 h3 hop
        go_enter Tryz.func49, Tryz.ntmps49
        go_wp2_with (fail)
        refine (I1.out _).mono ?_
        rintro e w1 ⟨rfl, rfl⟩
        go_wp2_with (fail)
        refine (I2.out _).mono ?_
        rintro e w1 ⟨rfl, rfl⟩
        go_wp2_with (fail)
        refine (I3.out _).mono ?_
        rintro e w1 ⟨rfl, rfl⟩
        go_wp2_with (fail)
        go_ret2
        exact ⟨rfl, Below.refl _ _⟩
      | true =>
        have I3 := Lib.hid (inS b true h3)
        have hb := ok_bd h3
        by_cases hz : 4 ≤ op ∧ b = 0
        · rw [arT_zero h1 h2 h3 hz]
          obtain ⟨hz, rfl⟩ := hz
          obtain rfl | rfl : op = 4 ∨ op = 5 := by omega
          all_goals
            clear h1 h2 h3 hop hz
            go_enter Tryz.func49, Tryz.ntmps49
            go_wp2_with (fail)
            refine (I1.out _).mono ?_
            rintro e w1 ⟨rfl, rfl⟩
            go_wp2_with (fail)
            refine (I2.out _).mono ?_
            rintro e w1 ⟨rfl, rfl⟩
            go_wp2_with (fail)
            refine (I3.out _).mono ?_
            rintro e w1 ⟨rfl, rfl⟩
            go_wp2_with (fail)
            go_ret2
            exact ⟨rfl, Below.refl _ _⟩
        · rw [arT_n h1 h2 h3 hz]
          obtain ⟨N, HN⟩ : ∃ N, Hid (arN op a b = N) := ⟨_, Lib.hid rfl⟩
          rw [HN.out]
          have HMD := Lib.hid (mul_bd ha hb)
          have HDD := Lib.hid (div_bd (b := b) ha)
          have HOD := Lib.hid (mod_bd (b := b) ha)
          have hk : Hid (-1000000000000000000 ≤ N ∧ N ≤ 1000000000000000000) := Lib.hid (by
            rw [← HN.out]
            have h1 := HMD.out
            have h2 := HDD.out
            have h3 := HOD.out
            unfold arN
            split
            · omega
            · split
              · omega
              · split
                · omega
                · split <;> omega)
          have IN0 := fun q (h : ok N = q) => inS N q h
          have hq : ∃ q, ok N = q := ⟨_, rfl⟩
          have EN : Hid ((ok N = true → fin N = (N, 0)) ∧ (ok N = false → fin N = (0, 3))) := Lib.hid ⟨fun h => by unfold fin; rw [if_pos h], fun h => by unfold fin; rw [if_neg (by rw [h]; simp)]⟩
          clear h1 h2 h3
          obtain ⟨q, hq⟩ := hq
          have IN := Lib.hid (IN0 q hq)
          have HQ := Lib.hid hq
          clear IN0 hq
          rcases hop with rfl | rfl | rfl | rfl | rfl
          · have hN : a + b = N := HN.out
            have hbd := hk.out
            rw [← hN] at hbd
            have hwr : IntKind.i64.wrap (a + b) = N := by rw [IntKind.wrap_i64]; omega
            clear HN HMD HDD HOD hk hz
            cases q
            · rw [EN.out.2 HQ.out]
              go_enter Tryz.func49, Tryz.ntmps49
              go_wp2_with (fail)
              refine (I1.out _).mono ?_
              rintro e w1 ⟨rfl, rfl⟩
              go_wp2_with (fail)
              refine (I2.out _).mono ?_
              rintro e w1 ⟨rfl, rfl⟩
              go_wp2_with (fail)
              refine (I3.out _).mono ?_
              rintro e w1 ⟨rfl, rfl⟩
              go_wp2_with (fail)
              try rw [hwr]
              try rw [hN]
              refine (IN.out _).mono ?_
              rintro e w1 ⟨rfl, rfl⟩
              go_wp2_with (fail)
              go_ret2
              exact ⟨rfl, Below.refl _ _⟩
            · rw [EN.out.1 HQ.out]
              go_enter Tryz.func49, Tryz.ntmps49
              go_wp2_with (fail)
              refine (I1.out _).mono ?_
              rintro e w1 ⟨rfl, rfl⟩
              go_wp2_with (fail)
              refine (I2.out _).mono ?_
              rintro e w1 ⟨rfl, rfl⟩
              go_wp2_with (fail)
              refine (I3.out _).mono ?_
              rintro e w1 ⟨rfl, rfl⟩
              go_wp2_with (fail)
              try rw [hwr]
              try rw [hN]
              refine (IN.out _).mono ?_
              rintro e w1 ⟨rfl, rfl⟩
              go_wp2_with (fail)
              go_ret2
              exact ⟨rfl, Below.refl _ _⟩
          · have hN : a - b = N := HN.out
            have hbd := hk.out
            rw [← hN] at hbd
            have hwr : IntKind.i64.wrap (a - b) = N := by rw [IntKind.wrap_i64]; omega
            clear HN HMD HDD HOD hk hz
            cases q
            · rw [EN.out.2 HQ.out]
              go_enter Tryz.func49, Tryz.ntmps49
              go_wp2_with (fail)
              refine (I1.out _).mono ?_
              rintro e w1 ⟨rfl, rfl⟩
              go_wp2_with (fail)
              refine (I2.out _).mono ?_
              rintro e w1 ⟨rfl, rfl⟩
              go_wp2_with (fail)
              refine (I3.out _).mono ?_
              rintro e w1 ⟨rfl, rfl⟩
              go_wp2_with (fail)
              try rw [hwr]
              try rw [hN]
              refine (IN.out _).mono ?_
              rintro e w1 ⟨rfl, rfl⟩
              go_wp2_with (fail)
              go_ret2
              exact ⟨rfl, Below.refl _ _⟩
            · rw [EN.out.1 HQ.out]
              go_enter Tryz.func49, Tryz.ntmps49
              go_wp2_with (fail)
              refine (I1.out _).mono ?_
              rintro e w1 ⟨rfl, rfl⟩
              go_wp2_with (fail)
              refine (I2.out _).mono ?_
              rintro e w1 ⟨rfl, rfl⟩
              go_wp2_with (fail)
              refine (I3.out _).mono ?_
              rintro e w1 ⟨rfl, rfl⟩
              go_wp2_with (fail)
              try rw [hwr]
              try rw [hN]
              refine (IN.out _).mono ?_
              rintro e w1 ⟨rfl, rfl⟩
              go_wp2_with (fail)
              go_ret2
              exact ⟨rfl, Below.refl _ _⟩
          · have hN : a * b = N := HN.out
            have hbd := hk.out
            rw [← hN] at hbd
            have hwr : IntKind.i64.wrap (a * b) = N := by rw [IntKind.wrap_i64]; omega
            clear HN HMD HDD HOD hk hz
            cases q
            · rw [EN.out.2 HQ.out]
              go_enter Tryz.func49, Tryz.ntmps49
              go_wp2_with (fail)
              refine (I1.out _).mono ?_
              rintro e w1 ⟨rfl, rfl⟩
              go_wp2_with (fail)
              refine (I2.out _).mono ?_
              rintro e w1 ⟨rfl, rfl⟩
              go_wp2_with (fail)
              refine (I3.out _).mono ?_
              rintro e w1 ⟨rfl, rfl⟩
              go_wp2_with (fail)
              try rw [hwr]
              try rw [hN]
              refine (IN.out _).mono ?_
              rintro e w1 ⟨rfl, rfl⟩
              go_wp2_with (fail)
              go_ret2
              exact ⟨rfl, Below.refl _ _⟩
            · rw [EN.out.1 HQ.out]
              go_enter Tryz.func49, Tryz.ntmps49
              go_wp2_with (fail)
              refine (I1.out _).mono ?_
              rintro e w1 ⟨rfl, rfl⟩
              go_wp2_with (fail)
              refine (I2.out _).mono ?_
              rintro e w1 ⟨rfl, rfl⟩
              go_wp2_with (fail)
              refine (I3.out _).mono ?_
              rintro e w1 ⟨rfl, rfl⟩
              go_wp2_with (fail)
              try rw [hwr]
              try rw [hN]
              refine (IN.out _).mono ?_
              rintro e w1 ⟨rfl, rfl⟩
              go_wp2_with (fail)
              go_ret2
              exact ⟨rfl, Below.refl _ _⟩
          · have hN : a.tdiv b = N := HN.out
            have hbd := hk.out
            rw [← hN] at hbd
            have hb0 : ¬ b = 0 := by omega
            have hwr : IntKind.i64.wrap (a.tdiv b) = N := by rw [IntKind.wrap_i64]; omega
            clear HN HMD HDD HOD hk hz
            cases q
            · rw [EN.out.2 HQ.out]
              go_enter Tryz.func49, Tryz.ntmps49
              go_wp2_with (fail)
              refine (I1.out _).mono ?_
              rintro e w1 ⟨rfl, rfl⟩
              go_wp2_with (fail)
              refine (I2.out _).mono ?_
              rintro e w1 ⟨rfl, rfl⟩
              go_wp2_with (fail)
              refine (I3.out _).mono ?_
              rintro e w1 ⟨rfl, rfl⟩
              go_wp2_with (fail)
              try rw [hwr]
              try rw [hN]
              refine (IN.out _).mono ?_
              rintro e w1 ⟨rfl, rfl⟩
              go_wp2_with (fail)
              go_ret2
              exact ⟨rfl, Below.refl _ _⟩
            · rw [EN.out.1 HQ.out]
              go_enter Tryz.func49, Tryz.ntmps49
              go_wp2_with (fail)
              refine (I1.out _).mono ?_
              rintro e w1 ⟨rfl, rfl⟩
              go_wp2_with (fail)
              refine (I2.out _).mono ?_
              rintro e w1 ⟨rfl, rfl⟩
              go_wp2_with (fail)
              refine (I3.out _).mono ?_
              rintro e w1 ⟨rfl, rfl⟩
              go_wp2_with (fail)
              try rw [hwr]
              try rw [hN]
              refine (IN.out _).mono ?_
              rintro e w1 ⟨rfl, rfl⟩
              go_wp2_with (fail)
              go_ret2
              exact ⟨rfl, Below.refl _ _⟩
          · have hN : a.tmod b = N := HN.out
            have hbd := hk.out
            rw [← hN] at hbd
            have hb0 : ¬ b = 0 := by omega
            clear HN HMD HDD HOD hk hz
            cases q
            · rw [EN.out.2 HQ.out]
              go_enter Tryz.func49, Tryz.ntmps49
              go_wp2_with (fail)
              refine (I1.out _).mono ?_
              rintro e w1 ⟨rfl, rfl⟩
              go_wp2_with (fail)
              refine (I2.out _).mono ?_
              rintro e w1 ⟨rfl, rfl⟩
              go_wp2_with (fail)
              refine (I3.out _).mono ?_
              rintro e w1 ⟨rfl, rfl⟩
              go_wp2_with (fail)
              try rw [hwr]
              try rw [hN]
              refine (IN.out _).mono ?_
              rintro e w1 ⟨rfl, rfl⟩
              go_wp2_with (fail)
              go_ret2
              exact ⟨rfl, Below.refl _ _⟩
            · rw [EN.out.1 HQ.out]
              go_enter Tryz.func49, Tryz.ntmps49
              go_wp2_with (fail)
              refine (I1.out _).mono ?_
              rintro e w1 ⟨rfl, rfl⟩
              go_wp2_with (fail)
              refine (I2.out _).mono ?_
              rintro e w1 ⟨rfl, rfl⟩
              go_wp2_with (fail)
              refine (I3.out _).mono ?_
              rintro e w1 ⟨rfl, rfl⟩
              go_wp2_with (fail)
              try rw [hwr]
              try rw [hN]
              refine (IN.out _).mono ?_
              rintro e w1 ⟨rfl, rfl⟩
              go_wp2_with (fail)
              go_ret2
              exact ⟨rfl, Below.refl _ _⟩


abbrev OF : TypeId := 52
def fns : Array Value := #[.nilFunc, .func (.func 60) #[] #[], .func (.func 61) #[] #[], .func (.func 62) #[] #[], .func (.func 63) #[] #[], .func (.func 64) #[] #[]]
theorem arithmetic_i (w : World) : Calls Tryz.prog 25 #[] w fun e w' => ∃ g, e = .returned (.slice (some ⟨g, 0, none⟩) 6 6) ∧ w'.heap[g]? = some (.cells fns OF (0, 0)) ∧ w.heap.size ≤ g ∧ Below w.heap.size w w' := by
  go_enter Tryz.func25, Tryz.ntmps25
  go_wp2
  go_ret
  exact ⟨_, rfl, heap_alloc_new w _, Nat.le_refl _, (Below.refl w.heap.size w).alloc (Nat.le_refl _) _⟩

theorem sum_i (a b N : Int) (hN : a + b = N) (hk : -1000000000000000000 ≤ N ∧ N ≤ 1000000000000000000) (w : World) : Calls Tryz.prog 60 #[.agg #[.int .i64 a, .int .i64 b]] w fun e w' => e = .returned (.int .i64 N) ∧ Below w.heap.size w w' := by
  have hwr : IntKind.i64.wrap (a + b) = N := by rw [hN, IntKind.wrap_i64]; omega
  go_enter Tryz.func60, Tryz.ntmps60
  go_wp2
  try rw [hwr]
  try rw [hN]
  go_ret
  exact ⟨by first | rfl | rw [hwr] | rw [hN], by first | exact Below.refl _ _ | exact (Below.refl w.heap.size w).alloc (Nat.le_refl _) _⟩

theorem difference_i (a b N : Int) (hN : a - b = N) (hk : -1000000000000000000 ≤ N ∧ N ≤ 1000000000000000000) (w : World) : Calls Tryz.prog 61 #[.agg #[.int .i64 a, .int .i64 b]] w fun e w' => e = .returned (.int .i64 N) ∧ Below w.heap.size w w' := by
  have hwr : IntKind.i64.wrap (a - b) = N := by rw [hN, IntKind.wrap_i64]; omega
  go_enter Tryz.func61, Tryz.ntmps61
  go_wp2
  try rw [hwr]
  try rw [hN]
  go_ret
  exact ⟨by first | rfl | rw [hwr] | rw [hN], by first | exact Below.refl _ _ | exact (Below.refl w.heap.size w).alloc (Nat.le_refl _) _⟩

theorem product_i (a b N : Int) (hN : a * b = N) (hk : -1000000000000000000 ≤ N ∧ N ≤ 1000000000000000000) (w : World) : Calls Tryz.prog 62 #[.agg #[.int .i64 a, .int .i64 b]] w fun e w' => e = .returned (.int .i64 N) ∧ Below w.heap.size w w' := by
  have hwr : IntKind.i64.wrap (a * b) = N := by rw [hN, IntKind.wrap_i64]; omega
  go_enter Tryz.func62, Tryz.ntmps62
  go_wp2
  try rw [hwr]
  try rw [hN]
  go_ret
  exact ⟨by first | rfl | rw [hwr] | rw [hN], by first | exact Below.refl _ _ | exact (Below.refl w.heap.size w).alloc (Nat.le_refl _) _⟩

theorem quotient_i (a b N : Int) (hN : a.tdiv b = N) (hk : -1000000000000000000 ≤ N ∧ N ≤ 1000000000000000000) (hz : ¬ b = 0) (w : World) : Calls Tryz.prog 63 #[.agg #[.int .i64 a, .int .i64 b]] w fun e w' => e = .returned (.int .i64 N) ∧ Below w.heap.size w w' := by
  have hwr : IntKind.i64.wrap (a.tdiv b) = N := by rw [hN, IntKind.wrap_i64]; omega
  go_enter Tryz.func63, Tryz.ntmps63
  go_wp2
  try rw [hwr]
  try rw [hN]
  go_ret
  exact ⟨by first | rfl | rw [hwr] | rw [hN], by first | exact Below.refl _ _ | exact (Below.refl w.heap.size w).alloc (Nat.le_refl _) _⟩

theorem remainder_i (a b N : Int) (hN : a.tmod b = N) (hk : -1000000000000000000 ≤ N ∧ N ≤ 1000000000000000000) (hz : ¬ b = 0) (w : World) : Calls Tryz.prog 64 #[.agg #[.int .i64 a, .int .i64 b]] w fun e w' => e = .returned (.int .i64 N) ∧ Below w.heap.size w w' := by
  have hwr : IntKind.i64.wrap (a.tmod b) = N := by rw [hN, IntKind.wrap_i64]; omega
  go_enter Tryz.func64, Tryz.ntmps64
  go_wp2
  try rw [hwr]
  try rw [hN]
  go_ret
  exact ⟨by first | rfl | rw [hwr] | rw [hN], by first | exact Below.refl _ _ | exact (Below.refl w.heap.size w).alloc (Nat.le_refl _) _⟩


set_option maxHeartbeats 4000000 in
theorem arith_i (op a b : Int) (w : World) : Calls Tryz.prog 8 #[.int .i64 op, .int .i64 a, .int .i64 b] w (ArQ w (arT op a b)) := by
  cases h1 : nums.inr op 1 5 with
  | false =>
    rw [arT_op h1]
    have I1 := Lib.hid (in1_i op false h1)
    clear h1
    go_enter Tryz.func8, Tryz.ntmps8
    go_wp2_with (fail)
    refine (I1.out _).mono ?_
    rintro e w1 ⟨rfl, rfl⟩
    go_wp2_with (fail)
    go_ret2
    exact ⟨rfl, Below.refl _ _⟩
  | true =>
    have I1 := Lib.hid (in1_i op true h1)
    have hop : op = 1 ∨ op = 2 ∨ op = 3 ∨ op = 4 ∨ op = 5 := by
      unfold nums.inr at h1
      simp at h1
      omega
    cases h2 : ok a with
    | false =>
      rw [arT_a h1 h2]
      have I2 := Lib.hid (script a false h2)
      clear h1 h2 hop
      go_enter Tryz.func8, Tryz.ntmps8
      go_wp2_with (fail)
      refine (I1.out _).mono ?_
      rintro e w1 ⟨rfl, rfl⟩
      go_wp2_with (fail)
      refine (I2.out _).mono ?_
      rintro e w1 ⟨rfl, rfl⟩
      go_wp2_with (fail)
      go_ret2
      exact ⟨rfl, Below.refl _ _⟩
    | true =>
      have I2 := Lib.hid (script a true h2)
      have ha := ok_bd h2
      cases h3 : ok b with
      | false =>
        rw [arT_b h1 h2 h3]
        have I3 := Lib.hid (script b false h3)
        clear h1 h2 h3 hop
        go_enter Tryz.func8, Tryz.ntmps8
        go_wp2_with (fail)
        refine (I1.out _).mono ?_
        rintro e w1 ⟨rfl, rfl⟩
        go_wp2_with (fail)
        refine (I2.out _).mono ?_
        rintro e w1 ⟨rfl, rfl⟩
        go_wp2_with (fail)
        refine (I3.out _).mono ?_
        rintro e w1 ⟨rfl, rfl⟩
        go_wp2_with (fail)
        go_ret2
        exact ⟨rfl, Below.refl _ _⟩
      | true =>
        have I3 := Lib.hid (script b true h3)
        have hb := ok_bd h3
        by_cases hz : 4 ≤ op ∧ b = 0
        · rw [arT_zero h1 h2 h3 hz]
          obtain ⟨hz, rfl⟩ := hz
          obtain rfl | rfl : op = 4 ∨ op = 5 := by omega
          all_goals
            clear h1 h2 h3 hop hz
            go_enter Tryz.func8, Tryz.ntmps8
            go_wp2_with (fail)
            refine (I1.out _).mono ?_
            rintro e w1 ⟨rfl, rfl⟩
            go_wp2_with (fail)
            refine (I2.out _).mono ?_
            rintro e w1 ⟨rfl, rfl⟩
            go_wp2_with (fail)
            refine (I3.out _).mono ?_
            rintro e w1 ⟨rfl, rfl⟩
            go_wp2_with (fail)
            go_ret2
            exact ⟨rfl, Below.refl _ _⟩
        · rw [arT_n h1 h2 h3 hz]
          obtain ⟨N, HN⟩ : ∃ N, Hid (arN op a b = N) := ⟨_, Lib.hid rfl⟩
          rw [HN.out]
          have HMD := Lib.hid (mul_bd ha hb)
          have HDD := Lib.hid (div_bd (b := b) ha)
          have HOD := Lib.hid (mod_bd (b := b) ha)
          have hk : Hid (-1000000000000000000 ≤ N ∧ N ≤ 1000000000000000000) := Lib.hid (by
            rw [← HN.out]
            have h1 := HMD.out
            have h2 := HDD.out
            have h3 := HOD.out
            unfold arN
            split
            · omega
            · split
              · omega
              · split
                · omega
                · split <;> omega)
          have IN0 := fun q (h : ok N = q) => script N q h
          have hq : ∃ q, ok N = q := ⟨_, rfl⟩
          have EN : Hid ((ok N = true → fin N = (N, 0)) ∧ (ok N = false → fin N = (0, 3))) := Lib.hid ⟨fun h => by unfold fin; rw [if_pos h], fun h => by unfold fin; rw [if_neg (by rw [h]; simp)]⟩
          clear h1 h2 h3
          obtain ⟨q, hq⟩ := hq
          have IN := Lib.hid (IN0 q hq)
          have HQ := Lib.hid hq
          clear IN0 hq
          rcases hop with rfl | rfl | rfl | rfl | rfl
          · have hN : a + b = N := HN.out
            have hbd := hk.out
            rw [← hN] at hbd
            have hwr : IntKind.i64.wrap (a + b) = N := by rw [IntKind.wrap_i64]; omega
            have HNN := Lib.hid hN
            have HKK := Lib.hid hk.out
            clear HN HMD HDD HOD hk hz hN hbd
            try clear hwr
            cases q
            · rw [EN.out.2 HQ.out]
              rcases Decidable.em (b = 0) with rfl | hb0
              all_goals
                go_enter Tryz.func8, Tryz.ntmps8
                go_wp2_with (fail)
                refine (I1.out _).mono ?_
                rintro e w1 ⟨rfl, rfl⟩
                go_wp2_with (fail)
                refine (I2.out _).mono ?_
                rintro e w1 ⟨rfl, rfl⟩
                go_wp2_with (fail)
                refine (I3.out _).mono ?_
                rintro e w1 ⟨rfl, rfl⟩
                go_wp2_with (fail)
                refine (arithmetic_i _).mono ?_
                rintro e w2 ⟨g, rfl, hg, hlt, hb⟩
                have HB := Lib.hid hb
                have kc : w2.cell? ⟨g, 1, none⟩ = some (.func (.func 60) #[] #[]) := Lib.cell_of_heap hg 1
                clear hg hlt hb
                go_wp2_with (fail)
                clear kc
                refine (sum_i a _ N HNN.out HKK.out _).mono ?_
                rintro e w3 ⟨rfl, hb3⟩
                replace HB := Lib.hid (HB.out.trans (hb3.mono HB.out.size))
                clear hb3
                go_wp2_with (fail)
                refine (IN.out _).mono ?_
                rintro e w1 ⟨rfl, rfl⟩
                go_wp2_with (fail)
                go_ret2
                exact ⟨rfl, HB.out⟩
            · rw [EN.out.1 HQ.out]
              rcases Decidable.em (b = 0) with rfl | hb0
              all_goals
                go_enter Tryz.func8, Tryz.ntmps8
                go_wp2_with (fail)
                refine (I1.out _).mono ?_
                rintro e w1 ⟨rfl, rfl⟩
                go_wp2_with (fail)
                refine (I2.out _).mono ?_
                rintro e w1 ⟨rfl, rfl⟩
                go_wp2_with (fail)
                refine (I3.out _).mono ?_
                rintro e w1 ⟨rfl, rfl⟩
                go_wp2_with (fail)
                refine (arithmetic_i _).mono ?_
                rintro e w2 ⟨g, rfl, hg, hlt, hb⟩
                have HB := Lib.hid hb
                have kc : w2.cell? ⟨g, 1, none⟩ = some (.func (.func 60) #[] #[]) := Lib.cell_of_heap hg 1
                clear hg hlt hb
                go_wp2_with (fail)
                clear kc
                refine (sum_i a _ N HNN.out HKK.out _).mono ?_
                rintro e w3 ⟨rfl, hb3⟩
                replace HB := Lib.hid (HB.out.trans (hb3.mono HB.out.size))
                clear hb3
                go_wp2_with (fail)
                refine (IN.out _).mono ?_
                rintro e w1 ⟨rfl, rfl⟩
                go_wp2_with (fail)
                go_ret2
                exact ⟨rfl, HB.out⟩
          · have hN : a - b = N := HN.out
            have hbd := hk.out
            rw [← hN] at hbd
            have hwr : IntKind.i64.wrap (a - b) = N := by rw [IntKind.wrap_i64]; omega
            have HNN := Lib.hid hN
            have HKK := Lib.hid hk.out
            clear HN HMD HDD HOD hk hz hN hbd
            try clear hwr
            cases q
            · rw [EN.out.2 HQ.out]
              rcases Decidable.em (b = 0) with rfl | hb0
              all_goals
                go_enter Tryz.func8, Tryz.ntmps8
                go_wp2_with (fail)
                refine (I1.out _).mono ?_
                rintro e w1 ⟨rfl, rfl⟩
                go_wp2_with (fail)
                refine (I2.out _).mono ?_
                rintro e w1 ⟨rfl, rfl⟩
                go_wp2_with (fail)
                refine (I3.out _).mono ?_
                rintro e w1 ⟨rfl, rfl⟩
                go_wp2_with (fail)
                refine (arithmetic_i _).mono ?_
                rintro e w2 ⟨g, rfl, hg, hlt, hb⟩
                have HB := Lib.hid hb
                have kc : w2.cell? ⟨g, 2, none⟩ = some (.func (.func 61) #[] #[]) := Lib.cell_of_heap hg 2
                clear hg hlt hb
                go_wp2_with (fail)
                clear kc
                refine (difference_i a _ N HNN.out HKK.out _).mono ?_
                rintro e w3 ⟨rfl, hb3⟩
                replace HB := Lib.hid (HB.out.trans (hb3.mono HB.out.size))
                clear hb3
                go_wp2_with (fail)
                refine (IN.out _).mono ?_
                rintro e w1 ⟨rfl, rfl⟩
                go_wp2_with (fail)
                go_ret2
                exact ⟨rfl, HB.out⟩
            · rw [EN.out.1 HQ.out]
              rcases Decidable.em (b = 0) with rfl | hb0
              all_goals
                go_enter Tryz.func8, Tryz.ntmps8
                go_wp2_with (fail)
                refine (I1.out _).mono ?_
                rintro e w1 ⟨rfl, rfl⟩
                go_wp2_with (fail)
                refine (I2.out _).mono ?_
                rintro e w1 ⟨rfl, rfl⟩
                go_wp2_with (fail)
                refine (I3.out _).mono ?_
                rintro e w1 ⟨rfl, rfl⟩
                go_wp2_with (fail)
                refine (arithmetic_i _).mono ?_
                rintro e w2 ⟨g, rfl, hg, hlt, hb⟩
                have HB := Lib.hid hb
                have kc : w2.cell? ⟨g, 2, none⟩ = some (.func (.func 61) #[] #[]) := Lib.cell_of_heap hg 2
                clear hg hlt hb
                go_wp2_with (fail)
                clear kc
                refine (difference_i a _ N HNN.out HKK.out _).mono ?_
                rintro e w3 ⟨rfl, hb3⟩
                replace HB := Lib.hid (HB.out.trans (hb3.mono HB.out.size))
                clear hb3
                go_wp2_with (fail)
                refine (IN.out _).mono ?_
                rintro e w1 ⟨rfl, rfl⟩
                go_wp2_with (fail)
                go_ret2
                exact ⟨rfl, HB.out⟩
          · have hN : a * b = N := HN.out
            have hbd := hk.out
            rw [← hN] at hbd
            have hwr : IntKind.i64.wrap (a * b) = N := by rw [IntKind.wrap_i64]; omega
            have HNN := Lib.hid hN
            have HKK := Lib.hid hk.out
            clear HN HMD HDD HOD hk hz hN hbd
            try clear hwr
            cases q
            · rw [EN.out.2 HQ.out]
              rcases Decidable.em (b = 0) with rfl | hb0
              all_goals
                go_enter Tryz.func8, Tryz.ntmps8
                go_wp2_with (fail)
                refine (I1.out _).mono ?_
                rintro e w1 ⟨rfl, rfl⟩
                go_wp2_with (fail)
                refine (I2.out _).mono ?_
                rintro e w1 ⟨rfl, rfl⟩
                go_wp2_with (fail)
                refine (I3.out _).mono ?_
                rintro e w1 ⟨rfl, rfl⟩
                go_wp2_with (fail)
                refine (arithmetic_i _).mono ?_
                rintro e w2 ⟨g, rfl, hg, hlt, hb⟩
                have HB := Lib.hid hb
                have kc : w2.cell? ⟨g, 3, none⟩ = some (.func (.func 62) #[] #[]) := Lib.cell_of_heap hg 3
                clear hg hlt hb
                go_wp2_with (fail)
                clear kc
                refine (product_i a _ N HNN.out HKK.out _).mono ?_
                rintro e w3 ⟨rfl, hb3⟩
                replace HB := Lib.hid (HB.out.trans (hb3.mono HB.out.size))
                clear hb3
                go_wp2_with (fail)
                refine (IN.out _).mono ?_
                rintro e w1 ⟨rfl, rfl⟩
                go_wp2_with (fail)
                go_ret2
                exact ⟨rfl, HB.out⟩
            · rw [EN.out.1 HQ.out]
              rcases Decidable.em (b = 0) with rfl | hb0
              all_goals
                go_enter Tryz.func8, Tryz.ntmps8
                go_wp2_with (fail)
                refine (I1.out _).mono ?_
                rintro e w1 ⟨rfl, rfl⟩
                go_wp2_with (fail)
                refine (I2.out _).mono ?_
                rintro e w1 ⟨rfl, rfl⟩
                go_wp2_with (fail)
                refine (I3.out _).mono ?_
                rintro e w1 ⟨rfl, rfl⟩
                go_wp2_with (fail)
                refine (arithmetic_i _).mono ?_
                rintro e w2 ⟨g, rfl, hg, hlt, hb⟩
                have HB := Lib.hid hb
                have kc : w2.cell? ⟨g, 3, none⟩ = some (.func (.func 62) #[] #[]) := Lib.cell_of_heap hg 3
                clear hg hlt hb
                go_wp2_with (fail)
                clear kc
                refine (product_i a _ N HNN.out HKK.out _).mono ?_
                rintro e w3 ⟨rfl, hb3⟩
                replace HB := Lib.hid (HB.out.trans (hb3.mono HB.out.size))
                clear hb3
                go_wp2_with (fail)
                refine (IN.out _).mono ?_
                rintro e w1 ⟨rfl, rfl⟩
                go_wp2_with (fail)
                go_ret2
                exact ⟨rfl, HB.out⟩
          · have hN : a.tdiv b = N := HN.out
            have hbd := hk.out
            rw [← hN] at hbd
            have hb0 : ¬ b = 0 := by omega
            have hwr : IntKind.i64.wrap (a.tdiv b) = N := by rw [IntKind.wrap_i64]; omega
            have HNN := Lib.hid hN
            have HKK := Lib.hid hk.out
            clear HN HMD HDD HOD hk hz hN hbd
            try clear hwr
            cases q
            · rw [EN.out.2 HQ.out]
              go_enter Tryz.func8, Tryz.ntmps8
              go_wp2_with (fail)
              refine (I1.out _).mono ?_
              rintro e w1 ⟨rfl, rfl⟩
              go_wp2_with (fail)
              refine (I2.out _).mono ?_
              rintro e w1 ⟨rfl, rfl⟩
              go_wp2_with (fail)
              refine (I3.out _).mono ?_
              rintro e w1 ⟨rfl, rfl⟩
              go_wp2_with (fail)
              refine (arithmetic_i _).mono ?_
              rintro e w2 ⟨g, rfl, hg, hlt, hb⟩
              have HB := Lib.hid hb
              have kc : w2.cell? ⟨g, 4, none⟩ = some (.func (.func 63) #[] #[]) := Lib.cell_of_heap hg 4
              clear hg hlt hb
              go_wp2_with (fail)
              clear kc
              refine (quotient_i a _ N HNN.out HKK.out hb0 _).mono ?_
              rintro e w3 ⟨rfl, hb3⟩
              replace HB := Lib.hid (HB.out.trans (hb3.mono HB.out.size))
              clear hb3
              go_wp2_with (fail)
              refine (IN.out _).mono ?_
              rintro e w1 ⟨rfl, rfl⟩
              go_wp2_with (fail)
              go_ret2
              exact ⟨rfl, HB.out⟩
            · rw [EN.out.1 HQ.out]
              go_enter Tryz.func8, Tryz.ntmps8
              go_wp2_with (fail)
              refine (I1.out _).mono ?_
              rintro e w1 ⟨rfl, rfl⟩
              go_wp2_with (fail)
              refine (I2.out _).mono ?_
              rintro e w1 ⟨rfl, rfl⟩
              go_wp2_with (fail)
              refine (I3.out _).mono ?_
              rintro e w1 ⟨rfl, rfl⟩
              go_wp2_with (fail)
              refine (arithmetic_i _).mono ?_
              rintro e w2 ⟨g, rfl, hg, hlt, hb⟩
              have HB := Lib.hid hb
              have kc : w2.cell? ⟨g, 4, none⟩ = some (.func (.func 63) #[] #[]) := Lib.cell_of_heap hg 4
              clear hg hlt hb
              go_wp2_with (fail)
              clear kc
              refine (quotient_i a _ N HNN.out HKK.out hb0 _).mono ?_
              rintro e w3 ⟨rfl, hb3⟩
              replace HB := Lib.hid (HB.out.trans (hb3.mono HB.out.size))
              clear hb3
              go_wp2_with (fail)
              refine (IN.out _).mono ?_
              rintro e w1 ⟨rfl, rfl⟩
              go_wp2_with (fail)
              go_ret2
              exact ⟨rfl, HB.out⟩
          · have hN : a.tmod b = N := HN.out
            have hbd := hk.out
            rw [← hN] at hbd
            have hb0 : ¬ b = 0 := by omega
            have HNN := Lib.hid hN
            have HKK := Lib.hid hk.out
            clear HN HMD HDD HOD hk hz hN hbd
            try clear hwr
            cases q
            · rw [EN.out.2 HQ.out]
              go_enter Tryz.func8, Tryz.ntmps8
              go_wp2_with (fail)
              refine (I1.out _).mono ?_
              rintro e w1 ⟨rfl, rfl⟩
              go_wp2_with (fail)
              refine (I2.out _).mono ?_
              rintro e w1 ⟨rfl, rfl⟩
              go_wp2_with (fail)
              refine (I3.out _).mono ?_
              rintro e w1 ⟨rfl, rfl⟩
              go_wp2_with (fail)
              refine (arithmetic_i _).mono ?_
              rintro e w2 ⟨g, rfl, hg, hlt, hb⟩
              have HB := Lib.hid hb
              have kc : w2.cell? ⟨g, 5, none⟩ = some (.func (.func 64) #[] #[]) := Lib.cell_of_heap hg 5
              clear hg hlt hb
              go_wp2_with (fail)
              clear kc
              refine (remainder_i a _ N HNN.out HKK.out hb0 _).mono ?_
              rintro e w3 ⟨rfl, hb3⟩
              replace HB := Lib.hid (HB.out.trans (hb3.mono HB.out.size))
              clear hb3
              go_wp2_with (fail)
              refine (IN.out _).mono ?_
              rintro e w1 ⟨rfl, rfl⟩
              go_wp2_with (fail)
              go_ret2
              exact ⟨rfl, HB.out⟩
            · rw [EN.out.1 HQ.out]
              go_enter Tryz.func8, Tryz.ntmps8
              go_wp2_with (fail)
              refine (I1.out _).mono ?_
              rintro e w1 ⟨rfl, rfl⟩
              go_wp2_with (fail)
              refine (I2.out _).mono ?_
              rintro e w1 ⟨rfl, rfl⟩
              go_wp2_with (fail)
              refine (I3.out _).mono ?_
              rintro e w1 ⟨rfl, rfl⟩
              go_wp2_with (fail)
              refine (arithmetic_i _).mono ?_
              rintro e w2 ⟨g, rfl, hg, hlt, hb⟩
              have HB := Lib.hid hb
              have kc : w2.cell? ⟨g, 5, none⟩ = some (.func (.func 64) #[] #[]) := Lib.cell_of_heap hg 5
              clear hg hlt hb
              go_wp2_with (fail)
              clear kc
              refine (remainder_i a _ N HNN.out HKK.out hb0 _).mono ?_
              rintro e w3 ⟨rfl, hb3⟩
              replace HB := Lib.hid (HB.out.trans (hb3.mono HB.out.size))
              clear hb3
              go_wp2_with (fail)
              refine (IN.out _).mono ?_
              rintro e w1 ⟨rfl, rfl⟩
              go_wp2_with (fail)
              go_ret2
              exact ⟨rfl, HB.out⟩

end Go.Proofs.YteoilhbidnnneaaGreatDoor.ari

/-
  Integers and texts as values, of the project and of the model.
  Conditions: those that each theorem names.
-/
namespace Go.Proofs.YteoilhbidnnneaaGreatDoor.tree
open Go.ChangeShapes Go.WideShapes Go.ChangeAt Go.RowKit
set_option linter.unusedVariables false

theorem intValue_i (n : Int) (w : World) : Calls Tryz.prog 37 #[.int .i64 n] w (GivesQ w (vV 2 n ⟨#[]⟩ 0 none 0 0)) := by
  go_enter Tryz.func37, Tryz.ntmps37
  go_wp2
  exact bodyPost_ret (v := vV 2 n ⟨#[]⟩ 0 none 0 0) (by simp [results, Tryz.results37, go_sem]) rfl ⟨rfl, b1 _ _⟩
theorem intValue_s (n : Int) (w : World) : Calls Tryz.prog 44 #[.int .i64 n] w (GivesQ w (vV 2 n ⟨#[]⟩ 0 none 0 0)) := by
  go_enter Tryz.func44, Tryz.ntmps44
  go_wp2
  exact bodyPost_ret (v := vV 2 n ⟨#[]⟩ 0 none 0 0) (by simp [results, Tryz.results44, go_sem]) rfl ⟨rfl, b1 _ _⟩

theorem textValue_s (s : ByteArray) (w : World) : Calls Tryz.prog 27 #[.string s] w (GivesQ w (vV 3 0 s 0 none 0 0)) := by
  go_enter Tryz.func27, Tryz.ntmps27
  go_wp2
  exact bodyPost_ret (v := vV 3 0 s 0 none 0 0) (by simp [results, Tryz.results27, go_sem]) rfl ⟨rfl, b1 _ _⟩

end Go.Proofs.YteoilhbidnnneaaGreatDoor.tree

/-
  A text as a value.
  Conditions: those that each theorem names.
-/
namespace Go.Proofs.YteoilhbidnnneaaGreatDoor.tree
open Go.ChangeShapes Go.WideShapes Go.ChangeAt Go.RowKit
set_option linter.unusedVariables false

theorem implClone (s : ByteArray) (hs : s.size ≤ 1099511627776) (w : World) : Calls Tryz.prog 103 #[.string s] w fun e w' => e = .returned (.string s) ∧ Below w.heap.size w w' := by
  go_enter Tryz.func103, Tryz.ntmps103
  go_wp2_with (fail)
  refine (Tryz.stringslite_Clone s _ (by omega)).mono ?_
  rintro e w1 ⟨rfl, hb⟩
  go_wp2
  go_ret
  exact ⟨rfl, hb⟩

theorem textValue_i (s : ByteArray) (hs : s.size ≤ 1099511627776) (w : World) : Calls Tryz.prog 75 #[.string s] w (GivesQ w (vV 3 0 s 0 none 0 0)) := by
  go_enter Tryz.func75, Tryz.ntmps75
  go_wp2_with (fail)
  refine (implClone s hs _).mono ?_
  rintro e w1 ⟨rfl, hb1⟩
  have a2 := carry hb1 (heap_alloc_new w _)
  have HB := Lib.hid (bs (b1 _ _) hb1)
  obtain ⟨r2, f2⟩ := rowc a2
  clear hb1 a2
  go_wp2_with (fail)
  refine bodyPost_ret (v := vV 3 0 s 0 none 0 0) (by simp [results, Tryz.results75, go_sem, r2]) rfl ⟨rfl, ?_⟩
  have hB := HB.out
  iterate 5 refine Below.setCell ?_ (by simp) _
  exact hB

end Go.Proofs.YteoilhbidnnneaaGreatDoor.tree

/-
  What a call leaves as it was, but for some blocks.
  Conditions: none.
-/
namespace Go.Proofs.YteoilhbidnnneaaGreatDoor.tree
open Go.ChangeShapes Go.WideShapes Go.ChangeAt Go.RowKit
set_option linter.unusedVariables false

/-- Nothing but blocks of S has changed. -/
structure Fr (S : Nat → Prop) (w w' : World) : Prop where
  os : w'.os = w.os
  tape : w'.tape = w.tape
  output : w'.output = w.output
  size : w.heap.size ≤ w'.heap.size
  block : ∀ b, b < w.heap.size → ¬ S b → w'.heap[b]? = w.heap[b]?
section
variable {S S' : Nat → Prop} {w w' w2 : World}
theorem Fr.refl (S : Nat → Prop) (w : World) : Fr S w w := ⟨rfl, rfl, rfl, Nat.le_refl _, fun _ _ _ => rfl⟩
theorem Fr.of (h : Below w.heap.size w w') : Fr S w w' := ⟨h.os, h.tape, h.output, h.size, fun b hb _ => h.block b hb⟩
theorem Fr.trans (h : Fr S w w') (k : Fr S w' w2) : Fr S w w2 := ⟨k.os.trans h.os, k.tape.trans h.tape, k.output.trans h.output, Nat.le_trans h.size k.size, fun b hb hs => (k.block b (Nat.lt_of_lt_of_le hb h.size) hs).trans (h.block b hb hs)⟩
theorem Fr.mono (h : Fr S w w') (hs : ∀ b, S b → S' b) : Fr S' w w' := ⟨h.os, h.tape, h.output, h.size, fun b hb hn => h.block b hb fun hh => hn (hs b hh)⟩
theorem Fr.below (h : Fr S w w') {lo : Nat} (hl : lo ≤ w.heap.size) (hs : ∀ b, S b → lo ≤ b) : Below lo w w' := ⟨h.os, h.tape, h.output, h.size, fun b hb => h.block b (Nat.lt_of_lt_of_le hb hl) fun hh => by have := hs b hh; omega⟩
theorem Fr.set {g : Nat} (hg : S g) (j : Nat) (v : Value) : Fr S w (w.setCell ⟨g, j, none⟩ v) := ⟨rfl, rfl, rfl, by rw [set_size]; exact Nat.le_refl _, fun b _ hn => set_other (fun e => hn (e ▸ hg))⟩
end

theorem TIn.lt' {w : World} {S : Nat → Prop} {t : Tr} {v : Value} (h : TIn w S t v) : TIn w (fun b => b < w.heap.size) t v := by
  induction h with
  | mk k n s x ks vs A cap C hk hl hm hcap hc ht ih =>
    refine TIn.mk k n s x ks vs A _ C hk hl hm hcap (fun i hi => ?_) ih
    obtain ⟨a, ha, hS, hky, hs, hj⟩ := hc i hi
    refine ⟨a, ha, ?_, hky, hs, hj⟩
    have := World.block_lt_of_cell? _ _ hky.1
    rwa [mem.add_block] at this

end Go.Proofs.YteoilhbidnnneaaGreatDoor.tree

/-
  The other values that are made out of nothing.
  Conditions: those that each theorem names.
-/
namespace Go.Proofs.YteoilhbidnnneaaGreatDoor.tree
open Go.ChangeShapes Go.WideShapes Go.ChangeAt Go.RowKit
set_option linter.unusedVariables false

def boolV (b : Bool) : Value := if b then vV 1 1 ⟨#[]⟩ 0 none 0 0 else vV 1 0 ⟨#[]⟩ 0 none 0 0
theorem boolValue_i (b : Bool) (w : World) : Calls Tryz.prog 33 #[.bool b] w (GivesQ w (boolV b)) := by
  cases b
  · go_enter Tryz.func33, Tryz.ntmps33
    go_wp2
    exact bodyPost_ret (v := vV 1 0 ⟨#[]⟩ 0 none 0 0) (by simp [results, Tryz.results33, go_sem]) rfl ⟨rfl, b1 _ _⟩
  · go_enter Tryz.func33, Tryz.ntmps33
    go_wp2
    exact bodyPost_ret (v := vV 1 1 ⟨#[]⟩ 0 none 0 0) (by simp [results, Tryz.results33, go_sem]) rfl ⟨rfl, b1 _ _⟩
theorem boolValue_s (b : Bool) (w : World) : Calls Tryz.prog 42 #[.bool b] w (GivesQ w (boolV b)) := by
  cases b
  · go_enter Tryz.func42, Tryz.ntmps42
    go_wp2
    exact bodyPost_ret (v := vV 1 0 ⟨#[]⟩ 0 none 0 0) (by simp [results, Tryz.results42, go_sem]) rfl ⟨rfl, b1 _ _⟩
  · go_enter Tryz.func42, Tryz.ntmps42
    go_wp2
    exact bodyPost_ret (v := vV 1 1 ⟨#[]⟩ 0 none 0 0) (by simp [results, Tryz.results42, go_sem]) rfl ⟨rfl, b1 _ _⟩

theorem arrayValue_s (w : World) : Calls Tryz.prog 127 #[] w (GivesQ w (vV 4 0 ⟨#[]⟩ 0 none 0 0)) := by
  go_enter Tryz.func127, Tryz.ntmps127
  go_wp2
  exact bodyPost_ret (v := vV 4 0 ⟨#[]⟩ 0 none 0 0) (by simp [results, Tryz.results127, go_sem]) rfl ⟨rfl, b1 _ _⟩

end Go.Proofs.YteoilhbidnnneaaGreatDoor.tree

/-
  Whether two values are arrays, of the project.
  Conditions: none.
-/
namespace Go.Proofs.YteoilhbidnnneaaGreatDoor.tree
open Go.ChangeShapes Go.WideShapes Go.ChangeAt Go.RowKit
set_option linter.unusedVariables false

theorem areArrays (k n : Int) (s : ByteArray) (x : Int) (A : Option Addr) (L c : Nat) (k' n' : Int) (s' : ByteArray) (x' : Int) (A' : Option Addr) (L' c' : Nat) (w : World) :
    Calls Tryz.prog 30 #[vV k n s x A L c, vV k' n' s' x' A' L' c'] w (GivesQ w (.bool (decide (k = 4) && decide (k' = 4)))) := by
  by_cases h1 : k = 4
  · subst h1
    have e : decide ((4 : Int) = 4) = true := rfl
    rw [e, Bool.true_and]
    go_enter Tryz.func30, Tryz.ntmps30
    go_wp2
    go_ret
    exact ⟨rfl, b2 _ _ _⟩
  · rw [decide_eq_false h1, Bool.false_and]
    go_enter Tryz.func30, Tryz.ntmps30
    go_wp2
    go_ret
    exact ⟨rfl, b2 _ _ _⟩

end Go.Proofs.YteoilhbidnnneaaGreatDoor.tree

/-
  How a slice of bytes that came in is opened, and the last step of every law: a call that returns true and changes nothing that was there meets its row.
  Conditions: those that each theorem names.
-/
namespace Go.Proofs.YteoilhbidnnneaaGreatDoor.opn
open Go.ChangeShapes Go.WideShapes Go.ChangeAt Go.RowKit mem
set_option linter.unusedVariables false

section
variable {H : Type} {enc : TypeId × Value → H} {P : Program}

theorem all_stay (hl : laidOutB P = true) {W W' : World} (hb : Below W.heap.size W W') : ∀ (ts : List TypeId) (vs : List Value) (ds : List (DataW H)) (ps : List MemPlace),
    (∀ t ∈ ts, P.readableRec t = true ∧ t < P.types.size) → (∀ x ∈ ps, x.block < W.heap.size) → DataW.TrodAll enc P W 0 (fun _ => true) true ts vs ds ps →
    DataW.TrodAll enc P W' 0 (fun b => decide (b < W.heap.size)) true ts vs ds ps
  | [], vs, ds, ps, _, _, h => by
    obtain ⟨rfl, rfl, rfl⟩ := trodAll_nil h
    exact trodAll_mk0
  | t :: ts, vs, ds, ps, hr, hlt, h => by
    obtain ⟨v, vs', d, ds', p, q, rfl, rfl, rfl, h0, h1⟩ := trodAll_cons h
    have ht := hr t List.mem_cons_self
    exact trodAll_cons_mk (Below.trod hl ht.1 ht.2 h0 hb (fun x hx => hlt x (List.mem_append_left _ hx)))
      (all_stay hl hb ts vs' ds' q (fun u hu => hr u (List.mem_cons_of_mem _ hu)) (fun x hx => hlt x (List.mem_append_right _ hx)) h1)

/-- A law's post, from what its walk gives. -/
theorem post_true {f : Func} {s : ChangeSpec} {W W' : World} {args : Array Value} {ds : List (DataW H)} {before : List MemPlace} {tb : TypeId}
    (hW : DataW.Whole enc P f.params.toList s.vars false W args.toList ds [] before) (hv : s.vars = []) (hp : DataW.TrodAll enc P W 0 (fun _ => true) true f.params.toList args.toList ds before)
    (hfn : s.fn H (ds ++ []) = { results := [.lit (.bool true)], args := ds }) (hr : f.resultTypes = #[tb]) (htb : P.underlying tb = some .bool)
    (hl : laidOutB P = true) (hrd : f.params.toList.all (fun t => P.readableRec t && decide (t < P.types.size)) = true) (hb : Below W.heap.size W W') :
    s.post enc P f false true false false W args (.bool true) W' := by
  have hst := all_stay (enc := enc) hl hb f.params.toList args.toList ds before (fun t ht => by have := List.all_eq_true.1 hrd t ht; simpa using this) (fun x hx => hW.lt x hx) hp
  refine ⟨ds, [], before, [], before, [], hW, ?_, ?_, ?_, hb.frame _, fun h => by cases h⟩
  · rw [hfn, hr]
    exact trodAll_mk1 (shut_bool htb _)
  · rw [hfn]
    exact hst
  · rw [hfn, hv]
    rfl

theorem wf_u8 {n : Int} (h : (Lit.int .u8 n).wf = true) : 0 ≤ n ∧ n ≤ 255 := by
  have e1 : IntKind.u8.min = 0 := rfl
  have e2 : IntKind.u8.max = 255 := rfl
  simp [Lit.wf, e1, e2] at h
  omega

/-- A slice of bytes that came in. -/
theorem open_bytes {W : World} {base : Nat} {t e : TypeId} {v : Value} {d : DataW H} {ps : List MemPlace} (ht : P.underlying t = some (.slice e)) (he : P.underlying e = some (.int .u8)) (hc : P.cellsOf e = 1)
    (hval : Value.okWide P W .any base t v) (h : DataW.Trod enc P W 0 (fun _ => true) true t v d ps) :
    ∃ (A : Option Addr) (n c : Nat) (l : List Int), v = .slice A n c ∧ n ≤ maxLen ∧ Rd W A n l := by
  obtain ⟨A, n, c, rfl⟩ := okWide_slice ht hval
  obtain ⟨fuel, hf⟩ := h
  rcases open_ints ht he hc hf with ⟨hcs, _⟩ | ⟨a, len, cap, zs, hcs, _, hl, hm, hz, _, hcell, hwz⟩
  · simp [Value.cells] at hcs
    obtain ⟨rfl, rfl, rfl⟩ := hcs
    exact ⟨none, 0, 0, [], rfl, Nat.zero_le _, rfl, (fun _ h => by cases h), fun hn => absurd hn (by omega)⟩
  · simp [Value.cells] at hcs
    obtain ⟨rfl, rfl, rfl⟩ := hcs
    simp only [if_true] at hz
    have hle : n ≤ zs.length := by omega
    refine ⟨some a, n, c, zs.take n, rfl, by omega, by rw [List.length_take]; omega, fun x hx => wf_u8 (hwz x (List.mem_of_mem_take hx)), fun hn => ⟨a, rfl, fun j x hx => ?_⟩⟩
    have hj : j < n := by
      have := (List.getElem?_eq_some_iff.1 hx).1
      rw [List.length_take] at this
      omega
    rw [List.getElem?_take, if_pos hj] at hx
    have hcj := hcell j (by omega)
    rw [hcj]
    simp [List.getD, hx]
end
end Go.Proofs.YteoilhbidnnneaaGreatDoor.opn

/-
  How a value and a key that came in are opened.
  Conditions: those that each theorem names.
-/
namespace Go.Proofs.YteoilhbidnnneaaGreatDoor.opt
open Go.ChangeShapes Go.WideShapes Go.ChangeAt Go.RowKit mem tree
set_option linter.unusedVariables false

section
variable {H : Type} {enc : TypeId × Value → H}

theorem types : Types Tryz.prog LV LE LK 36 where
  value := ⟨_, _, _, _, _, Tryz.underlying38, by kernel_rfl, by kernel_rfl, by kernel_rfl, by kernel_rfl, by kernel_rfl, by kernel_rfl⟩
  items := Tryz.underlying36
  item := ⟨_, _, Tryz.underlying106, by kernel_rfl, by kernel_rfl, by kernel_rfl, by kernel_rfl⟩
  key := ⟨_, _, _, Tryz.underlying104, by kernel_rfl, by kernel_rfl, by kernel_rfl, by kernel_rfl⟩
  cV := by kernel_rfl
  cE := by kernel_rfl
  cK := by kernel_rfl

set_option maxRecDepth 100000 in
theorem open_value {W : World} {base : Nat} {v : Value} {d : DataW H} {ps : List MemPlace} (hval : Value.okWide Tryz.prog W .any base LV v) (h : DataW.Trod enc Tryz.prog W 0 (fun _ => true) true LV v d ps) : ∃ t, TIn W (fun _ => True) t v := by
  obtain ⟨cs, rfl, hsz⟩ := okWide_struct Tryz.underlying38 hval
  obtain ⟨fuel, hf⟩ := h
  exact open_tree types fuel _ _ hf

set_option maxRecDepth 100000 in
theorem open_key {W : World} {base : Nat} {v : Value} {d : DataW H} {ps : List MemPlace} (hval : Value.okWide Tryz.prog W .any base LK v) (h : DataW.Trod enc Tryz.prog W 0 (fun _ => true) true LK v d ps) : ∃ y : Ky, v = kyV y ∧ I64 y.num ∧ y.str.size ≤ maxLen := by
  obtain ⟨cs, rfl, hsz⟩ := okWide_struct Tryz.underlying104 hval
  obtain ⟨fuel, hf⟩ := h
  obtain ⟨y, he, hn, hs⟩ := tree.open_key types hf
  refine ⟨y, ?_, hn, hs⟩
  unfold kyV
  congr 1
  apply Array.ext'
  simpa [Value.cells] using he
end

end Go.Proofs.YteoilhbidnnneaaGreatDoor.opt

/-
  The last step of a law whose row says that package variables of the project read as they did.
  Conditions: those that each theorem names.
-/
namespace Go.Proofs.YteoilhbidnnneaaGreatDoor.opn
open Go.ChangeShapes Go.WideShapes Go.ChangeAt Go.RowKit mem
set_option linter.unusedVariables false

section
variable {H : Type} {enc : TypeId × Value → H} {P : Program}

theorem vars_stay (hl : laidOutB P = true) {W W' : World} (hb : Below W.heap.size W W') : ∀ (ns : List String) (gs : List (DataW H)) (ps : List MemPlace),
    (∀ n ∈ ns, ∀ g t, P.globalNamed n = some g → (P.globals[g]?).map (·.type) = some t → P.readableRec t = true ∧ t < P.types.size) → (∀ x ∈ ps, x.block < W.heap.size) → DataW.TrodVars enc P W (fun _ => true) ns gs ps →
    DataW.TrodVars enc P W' (fun b => decide (b < W.heap.size)) ns gs ps
  | [], [], _, _, _, h => h
  | [], _ :: _, _, _, _, h => by cases h
  | _ :: _, [], _, _, _, h => by cases h
  | n :: ns, d :: ds, ps, hr, hlt, ⟨g, t, cs, fuel, p, q, h1, h2, h3, h4, hs, e⟩ => by
    obtain ⟨r1, r2⟩ := hr n List.mem_cons_self g t h1 h2
    have hT : DataW.Trod enc P W 0 (fun _ => true) true t (.agg cs) d p := ⟨fuel, h4⟩
    obtain ⟨fuel', h5⟩ := Below.trod hl r1 r2 hT hb (fun x hx => hlt x (by rw [e]; exact List.mem_append_left _ (List.mem_append_right _ hx)))
    exact ⟨g, t, cs, fuel', p, q, h1, h2, Joins.var_stays h1 h3 hb (Nat.le_refl _), h5, vars_stay hl hb ns ds q (fun m hm => hr m (List.mem_cons_of_mem _ hm)) (fun x hx => hlt x (by rw [e]; exact List.mem_append_right _ hx)) hs, e⟩

/-- A law's post, from what its walk gives; its row names package variables. -/
theorem post_true_vars {f : Func} {s : ChangeSpec} {W W' : World} {args : Array Value} {ds gs : List (DataW H)} {p q : List MemPlace} {tb : TypeId}
    (hW : DataW.Whole enc P f.params.toList s.vars false W args.toList ds gs (p ++ q)) (hp : DataW.TrodAll enc P W 0 (fun _ => true) true f.params.toList args.toList ds p) (hq : DataW.TrodVars enc P W (fun _ => true) s.vars gs q)
    (hfn : s.fn H (ds ++ gs) = { results := [.lit (.bool true)], args := ds, vars := gs }) (hr : f.resultTypes = #[tb]) (htb : P.underlying tb = some .bool)
    (hl : laidOutB P = true) (hrd : f.params.toList.all (fun t => P.readableRec t && decide (t < P.types.size)) = true)
    (hrv : s.vars.all (fun n => match P.globalNamed n with | none => true | some g => match (P.globals[g]?).map (·.type) with | none => true | some t => P.readableRec t && decide (t < P.types.size)) = true) (hb : Below W.heap.size W W') :
    s.post enc P f false true false false W args (.bool true) W' := by
  have hst := all_stay (enc := enc) hl hb f.params.toList args.toList ds p (fun t ht => by have := List.all_eq_true.1 hrd t ht; simpa using this) (fun x hx => hW.lt x (List.mem_append_left _ hx)) hp
  have hsv := vars_stay (enc := enc) hl hb s.vars gs q (fun n hn g t h1 h2 => by
    have := List.all_eq_true.1 hrv n hn
    rw [h1] at this
    simp only [h2] at this
    simpa using this) (fun x hx => hW.lt x (List.mem_append_right _ hx)) hq
  refine ⟨ds, gs, p ++ q, [], p, q, hW, ?_, ?_, ?_, hb.frame _, fun h => by cases h⟩
  · rw [hfn, hr]
    exact trodAll_mk1 (shut_bool htb _)
  · rw [hfn]
    exact hst
  · rw [hfn]
    exact hsv

end
end Go.Proofs.YteoilhbidnnneaaGreatDoor.opn

/-
  The last step of a law whose row names package variables that read as they did, each shown by itself.
  Conditions: those that the theorem names.
-/
namespace Go.Proofs.YteoilhbidnnneaaGreatDoor.opn
open Go.ChangeShapes Go.WideShapes Go.ChangeAt Go.RowKit mem
set_option linter.unusedVariables false

theorem post_true_vars2 {H : Type} {enc : TypeId × Value → H} {P : Program} {f : Func} {s : ChangeSpec} {W W' : World} {args : Array Value} {ds gs : List (DataW H)} {p q : List MemPlace} {tb : TypeId}
    (hW : DataW.Whole enc P f.params.toList s.vars false W args.toList ds gs (p ++ q)) (hp : DataW.TrodAll enc P W 0 (fun _ => true) true f.params.toList args.toList ds p)
    (hfn : s.fn H (ds ++ gs) = { results := [.lit (.bool true)], args := ds, vars := gs }) (hr : f.resultTypes = #[tb]) (htb : P.underlying tb = some .bool)
    (hl : laidOutB P = true) (hrd : f.params.toList.all (fun t => P.readableRec t && decide (t < P.types.size)) = true) (hb : Below W.heap.size W W')
    (hsv : DataW.TrodVars enc P W' (fun b => decide (b < W.heap.size)) s.vars gs q) :
    s.post enc P f false true false false W args (.bool true) W' := by
  have hst := all_stay (enc := enc) hl hb f.params.toList args.toList ds p (fun t ht => by have := List.all_eq_true.1 hrd t ht; simpa using this) (fun x hx => hW.lt x (List.mem_append_left _ hx)) hp
  refine ⟨ds, gs, p ++ q, [], p, q, hW, ?_, ?_, ?_, hb.frame _, fun h => by cases h⟩
  · rw [hfn, hr]
    exact trodAll_mk1 (shut_bool htb _)
  · rw [hfn]
    exact hst
  · rw [hfn]
    exact hsv

end Go.Proofs.YteoilhbidnnneaaGreatDoor.opn

