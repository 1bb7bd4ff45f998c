/-
  The model's reading of the digits at the beginning of a text: l8Scan, LeadingInt and IsNumeric; and the project's IsNumeric.
  Conditions: the text has at most 2^40 bytes.
-/
import Derived.Test.YtlbkbcafkjgckaaDoorLeadI
namespace Go.Proofs.YtlbkbcafkjgckaaDoor.lead
open Go.ChangeShapes Go.WideShapes Go.ChangeAt Go.RowKit
set_option linter.unusedVariables false

theorem sMin (a b : Int) (w : World) : Calls Tryd.prog 34 #[.int .i64 a, .int .i64 b] w fun e w' => e = .returned (.int .i64 (nums.mn a b)) ∧ w = w' := by
  by_cases h : b < a
  all_goals
    go_enter Tryd.func34, Tryd.ntmps34
    go_wp2
    go_ret
    exact ⟨nums.ret_int (by unfold nums.mn; split <;> omega), rfl⟩
theorem sMax (a b : Int) (w : World) : Calls Tryd.prog 33 #[.int .i64 a, .int .i64 b] w fun e w' => e = .returned (.int .i64 (nums.mx a b)) ∧ w = w' := by
  by_cases h : a < b
  all_goals
    go_enter Tryd.func33, Tryd.ntmps33
    go_wp2
    go_ret
    exact ⟨nums.ret_int (by unfold nums.mx; split <;> omega), rfl⟩

def ScQ (s : ByteArray) (w : World) (e : Ending) (w' : World) : Prop := e = .returned (.tuple #[.int .i64 (scn s).1, .int .i64 ((scn s).2 : Int)]) ∧ Below w.heap.size w w'

theorem nn_of {b : UInt8} (h : (b == 45) = false) : ((b.toNat : Int) == 45) = false := by
  rw [beq_eq_false_iff_ne] at h ⊢
  intro e
  apply h
  apply UInt8.toNat_inj.1
  have : (45 : UInt8).toNat = 45 := rfl
  omega

set_option maxHeartbeats 1000000 in
theorem l8Scan (s : ByteArray) (hs : s.size ≤ 1099511627776) (w : World) : Calls Tryd.prog 131 #[.string s] w (ScQ s w) := by
  obtain ⟨o, HO⟩ : ∃ o, Hid (off s = o) := ⟨_, Lib.hid rfl⟩
  have ST := At.start s o
  have hos : o ≤ s.size := by rw [← HO.out]; exact off_le s
  have hR : mg 0 (ld (s.data.toList.drop o)) = mag s := by unfold mag digs; rw [HO.out]
  rw [hR] at ST
  obtain ⟨K, HK⟩ : ∃ K, Hid (o + (ld (s.data.toList.drop o)).length = K) := ⟨_, Lib.hid rfl⟩
  rw [HK.out] at ST
  have hd : digs s = ld (s.data.toList.drop o) := by unfold digs; rw [HO.out]
  have hm := mag_le s
  obtain ⟨R, HR⟩ : ∃ R, Hid (mag s = R) := ⟨_, Lib.hid rfl⟩
  rw [HR.out] at ST hm
  -- what the scan gives
  have HN : Hid (K = o → scn s = (0, 0)) := Lib.hid fun h => by unfold scn; rw [if_pos (by rw [hd]; have := HK.out; omega)]
  have HP : Hid (K ≠ o → neg s = true → scn s = (-(R : Int), K)) := Lib.hid fun h hn => by
    have ho : o = 1 := by rw [← HO.out]; unfold off; rw [if_pos hn]
    unfold scn
    rw [if_neg (by rw [hd]; have := HK.out; omega), if_pos hn, HR.out, hd]
    have := HK.out
    exact Prod.ext rfl (by show 1 + _ = K; omega)
  have HQ : Hid (K ≠ o → neg s = false → scn s = ((R : Int), K)) := Lib.hid fun h hn => by
    have ho : o = 0 := by rw [← HO.out]; unfold off; rw [if_neg (by rw [hn]; simp)]
    unfold scn
    rw [if_neg (by rw [hd]; have := HK.out; omega), if_neg (by rw [hn]; simp), HR.out, hd]
    have := HK.out
    exact Prod.ext rfl (by show _ = K; omega)
  have HST := Lib.hid ST
  clear ST hR hd HR HK
  by_cases h0 : 0 < s.size
  · have hb0 : (0 : Int) ≤ (s[0].toNat : Int) := by omega
    have hb9 : (s[0].toNat : Int) ≤ 255 := by have := s[0].toNat_lt; omega
    have hna := neg_at h0
    cases hng : neg s with
    | true =>
      have h45 : (s[0].toNat : Int) = 45 := by
        rw [hng] at hna
        have : s[0] = 45 := by simpa using hna.symm
        rw [this]; rfl
      obtain rfl : o = 1 := by rw [← HO.out]; unfold off; rw [if_pos hng]
      have H2 := Lib.hid (fun h => HP.out h hng)
      clear hna hng HP HQ HO
      go_enter Tryd.func131, Tryd.ntmps131
      go_wp2
      go_loop [5, 6] (fun m i => ∃ (k n : Nat) (x : Int), k ≤ s.size ∧ i = .int .i64 k ∧ At s k n R K ∧ 0 ≤ x ∧ x ≤ 1000000001 ∧ Hid (x = (n : Int)) ∧ m = .int .i64 x) (fun _ i => s.size - (RowKit.intOf i).toNat)
      case atStart => exact ⟨1, 0, 0, by omega, rfl, HST.out, by omega, by omega, rfl, rfl⟩
      case round =>
        clear HST
        obtain ⟨k, n, x, hk, rfl, hA, x0, x1, HX, rfl⟩ := hrel
        by_cases hlt : k < s.size
        · have kb0 : (0 : Int) ≤ (s[k].toNat : Int) := by omega
          have kb9 : (s[k].toNat : Int) ≤ 255 := by have := s[k].toNat_lt; omega
          by_cases hd : dg s[k] = true
          · have HA := Lib.hid (hA.step hlt hd)
            have hd' := dg_iff.1 hd
            obtain ⟨d1, d2⟩ := hd'
            have D1 : (48 : Int) ≤ (s[k].toNat : Int) := by omega
            have D2 : (s[k].toNat : Int) ≤ 57 := by omega
            have HIN : Hid (nums.inr (s[k].toNat : Int) 48 57 = true) := Lib.hid (by unfold nums.inr; simp; omega)
            clear hA hd
            go_wp2_with (first | (go_at_call 61; refine (nums.l1In _ _ _ _).mono ?_; rintro e w1 ⟨rfl, rfl⟩; rw [HIN.out]) | (go_at_call 34; refine (sMin _ _ _).mono ?_; rintro e w1 ⟨rfl, rfl⟩))
            all_goals (refine ⟨⟨k + 1, _, _, by omega, by go_num, HA.out, ?_, ?_, ?_, rfl⟩, by simp only [RowKit.intOf]; omega⟩ <;> first | (unfold nums.mn; split <;> omega) | (have := HX.out; show _ = _; unfold nums.mn; split <;> omega))
          · have hd' : dg s[k] = false := by simpa using hd
            have hd2 := dg_no.1 hd'
            have HIN : Hid (nums.inr (s[k].toNat : Int) 48 57 = false) := Lib.hid (by unfold nums.inr; simp; omega)
            obtain ⟨rfl, rfl⟩ := hA.stop hlt hd'
            clear hA hd hd' hd2
            by_cases hko : k = 1
            · subst hko
              have HV := Lib.hid (HN.out rfl)
              clear HN H2 HX
              go_wp2_with (go_at_call 61; refine (nums.l1In _ _ _ _).mono ?_; rintro e w1 ⟨rfl, rfl⟩; rw [HIN.out])
              all_goals (go_ret2; exact ⟨by rw [HV.out] <;> rfl, Below.refl _ _⟩)
            · have HV := Lib.hid (H2.out hko)
              have hx := HX.out
              subst hx
              have hko2 : ¬ (k : Int) = 1 := by omega
              have hko3 : ((k : Int) == 1) = false := by rw [beq_eq_false_iff_ne]; exact hko2
              clear HN H2 HX hko
              go_wp2_with (go_at_call 61; refine (nums.l1In _ _ _ _).mono ?_; rintro e w1 ⟨rfl, rfl⟩; rw [HIN.out])
              all_goals (go_ret2; exact ⟨by rw [HV.out] <;> rfl, Below.refl _ _⟩)
        · obtain ⟨rfl, rfl⟩ := hA.fin (by omega)
          clear hA
          by_cases hko : k = 1
          · subst hko
            have HV := Lib.hid (HN.out rfl)
            clear HN H2 HX
            go_wp2
            all_goals (go_ret2; exact ⟨by rw [HV.out] <;> rfl, Below.refl _ _⟩)
          · have HV := Lib.hid (H2.out hko)
            have hx := HX.out
            subst hx
            have hko2 : ¬ (k : Int) = 1 := by omega
            have hko3 : ((k : Int) == 1) = false := by rw [beq_eq_false_iff_ne]; exact hko2
            clear HN H2 HX hko
            go_wp2
            all_goals (go_ret2; exact ⟨by rw [HV.out] <;> rfl, Below.refl _ _⟩)
    | false =>
      have h45 : ((s[0].toNat : Int) == 45) = false := by
        rw [hng] at hna
        exact nn_of hna.symm
      obtain rfl : o = 0 := by rw [← HO.out]; unfold off; rw [if_neg (by rw [hng]; simp)]
      have H2 := Lib.hid (fun h => HQ.out h hng)
      clear hna hng HP HQ HO
      go_enter Tryd.func131, Tryd.ntmps131
      go_wp2
      go_loop [5, 6] (fun m i => ∃ (k n : Nat) (x : Int), k ≤ s.size ∧ i = .int .i64 k ∧ At s k n R K ∧ 0 ≤ x ∧ x ≤ 1000000001 ∧ Hid (x = (n : Int)) ∧ m = .int .i64 x) (fun _ i => s.size - (RowKit.intOf i).toNat)
      case atStart => exact ⟨0, 0, 0, by omega, rfl, HST.out, by omega, by omega, rfl, rfl⟩
      case round =>
        clear HST
        obtain ⟨k, n, x, hk, rfl, hA, x0, x1, HX, rfl⟩ := hrel
        by_cases hlt : k < s.size
        · have kb0 : (0 : Int) ≤ (s[k].toNat : Int) := by omega
          have kb9 : (s[k].toNat : Int) ≤ 255 := by have := s[k].toNat_lt; omega
          by_cases hd : dg s[k] = true
          · have HA := Lib.hid (hA.step hlt hd)
            have hd' := dg_iff.1 hd
            obtain ⟨d1, d2⟩ := hd'
            have D1 : (48 : Int) ≤ (s[k].toNat : Int) := by omega
            have D2 : (s[k].toNat : Int) ≤ 57 := by omega
            have HIN : Hid (nums.inr (s[k].toNat : Int) 48 57 = true) := Lib.hid (by unfold nums.inr; simp; omega)
            clear hA hd
            go_wp2_with (first | (go_at_call 61; refine (nums.l1In _ _ _ _).mono ?_; rintro e w1 ⟨rfl, rfl⟩; rw [HIN.out]) | (go_at_call 34; refine (sMin _ _ _).mono ?_; rintro e w1 ⟨rfl, rfl⟩))
            all_goals (refine ⟨⟨k + 1, _, _, by omega, by go_num, HA.out, ?_, ?_, ?_, rfl⟩, by simp only [RowKit.intOf]; omega⟩ <;> first | (unfold nums.mn; split <;> omega) | (have := HX.out; show _ = _; unfold nums.mn; split <;> omega))
          · have hd' : dg s[k] = false := by simpa using hd
            have hd2 := dg_no.1 hd'
            have HIN : Hid (nums.inr (s[k].toNat : Int) 48 57 = false) := Lib.hid (by unfold nums.inr; simp; omega)
            obtain ⟨rfl, rfl⟩ := hA.stop hlt hd'
            clear hA hd hd' hd2
            by_cases hko : k = 0
            · subst hko
              have HV := Lib.hid (HN.out rfl)
              clear HN H2 HX
              go_wp2_with (go_at_call 61; refine (nums.l1In _ _ _ _).mono ?_; rintro e w1 ⟨rfl, rfl⟩; rw [HIN.out])
              all_goals (go_ret2; exact ⟨by rw [HV.out] <;> rfl, Below.refl _ _⟩)
            · have HV := Lib.hid (H2.out hko)
              have hx := HX.out
              subst hx
              have hko2 : ¬ (k : Int) = 0 := by omega
              have hko3 : ((k : Int) == 0) = false := by rw [beq_eq_false_iff_ne]; exact hko2
              clear HN H2 HX hko
              go_wp2_with (go_at_call 61; refine (nums.l1In _ _ _ _).mono ?_; rintro e w1 ⟨rfl, rfl⟩; rw [HIN.out])
              all_goals (go_ret2; exact ⟨by rw [HV.out] <;> rfl, Below.refl _ _⟩)
        · obtain ⟨rfl, rfl⟩ := hA.fin (by omega)
          clear hA
          by_cases hko : k = 0
          · subst hko
            have HV := Lib.hid (HN.out rfl)
            clear HN H2 HX
            go_wp2
            all_goals (go_ret2; exact ⟨by rw [HV.out] <;> rfl, Below.refl _ _⟩)
          · have HV := Lib.hid (H2.out hko)
            have hx := HX.out
            subst hx
            have hko2 : ¬ (k : Int) = 0 := by omega
            have hko3 : ((k : Int) == 0) = false := by rw [beq_eq_false_iff_ne]; exact hko2
            clear HN H2 HX hko
            go_wp2
            all_goals (go_ret2; exact ⟨by rw [HV.out] <;> rfl, Below.refl _ _⟩)
  · have hng : neg s = false := by
      cases h : neg s
      · rfl
      · exact absurd (neg_lt h) h0
    have hz : s.size = 0 := by omega
    obtain rfl : o = 0 := by rw [← HO.out]; unfold off; rw [if_neg (by rw [hng]; simp)]
    have H2 := Lib.hid (fun h => HQ.out h hng)
    clear hng HP HQ HO
    go_enter Tryd.func131, Tryd.ntmps131
    go_wp2
    go_loop [5, 6] (fun m i => ∃ (k n : Nat) (x : Int), k ≤ s.size ∧ i = .int .i64 k ∧ At s k n R K ∧ 0 ≤ x ∧ x ≤ 1000000001 ∧ Hid (x = (n : Int)) ∧ m = .int .i64 x) (fun _ i => s.size - (RowKit.intOf i).toNat)
    case atStart => exact ⟨0, 0, 0, by omega, rfl, HST.out, by omega, by omega, rfl, rfl⟩
    case round =>
      clear HST
      obtain ⟨k, n, x, hk, rfl, hA, x0, x1, HX, rfl⟩ := hrel
      by_cases hlt : k < s.size
      · have kb0 : (0 : Int) ≤ (s[k].toNat : Int) := by omega
        have kb9 : (s[k].toNat : Int) ≤ 255 := by have := s[k].toNat_lt; omega
        by_cases hd : dg s[k] = true
        · have HA := Lib.hid (hA.step hlt hd)
          have hd' := dg_iff.1 hd
          obtain ⟨d1, d2⟩ := hd'
          have D1 : (48 : Int) ≤ (s[k].toNat : Int) := by omega
          have D2 : (s[k].toNat : Int) ≤ 57 := by omega
          have HIN : Hid (nums.inr (s[k].toNat : Int) 48 57 = true) := Lib.hid (by unfold nums.inr; simp; omega)
          clear hA hd
          go_wp2_with (first | (go_at_call 61; refine (nums.l1In _ _ _ _).mono ?_; rintro e w1 ⟨rfl, rfl⟩; rw [HIN.out]) | (go_at_call 34; refine (sMin _ _ _).mono ?_; rintro e w1 ⟨rfl, rfl⟩))
          all_goals (refine ⟨⟨k + 1, _, _, by omega, by go_num, HA.out, ?_, ?_, ?_, rfl⟩, by simp only [RowKit.intOf]; omega⟩ <;> first | (unfold nums.mn; split <;> omega) | (have := HX.out; show _ = _; unfold nums.mn; split <;> omega))
        · have hd' : dg s[k] = false := by simpa using hd
          have hd2 := dg_no.1 hd'
          have HIN : Hid (nums.inr (s[k].toNat : Int) 48 57 = false) := Lib.hid (by unfold nums.inr; simp; omega)
          obtain ⟨rfl, rfl⟩ := hA.stop hlt hd'
          clear hA hd hd' hd2
          by_cases hko : k = 0
          · subst hko
            have HV := Lib.hid (HN.out rfl)
            clear HN H2 HX
            go_wp2_with (go_at_call 61; refine (nums.l1In _ _ _ _).mono ?_; rintro e w1 ⟨rfl, rfl⟩; rw [HIN.out])
            all_goals (go_ret2; exact ⟨by rw [HV.out] <;> rfl, Below.refl _ _⟩)
          · have HV := Lib.hid (H2.out hko)
            have hx := HX.out
            subst hx
            have hko2 : ¬ (k : Int) = 0 := by omega
            have hko3 : ((k : Int) == 0) = false := by rw [beq_eq_false_iff_ne]; exact hko2
            clear HN H2 HX hko
            go_wp2_with (go_at_call 61; refine (nums.l1In _ _ _ _).mono ?_; rintro e w1 ⟨rfl, rfl⟩; rw [HIN.out])
            all_goals (go_ret2; exact ⟨by rw [HV.out] <;> rfl, Below.refl _ _⟩)
      · obtain ⟨rfl, rfl⟩ := hA.fin (by omega)
        clear hA
        by_cases hko : k = 0
        · subst hko
          have HV := Lib.hid (HN.out rfl)
          clear HN H2 HX
          go_wp2
          all_goals (go_ret2; exact ⟨by rw [HV.out] <;> rfl, Below.refl _ _⟩)
        · have HV := Lib.hid (H2.out hko)
          have hx := HX.out
          subst hx
          have hko2 : ¬ (k : Int) = 0 := by omega
          have hko3 : ((k : Int) == 0) = false := by rw [beq_eq_false_iff_ne]; exact hko2
          clear HN H2 HX hko
          go_wp2
          all_goals (go_ret2; exact ⟨by rw [HV.out] <;> rfl, Below.refl _ _⟩)

end Go.Proofs.YtlbkbcafkjgckaaDoor.lead
