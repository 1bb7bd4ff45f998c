/-
  LeadingInt of the model, IsNumeric of both sides.
  Conditions: the text has at most 2^40 bytes.
-/
import Derived.Test.YtlbkbcafkjgckaaLeadS
namespace Go.Proofs.Ytlbkbcafkjgckaa.lead
open Go.ChangeShapes Go.WideShapes Go.ChangeAt Go.RowKit
set_option linter.unusedVariables false

theorem leadingInt_s (s : ByteArray) (hs : s.size ≤ 1099511627776) (w : World) : Calls Try.prog 25 #[.string s] w fun e w' => e = .returned (.int .i64 (li s)) ∧ Below w.heap.size w w' := by
  have SC := l8Scan s hs
  have hb := scn_le s
  have hl := li_scn s
  have ht := scn_take s
  unfold ScQ at SC
  obtain ⟨⟨n, k⟩, HX⟩ : ∃ x, Hid (scn s = x) := ⟨_, Lib.hid rfl⟩
  rw [HX.out] at SC hb hl ht
  obtain ⟨hb0, hb1⟩ := hb
  simp only at SC hb0 hb1 ht
  have HSC := Lib.hid SC
  have HL := Lib.hid hl
  have HT : Hid (k ≤ s.size) := Lib.hid ht
  rw [HL.out]
  clear SC hl HX HL ht
  go_enter Try.func25, Try.ntmps25
  go_wp2_with (fail)
  refine (HSC.out _).mono ?_
  rintro e w1 ⟨rfl, hB1⟩
  have HB1 := Lib.hid hB1
  clear hB1
  go_wp2_with (fail)
  refine (sMin _ _ _).mono ?_
  rintro e w2 ⟨rfl, rfl⟩
  go_wp2_with (fail)
  refine (sMax _ _ _).mono ?_
  rintro e w3 ⟨rfl, rfl⟩
  have hm : nums.mx (-1000000000) (nums.mn 1000000000 n) = max (-1000000000) (min 1000000000 n) := by unfold nums.mx nums.mn; split <;> split <;> omega
  rw [hm]
  clear hm
  go_wp2_with (fail)
  go_ret
  exact ⟨rfl, HB1.out⟩

theorem bytes_ne {a b : ByteArray} (h : a ≠ b) : (a.toList == b.toList) = false := by
  rw [beq_eq_false_iff_ne]
  intro hh
  exact h (by rw [ByteArray.toList_eq, ByteArray.toList_eq] at hh; exact Go.WideShapes.bytes_inj hh)



end Go.Proofs.Ytlbkbcafkjgckaa.lead
