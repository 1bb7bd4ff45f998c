/-
  The project's lexer: readInline.
  Conditions: the source has at most 4000 bytes; the library's variable of the greatest length holds some number.
-/
import Derived.Test.YtakdbfifbkngnaaGreatDoorLaSLxC
namespace Go.Proofs.YtakdbfifbkngnaaGreatDoor.lex
open Go.ChangeShapes Go.WideShapes Go.ChangeAt Go.RowKit
set_option linter.unusedVariables false

def InQ (w0 : World) (s : ByteArray) (p : Nat) (e : Ending) (w' : World) : Prop :=
  ∃ p2 out2, e = .returned (.tuple #[]) ∧ St w0.heap.size s p2 out2 w' ∧ Mid s.data.toList true p2 out2 ∧ p < p2 ∧ Below w0.heap.size w0 w'

set_option maxHeartbeats 4000000 in
set_option maxRecDepth 100000 in
theorem readInline (w0 : World) (hM : MaxL w0) (s : ByteArray) (p : Nat) (out : List Tk) (hs : s.size ≤ 4000) (hp : p < s.size) (w : World) (hb0 : Below w0.heap.size w0 w) (h : St w0.heap.size s p out w) (hm : Mid s.data.toList false p out) :
    Calls Tryz.prog 32 #[.pointer (some ⟨w0.heap.size, 0, none⟩)] w (InQ w0 s p) := by
  obtain ⟨L, HL⟩ : ∃ L, Hid (s.data.toList = L) := ⟨_, Lib.hid rfl⟩
  have hlen : L.length = s.size := by rw [← HL.out, lead.size_eq]
  rw [HL.out] at hm
  have hso := hm.so (by omega)
  have hol := hso.1
  obtain ⟨x, hx⟩ : ∃ x, s.extract p s.size = x := ⟨_, rfl⟩
  have hxl : x.data.toList = L.drop p := by rw [← hx, tail_list, HL.out]
  have hxs : x.size = s.size - p := by rw [← hx, ByteArray.size_extract]; omega
  obtain ⟨k, hk⟩ : ∃ k, upto [60, 63] (L.drop p) = k := ⟨_, rfl⟩
  have hkl := upto_le [60, 63] (L.drop p)
  rw [hk, List.length_drop, hlen] at hkl
  have CU := cut_i 60 [63] x (by omega)
  rw [hxl, hk, List.length_drop, hlen] at CU
  obtain ⟨T, hT⟩ : ∃ T, tx ((L.drop p).take k) = T := ⟨_, rfl⟩
  have hTs : T.size = k := by rw [← hT, tx_size, List.length_take, List.length_drop, hlen]; omega
  rw [hT] at CU
  have HX := Lib.hid hx
  have HS := Lib.hid h
  have HM := Lib.hid hM
  have HB0 := Lib.hid hb0
  have HSO := Lib.hid hso
  have HLT := Lib.hid h.lt
  have HK := Lib.hid hk
  have HT := Lib.hid hT
  have HLE := Lib.hid hlen
  have HTK : Hid (k ≠ 0 → inlT k p (L.drop p) = [⟨1, 0, T, p⟩]) := Lib.hid (fun h => by unfold inlT; rw [if_neg h, hT])
  have HT0 : Hid (k = 0 → inlT k p (L.drop p) = []) := Lib.hid (fun h => by unfold inlT; rw [if_pos h])
  by_cases hf : p + k < s.size
  · have hdc : decide (k < s.size - p) = true := by simp; omega
    rw [hdc] at CU
    have HCU := Lib.hid CU
    obtain ⟨y, hy⟩ : ∃ y, s.extract (p + k) s.size = y := ⟨_, rfl⟩
    have hyl : y.data.toList = L.drop (p + k) := by rw [← hy, tail_list, HL.out]
    have hpre := upto_at [60, 63] (L.drop p) (by rw [hk, List.length_drop, hlen]; omega)
    rw [hk, List.drop_drop] at hpre
    have hp2 := pre_len hpre
    rw [List.length_drop, hlen] at hp2
    simp only [List.length_cons, List.length_nil] at hp2
    have HY := Lib.hid hy
    obtain ⟨b, HBb⟩ : ∃ b, Hid (Lib.hasPrefix y.data.toList [60, 63, 61] = b) := ⟨_, Lib.hid rfl⟩
    have HBP : Hid ([60, 63, 61].isPrefixOf (L.drop (p + k)) = b) := Lib.hid (by rw [← HBb.out, hyl]; rfl)
    cases b
    · have HST := Lib.hid (stp_tag hk (by rw [hlen]; exact hf) HBP.out)
      clear hx hxl hk hT CU hy hyl hpre hm hso h hM hb0 hdc hlen
      by_cases hk0 : k = 0
      · have HI := Lib.hid (HT0.out hk0)
        obtain rfl : T = ⟨#[]⟩ := empty_is (by omega)
        subst hk0
        go_enter Tryz.func32, Tryz.ntmps32
        go_wp2_with (fail)
        refine (rest w0.heap.size s p out (by omega) (by omega) _ HS.out).mono ?_
        rintro e w1 ⟨he, hb⟩
        rw [HX.out] at he
        subst he
        have HS1 := Lib.hid (HS.out.below hb)
        have HB1 := Lib.hid (HB0.out.trans (hb.mono (HB0.out.size)))
        clear hb
        go_wp2_with (fail)
        refine (HCU.out _ (HM.out.stays HB1.out)).mono ?_
        rintro e w2 ⟨⟨r, rfl⟩, hb⟩
        have HS2 := Lib.hid (HS1.out.below hb)
        have HB2 := Lib.hid (HB1.out.trans (hb.mono HB1.out.size))
        clear hb
        go_wp2_with (fail)
        refine (rest w0.heap.size s (p) out (by omega) (by omega) _ HS2.out).mono ?_
        rintro e w4 ⟨he, hb⟩
        rw [show s.extract p s.size = s.extract (p + 0) s.size from rfl, HY.out] at he
        subst he
        have hst4 := HS2.out.below hb
        have HS4 := Lib.hid hst4
        have HB4 := Lib.hid (HB2.out.trans (hb.mono HB2.out.size))
        obtain ⟨v, hv, -⟩ := hst4
        obtain ⟨rr, ff⟩ := rowc hv
        have c1 := rr 1
        have f1 := ff 1
        simp only [List.getElem?_toArray, List.getElem?_cons_zero, List.getElem?_cons_succ] at c1
        clear hv rr ff hb
        go_wp2_with (go_at_call 65; refine (Tryz.strings_HasPrefix y ⟨#[60, 63, 61]⟩ _).mono ?_; rintro e w5 ⟨he, rfl⟩; obtain rfl : e = .returned (.bool _) := he.trans (congrArg (fun b => Ending.returned (.bool b)) HBb.out); clear he)
        go_end0
        have hs2 := HSO.out.step (by rw [HLE.out]; omega) HST.out (by have := (inlT_len 0 p (L.drop p)).2; omega)
        rw [HI.out, List.append_nil] at hs2
        refine ⟨p + 0 + 2, _, rfl, ?_, by rw [HL.out]; exact Mid.of hs2 (by rw [HLE.out]; omega), by omega, HB4.out.setCell (p := ⟨w0.heap.size, 1, none⟩) (Nat.le_refl _) _⟩
        have := HS4.out.move (p + 0 + 2)
        simpa using this
      · have HI := Lib.hid (HTK.out hk0)
        have hne := isEmpty_no (t := T) (by omega)
        go_enter Tryz.func32, Tryz.ntmps32
        go_wp2_with (fail)
        refine (rest w0.heap.size s p out (by omega) (by omega) _ HS.out).mono ?_
        rintro e w1 ⟨he, hb⟩
        rw [HX.out] at he
        subst he
        have HS1 := Lib.hid (HS.out.below hb)
        have HB1 := Lib.hid (HB0.out.trans (hb.mono (HB0.out.size)))
        clear hb
        go_wp2_with (fail)
        refine (HCU.out _ (HM.out.stays HB1.out)).mono ?_
        rintro e w2 ⟨⟨r, rfl⟩, hb⟩
        have HS2 := Lib.hid (HS1.out.below hb)
        have HB2 := Lib.hid (HB1.out.trans (hb.mono HB1.out.size))
        clear hb
        go_wp2_with (fail)
        refine (add w0.heap.size s p out 1 0 T 0 k (by omega) (by omega) (by omega) (by omega) _ HS2.out).mono ?_
        rintro e w3 ⟨rfl, hst, hb⟩
        have HS3 := Lib.hid hst
        have HB3 := Lib.hid (HB2.out.trans hb)
        clear hst hb
        go_wp2_with (fail)
        refine (rest w0.heap.size s (p + k) (out ++ [⟨1, 0, T, p⟩]) (by omega) (by omega) _ HS3.out).mono ?_
        rintro e w4 ⟨he, hb⟩
        rw [HY.out] at he
        subst he
        have hst4 := HS3.out.below hb
        have HS4 := Lib.hid hst4
        have HB4 := Lib.hid (HB3.out.trans (hb.mono HB3.out.size))
        obtain ⟨v, hv, -⟩ := hst4
        obtain ⟨rr, ff⟩ := rowc hv
        have c1 := rr 1
        have f1 := ff 1
        simp only [List.getElem?_toArray, List.getElem?_cons_zero, List.getElem?_cons_succ] at c1
        clear hv rr ff hb
        go_wp2_with (go_at_call 65; refine (Tryz.strings_HasPrefix y ⟨#[60, 63, 61]⟩ _).mono ?_; rintro e w5 ⟨he, rfl⟩; obtain rfl : e = .returned (.bool _) := he.trans (congrArg (fun b => Ending.returned (.bool b)) HBb.out); clear he)
        go_end0
        have hs2 := HSO.out.step (by rw [HLE.out]; omega) HST.out (by have := (inlT_len k p (L.drop p)).2; omega)
        rw [HI.out] at hs2
        refine ⟨p + k + 2, _, rfl, ?_, by rw [HL.out]; exact Mid.of hs2 (by rw [HLE.out]; omega), by omega, HB4.out.setCell (p := ⟨w0.heap.size, 1, none⟩) (Nat.le_refl _) _⟩
        have := HS4.out.move (p + k + 2)
        simpa using this
    · have HST := Lib.hid (stp_echo hk (by rw [hlen]; exact hf) HBP.out)
      have hp3 := pre_len HBP.out
      rw [List.length_drop, hlen] at hp3
      simp only [List.length_cons, List.length_nil] at hp3
      clear hx hxl hk hT CU hy hyl hpre hm hso h hM hb0 hdc hlen
      by_cases hk0 : k = 0
      · have HI := Lib.hid (HT0.out hk0)
        obtain rfl : T = ⟨#[]⟩ := empty_is (by omega)
        subst hk0
        go_enter Tryz.func32, Tryz.ntmps32
        go_wp2_with (fail)
        refine (rest w0.heap.size s p out (by omega) (by omega) _ HS.out).mono ?_
        rintro e w1 ⟨he, hb⟩
        rw [HX.out] at he
        subst he
        have HS1 := Lib.hid (HS.out.below hb)
        have HB1 := Lib.hid (HB0.out.trans (hb.mono (HB0.out.size)))
        clear hb
        go_wp2_with (fail)
        refine (HCU.out _ (HM.out.stays HB1.out)).mono ?_
        rintro e w2 ⟨⟨r, rfl⟩, hb⟩
        have HS2 := Lib.hid (HS1.out.below hb)
        have HB2 := Lib.hid (HB1.out.trans (hb.mono HB1.out.size))
        clear hb
        go_wp2_with (fail)
        refine (rest w0.heap.size s (p) out (by omega) (by omega) _ HS2.out).mono ?_
        rintro e w4 ⟨he, hb⟩
        rw [show s.extract p s.size = s.extract (p + 0) s.size from rfl, HY.out] at he
        subst he
        have hst4 := HS2.out.below hb
        have HS4 := Lib.hid hst4
        have HB4 := Lib.hid (HB2.out.trans (hb.mono HB2.out.size))
        clear hb hst4
        go_wp2_with (go_at_call 65; refine (Tryz.strings_HasPrefix y ⟨#[60, 63, 61]⟩ _).mono ?_; rintro e w5 ⟨he, rfl⟩; obtain rfl : e = .returned (.bool _) := he.trans (congrArg (fun b => Ending.returned (.bool b)) HBb.out); clear he)
        refine (add w0.heap.size s p out 3 0 ⟨#[101, 99, 104, 111]⟩ 0 3 (by omega) (by omega) (by first | omega | (simp; omega)) (by decide) _ HS4.out).mono ?_
        rintro e w6 ⟨rfl, hst, hb⟩
        have HS6 := Lib.hid hst
        have HB6 := Lib.hid (HB4.out.trans hb)
        clear hst hb
        go_wp2_with (fail)
        go_end0
        have hs2 := HSO.out.step (by rw [HLE.out]; omega) HST.out (by rw [List.length_append]; have := (inlT_len 0 p (L.drop p)).2; simp; omega)
        rw [HI.out, List.nil_append] at hs2
        exact ⟨p + 0 + 3, _, rfl, HS6.out, by rw [HL.out]; exact Mid.of hs2 (by rw [HLE.out]; omega), by omega, HB6.out⟩
      · have HI := Lib.hid (HTK.out hk0)
        have hne := isEmpty_no (t := T) (by omega)
        go_enter Tryz.func32, Tryz.ntmps32
        go_wp2_with (fail)
        refine (rest w0.heap.size s p out (by omega) (by omega) _ HS.out).mono ?_
        rintro e w1 ⟨he, hb⟩
        rw [HX.out] at he
        subst he
        have HS1 := Lib.hid (HS.out.below hb)
        have HB1 := Lib.hid (HB0.out.trans (hb.mono (HB0.out.size)))
        clear hb
        go_wp2_with (fail)
        refine (HCU.out _ (HM.out.stays HB1.out)).mono ?_
        rintro e w2 ⟨⟨r, rfl⟩, hb⟩
        have HS2 := Lib.hid (HS1.out.below hb)
        have HB2 := Lib.hid (HB1.out.trans (hb.mono HB1.out.size))
        clear hb
        go_wp2_with (fail)
        refine (add w0.heap.size s p out 1 0 T 0 k (by omega) (by omega) (by omega) (by omega) _ HS2.out).mono ?_
        rintro e w3 ⟨rfl, hst, hb⟩
        have HS3 := Lib.hid hst
        have HB3 := Lib.hid (HB2.out.trans hb)
        clear hst hb
        go_wp2_with (fail)
        refine (rest w0.heap.size s (p + k) (out ++ [⟨1, 0, T, p⟩]) (by omega) (by omega) _ HS3.out).mono ?_
        rintro e w4 ⟨he, hb⟩
        rw [HY.out] at he
        subst he
        have hst4 := HS3.out.below hb
        have HS4 := Lib.hid hst4
        have HB4 := Lib.hid (HB3.out.trans (hb.mono HB3.out.size))
        clear hb hst4
        go_wp2_with (go_at_call 65; refine (Tryz.strings_HasPrefix y ⟨#[60, 63, 61]⟩ _).mono ?_; rintro e w5 ⟨he, rfl⟩; obtain rfl : e = .returned (.bool _) := he.trans (congrArg (fun b => Ending.returned (.bool b)) HBb.out); clear he)
        refine (add w0.heap.size s (p + k) (out ++ [⟨1, 0, T, p⟩]) 3 0 ⟨#[101, 99, 104, 111]⟩ 0 3 (by omega) (by omega) (by first | omega | (simp; omega)) (by decide) _ HS4.out).mono ?_
        rintro e w6 ⟨rfl, hst, hb⟩
        have HS6 := Lib.hid hst
        have HB6 := Lib.hid (HB4.out.trans hb)
        clear hst hb
        go_wp2_with (fail)
        go_end0
        have hs2 := HSO.out.step (by rw [HLE.out]; omega) HST.out (by rw [List.length_append]; have := (inlT_len k p (L.drop p)).2; simp; omega)
        rw [HI.out, ← List.append_assoc] at hs2
        exact ⟨p + k + 3, _, rfl, HS6.out, by rw [HL.out]; exact Mid.of hs2 (by rw [HLE.out]; omega), by omega, HB6.out⟩
  · have hdc : decide (k < s.size - p) = false := by simp; omega
    rw [hdc] at CU
    have HCU := Lib.hid CU
    have hke : p + k = s.size := by omega
    have HST := Lib.hid (stp_end hk (by rw [hlen]; exact hf))
    have hk0 : k ≠ 0 := by omega
    clear hx hxl hk hT CU hm hso h hM hb0 hdc hlen
    have HI := Lib.hid (HTK.out hk0)
    have hne := isEmpty_no (t := T) (by omega)
    go_enter Tryz.func32, Tryz.ntmps32
    go_wp2_with (fail)
    refine (rest w0.heap.size s p out (by omega) (by omega) _ HS.out).mono ?_
    rintro e w1 ⟨he, hb⟩
    rw [HX.out] at he
    subst he
    have HS1 := Lib.hid (HS.out.below hb)
    have HB1 := Lib.hid (HB0.out.trans (hb.mono (HB0.out.size)))
    clear hb
    go_wp2_with (fail)
    refine (HCU.out _ (HM.out.stays HB1.out)).mono ?_
    rintro e w2 ⟨⟨r, rfl⟩, hb⟩
    have HS2 := Lib.hid (HS1.out.below hb)
    have HB2 := Lib.hid (HB1.out.trans (hb.mono HB1.out.size))
    clear hb
    go_wp2_with (fail)
    refine (add w0.heap.size s p out 1 0 T 0 k (by omega) (by omega) (by omega) (by omega) _ HS2.out).mono ?_
    rintro e w3 ⟨rfl, hst, hb⟩
    have HS3 := Lib.hid hst
    have HB3 := Lib.hid (HB2.out.trans hb)
    clear hst hb
    go_wp2_with (fail)
    go_end0
    have hs2 := HSO.out.step (by rw [HLE.out]; omega) HST.out (by have := (inlT_len k p (L.drop p)).2; omega)
    rw [HI.out] at hs2
    refine ⟨s.size, _, rfl, by have := HS3.out; rwa [hke] at this, ?_, by omega, HB3.out⟩
    rw [HL.out, ← HLE.out]
    exact Mid.last hs2 (by rw [HLE.out]; omega) (by rw [List.length_append, HLE.out]; simp; omega)

end Go.Proofs.YtakdbfifbkngnaaGreatDoor.lex

