/-
  The model's reading of a string: l14String.
  Conditions: the text has at most 2^40 bytes.
-/
import Derived.Test.YtakdbfifbkngnaaGreatDoorLaSLmA
namespace Go.Proofs.YtakdbfifbkngnaaGreatDoor.lex
open Go.ChangeShapes Go.WideShapes Go.ChangeAt Go.RowKit mem
set_option linter.unusedVariables false

theorem is39 {b : UInt8} (h : (b.toNat : Int) = 39) : b = 39 := (seq.byte_eq (n := 39) (by omega)).2 (by omega)
theorem is92 {b : UInt8} (h : (b.toNat : Int) = 92) : b = 92 := (seq.byte_eq (n := 92) (by omega)).2 (by omega)
/-- What the model's reading returns. -/
def StrE (k : Nat) : TR → Ending
  | .bad _ => .returned (.tuple #[.string ⟨#[]⟩, .int .i64 (-1)])
  | .good _ _ t z => .returned (.tuple #[.string (tx t), .int .i64 ((k + z : Nat) : Int)])

set_option maxHeartbeats 4000000 in
set_option maxRecDepth 100000 in
theorem string_s (s : ByteArray) (hs : s.size ≤ 1099511627776) (k : Nat) (hk : k < s.size) (w : World) : Calls Tryz.prog 104 #[.string s, .int .i64 (k : Int)] w fun e w' => e = StrE k (strR (s.data.toList.drop (k + 1))) ∧ Below w.heap.size w w' := by
  obtain ⟨i0, hi, hz0, hz1, hz2⟩ := info_parts mem.u8row
  obtain ⟨L, HL⟩ : ∃ L, Hid (s.data.toList = L) := ⟨_, Lib.hid rfl⟩
  rw [HL.out]
  obtain ⟨V, HV⟩ : ∃ V, Hid (strR (L.drop (k + 1)) = V) := ⟨_, Lib.hid rfl⟩
  rw [HV.out]
  have HN0 := Lib.hid (own_none w w.heap.size (Nat.le_refl _))
  go_enter Tryz.func104, Tryz.ntmps104
  go_wp2_with (fail)
  go_loopg [6, 7] (s.size - (k + 1)) (fun gk v x wr => ∃ (A : Option Addr) (n c p : Nat) (a : List UInt8), v = .slice A n c ∧ x = .int .i64 p ∧ gk + p = s.size ∧ k + 1 ≤ p ∧ p ≤ s.size ∧ n ≤ p ∧ Hid (a.length = n) ∧ Hid (Own wr w.heap.size A n c (seq.num a)) ∧ Hid (str (L.drop (k + 1)) = pre a (p - (k + 1)) (str (L.drop p))) ∧ Hid (Below w.heap.size w wr))
  case atStart => exact ⟨_, 0, 0, k + 1, [], rfl, by go_num, by omega, by omega, by omega, by omega, Lib.hid rfl, HN0, Lib.hid (by rw [Nat.sub_self, pre_nil]), Lib.hid (b1 _ _)⟩
  case round =>
    obtain ⟨A, n, c, p, a, rfl, rfl, hgk, hkp, hps, hnp, HNA, HO, HU, HB⟩ := hrel
    by_cases hlt : p < s.size
    · have hb0 : (0 : Int) ≤ (s[p].toNat : Int) := by omega
      have hb9 : (s[p].toNat : Int) ≤ 255 := by have := s[p].toNat_lt; omega
      have hdr : L.drop p = s[p] :: L.drop (p + 1) := by rw [← HL.out]; exact drop_at hlt
      by_cases hq : s[p] = 39
      · have hqn : (s[p].toNat : Int) = 39 := by rw [hq]; rfl
        by_cases hn4 : n ≤ 400
        · have hn4' : ¬ (400 : Int) < (n : Int) := by omega
          have HX : Hid (V = .good 5 0 a (p - (k + 1) + 2)) := Lib.hid (by
            rw [← HV.out]
            refine strR_quote (r := L.drop (p + 1)) (HU.out.trans ?_) (by rw [HNA.out]; omega)
            rw [hdr, hq])
          have hcv := conv_rd (P := Tryz.prog) wr 22 9 5 Tryz.underlying22 Tryz.underlying5 Tryz.underlying9 HO.out.rd c
          rw [seq.num_tx] at hcv
          clear hdr hq
          go_wp2_with (fail)
          go_ret2
          refine ⟨?_, HB.out⟩
          rw [HX.out]
          show _ = Ending.returned (.tuple #[.string (tx a), .int .i64 ((k + (p - (k + 1) + 2) : Nat) : Int)])
          rw [show k + (p - (k + 1) + 2) = p + 1 by omega]
          rfl
        · have hn4' : (400 : Int) < (n : Int) := by omega
          have HX : Hid (V = .bad 3) := Lib.hid (by rw [← HV.out]; exact strR_long HU.out (by rw [HNA.out]; omega))
          clear hdr hq
          go_wp2_with (fail)
          go_ret2
          exact ⟨by rw [HX.out]; rfl, HB.out⟩
      · have hqn : ¬ (s[p].toNat : Int) = 39 := fun e => hq (is39 e)
        by_cases he : s[p] = 92 ∧ ∃ c r, L.drop (p + 1) = c :: r ∧ (c = 39 ∨ c = 92)
        · obtain ⟨h92, cc, r, hcr, hc⟩ := he
          have h92n : (s[p].toNat : Int) = 92 := by rw [h92]; rfl
          have hp2 : p + 1 < s.size := by
            have := congrArg List.length hcr
            rw [List.length_drop, ← HL.out, lead.size_eq] at this
            simp at this
            omega
          have hpi : (p : Int) + 1 < (s.size : Int) := by omega
          have hd2 : L.drop (p + 1) = s[p + 1] :: L.drop (p + 2) := by rw [← HL.out]; exact drop_at hp2
          have hcs : s[p + 1] = cc := by rw [hd2] at hcr; injection hcr
          have HU2 : Hid (str (L.drop (k + 1)) = pre (a ++ [s[p + 1]]) (p + 2 - (k + 1)) (str (L.drop (p + 2)))) := Lib.hid (by
            rw [HU.out, hdr, hd2, h92, str_esc (by rw [hcs]; exact hc), pre_pre, show p - (k + 1) + 2 = p + 2 - (k + 1) by omega])
          obtain ⟨p1, hp1⟩ : ∃ q, q = p + 1 := ⟨_, rfl⟩
          have hp1s : p1 < s.size := by omega
          have hp1i : (p : Int) + 1 = (p1 : Int) := by omega
          have hsp1 : s[p + 1] = s[p1] := by simp only [hp1]
          rw [hsp1] at HU2 hcs
          rcases hc with rfl | rfl
          · have hcn : (s[p1].toNat : Int) = 39 := by rw [hcs]; rfl
            rw [hcs] at HU2
            clear h92 hcr hd2 hdr hq hcs hsp1 hp1
            go_wp2_with (at_builtin; refine append_rd rfl _ _ _ rfl i0 Tryz.underlying22 hi hz0 hz1 hz2 w.heap.size A n c _ rfl (HO.out.alloc _) _ 1 1 [(39 : Int)] rfl (rd_one _ _ (by omega) (by omega) _) (by omega) (by have := HB.out.size; simp; omega) ?_)
            intro A' c' w' hown hbel
            have HO2 := Lib.hid hown; have HB2 := Lib.hid ((HB.out.alloc HB.out.size _).trans hbel); clear hown hbel
            go_wp2_with (fail)
            go_roundg (s.size - (p + 2))
            case rel => exact ⟨A', n + 1, c', p + 2, a ++ [39], rfl, by go_num, by omega, by omega, by omega, by omega, Lib.hid (by rw [List.length_append, HNA.out]; simp), Lib.hid (by rw [seq.num_snoc]; exact HO2.out), HU2, HB2⟩
            case measure => omega
          · have hcn : (s[p1].toNat : Int) = 92 := by rw [hcs]; rfl
            rw [hcs] at HU2
            clear h92 hcr hd2 hdr hq hcs hsp1 hp1
            go_wp2_with (at_builtin; refine append_rd rfl _ _ _ rfl i0 Tryz.underlying22 hi hz0 hz1 hz2 w.heap.size A n c _ rfl (HO.out.alloc _) _ 1 1 [(92 : Int)] rfl (rd_one _ _ (by omega) (by omega) _) (by omega) (by have := HB.out.size; simp; omega) ?_)
            intro A' c' w' hown hbel
            have HO2 := Lib.hid hown; have HB2 := Lib.hid ((HB.out.alloc HB.out.size _).trans hbel); clear hown hbel
            go_wp2_with (fail)
            go_roundg (s.size - (p + 2))
            case rel => exact ⟨A', n + 1, c', p + 2, a ++ [92], rfl, by go_num, by omega, by omega, by omega, by omega, Lib.hid (by rw [List.length_append, HNA.out]; simp), Lib.hid (by rw [seq.num_snoc]; exact HO2.out), HU2, HB2⟩
            case measure => omega
        · have HU1 : Hid (str (L.drop (k + 1)) = pre (a ++ [s[p]]) (p + 1 - (k + 1)) (str (L.drop (p + 1)))) := Lib.hid (by
            rw [HU.out, hdr, str_byte hq he, pre_pre, show p - (k + 1) + 1 = p + 1 - (k + 1) by omega])
          have hq39 : ((s[p].toNat : Int) == 39) = false := beq_eq_false_iff_ne.2 hqn
          by_cases h92 : s[p] = 92
          · have h92n : (s[p].toNat : Int) = 92 := by rw [h92]; rfl
            rw [h92] at HU1
            by_cases hp2 : p + 1 < s.size
            · have hpi : (p : Int) + 1 < (s.size : Int) := by omega
              have hd2 : L.drop (p + 1) = s[p + 1] :: L.drop (p + 2) := by rw [← HL.out]; exact drop_at hp2
              obtain ⟨p1, hp1⟩ : ∃ q, q = p + 1 := ⟨_, rfl⟩
              have hp1s : p1 < s.size := by omega
              have hp1i : (p : Int) + 1 = (p1 : Int) := by omega
              have hsp1 : s[p + 1] = s[p1] := by simp only [hp1]
              have m39 : ((s[p1].toNat : Int) == 39) = false := beq_eq_false_iff_ne.2 fun e => he ⟨h92, s[p + 1], L.drop (p + 2), hd2, .inl (by rw [hsp1]; exact is39 e)⟩
              have m92 : ((s[p1].toNat : Int) == 92) = false := beq_eq_false_iff_ne.2 fun e => he ⟨h92, s[p + 1], L.drop (p + 2), hd2, .inr (by rw [hsp1]; exact is92 e)⟩
              clear h92 hd2 hdr hq he hsp1 hp1
              go_wp2_with (at_builtin; refine append_rd rfl _ _ _ rfl i0 Tryz.underlying22 hi hz0 hz1 hz2 w.heap.size A n c _ rfl (HO.out.alloc _) _ 1 1 [(92 : Int)] rfl (rd_one _ _ (by omega) (by omega) _) (by omega) (by have := HB.out.size; simp; omega) ?_)
              intro A' c' w' hown hbel
              have HO2 := Lib.hid hown; have HB2 := Lib.hid ((HB.out.alloc HB.out.size _).trans hbel); clear hown hbel
              go_wp2_with (fail)
              go_roundg (s.size - (p + 1))
              case rel => exact ⟨A', n + 1, c', p + 1, a ++ [92], rfl, by go_num, by omega, by omega, by omega, by omega, Lib.hid (by rw [List.length_append, HNA.out]; simp), Lib.hid (by rw [seq.num_snoc]; exact HO2.out), HU1, HB2⟩
              case measure => omega
            · have hpi : ¬ (p : Int) + 1 < (s.size : Int) := by omega
              clear h92 hdr hq he
              go_wp2_with (at_builtin; refine append_rd rfl _ _ _ rfl i0 Tryz.underlying22 hi hz0 hz1 hz2 w.heap.size A n c _ rfl (HO.out.alloc _) _ 1 1 [(92 : Int)] rfl (rd_one _ _ (by omega) (by omega) _) (by omega) (by have := HB.out.size; simp; omega) ?_)
              intro A' c' w' hown hbel
              have HO2 := Lib.hid hown; have HB2 := Lib.hid ((HB.out.alloc HB.out.size _).trans hbel); clear hown hbel
              go_wp2_with (fail)
              go_roundg (s.size - (p + 1))
              case rel => exact ⟨A', n + 1, c', p + 1, a ++ [92], rfl, by go_num, by omega, by omega, by omega, by omega, Lib.hid (by rw [List.length_append, HNA.out]; simp), Lib.hid (by rw [seq.num_snoc]; exact HO2.out), HU1, HB2⟩
              case measure => omega
          · have h92n : ((s[p].toNat : Int) == 92) = false := beq_eq_false_iff_ne.2 fun e => h92 (is92 e)
            clear h92 hdr hq he
            go_wp2_with (at_builtin; refine append_rd rfl _ _ _ rfl i0 Tryz.underlying22 hi hz0 hz1 hz2 w.heap.size A n c _ rfl (HO.out.alloc _) _ 1 1 [(s[p].toNat : Int)] rfl (rd_one _ _ hb0 hb9 _) (by omega) (by have := HB.out.size; simp; omega) ?_)
            intro A' c' w' hown hbel
            have HO2 := Lib.hid hown; have HB2 := Lib.hid ((HB.out.alloc HB.out.size _).trans hbel); clear hown hbel
            go_wp2_with (fail)
            go_roundg (s.size - (p + 1))
            case rel => exact ⟨A', n + 1, c', p + 1, a ++ [s[p]], rfl, by go_num, by omega, by omega, by omega, by omega, Lib.hid (by rw [List.length_append, HNA.out]; simp), Lib.hid (by rw [seq.num_snoc]; exact HO2.out), HU1, HB2⟩
            case measure => omega
    · obtain rfl : p = s.size := by omega
      have HX : Hid (V = .bad 3) := Lib.hid (by
        have hd : L.drop s.size = [] := by rw [← HL.out]; exact lead.drop_end (Nat.le_refl _)
        have h := HU.out
        rw [hd] at h
        rw [← HV.out]
        exact strR_none h)
      go_wp2_with (fail)
      go_ret2
      exact ⟨by rw [HX.out]; rfl, HB.out⟩

end Go.Proofs.YtakdbfifbkngnaaGreatDoor.lex

