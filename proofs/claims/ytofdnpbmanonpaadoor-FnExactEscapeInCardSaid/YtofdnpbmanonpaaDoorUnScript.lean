/-
  What UnescapeScript of the model returns.
  Conditions: the text has at most 2^40 bytes.
-/
import Derived.Test.YtofdnpbmanonpaaDoorTwo
import Derived.Test.YtofdnpbmanonpaaDoorSeq
namespace Go.Proofs.YtofdnpbmanonpaaDoor.seq
open Go.ChangeShapes Go.WideShapes Go.ChangeAt Go.RowKit mem
set_option linter.unusedVariables false

theorem headD_ : ∀ {l : List UInt8} (h : 0 < l.length), l.headD 0 = l[0]
  | a :: l, _ => rfl

set_option maxHeartbeats 4000000 in
set_option maxRecDepth 100000 in
theorem specUnScript (s : ByteArray) (hs : s.size ≤ 1099511627776) (w : World) :
    Calls Tryd.prog 24 #[.string s] w (UnQ w (esc.un esc.rdS s.data.toList)) := by
  obtain ⟨i0, hi, hz0, hz1, hz2⟩ := info_parts mem.u8row
  obtain ⟨L, hL⟩ : ∃ L, L = s.data.toList := ⟨_, rfl⟩
  have hLn : L.length = s.size := by rw [hL, len_eq]
  rw [← hL]
  have HN := Lib.hid hLn; have HL := Lib.hid hL; clear hLn hL
  go_enter Tryd.func24, Tryd.ntmps24
  go_wp2
  go_loopw [4, 5] (fun v x wr => ∃ (A : Option Addr) (n c i : Nat) (a : List UInt8), v = .slice A n c ∧ x = .int .i64 i ∧ i ≤ s.size ∧ n ≤ 1099511627776 ∧ Hid (Own wr w.heap.size A n c (num a)) ∧ Hid (a.length ≤ i) ∧ Hid (esc.un esc.rdS L = esc.pre a (esc.un esc.rdS (L.drop i))) ∧ Hid (Below w.heap.size w wr)) (fun _ x _ => s.size - (intOf x).toNat)
  case atStart => exact ⟨_, 0, 0, 0, [], rfl, rfl, by omega, by omega, own_none w _ (Nat.le_refl _), by show _ ≤ _; simp, by show _ = _; rw [esc.pre_nil]; rfl, (Below.refl _ _).alloc (Nat.le_refl _) _⟩
  case round =>
    obtain ⟨A, n, c, i, a, rfl, rfl, hk, hn40, HO, HA, HU, HB⟩ := hrel
    by_cases hlt : i < s.size
    · have hb0 : (0 : Int) ≤ (s[i].toNat : Int) := by omega
      have hb9 : (s[i].toNat : Int) ≤ 255 := by have := s[i].toNat_lt; omega
      have hiL : Hid (i < L.length) := by show _ < _; rw [HN.out]; exact hlt
      have hdr : L.drop i = s[i] :: L.drop (i + 1) := by rw [List.drop_eq_getElem_cons hiL.out]; congr 1; simp only [HL.out]; rfl
      have hna : n = a.length := by rw [← HO.out.len, num_len]
      have HNA := Lib.hid hna; clear hna
      by_cases hm : s[i].toNat = 92
      · have him : (s[i].toNat : Int) = 92 := by omega
        have hd1 : ((L.drop i).drop 1) = L.drop (i + 1) := by rw [List.drop_drop]
        have hd2 : ((L.drop i).drop 2) = L.drop (i + 2) := by rw [List.drop_drop]
        have hhd : ((L.drop i).headD 0).toNat = 92 := by rw [hdr]; exact hm
        have hX : (((L.drop i).drop 1).headD 0).toNat = 120 ↔ ∃ h : i + 1 < s.size, s[i + 1].toNat = 120 := by
          rw [hd1]
          constructor
          · intro h
            by_cases h1 : i + 1 < s.size
            · refine ⟨h1, ?_⟩
              rw [headD_ (by rw [List.length_drop, HN.out]; omega)] at h
              rw [← h]
              simp only [HL.out, List.getElem_drop]
              rfl
            · rw [List.drop_of_length_le (by rw [HN.out]; omega)] at h
              exact absurd h (by decide)
          · rintro ⟨h1, h⟩
            rw [headD_ (by rw [List.length_drop, HN.out]; omega)]
            rw [← h]
            simp only [HL.out, List.getElem_drop]
            rfl
        by_cases hx : ∃ h : i + 1 < s.size, s[i + 1].toNat = 120
        · have HRD : Hid (esc.rdS (L.drop i) = (esc.two false (L.drop (i + 2))).map fun c => (c, 4)) := by
            show (if _ then _ else if _ then _ else _) = _
            rw [if_neg (fun h => h hhd), if_neg (fun h => h (hX.2 hx)), hd2]
          obtain ⟨hx1, hx2⟩ := hx
          have hx3 : (s[i + 1].toNat : Int) = 120 := by omega
          have hx4 : (i : Int) + 1 < (s.size : Int) := by omega
          obtain ⟨j, hj⟩ : ∃ j, j = i + 2 := ⟨_, rfl⟩
          have hji : (i : Int) + 2 = (j : Int) := by omega
          have hjs : j ≤ s.size + 1 := by omega
          have HJ := Lib.hid hj
          clear hm hdr hj hd1 hd2 hhd hX hx2
          obtain ⟨o, ho⟩ : ∃ o, o = esc.two false (L.drop (i + 2)) := ⟨_, rfl⟩
          have HOo := Lib.hid ho
          cases o with
          | none =>
            have hr : esc.rdS (L.drop i) = none := by rw [HRD.out, ← HOo.out]; rfl
            have HR := Lib.hid (esc.mid_none esc.eats_S hiL.out hr HU.out)
            clear hr ho
            go_wp2_with (fail)
            refine (specTwo_false s hs j (by omega) _).mono ?_
            rintro e w1 ⟨he, rfl⟩
            rcases he with ⟨hn, rfl⟩ | ⟨q, hq, rfl⟩
            · clear hn
              go_wp2
              go_ret2
              exact ⟨by rw [HR.out]; rfl, HB.out⟩
            · exfalso
              rw [← HL.out, HJ.out, ← HOo.out] at hq
              cases hq
          | some q =>
            have hr : esc.rdS (L.drop i) = some (q, 4) := by rw [HRD.out, ← HOo.out]; rfl
            have hmid := esc.mid_some esc.eats_S hiL.out hr HU.out
            have hne : L.drop i ≠ [] := fun hh => by have h1 := congrArg List.length hh; have h2 := hiL.out; rw [List.length_drop] at h1; simp at h1; omega
            obtain ⟨_, m2⟩ := esc.eats_S _ _ _ hne hr
            have hfit : i + 4 ≤ s.size := by rw [List.length_drop] at m2; have := HN.out; omega
            have hq0 : (0 : Int) ≤ (q.toNat : Int) := by omega
            have hq9 : (q.toNat : Int) ≤ 255 := by have := q.toNat_lt; omega
            have HM := Lib.hid hmid; clear hmid hr ho hne m2
            go_wp2_with (fail)
            refine (specTwo_false s hs j (by omega) _).mono ?_
            rintro e w1 ⟨he, rfl⟩
            have hee : e = .returned (.int .i64 q.toNat) := by
              rcases he with ⟨hn, rfl⟩ | ⟨q', hq, rfl⟩
              · rw [← HL.out, HJ.out, ← HOo.out] at hn
                cases hn
              · rw [← HL.out, HJ.out, ← HOo.out] at hq
                obtain rfl := Option.some.inj hq
                rfl
            subst hee
            clear he
            go_wp2_with (at_builtin; refine append_rd rfl _ _ _ rfl i0 Tryd.underlying22 hi hz0 hz1 hz2 w.heap.size A n c (num a) rfl (HO.out.alloc _) _ 1 1 [(q.toNat : Int)] rfl (rd_one _ _ hq0 hq9 _) (by omega) (by have := HB.out.size; simp; omega) ?_)
            intro A' c' w' hown hbel
            have HO2 := Lib.hid hown; have HB2 := Lib.hid ((HB.out.alloc HB.out.size _).trans hbel); clear hown hbel
            go_wp2
            go_roundw
            case measure => simp only [RowKit.intOf]; omega
            case rel => exact ⟨A', n + 1, c', i + 4, a ++ [q], rfl, (by first | rfl | (congr 1; have := HJ.out; omega)), by omega, by have := HA.out; have := HNA.out; omega, by show Own _ _ _ _ _ _; rw [num_snoc]; exact HO2.out, by show _ ≤ _; have := HA.out; simp; omega, HM.out, HB2.out⟩
        · have hr : esc.rdS (L.drop i) = none := by
            show (if _ then _ else if _ then _ else _) = _
            rw [if_neg (fun h => h hhd), if_pos (fun h => hx (hX.1 h))]
          have HR := Lib.hid (esc.mid_none esc.eats_S hiL.out hr HU.out)
          clear hr hdr hd1 hd2 hhd hX hm
          by_cases h1 : i + 1 < s.size
          · have hx3 : ¬ (s[i + 1].toNat : Int) = 120 := fun h => hx ⟨h1, by omega⟩
            have hx4 : (i : Int) + 1 < (s.size : Int) := by omega
            clear hx
            go_wp2
            go_ret2
            exact ⟨by rw [HR.out]; rfl, HB.out⟩
          · have hx4 : ¬ (i : Int) + 1 < (s.size : Int) := by omega
            clear hx
            go_wp2
            go_ret2
            exact ⟨by rw [HR.out]; rfl, HB.out⟩
      · have him : ¬ (s[i].toNat : Int) = 92 := by omega
        have hr : esc.rdS (L.drop i) = some (s[i], 1) := by
          rw [hdr]
          show (if _ then _ else _) = _
          rw [if_pos (show ((s[i] :: L.drop (i + 1)).headD 0).toNat ≠ 92 from hm)]
          rfl
        clear hm
        have hmid := esc.mid_some esc.eats_S hiL.out hr HU.out
        have HM := Lib.hid hmid; clear hmid hr hdr
        go_wp2_with (at_builtin; refine append_rd rfl _ _ _ rfl i0 Tryd.underlying22 hi hz0 hz1 hz2 w.heap.size A n c (num a) rfl (HO.out.alloc _) _ 1 1 [(s[i].toNat : Int)] rfl (rd_one _ _ hb0 hb9 _) (by omega) (by have := HB.out.size; simp; omega) ?_)
        intro A' c' w' hown hbel
        have HO2 := Lib.hid hown; have HB2 := Lib.hid ((HB.out.alloc HB.out.size _).trans hbel); clear hown hbel
        go_wp2
        go_roundw
        case measure => simp only [RowKit.intOf]; omega
        case rel => exact ⟨A', n + 1, c', i + 1, a ++ [s[i]], rfl, rfl, by omega, by have := HA.out; have := HNA.out; omega, by show Own _ _ _ _ _ _; rw [num_snoc]; exact HO2.out, by show _ ≤ _; have := HA.out; simp; omega, HM.out, HB2.out⟩
    · have HR : Hid (esc.un esc.rdS L = some a) := esc.mid_end (by have := HN.out; omega) HU.out
      have hcv := conv_rd (P := Tryd.prog) wr 22 9 5 Tryd.underlying22 Tryd.underlying5 Tryd.underlying9 HO.out.rd
      rw [num_str] at hcv
      go_wp2
      go_ret2
      exact ⟨by rw [HR.out]; rfl, HB.out⟩

end Go.Proofs.YtofdnpbmanonpaaDoor.seq
