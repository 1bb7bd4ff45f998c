/-
  What UnescapeURL of the model returns.
  Conditions: the text has at most 2^40 bytes.
-/
import Derived.Test.YtofdnpbmanonpaaDoorTwo
import Derived.Test.YtofdnpbmanonpaaDoorSeq
namespace Go.Proofs.YtofdnpbmanonpaaDoor.seq
open Go.ChangeShapes Go.WideShapes Go.ChangeAt Go.RowKit mem
set_option linter.unusedVariables false

set_option maxHeartbeats 4000000 in
set_option maxRecDepth 100000 in
theorem specUnURL (s : ByteArray) (hs : s.size ≤ 1099511627776) (w : World) :
    Calls Tryd.prog 23 #[.string s] w (UnQ w (esc.un esc.rdU s.data.toList)) := by
  obtain ⟨i0, hi, hz0, hz1, hz2⟩ := info_parts mem.u8row
  obtain ⟨L, hL⟩ : ∃ L, L = s.data.toList := ⟨_, rfl⟩
  have hLn : L.length = s.size := by rw [hL, len_eq]
  rw [← hL]
  have HN := Lib.hid hLn; have HL := Lib.hid hL; clear hLn hL
  go_enter Tryd.func23, Tryd.ntmps23
  go_wp2
  go_loopw [4, 5] (fun v x wr => ∃ (A : Option Addr) (n c i : Nat) (a : List UInt8), v = .slice A n c ∧ x = .int .i64 i ∧ i ≤ s.size ∧ n ≤ 1099511627776 ∧ Hid (Own wr w.heap.size A n c (num a)) ∧ Hid (a.length ≤ i) ∧ Hid (esc.un esc.rdU L = esc.pre a (esc.un esc.rdU (L.drop i))) ∧ Hid (Below w.heap.size w wr)) (fun _ x _ => s.size - (intOf x).toNat)
  case atStart => exact ⟨_, 0, 0, 0, [], rfl, rfl, by omega, by omega, own_none w _ (Nat.le_refl _), by show _ ≤ _; simp, by show _ = _; rw [esc.pre_nil]; rfl, (Below.refl _ _).alloc (Nat.le_refl _) _⟩
  case round =>
    obtain ⟨A, n, c, i, a, rfl, rfl, hk, hn40, HO, HA, HU, HB⟩ := hrel
    by_cases hlt : i < s.size
    · have hb0 : (0 : Int) ≤ (s[i].toNat : Int) := by omega
      have hb9 : (s[i].toNat : Int) ≤ 255 := by have := s[i].toNat_lt; omega
      have hiL : Hid (i < L.length) := by show _ < _; rw [HN.out]; exact hlt
      have hdr : L.drop i = s[i] :: L.drop (i + 1) := by rw [List.drop_eq_getElem_cons hiL.out]; congr 1; simp only [HL.out]; rfl
      have hna : n = a.length := by rw [← HO.out.len, num_len]
      have HNA := Lib.hid hna; clear hna
      by_cases hp : s[i].toNat = 43
      · have hip : (s[i].toNat : Int) = 43 := by omega
        have hr : esc.rdU (L.drop i) = some (32, 1) := by rw [hdr]; exact if_pos hp
        clear hp
        have hmid := esc.mid_some esc.eats_U hiL.out hr HU.out
        have HM := Lib.hid hmid; clear hmid hr hdr
        go_wp2_with (at_builtin; refine append_rd rfl _ _ _ rfl i0 Tryd.underlying22 hi hz0 hz1 hz2 w.heap.size A n c (num a) rfl (HO.out.alloc _) _ 1 1 [32] rfl (rd_one _ _ (by omega) (by omega) _) (by omega) (by have := HB.out.size; simp; omega) ?_)
        intro A' c' w' hown hbel
        have HO2 := Lib.hid hown; have HB2 := Lib.hid ((HB.out.alloc HB.out.size _).trans hbel); clear hown hbel
        go_wp2
        go_roundw
        case measure => simp only [RowKit.intOf]; omega
        case rel => exact ⟨A', n + 1, c', i + 1, a ++ [32], rfl, rfl, by omega, by have := HA.out; have := HNA.out; omega, by show Own _ _ _ _ _ _; rw [num_snoc]; exact HO2.out, by show _ ≤ _; have := HA.out; simp; omega, HM.out, HB2.out⟩
      · have hip : ¬ (s[i].toNat : Int) = 43 := by omega
        by_cases hm : s[i].toNat = 37
        · have him : (s[i].toNat : Int) = 37 := by omega
          have HRD : Hid (esc.rdU (L.drop i) = (esc.two true (L.drop (i + 1))).map fun c => (c, 3)) := by
            show _ = _
            rw [hdr]
            show (if _ then _ else if _ then _ else _) = _
            rw [if_neg (show ¬ ((s[i] :: L.drop (i + 1)).headD 0).toNat = 43 from hp), if_neg (show ¬ ((s[i] :: L.drop (i + 1)).headD 0).toNat ≠ 37 from fun h => h hm)]
            rfl
          obtain ⟨j, hj⟩ : ∃ j, j = i + 1 := ⟨_, rfl⟩
          have hji : (i : Int) + 1 = (j : Int) := by omega
          have hjs : j ≤ s.size := by omega
          have HJ := Lib.hid hj
          clear hp hm hdr hj
          obtain ⟨o, ho⟩ : ∃ o, o = esc.two true (L.drop (i + 1)) := ⟨_, rfl⟩
          have HOo := Lib.hid ho
          cases o with
          | none =>
            have hr : esc.rdU (L.drop i) = none := by rw [HRD.out, ← HOo.out]; rfl
            have HR := Lib.hid (esc.mid_none esc.eats_U hiL.out hr HU.out)
            clear hr ho
            go_wp2_with (fail)
            refine (specTwo_true s hs j (by omega) _).mono ?_
            rintro e w1 ⟨he, rfl⟩
            rcases he with ⟨hn, rfl⟩ | ⟨q, hq, rfl⟩
            · clear hn
              go_wp2
              go_ret2
              exact ⟨by rw [HR.out]; rfl, HB.out⟩
            · exfalso
              rw [← HL.out, HJ.out, ← HOo.out] at hq
              cases hq
          | some q =>
            have hr : esc.rdU (L.drop i) = some (q, 3) := by rw [HRD.out, ← HOo.out]; rfl
            have hmid := esc.mid_some esc.eats_U hiL.out hr HU.out
            have hne : L.drop i ≠ [] := fun hh => by have h1 := congrArg List.length hh; have h2 := hiL.out; rw [List.length_drop] at h1; simp at h1; omega
            obtain ⟨_, m2⟩ := esc.eats_U _ _ _ hne hr
            have hfit : i + 3 ≤ s.size := by rw [List.length_drop] at m2; have := HN.out; omega
            have hq0 : (0 : Int) ≤ (q.toNat : Int) := by omega
            have hq9 : (q.toNat : Int) ≤ 255 := by have := q.toNat_lt; omega
            have HM := Lib.hid hmid; clear hmid hr ho hne m2
            go_wp2_with (fail)
            refine (specTwo_true s hs j (by omega) _).mono ?_
            rintro e w1 ⟨he, rfl⟩
            have hee : e = .returned (.int .i64 q.toNat) := by
              rcases he with ⟨hn, rfl⟩ | ⟨q', hq, rfl⟩
              · rw [← HL.out, HJ.out, ← HOo.out] at hn
                cases hn
              · rw [← HL.out, HJ.out, ← HOo.out] at hq
                obtain rfl := Option.some.inj hq
                rfl
            subst hee
            clear he
            go_wp2_with (at_builtin; refine append_rd rfl _ _ _ rfl i0 Tryd.underlying22 hi hz0 hz1 hz2 w.heap.size A n c (num a) rfl (HO.out.alloc _) _ 1 1 [(q.toNat : Int)] rfl (rd_one _ _ hq0 hq9 _) (by omega) (by have := HB.out.size; simp; omega) ?_)
            intro A' c' w' hown hbel
            have HO2 := Lib.hid hown; have HB2 := Lib.hid ((HB.out.alloc HB.out.size _).trans hbel); clear hown hbel
            go_wp2
            go_roundw
            case measure => simp only [RowKit.intOf]; omega
            case rel => exact ⟨A', n + 1, c', i + 3, a ++ [q], rfl, (by first | rfl | (congr 1; have := HJ.out; omega)), by omega, by have := HA.out; have := HNA.out; omega, by show Own _ _ _ _ _ _; rw [num_snoc]; exact HO2.out, by show _ ≤ _; have := HA.out; simp; omega, HM.out, HB2.out⟩
        · have him : ¬ (s[i].toNat : Int) = 37 := by omega
          have hr : esc.rdU (L.drop i) = some (s[i], 1) := by
            rw [hdr]
            show (if _ then _ else if _ then _ else _) = _
            rw [if_neg (show ¬ ((s[i] :: L.drop (i + 1)).headD 0).toNat = 43 from hp), if_pos (show ((s[i] :: L.drop (i + 1)).headD 0).toNat ≠ 37 from hm)]
            rfl
          clear hp hm
          have hmid := esc.mid_some esc.eats_U hiL.out hr HU.out
          have HM := Lib.hid hmid; clear hmid hr hdr
          go_wp2_with (at_builtin; refine append_rd rfl _ _ _ rfl i0 Tryd.underlying22 hi hz0 hz1 hz2 w.heap.size A n c (num a) rfl (HO.out.alloc _) _ 1 1 [(s[i].toNat : Int)] rfl (rd_one _ _ hb0 hb9 _) (by omega) (by have := HB.out.size; simp; omega) ?_)
          intro A' c' w' hown hbel
          have HO2 := Lib.hid hown; have HB2 := Lib.hid ((HB.out.alloc HB.out.size _).trans hbel); clear hown hbel
          go_wp2
          go_roundw
          case measure => simp only [RowKit.intOf]; omega
          case rel => exact ⟨A', n + 1, c', i + 1, a ++ [s[i]], rfl, rfl, by omega, by have := HA.out; have := HNA.out; omega, by show Own _ _ _ _ _ _; rw [num_snoc]; exact HO2.out, by show _ ≤ _; have := HA.out; simp; omega, HM.out, HB2.out⟩
    · have HR : Hid (esc.un esc.rdU L = some a) := esc.mid_end (by have := HN.out; omega) HU.out
      have hcv := conv_rd (P := Tryd.prog) wr 22 9 5 Tryd.underlying22 Tryd.underlying5 Tryd.underlying9 HO.out.rd
      rw [num_str] at hcv
      go_wp2
      go_ret2
      exact ⟨by rw [HR.out]; rfl, HB.out⟩

end Go.Proofs.YtofdnpbmanonpaaDoor.seq
