/-
  What UnescapeHTML of the model returns.
  Conditions: the text has at most 2^40 bytes.
-/
import Derived.Test.YtofdnpbmanonpaaDoorHtmlEsc
import Derived.Test.YtofdnpbmanonpaaDoorMem
namespace Go.Proofs.YtofdnpbmanonpaaDoor.seq
open Go.ChangeShapes Go.WideShapes Go.ChangeAt Go.RowKit mem
set_option linter.unusedVariables false

/-- Bytes as numbers. -/
def nb (a : List UInt8) : List Int := txt (tx a)
theorem nb_nil : nb [] = [] := rfl
theorem nb_snoc (a : List UInt8) (b : UInt8) : nb (a ++ [b]) = nb a ++ [(b.toNat : Int)] := by
  unfold nb txt
  simp
theorem nb_str (a : List UInt8) : strOfNums (nb a) = tx a := strOf_txt (tx a)

theorem fits_of {L p : List UInt8} (h : Lib.hasPrefix L p = true) : p.length ≤ L.length := (List.isPrefixOf_iff_prefix.1 h).length_le
theorem cut_eq {s : ByteArray} {i j m : Nat} {p : List UInt8} (hj : j = i + m) (hm : p.length = m) (h : Lib.hasPrefix (s.data.toList.drop i) p = true) : s.extract i j = tx p := by
  have h1 := List.prefix_iff_eq_take.1 (List.isPrefixOf_iff_prefix.1 h)
  rw [Lib.extract_eq, hj, Nat.add_sub_cancel_left, ← hm, ← h1]
theorem cut_ne {s : ByteArray} {i j m : Nat} {p : List UInt8} (hj : j = i + m) (hm : p.length = m) (hs : j ≤ s.size) (h : Lib.hasPrefix (s.data.toList.drop i) p = false) : ((s.extract i j).toList == p) = false := by
  rw [Bool.eq_false_iff]
  intro hh
  have hh := eq_of_beq hh
  rw [ByteArray.toList_eq, Lib.extract_data, hj, Nat.add_sub_cancel_left] at hh
  have h2 : p <+: s.data.toList.drop i := by
    rw [List.prefix_iff_eq_take, hm]
    exact hh.symm
  have := List.isPrefixOf_iff_prefix.2 h2
  unfold Lib.hasPrefix at h
  rw [this] at h
  cases h

theorem ent38 (w : World) : Calls Tryd.prog 39 #[.int .u8 38] w fun e w' => e = .returned (.string ⟨#[38, 97, 109, 112, 59]⟩) ∧ Below w.heap.size w w' := specEntity 38 w
theorem ent60 (w : World) : Calls Tryd.prog 39 #[.int .u8 60] w fun e w' => e = .returned (.string ⟨#[38, 108, 116, 59]⟩) ∧ Below w.heap.size w w' := specEntity 60 w
theorem ent62 (w : World) : Calls Tryd.prog 39 #[.int .u8 62] w fun e w' => e = .returned (.string ⟨#[38, 103, 116, 59]⟩) ∧ Below w.heap.size w w' := specEntity 62 w
theorem ent34 (w : World) : Calls Tryd.prog 39 #[.int .u8 34] w fun e w' => e = .returned (.string ⟨#[38, 113, 117, 111, 116, 59]⟩) ∧ Below w.heap.size w w' := specEntity 34 w
theorem ent39 (w : World) : Calls Tryd.prog 39 #[.int .u8 39] w fun e w' => e = .returned (.string ⟨#[38, 35, 51, 57, 59]⟩) ∧ Below w.heap.size w w' := specEntity 39 w

set_option maxHeartbeats 8000000 in
set_option maxRecDepth 100000 in
theorem specUnHTML (s : ByteArray) (hs : s.size ≤ 1099511627776) (w : World) :
    Calls Tryd.prog 22 #[.string s] w (UnQ w (esc.un esc.rdH s.data.toList)) := by
  obtain ⟨i0, hi, hz0, hz1, hz2⟩ := info_parts mem.u8row
  obtain ⟨L, hL⟩ : ∃ L, L = s.data.toList := ⟨_, rfl⟩
  have hLn : L.length = s.size := by rw [hL, len_eq]
  rw [← hL]
  have HN := Lib.hid hLn; have HL := Lib.hid hL; clear hLn hL
  go_enter Tryd.func22, Tryd.ntmps22
  go_wp2
  go_loopw [4, 5] (fun v x wr => ∃ (A : Option Addr) (n c i : Nat) (a : List UInt8), v = .slice A n c ∧ x = .int .i64 i ∧ i ≤ s.size ∧ n ≤ 1099511627776 ∧ Hid (Own wr w.heap.size A n c (nb a)) ∧ Hid (a.length ≤ i) ∧ Hid (esc.un esc.rdH L = esc.pre a (esc.un esc.rdH (L.drop i))) ∧ Hid (Below w.heap.size w wr)) (fun _ x _ => s.size - (intOf x).toNat)
  case atStart => exact ⟨_, 0, 0, 0, [], rfl, rfl, by omega, by omega, own_none w _ (Nat.le_refl _), by show _ ≤ _; simp, by show _ = _; rw [esc.pre_nil]; rfl, (Below.refl _ _).alloc (Nat.le_refl _) _⟩
  case round =>
    obtain ⟨A, n, c, i, a, rfl, rfl, hk, hn40, HO, HA, HU, HB⟩ := hrel
    by_cases hlt : i < s.size
    · have hb0 : (0 : Int) ≤ (s[i].toNat : Int) := by omega
      have hb9 : (s[i].toNat : Int) ≤ 255 := by have := s[i].toNat_lt; omega
      have hiL : Hid (i < L.length) := by show _ < _; rw [HN.out]; exact hlt
      have hdr : L.drop i = s[i] :: L.drop (i + 1) := by rw [List.drop_eq_getElem_cons hiL.out]; congr 1; simp only [HL.out]; rfl
      have hna : n = a.length := by rw [← HO.out.len]; unfold nb; rw [txt_len]; rfl
      have HNA := Lib.hid hna; clear hna
      by_cases hm : s[i].toNat = 38
      · have him : (s[i].toNat : Int) = 38 := by omega
        have hR := rdH_at (L := L.drop i) (by rw [hdr]; exact hm)
        have HR := Lib.hid hR; clear hR hdr hm
        go_wp2
        go_loopw [4, 5, 6, 7] (fun v x fd kk wi => (∃ k : Nat, v = .slice A n c ∧ x = .int .i64 i ∧ fd = .bool false ∧ kk = .int .i64 k ∧ k ≤ 5 ∧ Hid (PastP (L.drop i) k) ∧ Hid (Own wi w.heap.size A n c (nb a)) ∧ Hid (Below w.heap.size w wi)) ∨
          (∃ (A' : Option Addr) (c' m k : Nat) (b : UInt8) (y : Int), v = .slice A' (n + 1) c' ∧ x = .int .i64 y ∧ fd = .bool true ∧ kk = .int .i64 k ∧ k ≤ 5 ∧ 0 ≤ y ∧ y ≤ 1099511627776 ∧ Hid (y + 1 = ((i + m : Nat) : Int)) ∧ Hid (esc.rdH (L.drop i) = some (b, m)) ∧ Hid (Own wi w.heap.size A' (n + 1) c' (nb (a ++ [b]))) ∧ Hid (Below w.heap.size w wi))) (fun _ _ _ kk _ => 5 - (intOf kk).toNat)
        case atStart => exact .inl ⟨0, rfl, rfl, rfl, rfl, by omega, PastP.start _, HO, HB⟩
        case round =>
          rcases hrel with ⟨k, rfl, rfl, rfl, rfl, hk5, HP, HOi, HBi⟩ | ⟨A', c', m, k, b, y, rfl, rfl, rfl, rfl, hk5, y0, y1, HY, HRd, HOi, HBi⟩
          · have hc : k = 0 ∨ k = 1 ∨ k = 2 ∨ k = 3 ∨ k = 4 ∨ k = 5 := by omega
            clear hk5
            rcases hc with rfl | rfl | rfl | rfl | rfl | rfl
            · by_cases hfit : i + 5 ≤ s.size
              · obtain ⟨j, hj⟩ : ∃ j, j = i + 5 := ⟨_, rfl⟩
                have hji : (i : Int) + 5 = (j : Int) := by omega
                have hij : i ≤ j := by omega
                have hle : (5 : Int) ≤ (s.size : Int) - (i : Int) := by omega
                have hjs : j ≤ s.size := by omega
                by_cases hp : Lib.hasPrefix (L.drop i) [38, 97, 109, 112, 59] = true
                · have hx : s.extract i j = ⟨#[38, 97, 109, 112, 59]⟩ := cut_eq (p := [38, 97, 109, 112, 59]) hj rfl (by rw [← HL.out]; exact hp)
                  have HRd : Hid (esc.rdH (L.drop i) = some (38, 5)) := by show _ = _; rw [HR.out, if_pos hp]
                  have HJ := Lib.hid hj; clear hj hp
                  go_wp2_with (fail)
                  refine (ent38 _).mono ?_
                  rintro e w1 ⟨rfl, hb⟩
                  have HB1 := Lib.hid (HBi.out.trans (hb.mono HBi.out.size)); have HO1 := Lib.hid (HOi.out.below hb); clear hb
                  go_wp2_with (at_builtin; refine append_rd rfl _ _ _ rfl i0 Tryd.underlying22 hi hz0 hz1 hz2 w.heap.size A n c (nb a) rfl (HO1.out.alloc _) _ 1 1 [((⟨#[38, 60, 62, 34, 39]⟩ : ByteArray)[0].toNat : Int)] rfl (rd_one _ _ (by decide) (by decide) _) (by omega) (by have := HB1.out.size; simp; omega) ?_)
                  intro A' c' w' hown hbel
                  have HO2 := Lib.hid hown; have HB2 := Lib.hid ((HB1.out.alloc HB1.out.size _).trans hbel); clear hown hbel
                  go_wp2
                  go_roundw
                  case measure => simp [RowKit.intOf]
                  case rel => exact .inr ⟨A', c', 5, 1, 38, _, rfl, rfl, rfl, rfl, by omega, by omega, by omega, by show _ = _; have := HJ.out; omega, HRd, by show Own _ _ _ _ _ _; rw [nb_snoc]; exact HO2.out, HB2.out⟩
                · have hp2 : Lib.hasPrefix (L.drop i) [38, 97, 109, 112, 59] = false := by simpa using hp
                  have hx : ((s.extract i j).toList == [38, 97, 109, 112, 59]) = false := cut_ne (p := [38, 97, 109, 112, 59]) hj rfl hjs (by rw [← HL.out]; exact hp2)
                  have HP2 : Hid (PastP (L.drop i) 1) := by show PastP _ _; have := HP.out; unfold PastP at *; simp_all
                  clear hj hp hp2
                  go_wp2_with (fail)
                  refine (ent38 _).mono ?_
                  rintro e w1 ⟨rfl, hb⟩
                  have HB1 := Lib.hid (HBi.out.trans (hb.mono HBi.out.size)); have HO1 := Lib.hid (HOi.out.below hb); clear hb
                  go_wp2
                  go_roundw
                  case measure => simp [RowKit.intOf]
                  case rel => exact .inl ⟨1, rfl, rfl, rfl, rfl, by omega, HP2, HO1, HB1⟩
              · have hp2 : Lib.hasPrefix (L.drop i) [38, 97, 109, 112, 59] = false := by
                  rw [Bool.eq_false_iff]
                  intro hh
                  have h1 := fits_of hh
                  rw [List.length_drop] at h1
                  have h2 : ([38, 97, 109, 112, 59] : List UInt8).length = 5 := rfl
                  have h3 := HN.out
                  omega
                have HP2 : Hid (PastP (L.drop i) 1) := by show PastP _ _; have := HP.out; unfold PastP at *; simp_all
                clear hp2
                have hle : ¬ (5 : Int) ≤ (s.size : Int) - (i : Int) := by omega
                go_wp2_with (fail)
                refine (ent38 _).mono ?_
                rintro e w1 ⟨rfl, hb⟩
                have HB1 := Lib.hid (HBi.out.trans (hb.mono HBi.out.size)); have HO1 := Lib.hid (HOi.out.below hb); clear hb
                go_wp2
                go_roundw
                case measure => simp [RowKit.intOf]
                case rel => exact .inl ⟨1, rfl, rfl, rfl, rfl, by omega, HP2, HO1, HB1⟩
            · by_cases hfit : i + 4 ≤ s.size
              · obtain ⟨j, hj⟩ : ∃ j, j = i + 4 := ⟨_, rfl⟩
                have hji : (i : Int) + 4 = (j : Int) := by omega
                have hij : i ≤ j := by omega
                have hle : (4 : Int) ≤ (s.size : Int) - (i : Int) := by omega
                have hjs : j ≤ s.size := by omega
                by_cases hp : Lib.hasPrefix (L.drop i) [38, 108, 116, 59] = true
                · have hx : s.extract i j = ⟨#[38, 108, 116, 59]⟩ := cut_eq (p := [38, 108, 116, 59]) hj rfl (by rw [← HL.out]; exact hp)
                  have HRd : Hid (esc.rdH (L.drop i) = some (60, 4)) := by show _ = _; rw [HR.out, if_neg (by rw [HP.out.1 (by omega)]; decide), if_pos hp]
                  have HJ := Lib.hid hj; clear hj hp
                  go_wp2_with (fail)
                  refine (ent60 _).mono ?_
                  rintro e w1 ⟨rfl, hb⟩
                  have HB1 := Lib.hid (HBi.out.trans (hb.mono HBi.out.size)); have HO1 := Lib.hid (HOi.out.below hb); clear hb
                  go_wp2_with (at_builtin; refine append_rd rfl _ _ _ rfl i0 Tryd.underlying22 hi hz0 hz1 hz2 w.heap.size A n c (nb a) rfl (HO1.out.alloc _) _ 1 1 [((⟨#[38, 60, 62, 34, 39]⟩ : ByteArray)[1].toNat : Int)] rfl (rd_one _ _ (by decide) (by decide) _) (by omega) (by have := HB1.out.size; simp; omega) ?_)
                  intro A' c' w' hown hbel
                  have HO2 := Lib.hid hown; have HB2 := Lib.hid ((HB1.out.alloc HB1.out.size _).trans hbel); clear hown hbel
                  go_wp2
                  go_roundw
                  case measure => simp [RowKit.intOf]
                  case rel => exact .inr ⟨A', c', 4, 2, 60, _, rfl, rfl, rfl, rfl, by omega, by omega, by omega, by show _ = _; have := HJ.out; omega, HRd, by show Own _ _ _ _ _ _; rw [nb_snoc]; exact HO2.out, HB2.out⟩
                · have hp2 : Lib.hasPrefix (L.drop i) [38, 108, 116, 59] = false := by simpa using hp
                  have hx : ((s.extract i j).toList == [38, 108, 116, 59]) = false := cut_ne (p := [38, 108, 116, 59]) hj rfl hjs (by rw [← HL.out]; exact hp2)
                  have HP2 : Hid (PastP (L.drop i) 2) := by show PastP _ _; have := HP.out; unfold PastP at *; simp_all
                  clear hj hp hp2
                  go_wp2_with (fail)
                  refine (ent60 _).mono ?_
                  rintro e w1 ⟨rfl, hb⟩
                  have HB1 := Lib.hid (HBi.out.trans (hb.mono HBi.out.size)); have HO1 := Lib.hid (HOi.out.below hb); clear hb
                  go_wp2
                  go_roundw
                  case measure => simp [RowKit.intOf]
                  case rel => exact .inl ⟨2, rfl, rfl, rfl, rfl, by omega, HP2, HO1, HB1⟩
              · have hp2 : Lib.hasPrefix (L.drop i) [38, 108, 116, 59] = false := by
                  rw [Bool.eq_false_iff]
                  intro hh
                  have h1 := fits_of hh
                  rw [List.length_drop] at h1
                  have h2 : ([38, 108, 116, 59] : List UInt8).length = 4 := rfl
                  have h3 := HN.out
                  omega
                have HP2 : Hid (PastP (L.drop i) 2) := by show PastP _ _; have := HP.out; unfold PastP at *; simp_all
                clear hp2
                have hle : ¬ (4 : Int) ≤ (s.size : Int) - (i : Int) := by omega
                go_wp2_with (fail)
                refine (ent60 _).mono ?_
                rintro e w1 ⟨rfl, hb⟩
                have HB1 := Lib.hid (HBi.out.trans (hb.mono HBi.out.size)); have HO1 := Lib.hid (HOi.out.below hb); clear hb
                go_wp2
                go_roundw
                case measure => simp [RowKit.intOf]
                case rel => exact .inl ⟨2, rfl, rfl, rfl, rfl, by omega, HP2, HO1, HB1⟩
            · by_cases hfit : i + 4 ≤ s.size
              · obtain ⟨j, hj⟩ : ∃ j, j = i + 4 := ⟨_, rfl⟩
                have hji : (i : Int) + 4 = (j : Int) := by omega
                have hij : i ≤ j := by omega
                have hle : (4 : Int) ≤ (s.size : Int) - (i : Int) := by omega
                have hjs : j ≤ s.size := by omega
                by_cases hp : Lib.hasPrefix (L.drop i) [38, 103, 116, 59] = true
                · have hx : s.extract i j = ⟨#[38, 103, 116, 59]⟩ := cut_eq (p := [38, 103, 116, 59]) hj rfl (by rw [← HL.out]; exact hp)
                  have HRd : Hid (esc.rdH (L.drop i) = some (62, 4)) := by show _ = _; rw [HR.out, if_neg (by rw [HP.out.1 (by omega)]; decide), if_neg (by rw [HP.out.2.1 (by omega)]; decide), if_pos hp]
                  have HJ := Lib.hid hj; clear hj hp
                  go_wp2_with (fail)
                  refine (ent62 _).mono ?_
                  rintro e w1 ⟨rfl, hb⟩
                  have HB1 := Lib.hid (HBi.out.trans (hb.mono HBi.out.size)); have HO1 := Lib.hid (HOi.out.below hb); clear hb
                  go_wp2_with (at_builtin; refine append_rd rfl _ _ _ rfl i0 Tryd.underlying22 hi hz0 hz1 hz2 w.heap.size A n c (nb a) rfl (HO1.out.alloc _) _ 1 1 [((⟨#[38, 60, 62, 34, 39]⟩ : ByteArray)[2].toNat : Int)] rfl (rd_one _ _ (by decide) (by decide) _) (by omega) (by have := HB1.out.size; simp; omega) ?_)
                  intro A' c' w' hown hbel
                  have HO2 := Lib.hid hown; have HB2 := Lib.hid ((HB1.out.alloc HB1.out.size _).trans hbel); clear hown hbel
                  go_wp2
                  go_roundw
                  case measure => simp [RowKit.intOf]
                  case rel => exact .inr ⟨A', c', 4, 3, 62, _, rfl, rfl, rfl, rfl, by omega, by omega, by omega, by show _ = _; have := HJ.out; omega, HRd, by show Own _ _ _ _ _ _; rw [nb_snoc]; exact HO2.out, HB2.out⟩
                · have hp2 : Lib.hasPrefix (L.drop i) [38, 103, 116, 59] = false := by simpa using hp
                  have hx : ((s.extract i j).toList == [38, 103, 116, 59]) = false := cut_ne (p := [38, 103, 116, 59]) hj rfl hjs (by rw [← HL.out]; exact hp2)
                  have HP2 : Hid (PastP (L.drop i) 3) := by show PastP _ _; have := HP.out; unfold PastP at *; simp_all
                  clear hj hp hp2
                  go_wp2_with (fail)
                  refine (ent62 _).mono ?_
                  rintro e w1 ⟨rfl, hb⟩
                  have HB1 := Lib.hid (HBi.out.trans (hb.mono HBi.out.size)); have HO1 := Lib.hid (HOi.out.below hb); clear hb
                  go_wp2
                  go_roundw
                  case measure => simp [RowKit.intOf]
                  case rel => exact .inl ⟨3, rfl, rfl, rfl, rfl, by omega, HP2, HO1, HB1⟩
              · have hp2 : Lib.hasPrefix (L.drop i) [38, 103, 116, 59] = false := by
                  rw [Bool.eq_false_iff]
                  intro hh
                  have h1 := fits_of hh
                  rw [List.length_drop] at h1
                  have h2 : ([38, 103, 116, 59] : List UInt8).length = 4 := rfl
                  have h3 := HN.out
                  omega
                have HP2 : Hid (PastP (L.drop i) 3) := by show PastP _ _; have := HP.out; unfold PastP at *; simp_all
                clear hp2
                have hle : ¬ (4 : Int) ≤ (s.size : Int) - (i : Int) := by omega
                go_wp2_with (fail)
                refine (ent62 _).mono ?_
                rintro e w1 ⟨rfl, hb⟩
                have HB1 := Lib.hid (HBi.out.trans (hb.mono HBi.out.size)); have HO1 := Lib.hid (HOi.out.below hb); clear hb
                go_wp2
                go_roundw
                case measure => simp [RowKit.intOf]
                case rel => exact .inl ⟨3, rfl, rfl, rfl, rfl, by omega, HP2, HO1, HB1⟩
            · by_cases hfit : i + 6 ≤ s.size
              · obtain ⟨j, hj⟩ : ∃ j, j = i + 6 := ⟨_, rfl⟩
                have hji : (i : Int) + 6 = (j : Int) := by omega
                have hij : i ≤ j := by omega
                have hle : (6 : Int) ≤ (s.size : Int) - (i : Int) := by omega
                have hjs : j ≤ s.size := by omega
                by_cases hp : Lib.hasPrefix (L.drop i) [38, 113, 117, 111, 116, 59] = true
                · have hx : s.extract i j = ⟨#[38, 113, 117, 111, 116, 59]⟩ := cut_eq (p := [38, 113, 117, 111, 116, 59]) hj rfl (by rw [← HL.out]; exact hp)
                  have HRd : Hid (esc.rdH (L.drop i) = some (34, 6)) := by show _ = _; rw [HR.out, if_neg (by rw [HP.out.1 (by omega)]; decide), if_neg (by rw [HP.out.2.1 (by omega)]; decide), if_neg (by rw [HP.out.2.2.1 (by omega)]; decide), if_pos hp]
                  have HJ := Lib.hid hj; clear hj hp
                  go_wp2_with (fail)
                  refine (ent34 _).mono ?_
                  rintro e w1 ⟨rfl, hb⟩
                  have HB1 := Lib.hid (HBi.out.trans (hb.mono HBi.out.size)); have HO1 := Lib.hid (HOi.out.below hb); clear hb
                  go_wp2_with (at_builtin; refine append_rd rfl _ _ _ rfl i0 Tryd.underlying22 hi hz0 hz1 hz2 w.heap.size A n c (nb a) rfl (HO1.out.alloc _) _ 1 1 [((⟨#[38, 60, 62, 34, 39]⟩ : ByteArray)[3].toNat : Int)] rfl (rd_one _ _ (by decide) (by decide) _) (by omega) (by have := HB1.out.size; simp; omega) ?_)
                  intro A' c' w' hown hbel
                  have HO2 := Lib.hid hown; have HB2 := Lib.hid ((HB1.out.alloc HB1.out.size _).trans hbel); clear hown hbel
                  go_wp2
                  go_roundw
                  case measure => simp [RowKit.intOf]
                  case rel => exact .inr ⟨A', c', 6, 4, 34, _, rfl, rfl, rfl, rfl, by omega, by omega, by omega, by show _ = _; have := HJ.out; omega, HRd, by show Own _ _ _ _ _ _; rw [nb_snoc]; exact HO2.out, HB2.out⟩
                · have hp2 : Lib.hasPrefix (L.drop i) [38, 113, 117, 111, 116, 59] = false := by simpa using hp
                  have hx : ((s.extract i j).toList == [38, 113, 117, 111, 116, 59]) = false := cut_ne (p := [38, 113, 117, 111, 116, 59]) hj rfl hjs (by rw [← HL.out]; exact hp2)
                  have HP2 : Hid (PastP (L.drop i) 4) := by show PastP _ _; have := HP.out; unfold PastP at *; simp_all
                  clear hj hp hp2
                  go_wp2_with (fail)
                  refine (ent34 _).mono ?_
                  rintro e w1 ⟨rfl, hb⟩
                  have HB1 := Lib.hid (HBi.out.trans (hb.mono HBi.out.size)); have HO1 := Lib.hid (HOi.out.below hb); clear hb
                  go_wp2
                  go_roundw
                  case measure => simp [RowKit.intOf]
                  case rel => exact .inl ⟨4, rfl, rfl, rfl, rfl, by omega, HP2, HO1, HB1⟩
              · have hp2 : Lib.hasPrefix (L.drop i) [38, 113, 117, 111, 116, 59] = false := by
                  rw [Bool.eq_false_iff]
                  intro hh
                  have h1 := fits_of hh
                  rw [List.length_drop] at h1
                  have h2 : ([38, 113, 117, 111, 116, 59] : List UInt8).length = 6 := rfl
                  have h3 := HN.out
                  omega
                have HP2 : Hid (PastP (L.drop i) 4) := by show PastP _ _; have := HP.out; unfold PastP at *; simp_all
                clear hp2
                have hle : ¬ (6 : Int) ≤ (s.size : Int) - (i : Int) := by omega
                go_wp2_with (fail)
                refine (ent34 _).mono ?_
                rintro e w1 ⟨rfl, hb⟩
                have HB1 := Lib.hid (HBi.out.trans (hb.mono HBi.out.size)); have HO1 := Lib.hid (HOi.out.below hb); clear hb
                go_wp2
                go_roundw
                case measure => simp [RowKit.intOf]
                case rel => exact .inl ⟨4, rfl, rfl, rfl, rfl, by omega, HP2, HO1, HB1⟩
            · by_cases hfit : i + 5 ≤ s.size
              · obtain ⟨j, hj⟩ : ∃ j, j = i + 5 := ⟨_, rfl⟩
                have hji : (i : Int) + 5 = (j : Int) := by omega
                have hij : i ≤ j := by omega
                have hle : (5 : Int) ≤ (s.size : Int) - (i : Int) := by omega
                have hjs : j ≤ s.size := by omega
                by_cases hp : Lib.hasPrefix (L.drop i) [38, 35, 51, 57, 59] = true
                · have hx : s.extract i j = ⟨#[38, 35, 51, 57, 59]⟩ := cut_eq (p := [38, 35, 51, 57, 59]) hj rfl (by rw [← HL.out]; exact hp)
                  have HRd : Hid (esc.rdH (L.drop i) = some (39, 5)) := by show _ = _; rw [HR.out, if_neg (by rw [HP.out.1 (by omega)]; decide), if_neg (by rw [HP.out.2.1 (by omega)]; decide), if_neg (by rw [HP.out.2.2.1 (by omega)]; decide), if_neg (by rw [HP.out.2.2.2.1 (by omega)]; decide), if_pos hp]
                  have HJ := Lib.hid hj; clear hj hp
                  go_wp2_with (fail)
                  refine (ent39 _).mono ?_
                  rintro e w1 ⟨rfl, hb⟩
                  have HB1 := Lib.hid (HBi.out.trans (hb.mono HBi.out.size)); have HO1 := Lib.hid (HOi.out.below hb); clear hb
                  go_wp2_with (at_builtin; refine append_rd rfl _ _ _ rfl i0 Tryd.underlying22 hi hz0 hz1 hz2 w.heap.size A n c (nb a) rfl (HO1.out.alloc _) _ 1 1 [((⟨#[38, 60, 62, 34, 39]⟩ : ByteArray)[4].toNat : Int)] rfl (rd_one _ _ (by decide) (by decide) _) (by omega) (by have := HB1.out.size; simp; omega) ?_)
                  intro A' c' w' hown hbel
                  have HO2 := Lib.hid hown; have HB2 := Lib.hid ((HB1.out.alloc HB1.out.size _).trans hbel); clear hown hbel
                  go_wp2
                  go_roundw
                  case measure => simp [RowKit.intOf]
                  case rel => exact .inr ⟨A', c', 5, 5, 39, _, rfl, rfl, rfl, rfl, by omega, by omega, by omega, by show _ = _; have := HJ.out; omega, HRd, by show Own _ _ _ _ _ _; rw [nb_snoc]; exact HO2.out, HB2.out⟩
                · have hp2 : Lib.hasPrefix (L.drop i) [38, 35, 51, 57, 59] = false := by simpa using hp
                  have hx : ((s.extract i j).toList == [38, 35, 51, 57, 59]) = false := cut_ne (p := [38, 35, 51, 57, 59]) hj rfl hjs (by rw [← HL.out]; exact hp2)
                  have HP2 : Hid (PastP (L.drop i) 5) := by show PastP _ _; have := HP.out; unfold PastP at *; simp_all
                  clear hj hp hp2
                  go_wp2_with (fail)
                  refine (ent39 _).mono ?_
                  rintro e w1 ⟨rfl, hb⟩
                  have HB1 := Lib.hid (HBi.out.trans (hb.mono HBi.out.size)); have HO1 := Lib.hid (HOi.out.below hb); clear hb
                  go_wp2
                  go_roundw
                  case measure => simp [RowKit.intOf]
                  case rel => exact .inl ⟨5, rfl, rfl, rfl, rfl, by omega, HP2, HO1, HB1⟩
              · have hp2 : Lib.hasPrefix (L.drop i) [38, 35, 51, 57, 59] = false := by
                  rw [Bool.eq_false_iff]
                  intro hh
                  have h1 := fits_of hh
                  rw [List.length_drop] at h1
                  have h2 : ([38, 35, 51, 57, 59] : List UInt8).length = 5 := rfl
                  have h3 := HN.out
                  omega
                have HP2 : Hid (PastP (L.drop i) 5) := by show PastP _ _; have := HP.out; unfold PastP at *; simp_all
                clear hp2
                have hle : ¬ (5 : Int) ≤ (s.size : Int) - (i : Int) := by omega
                go_wp2_with (fail)
                refine (ent39 _).mono ?_
                rintro e w1 ⟨rfl, hb⟩
                have HB1 := Lib.hid (HBi.out.trans (hb.mono HBi.out.size)); have HO1 := Lib.hid (HOi.out.below hb); clear hb
                go_wp2
                go_roundw
                case measure => simp [RowKit.intOf]
                case rel => exact .inl ⟨5, rfl, rfl, rfl, rfl, by omega, HP2, HO1, HB1⟩
            · have hr : esc.rdH (L.drop i) = none := by rw [HR.out, if_neg (by rw [HP.out.1 (by omega)]; decide), if_neg (by rw [HP.out.2.1 (by omega)]; decide), if_neg (by rw [HP.out.2.2.1 (by omega)]; decide), if_neg (by rw [HP.out.2.2.2.1 (by omega)]; decide), if_neg (by rw [HP.out.2.2.2.2 (by omega)]; decide)]
              have HA2 : Hid (esc.un esc.rdH L = none) := esc.mid_none esc.eats_H hiL.out hr HU.out
              clear hr
              go_wp2
              go_ret2
              exact ⟨by rw [HA2.out]; rfl, HBi.out⟩
          · have hmid := esc.mid_some esc.eats_H hiL.out HRd.out HU.out
            have hne : L.drop i ≠ [] := fun hh => by have h1 := congrArg List.length hh; have h2 := hiL.out; rw [List.length_drop] at h1; simp at h1; omega
            obtain ⟨m1, m2⟩ := esc.eats_H _ _ _ hne HRd.out
            have him2 : i + m ≤ s.size := by rw [List.length_drop] at m2; have := HN.out; omega
            have HM := Lib.hid hmid; have HI2 := Lib.hid him2; have HM1 := Lib.hid m1; clear hmid hne m1 m2 him2
            by_cases hk4 : k < 5
            · go_wp2
              go_roundw
              case measure => simp only [RowKit.intOf]; have := HY.out; have := HM1.out; omega
              case rel => exact ⟨A', n + 1, c', i + m, a ++ [b], rfl, congrArg (Value.int .i64) HY.out, HI2.out, by have := HA.out; have := HNA.out; omega, HOi, by show _ ≤ _; have := HA.out; have := HM1.out; simp; omega, HM, HBi⟩
            · go_wp2
              go_roundw
              case measure => simp only [RowKit.intOf]; have := HY.out; have := HM1.out; omega
              case rel => exact ⟨A', n + 1, c', i + m, a ++ [b], rfl, congrArg (Value.int .i64) HY.out, HI2.out, by have := HA.out; have := HNA.out; omega, HOi, by show _ ≤ _; have := HA.out; have := HM1.out; simp; omega, HM, HBi⟩
      · have him : ¬ (s[i].toNat : Int) = 38 := by omega
        have hr : esc.rdH (L.drop i) = some (s[i], 1) := by rw [hdr]; exact if_pos hm
        have hmid := esc.mid_some esc.eats_H hiL.out hr HU.out
        have HM := Lib.hid hmid; clear hmid hr hdr hm
        go_wp2_with (at_builtin; refine append_rd rfl _ _ _ rfl i0 Tryd.underlying22 hi hz0 hz1 hz2 w.heap.size A n c (nb a) rfl (HO.out.alloc _) _ 1 1 [(s[i].toNat : Int)] rfl (rd_one _ _ hb0 hb9 _) (by omega) (by have := HB.out.size; simp; omega) ?_)
        intro A' c' w' hown hbel
        have HO2 := Lib.hid hown; have HB2 := Lib.hid ((HB.out.alloc HB.out.size _).trans hbel); clear hown hbel
        go_wp2
        go_roundw
        case measure => simp only [RowKit.intOf]; omega
        case rel => exact ⟨A', n + 1, c', i + 1, a ++ [s[i]], rfl, rfl, by omega, by have := HA.out; have := HNA.out; omega, by show Own _ _ _ _ _ _; rw [nb_snoc]; exact HO2.out, by show _ ≤ _; have := HA.out; simp; omega, HM.out, HB2.out⟩
    · have HR : Hid (esc.un esc.rdH L = some a) := esc.mid_end (by have := HN.out; omega) HU.out
      have hcv := conv_rd (P := Tryd.prog) wr 22 9 5 Tryd.underlying22 Tryd.underlying5 Tryd.underlying9 HO.out.rd
      rw [nb_str] at hcv
      go_wp2
      go_ret2
      exact ⟨by rw [HR.out]; rfl, HB.out⟩

end Go.Proofs.YtofdnpbmanonpaaDoor.seq
