/-
  What EscapeURL and EscapeScript of the project and of the model return.
  Conditions: the text has at most 2^40 bytes.
-/
import Derived.Test.YtofdnpbmanonpaaDoorPlain
namespace Go.Proofs.YtofdnpbmanonpaaDoor.seq
open Go.ChangeShapes Go.WideShapes Go.ChangeAt Go.RowKit
set_option linter.unusedVariables false

theorem stays_true : Stays (fun _ => True) := fun _ _ _ _ => trivial

theorem implEscURL (s : ByteArray) (hs : s.size ≤ 1099511627776) (w : World) :
    Calls Tryd.prog 17 #[.string s] w (StrQ w (esc.esc esc.urlQ s.data.toList)) := by
  go_enter Tryd.func17, Tryd.ntmps17
  go_wp2_with (fail)
  refine (escB stays_true urlSeq s hs _ trivial).mono ?_
  rintro e w1 ⟨rfl, hb⟩
  go_wp2
  go_ret
  exact ⟨rfl, hb⟩
theorem implEscScript (s : ByteArray) (hs : s.size ≤ 1099511627776) (w : World) :
    Calls Tryd.prog 19 #[.string s] w (StrQ w (esc.esc esc.scrQ s.data.toList)) := by
  go_enter Tryd.func19, Tryd.ntmps19
  go_wp2_with (fail)
  refine (escB stays_true scrSeq s hs _ trivial).mono ?_
  rintro e w1 ⟨rfl, hb⟩
  go_wp2
  go_ret
  exact ⟨rfl, hb⟩

theorem cut_one (s : ByteArray) (k : Nat) (h : k < s.size) : s.extract k (k + 1) = tx [s[k]] := by
  have hl : k < s.data.toList.length := by rw [len_eq]; exact h
  rw [Lib.extract_eq, Nat.add_sub_cancel_left, List.drop_eq_getElem_cons hl]
  rfl

set_option maxHeartbeats 600000 in
set_option maxRecDepth 100000 in
theorem specEscURL (s : ByteArray) (hs : s.size ≤ 1099511627776) (w : World) :
    Calls Tryd.prog 41 #[.string s] w (StrQ w (esc.esc esc.urlQ s.data.toList)) := by
  go_enter Tryd.func41, Tryd.ntmps41
  go_wp2
  go_loopw [3, 4] (fun v i wr => ∃ (k : Nat) (o : ByteArray), v = .string o ∧ i = .int .i64 k ∧ k ≤ s.size ∧ o.size ≤ 6597069766656 ∧ Hid (o = tx (esc.esc esc.urlQ (s.data.toList.take k))) ∧ Hid (Below w.heap.size w wr)) (fun _ i _ => s.size - (intOf i).toNat)
  case atStart => exact ⟨0, ⟨#[]⟩, rfl, rfl, by omega, by show 0 ≤ _; omega, rfl, Below.refl _ _⟩
  case round =>
    obtain ⟨k, o, rfl, rfl, hk, ho, HO, HB⟩ := hrel
    by_cases hlt : k < s.size
    · have hb0 : (0 : Int) ≤ (s[k].toNat : Int) := by omega
      have hb9 : (s[k].toNat : Int) ≤ 255 := by have := s[k].toNat_lt; omega
      have hstep : esc.esc esc.urlQ (s.data.toList.take (k + 1)) = esc.esc esc.urlQ (s.data.toList.take k) ++ esc.fill esc.urlQ s[k] := esc.esc_step esc.urlQ s.data.toList k (by rw [len_eq]; exact hlt)
      have hlen := esc.six_url.take s.data.toList (k + 1)
      have HS := Lib.hid hstep; have HL := Lib.hid hlen; clear hstep hlen
      have fin : ∀ x : ByteArray, x = tx (esc.esc esc.urlQ (s.data.toList.take (k + 1))) → x.size ≤ 6597069766656 := fun x hx => by rw [hx, tx_size]; have := HL.out; omega
      have HFin := Lib.hid fin; clear fin
      by_cases hp : esc.Plain s[k].toNat
      · have H1 := Lib.hid (decide_eq_true hp)
        have H2 : Hid (esc.fill esc.urlQ s[k] = [s[k]]) := esc.fill_nil (if_pos hp)
        obtain ⟨j, hj⟩ : ∃ j, j = k + 1 := ⟨_, rfl⟩
        have hji : (k : Int) + 1 = (j : Int) := by omega
        have hle : k ≤ j := by omega
        have hle2 : j ≤ s.size := by omega
        have hxs : (s.extract k j).size ≤ 1 := by rw [hj, cut_one s k hlt]; exact Nat.le_refl _
        have HX : Hid (o ++ s.extract k j = tx (esc.esc esc.urlQ (s.data.toList.take (k + 1)))) := by show _ = _; rw [HO.out, hj, cut_one s k hlt, app_tx, HS.out, H2.out]
        have HJ := Lib.hid hj
        clear hp hj
        go_wp2_with (go_at_call 57; refine (specPlain _ _).mono ?_; rintro e w1 ⟨rfl, rfl⟩; rw [H1.out])
        go_roundw
        case measure => simp only [RowKit.intOf]; have := HJ.out; omega
        case rel => exact ⟨j, o ++ s.extract k j, rfl, rfl, hle2, HFin.out _ HX.out, by show _ = _; rw [HX.out, HJ.out], HB.out⟩
      · have H1 := Lib.hid (decide_eq_false hp)
        have H2 : Hid (esc.fill esc.urlQ s[k] = 37 :: esc.pair s[k]) := by
          have e : esc.urlQ s[k] = 37 :: esc.pair s[k] := if_neg hp
          show _ = _
          rw [esc.fill_not (by rw [e]; simp), e]
        obtain ⟨t, ht⟩ : ∃ t, t = tx (esc.pair s[k]) := ⟨_, rfl⟩
        have HT := Lib.hid ht
        have h3 : t.size = 2 := by rw [ht]; rfl
        have HX : Hid ((o ++ ⟨#[37]⟩) ++ t = tx (esc.esc esc.urlQ (s.data.toList.take (k + 1)))) := by
          show _ = _
          rw [HO.out, HT.out, show (⟨#[37]⟩ : ByteArray) = tx [37] from rfl, app_tx, app_tx, HS.out, H2.out, List.append_assoc]; rfl
        clear hp ht
        go_wp2_with (go_at_call 57; refine (specPlain _ _).mono ?_; rintro e w1 ⟨rfl, rfl⟩; rw [H1.out])
        refine (specPair s[k] _).mono ?_
        rintro e w1 ⟨he, hb⟩
        obtain rfl : e = .returned (.string t) := he.trans (by rw [HT.out])
        have HB1 := Lib.hid (HB.out.trans (hb.mono HB.out.size)); clear he hb
        go_wp2
        go_roundw
        case measure => simp only [RowKit.intOf]; omega
        case rel => exact ⟨k + 1, _, rfl, rfl, by omega, HFin.out _ HX.out, HX, HB1.out⟩
    · obtain rfl : k = s.size := by omega
      have HA : Hid (o = tx (esc.esc esc.urlQ s.data.toList)) := by show _ = _; rw [HO.out, List.take_of_length_le (by rw [len_eq]; omega)]
      go_wp2
      go_ret
      exact ⟨by rw [HA.out]; rfl, HB.out⟩

set_option maxHeartbeats 600000 in
set_option maxRecDepth 100000 in
theorem specEscScript (s : ByteArray) (hs : s.size ≤ 1099511627776) (w : World) :
    Calls Tryd.prog 42 #[.string s] w (StrQ w (esc.esc esc.scrQ s.data.toList)) := by
  go_enter Tryd.func42, Tryd.ntmps42
  go_wp2
  go_loopw [3, 4] (fun v i wr => ∃ (k : Nat) (o : ByteArray), v = .string o ∧ i = .int .i64 k ∧ k ≤ s.size ∧ o.size ≤ 6597069766656 ∧ Hid (o = tx (esc.esc esc.scrQ (s.data.toList.take k))) ∧ Hid (Below w.heap.size w wr)) (fun _ i _ => s.size - (intOf i).toNat)
  case atStart => exact ⟨0, ⟨#[]⟩, rfl, rfl, by omega, by show 0 ≤ _; omega, rfl, Below.refl _ _⟩
  case round =>
    obtain ⟨k, o, rfl, rfl, hk, ho, HO, HB⟩ := hrel
    by_cases hlt : k < s.size
    · have hb0 : (0 : Int) ≤ (s[k].toNat : Int) := by omega
      have hb9 : (s[k].toNat : Int) ≤ 255 := by have := s[k].toNat_lt; omega
      have hstep : esc.esc esc.scrQ (s.data.toList.take (k + 1)) = esc.esc esc.scrQ (s.data.toList.take k) ++ esc.fill esc.scrQ s[k] := esc.esc_step esc.scrQ s.data.toList k (by rw [len_eq]; exact hlt)
      have hlen := esc.six_scr.take s.data.toList (k + 1)
      have HS := Lib.hid hstep; have HL := Lib.hid hlen; clear hstep hlen
      have fin : ∀ x : ByteArray, x = tx (esc.esc esc.scrQ (s.data.toList.take (k + 1))) → x.size ≤ 6597069766656 := fun x hx => by rw [hx, tx_size]; have := HL.out; omega
      have HFin := Lib.hid fin; clear fin
      by_cases hp : esc.Bare s[k].toNat
      · have H1 := Lib.hid (decide_eq_true hp)
        have H2 : Hid (esc.fill esc.scrQ s[k] = [s[k]]) := esc.fill_nil (if_pos hp)
        obtain ⟨j, hj⟩ : ∃ j, j = k + 1 := ⟨_, rfl⟩
        have hji : (k : Int) + 1 = (j : Int) := by omega
        have hle : k ≤ j := by omega
        have hle2 : j ≤ s.size := by omega
        have hxs : (s.extract k j).size ≤ 1 := by rw [hj, cut_one s k hlt]; exact Nat.le_refl _
        have HX : Hid (o ++ s.extract k j = tx (esc.esc esc.scrQ (s.data.toList.take (k + 1)))) := by show _ = _; rw [HO.out, hj, cut_one s k hlt, app_tx, HS.out, H2.out]
        have HJ := Lib.hid hj
        clear hp hj
        go_wp2_with (go_at_call 59; refine (specBare _ _).mono ?_; rintro e w1 ⟨rfl, rfl⟩; rw [H1.out])
        go_roundw
        case measure => simp only [RowKit.intOf]; have := HJ.out; omega
        case rel => exact ⟨j, o ++ s.extract k j, rfl, rfl, hle2, HFin.out _ HX.out, by show _ = _; rw [HX.out, HJ.out], HB.out⟩
      · have H1 := Lib.hid (decide_eq_false hp)
        have H2 : Hid (esc.fill esc.scrQ s[k] = 92 :: 120 :: esc.pair s[k]) := by
          have e : esc.scrQ s[k] = 92 :: 120 :: esc.pair s[k] := if_neg hp
          show _ = _
          rw [esc.fill_not (by rw [e]; simp), e]
        obtain ⟨t, ht⟩ : ∃ t, t = tx (esc.pair s[k]) := ⟨_, rfl⟩
        have HT := Lib.hid ht
        have h3 : t.size = 2 := by rw [ht]; rfl
        have HX : Hid ((o ++ ⟨#[92, 120]⟩) ++ t = tx (esc.esc esc.scrQ (s.data.toList.take (k + 1)))) := by
          show _ = _
          rw [HO.out, HT.out, show (⟨#[92, 120]⟩ : ByteArray) = tx [92, 120] from rfl, app_tx, app_tx, HS.out, H2.out, List.append_assoc]; rfl
        clear hp ht
        go_wp2_with (go_at_call 59; refine (specBare _ _).mono ?_; rintro e w1 ⟨rfl, rfl⟩; rw [H1.out])
        refine (specPair s[k] _).mono ?_
        rintro e w1 ⟨he, hb⟩
        obtain rfl : e = .returned (.string t) := he.trans (by rw [HT.out])
        have HB1 := Lib.hid (HB.out.trans (hb.mono HB.out.size)); clear he hb
        go_wp2
        go_roundw
        case measure => simp only [RowKit.intOf]; omega
        case rel => exact ⟨k + 1, _, rfl, rfl, by omega, HFin.out _ HX.out, HX, HB1.out⟩
    · obtain rfl : k = s.size := by omega
      have HA : Hid (o = tx (esc.esc esc.scrQ s.data.toList)) := by show _ = _; rw [HO.out, List.take_of_length_le (by rw [len_eq]; omega)]
      go_wp2
      go_ret
      exact ⟨by rw [HA.out]; rfl, HB.out⟩

end Go.Proofs.YtofdnpbmanonpaaDoor.seq
