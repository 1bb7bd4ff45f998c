/-
  What the project reads at the front of a text in the URL and in the script context, and what UnescapeURL and UnescapeScript of the project return.
  Conditions: the text has at most 2^40 bytes; the library's variable for a wrong form holds an error.
-/
import Derived.Test.YtofdnpbmanonpaaDoorHexRead
import Derived.Test.YtofdnpbmanonpaaDoorHtml
import Derived.Test.YtofdnpbmanonpaaDoorPlain
namespace Go.Proofs.YtofdnpbmanonpaaDoor.seq
open Go.ChangeShapes Go.WideShapes Go.ChangeAt Go.RowKit
set_option linter.unusedVariables false

theorem list_eq {s : ByteArray} (h : 0 < s.size) : s.data.toList = s[0] :: s.data.toList.drop 1 := by
  have hl : 0 < s.data.toList.length := by rw [len_eq]; exact h
  exact List.drop_eq_getElem_cons hl

set_option maxHeartbeats 1000000 in
set_option maxRecDepth 100000 in
theorem urlRead : Reads ents.Err 35 esc.rdU where
  eats := esc.eats_U
  enters := enters_of Tryd.func35 (by kernel_rfl) rfl
  calls := fun s w hE hs h0 => by
    have h1 : 0 < s.size := by omega
    have hd := head_eq h1
    have hl := list_eq h1
    have hb0 : (0 : Int) ≤ (s[0].toNat : Int) := by omega
    have hb9 : (s[0].toNat : Int) ≤ 255 := by have := s[0].toNat_lt; omega
    have HE := Lib.hid hE; clear hE
    by_cases hp : s[0].toNat = 43
    · have HA : Hid (esc.rdU s.data.toList = some (32, 1)) := by show (if _ then _ else _) = _; rw [hd, if_pos hp]
      have him : (s[0].toNat : Int) = 43 := by omega
      clear hd hl hp
      go_enter Tryd.func35, Tryd.ntmps35
      go_wp2
      go_ret3
      exact ⟨.inr ⟨32, 1, HA.out, rfl⟩, Below.refl _ _⟩
    · have hip : ¬ (s[0].toNat : Int) = 43 := by omega
      by_cases hm : s[0].toNat = 37
      · have HA : Hid (esc.rdU s.data.toList = (esc.two true (s.data.toList.drop 1)).map fun c => (c, 3)) := by
          show (if _ then _ else if _ then _ else _) = _; rw [hd, if_neg hp, if_neg (fun h => h hm)]
        have hc : s[0] = 37 := by rw [← UInt8.ofNat_toNat (x := s[0]), hm]; rfl
        obtain ⟨d, hdd⟩ : ∃ d, d = tx (s.data.toList.drop 1) := ⟨_, rfl⟩
        have hds : d.size ≤ 1099511627776 := by rw [hdd, tx_size, List.length_drop, len_eq]; omega
        have hcut : (⟨(Lib.trimPrefix s.data.toList [37]).toArray⟩ : ByteArray) = d ∧ Lib.hasPrefix s.data.toList [37] = true := by
          rw [hdd, hl, hc]; simp [Lib.trimPrefix, Lib.hasPrefix, List.isPrefixOf]
        have HC := Lib.hid hcut; have HD := Lib.hid hdd
        clear hd hl hp hm hc hcut hdd
        go_enter Tryd.func35, Tryd.ntmps35
        go_wp2_with (fail)
        refine (Tryd.strings_CutPrefix s ⟨#[37]⟩ _).mono ?_
        rintro e w1 ⟨he, rfl⟩
        obtain rfl : e = .returned (.tuple #[.string d, .bool true]) := he.trans (by rw [← HC.out.1, ← HC.out.2])
        clear he
        go_wp2_with (fail)
        refine (implHexPair d hds _ HE.out).mono ?_
        rintro e w2 ⟨he, hb⟩
        have HB := Lib.hid hb; clear hb
        rw [HD.out] at he
        rcases he with ⟨hn, x, rfl⟩ | ⟨c, hn, rfl⟩
        · have HN := Lib.hid hn; clear hn
          go_wp2
          go_ret3
          exact ⟨.inl ⟨by rw [HA.out]; exact congrArg _ HN.out, _, _, rfl⟩, HB.out⟩
        · have HN := Lib.hid hn; clear hn
          go_wp2
          go_ret3
          exact ⟨.inr ⟨c, 3, by rw [HA.out]; exact congrArg _ HN.out, rfl⟩, HB.out⟩
      · have HA : Hid (esc.rdU s.data.toList = some (s[0], 1)) := by show (if _ then _ else if _ then _ else _) = _; rw [hd, if_neg hp, if_pos hm]
        have him : ¬ (s[0].toNat : Int) = 37 := by omega
        have hc : ¬ s[0] = 37 := fun h => hm (by rw [h]; rfl)
        have hcut : Lib.hasPrefix s.data.toList [37] = false := by
          rw [hl]; simp [Lib.hasPrefix, List.isPrefixOf]; exact fun h => hc h.symm
        obtain ⟨d, hdd⟩ : ∃ d : ByteArray, d = ⟨(Lib.trimPrefix s.data.toList [37]).toArray⟩ := ⟨_, rfl⟩
        have HC := Lib.hid hcut; have HD := Lib.hid hdd
        clear hd hl hp hm hc hcut hdd
        go_enter Tryd.func35, Tryd.ntmps35
        go_wp2_with (fail)
        refine (Tryd.strings_CutPrefix s ⟨#[37]⟩ _).mono ?_
        rintro e w1 ⟨he, rfl⟩
        obtain rfl : e = .returned (.tuple #[.string d, .bool false]) := he.trans (by rw [HD.out, ← HC.out])
        clear he
        go_wp2
        go_ret3
        exact ⟨.inr ⟨s[0], 1, HA.out, rfl⟩, Below.refl _ _⟩

theorem implUnURL (s : ByteArray) (hs : s.size ≤ 1099511627776) (w : World) (hE : ents.Err w) :
    Calls Tryd.prog 16 #[.string s] w (UnQ w (esc.un esc.rdU s.data.toList)) := by
  have HE := Lib.hid hE; clear hE
  go_enter Tryd.func16, Tryd.ntmps16
  go_wp2_with (fail)
  refine (unB ents.staysErr urlRead s hs _ HE.out).mono ?_
  rintro e w1 ⟨rfl, hb⟩
  go_wp2
  go_ret2
  exact ⟨rfl, hb⟩

/-- Behind \ and x. -/
theorem cut_scr (L : List UInt8) : (Lib.hasPrefix L [92, 120] = true ∧ Lib.trimPrefix L [92, 120] = L.drop 2 ∧ (L.headD 0).toNat = 92 ∧ ((L.drop 1).headD 0).toNat = 120) ∨ (Lib.hasPrefix L [92, 120] = false ∧ ((L.headD 0).toNat = 92 → ((L.drop 1).headD 0).toNat ≠ 120)) := by
  have back : ∀ (c : UInt8) (n : Nat), c.toNat = n → c = UInt8.ofNat n := fun c n h => by rw [← h, UInt8.ofNat_toNat]
  match L with
  | [] => right; exact ⟨rfl, fun h => by cases h⟩
  | [a] => right; refine ⟨?_, fun _ h => by cases h⟩; simp [Lib.hasPrefix, List.isPrefixOf]
  | a :: b :: r =>
    by_cases h : a.toNat = 92 ∧ b.toNat = 120
    · left
      have ha := back a 92 h.1
      have hb := back b 120 h.2
      subst ha hb
      refine ⟨?_, ?_, rfl, rfl⟩
      · simp [Lib.hasPrefix, List.isPrefixOf]
      · simp [Lib.trimPrefix, Lib.hasPrefix, List.isPrefixOf]
    · right
      refine ⟨?_, fun h1 h2 => h ⟨h1, h2⟩⟩
      rw [Bool.eq_false_iff]
      intro hh
      simp [Lib.hasPrefix, List.isPrefixOf] at hh
      exact h ⟨by rw [← hh.1]; rfl, by rw [← hh.2]; rfl⟩

set_option maxHeartbeats 1000000 in
set_option maxRecDepth 100000 in
theorem scrRead : Reads ents.Err 37 esc.rdS where
  eats := esc.eats_S
  enters := enters_of Tryd.func37 (by kernel_rfl) rfl
  calls := fun s w hE hs h0 => by
    have h1 : 0 < s.size := by omega
    have hd := head_eq h1
    have hb0 : (0 : Int) ≤ (s[0].toNat : Int) := by omega
    have hb9 : (s[0].toNat : Int) ≤ 255 := by have := s[0].toNat_lt; omega
    have HE := Lib.hid hE; clear hE
    by_cases hm : s[0].toNat = 92
    · have him : (s[0].toNat : Int) = 92 := by omega
      rcases cut_scr s.data.toList with ⟨hp, ht, -, hx⟩ | ⟨hp, hx⟩
      · have HA : Hid (esc.rdS s.data.toList = (esc.two false (s.data.toList.drop 2)).map fun c => (c, 4)) := by
          show (if _ then _ else if _ then _ else _) = _; rw [hd, if_neg (fun h => h hm), if_neg (fun h => h hx)]
        obtain ⟨d, hdd⟩ : ∃ d, d = tx (s.data.toList.drop 2) := ⟨_, rfl⟩
        have hds : d.size ≤ 1099511627776 := by rw [hdd, tx_size, List.length_drop, len_eq]; omega
        have hcut : (⟨(Lib.trimPrefix s.data.toList [92, 120]).toArray⟩ : ByteArray) = d := by rw [hdd, ht]
        have HC := Lib.hid hcut; have HD := Lib.hid hdd; have HP := Lib.hid hp
        clear hd hm hp ht hx hcut hdd
        go_enter Tryd.func37, Tryd.ntmps37
        go_wp2_with (fail)
        refine (Tryd.strings_CutPrefix s ⟨#[92, 120]⟩ _).mono ?_
        rintro e w1 ⟨he, rfl⟩
        obtain rfl : e = .returned (.tuple #[.string d, .bool true]) := he.trans (by rw [← HC.out, ← HP.out])
        clear he
        go_wp2_with (fail)
        refine (implHexPair d hds _ HE.out).mono ?_
        rintro e w2 ⟨he, hb⟩
        have HB := Lib.hid hb; clear hb
        rw [HD.out] at he
        rcases he with ⟨hn, x, rfl⟩ | ⟨c, hn, rfl⟩
        · have HN : Hid (esc.rdS s.data.toList = none) := by show _ = _; rw [HA.out, esc.two_false, hn]; rfl
          clear hn
          go_wp2
          go_ret3
          exact ⟨.inl ⟨HN.out, _, _, rfl⟩, HB.out⟩
        · obtain ⟨p, hpp⟩ : ∃ p, p = tx (esc.pair c) := ⟨_, rfl⟩
          have HPP := Lib.hid hpp
          by_cases hh : Lib.hasPrefix (s.data.toList.drop 2) (esc.pair c) = true
          · have HN : Hid (esc.rdS s.data.toList = some (c, 4)) := by show _ = _; rw [HA.out, esc.two_false, hn]; show Option.map _ (if _ then _ else _) = _; rw [if_pos hh]; rfl
            have HH := Lib.hid hh
            clear hn hh hpp
            go_wp2_with (fail)
            refine (implPair c _).mono ?_
            rintro e w3 ⟨he, hb⟩
            obtain rfl : e = .returned (.string p) := he.trans (by rw [HPP.out])
            have HB3 := Lib.hid (HB.out.trans (hb.mono HB.out.size)); clear he hb
            go_wp2_with (fail)
            refine (Tryd.strings_HasPrefix d p _).mono ?_
            rintro e w4 ⟨he, rfl⟩
            obtain rfl : e = .returned (.bool true) := he.trans (by rw [HD.out, HPP.out, ← HH.out])
            clear he
            go_wp2
            go_ret3
            exact ⟨.inr ⟨c, 4, HN.out, rfl⟩, HB3.out⟩
          · have HN : Hid (esc.rdS s.data.toList = none) := by show _ = _; rw [HA.out, esc.two_false, hn]; show Option.map _ (if _ then _ else _) = _; rw [if_neg hh]; rfl
            have HH : Hid (Lib.hasPrefix (s.data.toList.drop 2) (esc.pair c) = false) := by show _ = _; simpa using hh
            clear hn hh hpp
            go_wp2_with (fail)
            refine (implPair c _).mono ?_
            rintro e w3 ⟨he, hb⟩
            obtain rfl : e = .returned (.string p) := he.trans (by rw [HPP.out])
            have HB3 := Lib.hid (HB.out.trans (hb.mono HB.out.size)); clear he hb
            go_wp2_with (fail)
            refine (Tryd.strings_HasPrefix d p _).mono ?_
            rintro e w4 ⟨he, rfl⟩
            obtain rfl : e = .returned (.bool false) := he.trans (by rw [HD.out, HPP.out, ← HH.out])
            clear he
            go_wp2
            go_ret3
            exact ⟨.inl ⟨HN.out, _, _, rfl⟩, HB3.out⟩
      · have HA : Hid (esc.rdS s.data.toList = none) := by
          show (if _ then _ else if _ then _ else _) = _; rw [hd, if_neg (fun h => h hm), if_pos (hx (by rw [hd]; exact hm))]
        obtain ⟨d, hdd⟩ : ∃ d : ByteArray, d = ⟨(Lib.trimPrefix s.data.toList [92, 120]).toArray⟩ := ⟨_, rfl⟩
        have HD := Lib.hid hdd; have HP := Lib.hid hp
        clear hd hm hp hx hdd
        go_enter Tryd.func37, Tryd.ntmps37
        go_wp2_with (fail)
        refine (Tryd.strings_CutPrefix s ⟨#[92, 120]⟩ _).mono ?_
        rintro e w1 ⟨he, rfl⟩
        obtain rfl : e = .returned (.tuple #[.string d, .bool false]) := he.trans (by rw [HD.out, ← HP.out])
        clear he
        go_wp2
        go_ret3
        exact ⟨.inl ⟨HA.out, _, _, rfl⟩, Below.refl _ _⟩
    · have HA : Hid (esc.rdS s.data.toList = some (s[0], 1)) := by show (if _ then _ else _) = _; rw [hd, if_pos hm]
      have him : ¬ (s[0].toNat : Int) = 92 := by omega
      clear hd hm
      go_enter Tryd.func37, Tryd.ntmps37
      go_wp2
      go_ret3
      exact ⟨.inr ⟨s[0], 1, HA.out, rfl⟩, Below.refl _ _⟩

theorem implUnScript (s : ByteArray) (hs : s.size ≤ 1099511627776) (w : World) (hE : ents.Err w) :
    Calls Tryd.prog 18 #[.string s] w (UnQ w (esc.un esc.rdS s.data.toList)) := by
  have HE := Lib.hid hE; clear hE
  go_enter Tryd.func18, Tryd.ntmps18
  go_wp2_with (fail)
  refine (unB ents.staysErr scrRead s hs _ HE.out).mono ?_
  rintro e w1 ⟨rfl, hb⟩
  go_wp2
  go_ret2
  exact ⟨rfl, hb⟩

end Go.Proofs.YtofdnpbmanonpaaDoor.seq
