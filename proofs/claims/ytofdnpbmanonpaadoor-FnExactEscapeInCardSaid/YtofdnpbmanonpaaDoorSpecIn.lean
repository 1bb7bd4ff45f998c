/-
  What EscapeIn and IsSafeIn of the model return.
  Conditions: the text has at most 2^40 bytes.
-/
import Derived.Test.YtofdnpbmanonpaaDoorIn
import Derived.Test.YtofdnpbmanonpaaDoorUnHtml
import Derived.Test.YtofdnpbmanonpaaDoorUnUrl
import Derived.Test.YtofdnpbmanonpaaDoorUnScript
namespace Go.Proofs.YtofdnpbmanonpaaDoor.seq
open Go.ChangeShapes Go.WideShapes Go.ChangeAt Go.RowKit
set_option linter.unusedVariables false

set_option maxRecDepth 100000 in
theorem specIn1 (s : ByteArray) (hs : s.size ≤ 1099511627776) (w : World) :
    Calls Tryd.prog 25 #[.int .i64 1, .string s] w (StrQ w (escIn 1 s.data.toList)) := by
  have HX : Hid (escIn 1 s.data.toList = esc.esc esc.ent s.data.toList) := rfl
  go_enter Tryd.func25, Tryd.ntmps25
  go_wp2_with (fail)
  refine (specEscHTML s hs _).mono ?_
  rintro e w2 ⟨rfl, hb⟩
  have HB2 := Lib.hid hb; clear hb
  go_wp2
  go_ret
  exact ⟨by rw [HX.out]; rfl, HB2.out⟩

set_option maxRecDepth 100000 in
theorem specIn2 (s : ByteArray) (hs : s.size ≤ 1099511627776) (w : World) :
    Calls Tryd.prog 25 #[.int .i64 2, .string s] w (StrQ w (escIn 2 s.data.toList)) := by
  have HX : Hid (escIn 2 s.data.toList = esc.esc esc.urlQ s.data.toList) := rfl
  go_enter Tryd.func25, Tryd.ntmps25
  go_wp2_with (fail)
  refine (specEscURL s hs _).mono ?_
  rintro e w2 ⟨rfl, hb⟩
  have HB2 := Lib.hid hb; clear hb
  go_wp2
  go_ret
  exact ⟨by rw [HX.out]; rfl, HB2.out⟩

set_option maxRecDepth 100000 in
theorem specIn3 (s : ByteArray) (hs : s.size ≤ 1099511627776) (w : World) :
    Calls Tryd.prog 25 #[.int .i64 3, .string s] w (StrQ w (escIn 3 s.data.toList)) := by
  have HX : Hid (escIn 3 s.data.toList = esc.esc esc.scrQ s.data.toList) := rfl
  go_enter Tryd.func25, Tryd.ntmps25
  go_wp2_with (fail)
  refine (specEscScript s hs _).mono ?_
  rintro e w2 ⟨rfl, hb⟩
  have HB2 := Lib.hid hb; clear hb
  go_wp2
  go_ret
  exact ⟨by rw [HX.out]; rfl, HB2.out⟩

set_option maxRecDepth 100000 in
theorem specInX (x : Int) (h1 : ¬ x = 1) (h2 : ¬ x = 2) (h3 : ¬ x = 3) (s : ByteArray) (hs : s.size ≤ 1099511627776) (w : World) :
    Calls Tryd.prog 25 #[.int .i64 x, .string s] w (StrQ w (escIn x s.data.toList)) := by
  have HX : Hid (escIn x s.data.toList = s.data.toList) := (by unfold escIn; rw [if_neg h1, if_neg h2, if_neg h3]; exact rfl)
  go_enter Tryd.func25, Tryd.ntmps25
  go_wp2
  go_ret
  exact ⟨by rw [HX.out, tx_eta]; rfl, Below.refl _ _⟩

theorem specEscIn (k : Int) (s : ByteArray) (hs : s.size ≤ 1099511627776) (w : World) :
    Calls Tryd.prog 25 #[.int .i64 k, .string s] w (StrQ w (escIn k s.data.toList)) := by
  by_cases h1 : k = 1
  · subst h1; exact specIn1 s hs w
  · by_cases h2 : k = 2
    · subst h2; exact specIn2 s hs w
    · by_cases h3 : k = 3
      · subst h3; exact specIn3 s hs w
      · exact specInX k h1 h2 h3 s hs w

set_option maxHeartbeats 1000000 in
set_option maxRecDepth 100000 in
theorem specSafe1 (s : ByteArray) (hs : s.size ≤ 1099511627776) (w : World) :
    Calls Tryd.prog 26 #[.int .i64 1, .string s] w fun e w' => e = .returned (.bool (safeIn 1 s.data.toList)) ∧ Below w.heap.size w w' := by
  have HU : Hid (unIn 1 s.data.toList = esc.un esc.rdH s.data.toList) := rfl
  go_enter Tryd.func26, Tryd.ntmps26
  go_wp2_with (fail)
  refine (specUnHTML s hs _).mono ?_
  rintro e w2 ⟨he, hb⟩
  have HB6 := Lib.hid hb; clear hb
  obtain ⟨o, ho⟩ : ∃ o, o = esc.un esc.rdH s.data.toList := ⟨_, rfl⟩
  rw [← ho] at he
  cases o with
  | none =>
    have HSf : Hid (safeIn 1 s.data.toList = false) := safe_none (HU.out.trans ho.symm)
    obtain rfl : e = .returned (.tuple #[.string ⟨#[]⟩, .bool false]) := he
    clear ho
    go_wp2
    go_ret
    exact ⟨by rw [HSf.out]; rfl, HB6.out⟩
  | some r =>
    have hr := HU.out.trans ho.symm
    obtain ⟨u, hu⟩ : ∃ u, u = tx r := ⟨_, rfl⟩
    have hus : u.size ≤ 1099511627776 := by rw [hu, tx_size]; have h1 := unIn_len hr; rw [len_eq] at h1; omega
    obtain ⟨y, hy⟩ : ∃ y, y = tx (escIn 1 r) := ⟨_, rfl⟩
    have HS1 := Lib.hid (safe_some hr)
    obtain rfl : e = .returned (.tuple #[.string u, .bool true]) := he.trans (by rw [hu]; rfl)
    have HUu := Lib.hid hu; have HY := Lib.hid hy
    clear he ho hr hu hy
    go_wp2_with (fail)
    refine (specEscIn 1 u hus _).mono ?_
    rintro e w3 ⟨he, hb⟩
    obtain rfl : e = .returned (.string y) := he.trans (by rw [HY.out, HUu.out])
    have HB7 := Lib.hid (HB6.out.trans (hb.mono HB6.out.size)); clear he hb
    by_cases hq : escIn 1 r = s.data.toList
    · have HSf : Hid (safeIn 1 s.data.toList = true) := by show _ = _; rw [HS1.out, decide_eq_true hq]
      obtain rfl : y = s := str_eq (by rw [HY.out]; exact hq)
      clear hq
      go_wp2
      go_ret
      exact ⟨by rw [HSf.out]; rfl, HB7.out⟩
    · have HSf : Hid (safeIn 1 s.data.toList = false) := by show _ = _; rw [HS1.out, decide_eq_false hq]
      obtain ⟨q1, q2⟩ := str_ne (s := s) (x := y) (by rw [HY.out]; exact hq)
      clear hq
      go_wp2
      go_ret
      exact ⟨by rw [HSf.out]; rfl, HB7.out⟩

set_option maxHeartbeats 1000000 in
set_option maxRecDepth 100000 in
theorem specSafe2 (s : ByteArray) (hs : s.size ≤ 1099511627776) (w : World) :
    Calls Tryd.prog 26 #[.int .i64 2, .string s] w fun e w' => e = .returned (.bool (safeIn 2 s.data.toList)) ∧ Below w.heap.size w w' := by
  have HU : Hid (unIn 2 s.data.toList = esc.un esc.rdU s.data.toList) := rfl
  go_enter Tryd.func26, Tryd.ntmps26
  go_wp2_with (fail)
  refine (specUnURL s hs _).mono ?_
  rintro e w2 ⟨he, hb⟩
  have HB6 := Lib.hid hb; clear hb
  obtain ⟨o, ho⟩ : ∃ o, o = esc.un esc.rdU s.data.toList := ⟨_, rfl⟩
  rw [← ho] at he
  cases o with
  | none =>
    have HSf : Hid (safeIn 2 s.data.toList = false) := safe_none (HU.out.trans ho.symm)
    obtain rfl : e = .returned (.tuple #[.string ⟨#[]⟩, .bool false]) := he
    clear ho
    go_wp2
    go_ret
    exact ⟨by rw [HSf.out]; rfl, HB6.out⟩
  | some r =>
    have hr := HU.out.trans ho.symm
    obtain ⟨u, hu⟩ : ∃ u, u = tx r := ⟨_, rfl⟩
    have hus : u.size ≤ 1099511627776 := by rw [hu, tx_size]; have h1 := unIn_len hr; rw [len_eq] at h1; omega
    obtain ⟨y, hy⟩ : ∃ y, y = tx (escIn 2 r) := ⟨_, rfl⟩
    have HS1 := Lib.hid (safe_some hr)
    obtain rfl : e = .returned (.tuple #[.string u, .bool true]) := he.trans (by rw [hu]; rfl)
    have HUu := Lib.hid hu; have HY := Lib.hid hy
    clear he ho hr hu hy
    go_wp2_with (fail)
    refine (specEscIn 2 u hus _).mono ?_
    rintro e w3 ⟨he, hb⟩
    obtain rfl : e = .returned (.string y) := he.trans (by rw [HY.out, HUu.out])
    have HB7 := Lib.hid (HB6.out.trans (hb.mono HB6.out.size)); clear he hb
    by_cases hq : escIn 2 r = s.data.toList
    · have HSf : Hid (safeIn 2 s.data.toList = true) := by show _ = _; rw [HS1.out, decide_eq_true hq]
      obtain rfl : y = s := str_eq (by rw [HY.out]; exact hq)
      clear hq
      go_wp2
      go_ret
      exact ⟨by rw [HSf.out]; rfl, HB7.out⟩
    · have HSf : Hid (safeIn 2 s.data.toList = false) := by show _ = _; rw [HS1.out, decide_eq_false hq]
      obtain ⟨q1, q2⟩ := str_ne (s := s) (x := y) (by rw [HY.out]; exact hq)
      clear hq
      go_wp2
      go_ret
      exact ⟨by rw [HSf.out]; rfl, HB7.out⟩

set_option maxHeartbeats 1000000 in
set_option maxRecDepth 100000 in
theorem specSafe3 (s : ByteArray) (hs : s.size ≤ 1099511627776) (w : World) :
    Calls Tryd.prog 26 #[.int .i64 3, .string s] w fun e w' => e = .returned (.bool (safeIn 3 s.data.toList)) ∧ Below w.heap.size w w' := by
  have HU : Hid (unIn 3 s.data.toList = esc.un esc.rdS s.data.toList) := rfl
  go_enter Tryd.func26, Tryd.ntmps26
  go_wp2_with (fail)
  refine (specUnScript s hs _).mono ?_
  rintro e w2 ⟨he, hb⟩
  have HB6 := Lib.hid hb; clear hb
  obtain ⟨o, ho⟩ : ∃ o, o = esc.un esc.rdS s.data.toList := ⟨_, rfl⟩
  rw [← ho] at he
  cases o with
  | none =>
    have HSf : Hid (safeIn 3 s.data.toList = false) := safe_none (HU.out.trans ho.symm)
    obtain rfl : e = .returned (.tuple #[.string ⟨#[]⟩, .bool false]) := he
    clear ho
    go_wp2
    go_ret
    exact ⟨by rw [HSf.out]; rfl, HB6.out⟩
  | some r =>
    have hr := HU.out.trans ho.symm
    obtain ⟨u, hu⟩ : ∃ u, u = tx r := ⟨_, rfl⟩
    have hus : u.size ≤ 1099511627776 := by rw [hu, tx_size]; have h1 := unIn_len hr; rw [len_eq] at h1; omega
    obtain ⟨y, hy⟩ : ∃ y, y = tx (escIn 3 r) := ⟨_, rfl⟩
    have HS1 := Lib.hid (safe_some hr)
    obtain rfl : e = .returned (.tuple #[.string u, .bool true]) := he.trans (by rw [hu]; rfl)
    have HUu := Lib.hid hu; have HY := Lib.hid hy
    clear he ho hr hu hy
    go_wp2_with (fail)
    refine (specEscIn 3 u hus _).mono ?_
    rintro e w3 ⟨he, hb⟩
    obtain rfl : e = .returned (.string y) := he.trans (by rw [HY.out, HUu.out])
    have HB7 := Lib.hid (HB6.out.trans (hb.mono HB6.out.size)); clear he hb
    by_cases hq : escIn 3 r = s.data.toList
    · have HSf : Hid (safeIn 3 s.data.toList = true) := by show _ = _; rw [HS1.out, decide_eq_true hq]
      obtain rfl : y = s := str_eq (by rw [HY.out]; exact hq)
      clear hq
      go_wp2
      go_ret
      exact ⟨by rw [HSf.out]; rfl, HB7.out⟩
    · have HSf : Hid (safeIn 3 s.data.toList = false) := by show _ = _; rw [HS1.out, decide_eq_false hq]
      obtain ⟨q1, q2⟩ := str_ne (s := s) (x := y) (by rw [HY.out]; exact hq)
      clear hq
      go_wp2
      go_ret
      exact ⟨by rw [HSf.out]; rfl, HB7.out⟩

set_option maxHeartbeats 1000000 in
set_option maxRecDepth 100000 in
theorem specSafeX (x : Int) (h1 : ¬ x = 1) (h2 : ¬ x = 2) (h3 : ¬ x = 3) (s : ByteArray) (hs : s.size ≤ 1099511627776) (w : World) :
    Calls Tryd.prog 26 #[.int .i64 x, .string s] w fun e w' => e = .returned (.bool (safeIn x s.data.toList)) ∧ Below w.heap.size w w' := by
  have HU : Hid (unIn x s.data.toList = some s.data.toList) := (by unfold unIn; rw [if_neg h1, if_neg h2, if_neg h3]; exact rfl)
  have HXx : Hid (escIn x s.data.toList = s.data.toList) := (by unfold escIn; rw [if_neg h1, if_neg h2, if_neg h3]; exact rfl)
  have HSf : Hid (safeIn x s.data.toList = true) := by show _ = _; rw [safe_some HU.out, HXx.out]; simp
  go_enter Tryd.func26, Tryd.ntmps26
  go_wp2_with (fail)
  refine (specEscIn x s hs _).mono ?_
  rintro e w2 ⟨he, hb⟩
  obtain rfl : e = .returned (.string s) := he.trans (by rw [HXx.out, tx_eta])
  have HB2 := Lib.hid hb; clear he hb
  go_wp2
  go_ret
  exact ⟨by rw [HSf.out]; rfl, HB2.out⟩

theorem specSafeIn (k : Int) (s : ByteArray) (hs : s.size ≤ 1099511627776) (w : World) :
    Calls Tryd.prog 26 #[.int .i64 k, .string s] w fun e w' => e = .returned (.bool (safeIn k s.data.toList)) ∧ Below w.heap.size w w' := by
  by_cases h1 : k = 1
  · subst h1; exact specSafe1 s hs w
  · by_cases h2 : k = 2
    · subst h2; exact specSafe2 s hs w
    · by_cases h3 : k = 3
      · subst h3; exact specSafe3 s hs w
      · exact specSafeX k h1 h2 h3 s hs w

end Go.Proofs.YtofdnpbmanonpaaDoor.seq
