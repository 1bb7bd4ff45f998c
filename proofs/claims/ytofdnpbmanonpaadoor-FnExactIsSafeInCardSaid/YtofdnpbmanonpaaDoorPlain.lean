/-
  Which bytes are written as they are in the script and the URL context, and what stands for the others: the project's functions and the model's.
  Conditions: none.
-/
import Derived.Test.YtofdnpbmanonpaaDoorPairs
namespace Go.Proofs.YtofdnpbmanonpaaDoor.seq
open Go.ChangeShapes Go.WideShapes Go.ChangeAt Go.RowKit
set_option linter.unusedVariables false

theorem implBare (c : UInt8) (w : World) : Calls Tryd.prog 55 #[.int .u8 c.toNat] w (IsQ w (decide (esc.Bare c.toNat))) := by
  obtain ⟨r, hr, hri⟩ := ix_bare c
  obtain ⟨n, hn⟩ : ∃ n : Nat, n = c.toNat := ⟨_, rfl⟩
  have hbk := byte_back c
  rw [← hn] at hri hbk ⊢
  have HR : Hid (Lib.indexByte [92, 39, 34, 60, 62, 38] ((n : Int)).toNat.toUInt8 = r) := by show _ = _; rw [hbk, hr]
  clear hr hbk hn
  obtain ⟨d, hd⟩ : ∃ d, decide (esc.Bare n) = d := ⟨_, rfl⟩
  rw [hd]
  by_cases hm : 32 ≤ n ∧ n ≤ 126
  · have HD : Hid (decide (r < 0) = d) := by show _ = _; rw [← hd]; exact decide_eq_decide.2 (by rw [hri]; unfold esc.Bare; omega)
    obtain ⟨m1, m2⟩ := hm
    clear hri hd
    have fin : ∀ q : Bool, q = decide (r < 0) → Ending.returned (.bool q) = .returned (.bool d) := fun q h => by rw [h, HD.out]
    go_enter Tryd.func55, Tryd.ntmps55
    go_wp2_with (go_at_call 65; refine (Tryd.strings_IndexByte ⟨#[92, 39, 34, 60, 62, 38]⟩ n _).mono ?_; rintro e w1 ⟨he, rfl⟩; obtain rfl : e = .returned (.int .i64 r) := he.trans (by rw [← HR.out]); clear he)
    all_goals go_ret
    all_goals exact ⟨fin _ (by first | rfl | simp), rfl⟩
  · obtain rfl : d = false := hd.symm.trans (decide_eq_false (by unfold esc.Bare; omega))
    clear hri hd HR
    by_cases h1 : 32 ≤ n
    · have h2 : 126 < n := by omega
      clear hm
      go_enter Tryd.func55, Tryd.ntmps55
      go_wp2
      go_ret
      exact ⟨rfl, rfl⟩
    · clear hm
      go_enter Tryd.func55, Tryd.ntmps55
      go_wp2
      go_ret
      exact ⟨rfl, rfl⟩

theorem ret_bool {b d : Bool} (h : b = d) : Ending.returned (.bool b) = .returned (.bool d) := by rw [h]

theorem specPlain (c : UInt8) (w : World) : Calls Tryd.prog 57 #[.int .u8 c.toNat] w (IsQ w (decide (esc.Plain c.toNat))) := by
  obtain ⟨n, hn⟩ : ∃ n : Nat, n = c.toNat := ⟨_, rfl⟩
  have hc := c.toNat_lt
  rw [← hn] at hc ⊢
  clear hn
  obtain ⟨d, hd⟩ : ∃ d, decide (esc.Plain n) = d := ⟨_, rfl⟩
  rw [hd]
  have hcase : (97 ≤ n ∧ n ≤ 122) ∨ (65 ≤ n ∧ n ≤ 90) ∨ (48 ≤ n ∧ n ≤ 57) ∨ n = 45 ∨ n = 95 ∨ n = 46 ∨ n = 126 ∨ ¬ esc.Plain n := by unfold esc.Plain; omega
  rcases hcase with ⟨h1, h2⟩ | ⟨h1, h2⟩ | ⟨h1, h2⟩ | h | h | h | h | h
  · obtain rfl : d = true := hd.symm.trans (decide_eq_true (by unfold esc.Plain; omega))
    have e1 : Hid (mdl.inr (n : Int) 97 122 = true) := mdl.inr_of (by omega) (by omega)
    clear hd
    go_enter Tryd.func57, Tryd.ntmps57
    go_wp2_with (go_at_call 56; refine (mdl.l1In _ _ _ _).mono ?_; rintro e w1 ⟨rfl, rfl⟩; rw [e1.out])
    go_ret
    exact ⟨rfl, rfl⟩
  · obtain rfl : d = true := hd.symm.trans (decide_eq_true (by unfold esc.Plain; omega))
    have e1 : Hid (mdl.inr (n : Int) 97 122 = false) := mdl.inr_not (by omega)
    have e2 : Hid (mdl.inr (n : Int) 65 90 = true) := mdl.inr_of (by omega) (by omega)
    clear hd
    go_enter Tryd.func57, Tryd.ntmps57
    go_wp2_with (go_at_call 56; refine (mdl.l1In _ _ _ _).mono ?_; rintro e w1 ⟨rfl, rfl⟩; first | rw [e1.out] | rw [e2.out])
    go_ret
    exact ⟨rfl, rfl⟩
  · obtain rfl : d = true := hd.symm.trans (decide_eq_true (by unfold esc.Plain; omega))
    have e1 : Hid (mdl.inr (n : Int) 97 122 = false) := mdl.inr_not (by omega)
    have e2 : Hid (mdl.inr (n : Int) 65 90 = false) := mdl.inr_not (by omega)
    have e3 : Hid (mdl.inr (n : Int) 48 57 = true) := mdl.inr_of (by omega) (by omega)
    clear hd
    go_enter Tryd.func57, Tryd.ntmps57
    go_wp2_with (go_at_call 56; refine (mdl.l1In _ _ _ _).mono ?_; rintro e w1 ⟨rfl, rfl⟩; first | rw [e1.out] | rw [e2.out] | rw [e3.out])
    go_ret
    exact ⟨rfl, rfl⟩
  iterate 4
    · subst h
      obtain rfl : d = true := hd.symm.trans (by decide)
      clear hd
      go_enter Tryd.func57, Tryd.ntmps57
      go_wp2_with (go_at_call 56; refine (mdl.l1In _ _ _ _).mono ?_; rintro e w1 ⟨rfl, rfl⟩; simp only [mdl.inr])
      go_ret
      exact ⟨rfl, rfl⟩
  · obtain rfl : d = false := hd.symm.trans (decide_eq_false h)
    unfold esc.Plain at h
    have e1 : Hid (mdl.inr (n : Int) 97 122 = false) := mdl.inr_not (by omega)
    have e2 : Hid (mdl.inr (n : Int) 65 90 = false) := mdl.inr_not (by omega)
    have e3 : Hid (mdl.inr (n : Int) 48 57 = false) := mdl.inr_not (by omega)
    have f1 : ¬ ((n : Int) = 45) := by omega
    have f2 : ¬ ((n : Int) = 95) := by omega
    have f3 : ¬ ((n : Int) = 46) := by omega
    have f4 : ¬ ((n : Int) = 126) := by omega
    clear hd h
    go_enter Tryd.func57, Tryd.ntmps57
    go_wp2_with (go_at_call 56; refine (mdl.l1In _ _ _ _).mono ?_; rintro e w1 ⟨rfl, rfl⟩; first | rw [e1.out] | rw [e2.out] | rw [e3.out])
    go_ret
    exact ⟨ret_bool (by rw [Bool.eq_false_iff]; intro hh; simp at hh; omega), rfl⟩

theorem specBare (c : UInt8) (w : World) : Calls Tryd.prog 59 #[.int .u8 c.toNat] w (IsQ w (decide (esc.Bare c.toNat))) := by
  obtain ⟨n, hn⟩ : ∃ n : Nat, n = c.toNat := ⟨_, rfl⟩
  have hc := c.toNat_lt
  rw [← hn] at hc ⊢
  clear hn
  obtain ⟨d, hd⟩ : ∃ d, decide (esc.Bare n) = d := ⟨_, rfl⟩
  rw [hd]
  have hcase : n = 92 ∨ n = 39 ∨ n = 34 ∨ n = 60 ∨ n = 62 ∨ n = 38 ∨ ¬ (32 ≤ n ∧ n ≤ 126) ∨ esc.Bare n := by unfold esc.Bare; omega
  rcases hcase with h | h | h | h | h | h | h | h
  iterate 6
    · subst h
      obtain rfl : d = false := hd.symm.trans (by decide)
      clear hd
      go_enter Tryd.func59, Tryd.ntmps59
      go_wp2_with (go_at_call 56; refine (mdl.l1In _ _ _ _).mono ?_; rintro e w1 ⟨rfl, rfl⟩; simp only [mdl.inr])
      go_ret
      exact ⟨rfl, rfl⟩
  · obtain rfl : d = false := hd.symm.trans (decide_eq_false (by unfold esc.Bare; omega))
    have e1 : Hid (mdl.inr (n : Int) 32 126 = false) := mdl.inr_not (by omega)
    clear hd
    go_enter Tryd.func59, Tryd.ntmps59
    go_wp2_with (go_at_call 56; refine (mdl.l1In _ _ _ _).mono ?_; rintro e w1 ⟨rfl, rfl⟩; rw [e1.out])
    go_ret
    exact ⟨rfl, rfl⟩
  · obtain rfl : d = true := hd.symm.trans (decide_eq_true h)
    unfold esc.Bare at h
    obtain ⟨⟨h1, h2⟩, i1, i2, i3, i4, i5, i6⟩ := h
    have f1 : ¬ ((n : Int) = 92) := by omega
    have f2 : ¬ ((n : Int) = 39) := by omega
    have f3 : ¬ ((n : Int) = 34) := by omega
    have f4 : ¬ ((n : Int) = 60) := by omega
    have f5 : ¬ ((n : Int) = 62) := by omega
    have f6 : ¬ ((n : Int) = 38) := by omega
    clear i1 i2 i3 i4 i5 i6
    have e1 : Hid (mdl.inr (n : Int) 32 126 = true) := mdl.inr_of (by omega) (by omega)
    clear hd
    go_enter Tryd.func59, Tryd.ntmps59
    go_wp2_with (go_at_call 56; refine (mdl.l1In _ _ _ _).mono ?_; rintro e w1 ⟨rfl, rfl⟩; rw [e1.out])
    go_ret
    exact ⟨ret_bool (by simp; omega), rfl⟩

theorem app_tx (a b : List UInt8) : tx a ++ tx b = tx (a ++ b) := by
  apply ByteArray.ext
  apply Array.toList_inj.1
  rw [Joins.data_append]

theorem urlSeq : Seqs (fun _ => True) 36 esc.urlQ where
  six := esc.six_url
  enters := enters_of Tryd.func36 (by kernel_rfl) rfl
  calls := fun c w _ => by
    by_cases h : esc.Plain c.toNat
    · have H1 := Lib.hid (decide_eq_true h)
      have H2 : Hid (esc.urlQ c = []) := if_pos h
      clear h
      go_enter Tryd.func36, Tryd.ntmps36
      go_wp2_with (go_at_call 53; refine (implPlain c _).mono ?_; rintro e w1 ⟨rfl, rfl⟩; rw [H1.out])
      go_ret
      exact ⟨by rw [H2.out]; rfl, Below.refl _ _⟩
    · have H1 := Lib.hid (decide_eq_false h)
      have H2 : Hid (esc.urlQ c = 37 :: esc.pair c) := if_neg h
      have H3 : Hid ((tx (esc.pair c)).size = 2) := rfl
      obtain ⟨t, ht⟩ : ∃ t, t = tx (esc.pair c) := ⟨_, rfl⟩
      have HT := Lib.hid ht
      have h3 : t.size = 2 := by rw [ht]; rfl
      clear h ht
      go_enter Tryd.func36, Tryd.ntmps36
      go_wp2_with (go_at_call 53; refine (implPlain c _).mono ?_; rintro e w1 ⟨rfl, rfl⟩; rw [H1.out])
      refine (implPair c _).mono ?_
      rintro e w1 ⟨he, hb⟩
      obtain rfl : e = .returned (.string t) := he.trans (by rw [HT.out])
      have HB := Lib.hid hb; clear he hb
      go_wp2
      go_ret
      exact ⟨by rw [H2.out, HT.out]; exact congrArg (fun x => Ending.returned (.string x)) (app_tx [37] _), HB.out⟩

theorem scrSeq : Seqs (fun _ => True) 38 esc.scrQ where
  six := esc.six_scr
  enters := enters_of Tryd.func38 (by kernel_rfl) rfl
  calls := fun c w _ => by
    by_cases h : esc.Bare c.toNat
    · have H1 := Lib.hid (decide_eq_true h)
      have H2 : Hid (esc.scrQ c = []) := if_pos h
      clear h
      go_enter Tryd.func38, Tryd.ntmps38
      go_wp2_with (go_at_call 55; refine (implBare c _).mono ?_; rintro e w1 ⟨rfl, rfl⟩; rw [H1.out])
      go_ret
      exact ⟨by rw [H2.out]; rfl, Below.refl _ _⟩
    · have H1 := Lib.hid (decide_eq_false h)
      have H2 : Hid (esc.scrQ c = 92 :: 120 :: esc.pair c) := if_neg h
      obtain ⟨t, ht⟩ : ∃ t, t = tx (esc.pair c) := ⟨_, rfl⟩
      have HT := Lib.hid ht
      have h3 : t.size = 2 := by rw [ht]; rfl
      clear h ht
      go_enter Tryd.func38, Tryd.ntmps38
      go_wp2_with (go_at_call 55; refine (implBare c _).mono ?_; rintro e w1 ⟨rfl, rfl⟩; rw [H1.out])
      refine (implPair c _).mono ?_
      rintro e w1 ⟨he, hb⟩
      obtain rfl : e = .returned (.string t) := he.trans (by rw [HT.out])
      have HB := Lib.hid hb; clear he hb
      go_wp2
      go_ret
      exact ⟨by rw [H2.out, HT.out]; exact congrArg (fun x => Ending.returned (.string x)) (app_tx [92, 120] _), HB.out⟩

end Go.Proofs.YtofdnpbmanonpaaDoor.seq
