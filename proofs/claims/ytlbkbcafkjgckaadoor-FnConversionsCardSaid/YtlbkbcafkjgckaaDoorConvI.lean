/-
  ToBool and ToInt of the project and of the model.
  Conditions: the value holds at most 10^9 items and letters.
-/
import Derived.Test.YtlbkbcafkjgckaaDoorGives
import Derived.Test.YtlbkbcafkjgckaaDoorTreeCp
import Derived.Test.YtlbkbcafkjgckaaDoorLeadN
namespace Go.Proofs.YtlbkbcafkjgckaaDoor.tree
open Go.ChangeShapes Go.WideShapes Go.ChangeAt Go.RowKit
set_option linter.unusedVariables false

/-- Whether a text is neither empty nor "0". -/
def txB (s : ByteArray) : Bool := !(s.toList == []) && !(s.toList == [48])
/-- ToBool. -/
def tb : Tr → Bool
  | .mk k n s _ _ vs => if k = 0 then false else if k = 1 ∨ k = 2 then n != 0 else if k = 3 then txB s else if k = 4 then decide (0 < vs.length) else true
/-- ToInt. -/
def ti (t : Tr) : Int := match t with
  | .mk k n s _ _ _ => if k = 2 then n else if k = 3 then lead.li s else if tb t then 1 else 0

set_option maxHeartbeats 800000 in
theorem toBool_i (t : Tr) (v : Value) (w : World) (S : Nat → Prop) (h : TIn w S t v) : Calls Tryd.prog 41 #[v] w (GivesQ w (.bool (tb t))) := by
  obtain ⟨k, n, s, x, ks, vs⟩ := t
  obtain ⟨A, c, rfl, -, -⟩ := h.out
  have HT : Hid (tb (.mk k n s x ks vs) = if k = 0 then false else if k = 1 ∨ k = 2 then n != 0 else if k = 3 then txB s else if k = 4 then decide (0 < vs.length) else true) := Lib.hid rfl
  rw [HT.out]
  obtain ⟨L, HL⟩ : ∃ L, Hid (L = vs.length) := ⟨_, Lib.hid rfl⟩
  rw [← HL.out]
  clear h HT
  by_cases h0 : k = 0
  · subst h0
    rw [if_pos rfl]
    go_enter Tryd.func41, Tryd.ntmps41
    go_wp2
    go_ret
    exact ⟨rfl, b1 _ _⟩
  rw [if_neg h0]
  by_cases h1 : k = 1
  · subst h1
    rw [if_pos (.inl rfl)]
    go_enter Tryd.func41, Tryd.ntmps41
    go_wp2
    go_ret
    exact ⟨rfl, b1 _ _⟩
  by_cases h2 : k = 2
  · subst h2
    rw [if_pos (.inr rfl)]
    go_enter Tryd.func41, Tryd.ntmps41
    go_wp2
    go_ret
    exact ⟨rfl, b1 _ _⟩
  rw [if_neg (by omega)]
  by_cases h3 : k = 3
  · subst h3
    rw [if_pos rfl]
    have HX : Hid (txB s = (!(s.toList == []) && !(s.toList == [48]))) := Lib.hid rfl
    rw [HX.out]
    clear HX
    by_cases e0 : s.toList = []
    · have e0' : (s.toList == []) = true := by rw [e0]; rfl
      rw [e0']
      go_enter Tryd.func41, Tryd.ntmps41
      go_wp2
      go_ret
      exact ⟨rfl, b1 _ _⟩
    · have e0' : (s.toList == []) = false := by rw [beq_eq_false_iff_ne]; exact e0
      by_cases e1 : s.toList = [48]
      · have e1' : (s.toList == [48]) = true := by rw [e1]; rfl
        rw [e0', e1']
        clear e0 
        go_enter Tryd.func41, Tryd.ntmps41
        go_wp2
        go_ret
        exact ⟨rfl, b1 _ _⟩
      · have e1' : (s.toList == [48]) = false := by rw [beq_eq_false_iff_ne]; exact e1
        rw [e0', e1']
        go_enter Tryd.func41, Tryd.ntmps41
        go_wp2
        go_ret
        exact ⟨rfl, b1 _ _⟩
  rw [if_neg h3]
  by_cases h4 : k = 4
  · subst h4
    rw [if_pos rfl]
    by_cases hl : 0 < L
    · have HD : Hid (decide (0 < L) = true) := Lib.hid (decide_eq_true hl)
      rw [HD.out]
      go_enter Tryd.func41, Tryd.ntmps41
      go_wp2
      go_ret
      exact ⟨rfl, b1 _ _⟩
    · have HD : Hid (decide (0 < L) = false) := Lib.hid (decide_eq_false hl)
      rw [HD.out]
      obtain rfl : L = 0 := by omega
      go_enter Tryd.func41, Tryd.ntmps41
      go_wp2
      go_ret
      exact ⟨rfl, b1 _ _⟩
  · rw [if_neg h4]
    go_enter Tryd.func41, Tryd.ntmps41
    go_wp2
    go_ret
    exact ⟨rfl, b1 _ _⟩

set_option maxHeartbeats 800000 in
theorem toBool_s (t : Tr) (v : Value) (w : World) (S : Nat → Prop) (h : TIn w S t v) : Calls Tryd.prog 130 #[v] w (GivesQ w (.bool (tb t))) := by
  obtain ⟨k, n, s, x, ks, vs⟩ := t
  obtain ⟨A, c, rfl, -, -⟩ := h.out
  have HT : Hid (tb (.mk k n s x ks vs) = if k = 0 then false else if k = 1 ∨ k = 2 then n != 0 else if k = 3 then txB s else if k = 4 then decide (0 < vs.length) else true) := Lib.hid rfl
  rw [HT.out]
  obtain ⟨L, HL⟩ : ∃ L, Hid (L = vs.length) := ⟨_, Lib.hid rfl⟩
  rw [← HL.out]
  clear h HT
  by_cases h0 : k = 0
  · subst h0
    rw [if_pos rfl]
    go_enter Tryd.func130, Tryd.ntmps130
    go_wp2
    go_ret
    exact ⟨rfl, b1 _ _⟩
  rw [if_neg h0]
  by_cases h1 : k = 1
  · subst h1
    rw [if_pos (.inl rfl)]
    go_enter Tryd.func130, Tryd.ntmps130
    go_wp2
    go_ret
    exact ⟨rfl, b1 _ _⟩
  by_cases h2 : k = 2
  · subst h2
    rw [if_pos (.inr rfl)]
    go_enter Tryd.func130, Tryd.ntmps130
    go_wp2
    go_ret
    exact ⟨rfl, b1 _ _⟩
  rw [if_neg (by omega)]
  by_cases h3 : k = 3
  · subst h3
    rw [if_pos rfl]
    have HX : Hid (txB s = (!(s.toList == []) && !(s.toList == [48]))) := Lib.hid rfl
    rw [HX.out]
    clear HX
    by_cases e0 : s.toList = []
    · have e0' : (s.toList == []) = true := by rw [e0]; rfl
      rw [e0']
      go_enter Tryd.func130, Tryd.ntmps130
      go_wp2
      go_ret
      exact ⟨rfl, b1 _ _⟩
    · have e0' : (s.toList == []) = false := by rw [beq_eq_false_iff_ne]; exact e0
      by_cases e1 : s.toList = [48]
      · have e1' : (s.toList == [48]) = true := by rw [e1]; rfl
        rw [e0', e1']
        clear e0 
        go_enter Tryd.func130, Tryd.ntmps130
        go_wp2
        go_ret
        exact ⟨rfl, b1 _ _⟩
      · have e1' : (s.toList == [48]) = false := by rw [beq_eq_false_iff_ne]; exact e1
        rw [e0', e1']
        go_enter Tryd.func130, Tryd.ntmps130
        go_wp2
        go_ret
        exact ⟨rfl, b1 _ _⟩
  rw [if_neg h3]
  by_cases h4 : k = 4
  · subst h4
    rw [if_pos rfl]
    by_cases hl : 0 < L
    · have HD : Hid (decide (0 < L) = true) := Lib.hid (decide_eq_true hl)
      rw [HD.out]
      go_enter Tryd.func130, Tryd.ntmps130
      go_wp2
      go_ret
      exact ⟨rfl, b1 _ _⟩
    · have HD : Hid (decide (0 < L) = false) := Lib.hid (decide_eq_false hl)
      rw [HD.out]
      obtain rfl : L = 0 := by omega
      go_enter Tryd.func130, Tryd.ntmps130
      go_wp2
      go_ret
      exact ⟨rfl, b1 _ _⟩
  · rw [if_neg h4]
    go_enter Tryd.func130, Tryd.ntmps130
    go_wp2
    go_ret
    exact ⟨rfl, b1 _ _⟩

def boV (b : Bool) : Value := vV 1 (if b then 1 else 0) ⟨#[]⟩ 0 none 0 0
theorem boolValue_i' (b : Bool) (w : World) : Calls Tryd.prog 140 #[.bool b] w (GivesQ w (boV b)) := by
  cases b
  · go_enter Tryd.func140, Tryd.ntmps140
    go_wp2
    exact bodyPost_ret (v := vV 1 0 ⟨#[]⟩ 0 none 0 0) (by simp [results, Tryd.results140, go_sem]) rfl ⟨rfl, b1 _ _⟩
  · go_enter Tryd.func140, Tryd.ntmps140
    go_wp2
    exact bodyPost_ret (v := vV 1 1 ⟨#[]⟩ 0 none 0 0) (by simp [results, Tryd.results140, go_sem]) rfl ⟨rfl, b1 _ _⟩
theorem run_f1 (k n : Int) (s : ByteArray) (x : Int) (A : Option Addr) (L c : Nat) (W : World) : (Instr.field IV (vV k n s x A L c) 1).run Tryd.prog W = .ok (.int .i64 n) W := by kernel_rfl
theorem ti_mk (k n : Int) (s : ByteArray) (x : Int) (ks : List Ky) (vs : List Tr) : ti (.mk k n s x ks vs) = if k = 2 then n else if k = 3 then lead.li s else if tb (.mk k n s x ks vs) then 1 else 0 := rfl

/-- 1 or 0 for ToBool. -/
def tr01 (t : Tr) : Int := if tb t then 1 else 0
theorem truth_i (t : Tr) (v : Value) (w : World) (S : Nat → Prop) (h : TIn w S t v) : Calls Tryd.prog 115 #[v] w (GivesQ w (.int .i64 (tr01 t))) := by
  obtain ⟨k, n, s, x, ks, vs⟩ := t
  have TB := fun w' (hb : Below w.heap.size w w') => toBool_i (.mk k n s x ks vs) v w' S (h.below' hb)
  obtain ⟨A, c, rfl, -, -⟩ := h.out
  unfold tr01
  obtain ⟨b, HB⟩ : ∃ b, Hid (tb (.mk k n s x ks vs) = b) := ⟨_, Lib.hid rfl⟩
  rw [HB.out] at TB ⊢
  obtain ⟨L, HL⟩ : ∃ L, Hid (L = vs.length) := ⟨_, Lib.hid rfl⟩
  rw [← HL.out] at TB ⊢
  have HTB := Lib.hid TB
  clear h TB
  cases b
  · show Calls _ _ _ _ (GivesQ w (.int .i64 0))
    go_enter Tryd.func115, Tryd.ntmps115
    go_wp2_with (fail)
    refine (HTB.out _ (b1 w _)).mono ?_
    rintro e w1 ⟨rfl, hb1⟩
    have HB1 := Lib.hid (bs (b1 w _) hb1)
    clear hb1
    have BV : Hid (∀ w, Calls Tryd.prog 140 #[.bool false] w (GivesQ w (vV 1 0 ⟨#[]⟩ 0 none 0 0))) := Lib.hid (boolValue_i' false)
    have hf := run_f1 1 0 ⟨#[]⟩ 0 none 0 0
    unfold IV at hf
    unfold vV at BV hf
    go_wp2_with (fail)
    refine (BV.out _).mono ?_
    rintro e w2 ⟨rfl, hb2⟩
    have HB2 := Lib.hid (bs HB1.out hb2)
    clear hb2
    go_wp2_with (fail)
    go_ret
    exact ⟨rfl, HB2.out⟩
  · show Calls _ _ _ _ (GivesQ w (.int .i64 1))
    go_enter Tryd.func115, Tryd.ntmps115
    go_wp2_with (fail)
    refine (HTB.out _ (b1 w _)).mono ?_
    rintro e w1 ⟨rfl, hb1⟩
    have HB1 := Lib.hid (bs (b1 w _) hb1)
    clear hb1
    have BV : Hid (∀ w, Calls Tryd.prog 140 #[.bool true] w (GivesQ w (vV 1 1 ⟨#[]⟩ 0 none 0 0))) := Lib.hid (boolValue_i' true)
    have hf := run_f1 1 1 ⟨#[]⟩ 0 none 0 0
    unfold IV at hf
    unfold vV at BV hf
    go_wp2_with (fail)
    refine (BV.out _).mono ?_
    rintro e w2 ⟨rfl, hb2⟩
    have HB2 := Lib.hid (bs HB1.out hb2)
    clear hb2
    go_wp2_with (fail)
    go_ret
    exact ⟨rfl, HB2.out⟩

set_option maxHeartbeats 800000 in
theorem toInt_i (t : Tr) (v : Value) (w : World) (S : Nat → Prop) (h : TIn w S t v) (hT : tot t ≤ 1000000000) : Calls Tryd.prog 125 #[v] w (GivesQ w (.int .i64 (ti t))) := by
  obtain ⟨k, n, s, x, ks, vs⟩ := t
  have TB := fun w' (hb : Below w.heap.size w w') => truth_i (.mk k n s x ks vs) v w' S (h.below' hb)
  obtain ⟨A, c, rfl, -, -⟩ := h.out
  rw [tot_mk] at hT
  have LI := Lib.hid (lead.leadingInt_i s (by omega))
  rw [ti_mk]
  have eb : (if tb (.mk k n s x ks vs) then (1 : Int) else 0) = tr01 (.mk k n s x ks vs) := rfl
  rw [eb]
  obtain ⟨b, HB⟩ : ∃ b, Hid (tr01 (.mk k n s x ks vs) = b) := ⟨_, Lib.hid rfl⟩
  obtain ⟨q, HQ⟩ : ∃ q, Hid (lead.li s = q) := ⟨_, Lib.hid rfl⟩
  rw [HB.out] at TB ⊢
  rw [HQ.out] at LI ⊢
  obtain ⟨L, HL⟩ : ∃ L, Hid (L = vs.length) := ⟨_, Lib.hid rfl⟩
  rw [← HL.out] at TB ⊢
  have HTB := Lib.hid TB
  clear h hT TB eb
  by_cases h2 : k = 2
  · subst h2
    rw [if_pos rfl]
    go_enter Tryd.func125, Tryd.ntmps125
    go_wp2
    go_ret
    exact ⟨rfl, b1 _ _⟩
  rw [if_neg h2]
  by_cases h3 : k = 3
  · subst h3
    rw [if_pos rfl]
    go_enter Tryd.func125, Tryd.ntmps125
    go_wp2_with (fail)
    refine (LI.out _).mono ?_
    rintro e w1 ⟨rfl, hb1⟩
    have HB1 := Lib.hid (bs (b1 w _) hb1)
    clear hb1
    go_wp2_with (fail)
    go_ret
    exact ⟨rfl, HB1.out⟩
  rw [if_neg h3]
  go_enter Tryd.func125, Tryd.ntmps125
  go_wp2_with (fail)
  refine (HTB.out _ (b1 w _)).mono ?_
  rintro e w1 ⟨rfl, hb1⟩
  have HB1 := Lib.hid (bs (b1 w _) hb1)
  clear hb1
  go_wp2_with (fail)
  go_ret
  exact ⟨rfl, HB1.out⟩

set_option maxHeartbeats 800000 in
theorem toInt_s (t : Tr) (v : Value) (w : World) (S : Nat → Prop) (h : TIn w S t v) (hT : tot t ≤ 1000000000) : Calls Tryd.prog 90 #[v] w (GivesQ w (.int .i64 (ti t))) := by
  obtain ⟨k, n, s, x, ks, vs⟩ := t
  have TB := fun w' (hb : Below w.heap.size w w') => toBool_s (.mk k n s x ks vs) v w' S (h.below' hb)
  obtain ⟨A, c, rfl, -, -⟩ := h.out
  rw [tot_mk] at hT
  have LI := Lib.hid (lead.leadingInt_s s (by omega))
  rw [ti_mk]
  obtain ⟨b, HB⟩ : ∃ b, Hid (tb (.mk k n s x ks vs) = b) := ⟨_, Lib.hid rfl⟩
  obtain ⟨q, HQ⟩ : ∃ q, Hid (lead.li s = q) := ⟨_, Lib.hid rfl⟩
  rw [HB.out] at TB ⊢
  rw [HQ.out] at LI ⊢
  obtain ⟨L, HL⟩ : ∃ L, Hid (L = vs.length) := ⟨_, Lib.hid rfl⟩
  rw [← HL.out] at TB ⊢
  have HTB := Lib.hid TB
  clear h hT TB
  by_cases h2 : k = 2
  · subst h2
    rw [if_pos rfl]
    go_enter Tryd.func90, Tryd.ntmps90
    go_wp2
    go_ret
    exact ⟨rfl, b1 _ _⟩
  rw [if_neg h2]
  by_cases h3 : k = 3
  · subst h3
    rw [if_pos rfl]
    go_enter Tryd.func90, Tryd.ntmps90
    go_wp2_with (fail)
    refine (LI.out _).mono ?_
    rintro e w1 ⟨rfl, hb1⟩
    have HB1 := Lib.hid (bs (b1 w _) hb1)
    clear hb1
    go_wp2_with (fail)
    go_ret
    exact ⟨rfl, HB1.out⟩
  rw [if_neg h3]
  cases b
  · show Calls _ _ _ _ (GivesQ w (.int .i64 0))
    go_enter Tryd.func90, Tryd.ntmps90
    go_wp2_with (fail)
    refine (HTB.out _ (b1 w _)).mono ?_
    rintro e w1 ⟨rfl, hb1⟩
    have HB1 := Lib.hid (bs (b1 w _) hb1)
    clear hb1
    go_wp2_with (fail)
    go_ret
    exact ⟨rfl, HB1.out⟩
  · show Calls _ _ _ _ (GivesQ w (.int .i64 1))
    go_enter Tryd.func90, Tryd.ntmps90
    go_wp2_with (fail)
    refine (HTB.out _ (b1 w _)).mono ?_
    rintro e w1 ⟨rfl, hb1⟩
    have HB1 := Lib.hid (bs (b1 w _) hb1)
    clear hb1
    go_wp2_with (fail)
    go_ret
    exact ⟨rfl, HB1.out⟩

end Go.Proofs.YtlbkbcafkjgckaaDoor.tree
