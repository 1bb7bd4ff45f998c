/-
  What the texts behind this one use: 2 parts of one proof.
  Conditions: those that each theorem names.
-/
import Derived.Test.YtlbkbcafkjgckaaDoorCmB2
import Derived.Test.YtlbkbcafkjgckaaDoorCmSTreeCp
import Derived.Test.YtlbkbcafkjgckaaDoorCmB1
/-
  ToBool and ToInt of the project and of the model.
  Conditions: the value holds at most 10^9 items and letters.
-/
namespace Go.Proofs.YtlbkbcafkjgckaaDoor.tree
open Go.ChangeShapes Go.WideShapes Go.ChangeAt Go.RowKit
set_option linter.unusedVariables false

/-- Whether a text is neither empty nor "0". -/
def txB (s : ByteArray) : Bool := !(s.toList == []) && !(s.toList == [48])
/-- ToBool. -/
def tb : Tr → Bool
  | .mk k n s _ _ vs => if k = 0 then false else if k = 1 ∨ k = 2 then n != 0 else if k = 3 then txB s else if k = 4 then decide (0 < vs.length) else true
/-- ToInt. -/
def ti (t : Tr) : Int := match t with
  | .mk k n s _ _ _ => if k = 2 then n else if k = 3 then lead.li s else if tb t then 1 else 0

set_option maxHeartbeats 800000 in
theorem toBool_i (t : Tr) (v : Value) (w : World) (S : Nat → Prop) (h : TIn w S t v) : Calls Tryd.prog 41 #[v] w (GivesQ w (.bool (tb t))) := by
  obtain ⟨k, n, s, x, ks, vs⟩ := t
  obtain ⟨A, c, rfl, -, -⟩ := h.out
  have HT : Hid (tb (.mk k n s x ks vs) = if k = 0 then false else if k = 1 ∨ k = 2 then n != 0 else if k = 3 then txB s else if k = 4 then decide (0 < vs.length) else true) := Lib.hid rfl
  rw [HT.out]
  obtain ⟨L, HL⟩ : ∃ L, Hid (L = vs.length) := ⟨_, Lib.hid rfl⟩
  rw [← HL.out]
  clear h HT
  by_cases h0 : k = 0
  · subst h0
    rw [if_pos rfl]
    go_enter Tryd.func41, Tryd.ntmps41
    go_wp2
    go_ret
    exact ⟨rfl, b1 _ _⟩
  rw [if_neg h0]
  by_cases h1 : k = 1
  · subst h1
    rw [if_pos (.inl rfl)]
    go_enter Tryd.func41, Tryd.ntmps41
    go_wp2
    go_ret
    exact ⟨rfl, b1 _ _⟩
  by_cases h2 : k = 2
  · subst h2
    rw [if_pos (.inr rfl)]
    go_enter Tryd.func41, Tryd.ntmps41
    go_wp2
    go_ret
    exact ⟨rfl, b1 _ _⟩
  rw [if_neg (by omega)]
  by_cases h3 : k = 3
  · subst h3
    rw [if_pos rfl]
    have HX : Hid (txB s = (!(s.toList == []) && !(s.toList == [48]))) := Lib.hid rfl
    rw [HX.out]
    clear HX
    by_cases e0 : s.toList = []
    · have e0' : (s.toList == []) = true := by rw [e0]; rfl
      rw [e0']
      go_enter Tryd.func41, Tryd.ntmps41
      go_wp2
      go_ret
      exact ⟨rfl, b1 _ _⟩
    · have e0' : (s.toList == []) = false := by rw [beq_eq_false_iff_ne]; exact e0
      by_cases e1 : s.toList = [48]
      · have e1' : (s.toList == [48]) = true := by rw [e1]; rfl
        rw [e0', e1']
        clear e0 
        go_enter Tryd.func41, Tryd.ntmps41
        go_wp2
        go_ret
        exact ⟨rfl, b1 _ _⟩
      · have e1' : (s.toList == [48]) = false := by rw [beq_eq_false_iff_ne]; exact e1
        rw [e0', e1']
        go_enter Tryd.func41, Tryd.ntmps41
        go_wp2
        go_ret
        exact ⟨rfl, b1 _ _⟩
  rw [if_neg h3]
  by_cases h4 : k = 4
  · subst h4
    rw [if_pos rfl]
    by_cases hl : 0 < L
    · have HD : Hid (decide (0 < L) = true) := Lib.hid (decide_eq_true hl)
      rw [HD.out]
      go_enter Tryd.func41, Tryd.ntmps41
      go_wp2
      go_ret
      exact ⟨rfl, b1 _ _⟩
    · have HD : Hid (decide (0 < L) = false) := Lib.hid (decide_eq_false hl)
      rw [HD.out]
      obtain rfl : L = 0 := by omega
      go_enter Tryd.func41, Tryd.ntmps41
      go_wp2
      go_ret
      exact ⟨rfl, b1 _ _⟩
  · rw [if_neg h4]
    go_enter Tryd.func41, Tryd.ntmps41
    go_wp2
    go_ret
    exact ⟨rfl, b1 _ _⟩

set_option maxHeartbeats 800000 in
theorem toBool_s (t : Tr) (v : Value) (w : World) (S : Nat → Prop) (h : TIn w S t v) : Calls Tryd.prog 130 #[v] w (GivesQ w (.bool (tb t))) := by
  obtain ⟨k, n, s, x, ks, vs⟩ := t
  obtain ⟨A, c, rfl, -, -⟩ := h.out
  have HT : Hid (tb (.mk k n s x ks vs) = if k = 0 then false else if k = 1 ∨ k = 2 then n != 0 else if k = 3 then txB s else if k = 4 then decide (0 < vs.length) else true) := Lib.hid rfl
  rw [HT.out]
  obtain ⟨L, HL⟩ : ∃ L, Hid (L = vs.length) := ⟨_, Lib.hid rfl⟩
  rw [← HL.out]
  clear h HT
  by_cases h0 : k = 0
  · subst h0
    rw [if_pos rfl]
    go_enter Tryd.func130, Tryd.ntmps130
    go_wp2
    go_ret
    exact ⟨rfl, b1 _ _⟩
  rw [if_neg h0]
  by_cases h1 : k = 1
  · subst h1
    rw [if_pos (.inl rfl)]
    go_enter Tryd.func130, Tryd.ntmps130
    go_wp2
    go_ret
    exact ⟨rfl, b1 _ _⟩
  by_cases h2 : k = 2
  · subst h2
    rw [if_pos (.inr rfl)]
    go_enter Tryd.func130, Tryd.ntmps130
    go_wp2
    go_ret
    exact ⟨rfl, b1 _ _⟩
  rw [if_neg (by omega)]
  by_cases h3 : k = 3
  · subst h3
    rw [if_pos rfl]
    have HX : Hid (txB s = (!(s.toList == []) && !(s.toList == [48]))) := Lib.hid rfl
    rw [HX.out]
    clear HX
    by_cases e0 : s.toList = []
    · have e0' : (s.toList == []) = true := by rw [e0]; rfl
      rw [e0']
      go_enter Tryd.func130, Tryd.ntmps130
      go_wp2
      go_ret
      exact ⟨rfl, b1 _ _⟩
    · have e0' : (s.toList == []) = false := by rw [beq_eq_false_iff_ne]; exact e0
      by_cases e1 : s.toList = [48]
      · have e1' : (s.toList == [48]) = true := by rw [e1]; rfl
        rw [e0', e1']
        clear e0 
        go_enter Tryd.func130, Tryd.ntmps130
        go_wp2
        go_ret
        exact ⟨rfl, b1 _ _⟩
      · have e1' : (s.toList == [48]) = false := by rw [beq_eq_false_iff_ne]; exact e1
        rw [e0', e1']
        go_enter Tryd.func130, Tryd.ntmps130
        go_wp2
        go_ret
        exact ⟨rfl, b1 _ _⟩
  rw [if_neg h3]
  by_cases h4 : k = 4
  · subst h4
    rw [if_pos rfl]
    by_cases hl : 0 < L
    · have HD : Hid (decide (0 < L) = true) := Lib.hid (decide_eq_true hl)
      rw [HD.out]
      go_enter Tryd.func130, Tryd.ntmps130
      go_wp2
      go_ret
      exact ⟨rfl, b1 _ _⟩
    · have HD : Hid (decide (0 < L) = false) := Lib.hid (decide_eq_false hl)
      rw [HD.out]
      obtain rfl : L = 0 := by omega
      go_enter Tryd.func130, Tryd.ntmps130
      go_wp2
      go_ret
      exact ⟨rfl, b1 _ _⟩
  · rw [if_neg h4]
    go_enter Tryd.func130, Tryd.ntmps130
    go_wp2
    go_ret
    exact ⟨rfl, b1 _ _⟩

def boV (b : Bool) : Value := vV 1 (if b then 1 else 0) ⟨#[]⟩ 0 none 0 0
theorem boolValue_i' (b : Bool) (w : World) : Calls Tryd.prog 140 #[.bool b] w (GivesQ w (boV b)) := by
  cases b
  · go_enter Tryd.func140, Tryd.ntmps140
    go_wp2
    exact bodyPost_ret (v := vV 1 0 ⟨#[]⟩ 0 none 0 0) (by simp [results, Tryd.results140, go_sem]) rfl ⟨rfl, b1 _ _⟩
  · go_enter Tryd.func140, Tryd.ntmps140
    go_wp2
    exact bodyPost_ret (v := vV 1 1 ⟨#[]⟩ 0 none 0 0) (by simp [results, Tryd.results140, go_sem]) rfl ⟨rfl, b1 _ _⟩
theorem run_f1 (k n : Int) (s : ByteArray) (x : Int) (A : Option Addr) (L c : Nat) (W : World) : (Instr.field IV (vV k n s x A L c) 1).run Tryd.prog W = .ok (.int .i64 n) W := by kernel_rfl
theorem ti_mk (k n : Int) (s : ByteArray) (x : Int) (ks : List Ky) (vs : List Tr) : ti (.mk k n s x ks vs) = if k = 2 then n else if k = 3 then lead.li s else if tb (.mk k n s x ks vs) then 1 else 0 := rfl

/-- 1 or 0 for ToBool. -/
def tr01 (t : Tr) : Int := if tb t then 1 else 0
theorem truth_i (t : Tr) (v : Value) (w : World) (S : Nat → Prop) (h : TIn w S t v) : Calls Tryd.prog 115 #[v] w (GivesQ w (.int .i64 (tr01 t))) := by
  obtain ⟨k, n, s, x, ks, vs⟩ := t
  have TB := fun w' (hb : Below w.heap.size w w') => toBool_i (.mk k n s x ks vs) v w' S (h.below' hb)
  obtain ⟨A, c, rfl, -, -⟩ := h.out
  unfold tr01
  obtain ⟨b, HB⟩ : ∃ b, Hid (tb (.mk k n s x ks vs) = b) := ⟨_, Lib.hid rfl⟩
  rw [HB.out] at TB ⊢
  obtain ⟨L, HL⟩ : ∃ L, Hid (L = vs.length) := ⟨_, Lib.hid rfl⟩
  rw [← HL.out] at TB ⊢
  have HTB := Lib.hid TB
  clear h TB
  cases b
  · show Calls _ _ _ _ (GivesQ w (.int .i64 0))
    go_enter Tryd.func115, Tryd.ntmps115
    go_wp2_with (fail)
    refine (HTB.out _ (b1 w _)).mono ?_
    rintro e w1 ⟨rfl, hb1⟩
    have HB1 := Lib.hid (bs (b1 w _) hb1)
    clear hb1
    have BV : Hid (∀ w, Calls Tryd.prog 140 #[.bool false] w (GivesQ w (vV 1 0 ⟨#[]⟩ 0 none 0 0))) := Lib.hid (boolValue_i' false)
    have hf := run_f1 1 0 ⟨#[]⟩ 0 none 0 0
    unfold IV at hf
    unfold vV at BV hf
    go_wp2_with (fail)
    refine (BV.out _).mono ?_
    rintro e w2 ⟨rfl, hb2⟩
    have HB2 := Lib.hid (bs HB1.out hb2)
    clear hb2
    go_wp2_with (fail)
    go_ret
    exact ⟨rfl, HB2.out⟩
  · show Calls _ _ _ _ (GivesQ w (.int .i64 1))
    go_enter Tryd.func115, Tryd.ntmps115
    go_wp2_with (fail)
    refine (HTB.out _ (b1 w _)).mono ?_
    rintro e w1 ⟨rfl, hb1⟩
    have HB1 := Lib.hid (bs (b1 w _) hb1)
    clear hb1
    have BV : Hid (∀ w, Calls Tryd.prog 140 #[.bool true] w (GivesQ w (vV 1 1 ⟨#[]⟩ 0 none 0 0))) := Lib.hid (boolValue_i' true)
    have hf := run_f1 1 1 ⟨#[]⟩ 0 none 0 0
    unfold IV at hf
    unfold vV at BV hf
    go_wp2_with (fail)
    refine (BV.out _).mono ?_
    rintro e w2 ⟨rfl, hb2⟩
    have HB2 := Lib.hid (bs HB1.out hb2)
    clear hb2
    go_wp2_with (fail)
    go_ret
    exact ⟨rfl, HB2.out⟩

set_option maxHeartbeats 800000 in
theorem toInt_i (t : Tr) (v : Value) (w : World) (S : Nat → Prop) (h : TIn w S t v) (hT : tot t ≤ 1000000000) : Calls Tryd.prog 125 #[v] w (GivesQ w (.int .i64 (ti t))) := by
  obtain ⟨k, n, s, x, ks, vs⟩ := t
  have TB := fun w' (hb : Below w.heap.size w w') => truth_i (.mk k n s x ks vs) v w' S (h.below' hb)
  obtain ⟨A, c, rfl, -, -⟩ := h.out
  rw [tot_mk] at hT
  have LI := Lib.hid (lead.leadingInt_i s (by omega))
  rw [ti_mk]
  have eb : (if tb (.mk k n s x ks vs) then (1 : Int) else 0) = tr01 (.mk k n s x ks vs) := rfl
  rw [eb]
  obtain ⟨b, HB⟩ : ∃ b, Hid (tr01 (.mk k n s x ks vs) = b) := ⟨_, Lib.hid rfl⟩
  obtain ⟨q, HQ⟩ : ∃ q, Hid (lead.li s = q) := ⟨_, Lib.hid rfl⟩
  rw [HB.out] at TB ⊢
  rw [HQ.out] at LI ⊢
  obtain ⟨L, HL⟩ : ∃ L, Hid (L = vs.length) := ⟨_, Lib.hid rfl⟩
  rw [← HL.out] at TB ⊢
  have HTB := Lib.hid TB
  clear h hT TB eb
  by_cases h2 : k = 2
  · subst h2
    rw [if_pos rfl]
    go_enter Tryd.func125, Tryd.ntmps125
    go_wp2
    go_ret
    exact ⟨rfl, b1 _ _⟩
  rw [if_neg h2]
  by_cases h3 : k = 3
  · subst h3
    rw [if_pos rfl]
    go_enter Tryd.func125, Tryd.ntmps125
    go_wp2_with (fail)
    refine (LI.out _).mono ?_
    rintro e w1 ⟨rfl, hb1⟩
    have HB1 := Lib.hid (bs (b1 w _) hb1)
    clear hb1
    go_wp2_with (fail)
    go_ret
    exact ⟨rfl, HB1.out⟩
  rw [if_neg h3]
  go_enter Tryd.func125, Tryd.ntmps125
  go_wp2_with (fail)
  refine (HTB.out _ (b1 w _)).mono ?_
  rintro e w1 ⟨rfl, hb1⟩
  have HB1 := Lib.hid (bs (b1 w _) hb1)
  clear hb1
  go_wp2_with (fail)
  go_ret
  exact ⟨rfl, HB1.out⟩

set_option maxHeartbeats 800000 in
theorem toInt_s (t : Tr) (v : Value) (w : World) (S : Nat → Prop) (h : TIn w S t v) (hT : tot t ≤ 1000000000) : Calls Tryd.prog 90 #[v] w (GivesQ w (.int .i64 (ti t))) := by
  obtain ⟨k, n, s, x, ks, vs⟩ := t
  have TB := fun w' (hb : Below w.heap.size w w') => toBool_s (.mk k n s x ks vs) v w' S (h.below' hb)
  obtain ⟨A, c, rfl, -, -⟩ := h.out
  rw [tot_mk] at hT
  have LI := Lib.hid (lead.leadingInt_s s (by omega))
  rw [ti_mk]
  obtain ⟨b, HB⟩ : ∃ b, Hid (tb (.mk k n s x ks vs) = b) := ⟨_, Lib.hid rfl⟩
  obtain ⟨q, HQ⟩ : ∃ q, Hid (lead.li s = q) := ⟨_, Lib.hid rfl⟩
  rw [HB.out] at TB ⊢
  rw [HQ.out] at LI ⊢
  obtain ⟨L, HL⟩ : ∃ L, Hid (L = vs.length) := ⟨_, Lib.hid rfl⟩
  rw [← HL.out] at TB ⊢
  have HTB := Lib.hid TB
  clear h hT TB
  by_cases h2 : k = 2
  · subst h2
    rw [if_pos rfl]
    go_enter Tryd.func90, Tryd.ntmps90
    go_wp2
    go_ret
    exact ⟨rfl, b1 _ _⟩
  rw [if_neg h2]
  by_cases h3 : k = 3
  · subst h3
    rw [if_pos rfl]
    go_enter Tryd.func90, Tryd.ntmps90
    go_wp2_with (fail)
    refine (LI.out _).mono ?_
    rintro e w1 ⟨rfl, hb1⟩
    have HB1 := Lib.hid (bs (b1 w _) hb1)
    clear hb1
    go_wp2_with (fail)
    go_ret
    exact ⟨rfl, HB1.out⟩
  rw [if_neg h3]
  cases b
  · show Calls _ _ _ _ (GivesQ w (.int .i64 0))
    go_enter Tryd.func90, Tryd.ntmps90
    go_wp2_with (fail)
    refine (HTB.out _ (b1 w _)).mono ?_
    rintro e w1 ⟨rfl, hb1⟩
    have HB1 := Lib.hid (bs (b1 w _) hb1)
    clear hb1
    go_wp2_with (fail)
    go_ret
    exact ⟨rfl, HB1.out⟩
  · show Calls _ _ _ _ (GivesQ w (.int .i64 1))
    go_enter Tryd.func90, Tryd.ntmps90
    go_wp2_with (fail)
    refine (HTB.out _ (b1 w _)).mono ?_
    rintro e w1 ⟨rfl, hb1⟩
    have HB1 := Lib.hid (bs (b1 w _) hb1)
    clear hb1
    go_wp2_with (fail)
    go_ret
    exact ⟨rfl, HB1.out⟩

end Go.Proofs.YtlbkbcafkjgckaaDoor.tree

/-
  What a call leaves as it was, but for some blocks.
  Conditions: none.
-/
namespace Go.Proofs.YtlbkbcafkjgckaaDoor.tree
open Go.ChangeShapes Go.WideShapes Go.ChangeAt Go.RowKit
set_option linter.unusedVariables false

/-- Nothing but blocks of S has changed. -/
structure Fr (S : Nat → Prop) (w w' : World) : Prop where
  os : w'.os = w.os
  tape : w'.tape = w.tape
  output : w'.output = w.output
  size : w.heap.size ≤ w'.heap.size
  block : ∀ b, b < w.heap.size → ¬ S b → w'.heap[b]? = w.heap[b]?
section
variable {S S' : Nat → Prop} {w w' w2 : World}
theorem Fr.refl (S : Nat → Prop) (w : World) : Fr S w w := ⟨rfl, rfl, rfl, Nat.le_refl _, fun _ _ _ => rfl⟩
theorem Fr.of (h : Below w.heap.size w w') : Fr S w w' := ⟨h.os, h.tape, h.output, h.size, fun b hb _ => h.block b hb⟩
theorem Fr.trans (h : Fr S w w') (k : Fr S w' w2) : Fr S w w2 := ⟨k.os.trans h.os, k.tape.trans h.tape, k.output.trans h.output, Nat.le_trans h.size k.size, fun b hb hs => (k.block b (Nat.lt_of_lt_of_le hb h.size) hs).trans (h.block b hb hs)⟩
theorem Fr.mono (h : Fr S w w') (hs : ∀ b, S b → S' b) : Fr S' w w' := ⟨h.os, h.tape, h.output, h.size, fun b hb hn => h.block b hb fun hh => hn (hs b hh)⟩
theorem Fr.below (h : Fr S w w') {lo : Nat} (hl : lo ≤ w.heap.size) (hs : ∀ b, S b → lo ≤ b) : Below lo w w' := ⟨h.os, h.tape, h.output, h.size, fun b hb => h.block b (Nat.lt_of_lt_of_le hb hl) fun hh => by have := hs b hh; omega⟩
theorem Fr.set {g : Nat} (hg : S g) (j : Nat) (v : Value) : Fr S w (w.setCell ⟨g, j, none⟩ v) := ⟨rfl, rfl, rfl, by rw [set_size]; exact Nat.le_refl _, fun b _ hn => set_other (fun e => hn (e ▸ hg))⟩
end

theorem TIn.lt' {w : World} {S : Nat → Prop} {t : Tr} {v : Value} (h : TIn w S t v) : TIn w (fun b => b < w.heap.size) t v := by
  induction h with
  | mk k n s x ks vs A cap C hk hl hm hcap hc ht ih =>
    refine TIn.mk k n s x ks vs A _ C hk hl hm hcap (fun i hi => ?_) ih
    obtain ⟨a, ha, hS, hky, hs, hj⟩ := hc i hi
    refine ⟨a, ha, ?_, hky, hs, hj⟩
    have := World.block_lt_of_cell? _ _ hky.1
    rwa [mem.add_block] at this

end Go.Proofs.YtlbkbcafkjgckaaDoor.tree

