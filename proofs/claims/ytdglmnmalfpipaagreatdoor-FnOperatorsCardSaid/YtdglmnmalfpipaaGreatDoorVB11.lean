/-
  What the texts behind this one use: 7 parts of one proof.
  Conditions: those that each theorem names.
-/
import Derived.Test.YtdglmnmalfpipaaGreatDoorVB4
import Derived.Test.YtdglmnmalfpipaaGreatDoorVSTreeCp
import Derived.Test.YtdglmnmalfpipaaGreatDoorVB3
import Derived.Test.YtdglmnmalfpipaaGreatDoorVB8
import Derived.Test.YtdglmnmalfpipaaGreatDoorVB7
import Derived.Laws.StructEq
import Derived.Deep.DeepCutAuto
import Derived.Maps.AppendAt
/-
  ToBool and ToInt of the project and of the model.
  Conditions: the value holds at most 10^9 items and letters.
-/
namespace Go.Proofs.YtdglmnmalfpipaaGreatDoor.tree
open Go.ChangeShapes Go.WideShapes Go.ChangeAt Go.RowKit
set_option linter.unusedVariables false

/-- Whether a text is neither empty nor "0". -/
def txB (s : ByteArray) : Bool := !(s.toList == []) && !(s.toList == [48])
/-- ToBool. -/
def tb : Tr → Bool
  | .mk k n s _ _ vs => if k = 0 then false else if k = 1 ∨ k = 2 then n != 0 else if k = 3 then txB s else if k = 4 then decide (0 < vs.length) else true
/-- ToInt. -/
def ti (t : Tr) : Int := match t with
  | .mk k n s _ _ _ => if k = 2 then n else if k = 3 then lead.li s else if tb t then 1 else 0

set_option maxHeartbeats 800000 in
theorem toBool_i (t : Tr) (v : Value) (w : World) (S : Nat → Prop) (h : TIn w S t v) : Calls Tryz.prog 204 #[v] w (GivesQ w (.bool (tb t))) := by
  obtain ⟨k, n, s, x, ks, vs⟩ := t
  obtain ⟨A, c, rfl, -, -⟩ := h.out
  have HT : Hid (tb (.mk k n s x ks vs) = if k = 0 then false else if k = 1 ∨ k = 2 then n != 0 else if k = 3 then txB s else if k = 4 then decide (0 < vs.length) else true) := Lib.hid rfl
  rw [HT.out]
  obtain ⟨L, HL⟩ : ∃ L, Hid (L = vs.length) := ⟨_, Lib.hid rfl⟩
  rw [← HL.out]
  clear h HT
  by_cases h0 : k = 0
  · subst h0
    rw [if_pos rfl]
    go_enter Tryz.func204, Tryz.ntmps204
    go_wp2
    go_ret
    exact ⟨rfl, b1 _ _⟩
  rw [if_neg h0]
  by_cases h1 : k = 1
  · subst h1
    rw [if_pos (.inl rfl)]
    go_enter Tryz.func204, Tryz.ntmps204
    go_wp2
    go_ret
    exact ⟨rfl, b1 _ _⟩
  by_cases h2 : k = 2
  · subst h2
    rw [if_pos (.inr rfl)]
    go_enter Tryz.func204, Tryz.ntmps204
    go_wp2
    go_ret
    exact ⟨rfl, b1 _ _⟩
  rw [if_neg (by omega)]
  by_cases h3 : k = 3
  · subst h3
    rw [if_pos rfl]
    have HX : Hid (txB s = (!(s.toList == []) && !(s.toList == [48]))) := Lib.hid rfl
    rw [HX.out]
    clear HX
    by_cases e0 : s.toList = []
    · have e0' : (s.toList == []) = true := by rw [e0]; rfl
      rw [e0']
      go_enter Tryz.func204, Tryz.ntmps204
      go_wp2
      go_ret
      exact ⟨rfl, b1 _ _⟩
    · have e0' : (s.toList == []) = false := by rw [beq_eq_false_iff_ne]; exact e0
      by_cases e1 : s.toList = [48]
      · have e1' : (s.toList == [48]) = true := by rw [e1]; rfl
        rw [e0', e1']
        clear e0 
        go_enter Tryz.func204, Tryz.ntmps204
        go_wp2
        go_ret
        exact ⟨rfl, b1 _ _⟩
      · have e1' : (s.toList == [48]) = false := by rw [beq_eq_false_iff_ne]; exact e1
        rw [e0', e1']
        go_enter Tryz.func204, Tryz.ntmps204
        go_wp2
        go_ret
        exact ⟨rfl, b1 _ _⟩
  rw [if_neg h3]
  by_cases h4 : k = 4
  · subst h4
    rw [if_pos rfl]
    by_cases hl : 0 < L
    · have HD : Hid (decide (0 < L) = true) := Lib.hid (decide_eq_true hl)
      rw [HD.out]
      go_enter Tryz.func204, Tryz.ntmps204
      go_wp2
      go_ret
      exact ⟨rfl, b1 _ _⟩
    · have HD : Hid (decide (0 < L) = false) := Lib.hid (decide_eq_false hl)
      rw [HD.out]
      obtain rfl : L = 0 := by omega
      go_enter Tryz.func204, Tryz.ntmps204
      go_wp2
      go_ret
      exact ⟨rfl, b1 _ _⟩
  · rw [if_neg h4]
    go_enter Tryz.func204, Tryz.ntmps204
    go_wp2
    go_ret
    exact ⟨rfl, b1 _ _⟩


def boV (b : Bool) : Value := vV 1 (if b then 1 else 0) ⟨#[]⟩ 0 none 0 0
theorem boolValue_i' (b : Bool) (w : World) : Calls Tryz.prog 103 #[.bool b] w (GivesQ w (boV b)) := by
  cases b
  · go_enter Tryz.func103, Tryz.ntmps103
    go_wp2
    exact bodyPost_ret (v := vV 1 0 ⟨#[]⟩ 0 none 0 0) (by simp [results, Tryz.results103, go_sem]) rfl ⟨rfl, b1 _ _⟩
  · go_enter Tryz.func103, Tryz.ntmps103
    go_wp2
    exact bodyPost_ret (v := vV 1 1 ⟨#[]⟩ 0 none 0 0) (by simp [results, Tryz.results103, go_sem]) rfl ⟨rfl, b1 _ _⟩
theorem run_f1 (k n : Int) (s : ByteArray) (x : Int) (A : Option Addr) (L c : Nat) (W : World) : (Instr.field IV (vV k n s x A L c) 1).run Tryz.prog W = .ok (.int .i64 n) W := by kernel_rfl
theorem ti_mk (k n : Int) (s : ByteArray) (x : Int) (ks : List Ky) (vs : List Tr) : ti (.mk k n s x ks vs) = if k = 2 then n else if k = 3 then lead.li s else if tb (.mk k n s x ks vs) then 1 else 0 := rfl

/-- 1 or 0 for ToBool. -/
def tr01 (t : Tr) : Int := if tb t then 1 else 0
theorem truth_i (t : Tr) (v : Value) (w : World) (S : Nat → Prop) (h : TIn w S t v) : Calls Tryz.prog 209 #[v] w (GivesQ w (.int .i64 (tr01 t))) := by
  obtain ⟨k, n, s, x, ks, vs⟩ := t
  have TB := fun w' (hb : Below w.heap.size w w') => toBool_i (.mk k n s x ks vs) v w' S (h.below' hb)
  obtain ⟨A, c, rfl, -, -⟩ := h.out
  unfold tr01
  obtain ⟨b, HB⟩ : ∃ b, Hid (tb (.mk k n s x ks vs) = b) := ⟨_, Lib.hid rfl⟩
  rw [HB.out] at TB ⊢
  obtain ⟨L, HL⟩ : ∃ L, Hid (L = vs.length) := ⟨_, Lib.hid rfl⟩
  rw [← HL.out] at TB ⊢
  have HTB := Lib.hid TB
  clear h TB
  cases b
  · show Calls _ _ _ _ (GivesQ w (.int .i64 0))
    go_enter Tryz.func209, Tryz.ntmps209
    go_wp2_with (fail)
    refine (HTB.out _ (b1 w _)).mono ?_
    rintro e w1 ⟨rfl, hb1⟩
    have HB1 := Lib.hid (bs (b1 w _) hb1)
    clear hb1
    have BV : Hid (∀ w, Calls Tryz.prog 103 #[.bool false] w (GivesQ w (vV 1 0 ⟨#[]⟩ 0 none 0 0))) := Lib.hid (boolValue_i' false)
    have hf := run_f1 1 0 ⟨#[]⟩ 0 none 0 0
    unfold IV at hf
    unfold vV at BV hf
    go_wp2_with (fail)
    refine (BV.out _).mono ?_
    rintro e w2 ⟨rfl, hb2⟩
    have HB2 := Lib.hid (bs HB1.out hb2)
    clear hb2
    go_wp2_with (fail)
    go_ret
    exact ⟨rfl, HB2.out⟩
  · show Calls _ _ _ _ (GivesQ w (.int .i64 1))
    go_enter Tryz.func209, Tryz.ntmps209
    go_wp2_with (fail)
    refine (HTB.out _ (b1 w _)).mono ?_
    rintro e w1 ⟨rfl, hb1⟩
    have HB1 := Lib.hid (bs (b1 w _) hb1)
    clear hb1
    have BV : Hid (∀ w, Calls Tryz.prog 103 #[.bool true] w (GivesQ w (vV 1 1 ⟨#[]⟩ 0 none 0 0))) := Lib.hid (boolValue_i' true)
    have hf := run_f1 1 1 ⟨#[]⟩ 0 none 0 0
    unfold IV at hf
    unfold vV at BV hf
    go_wp2_with (fail)
    refine (BV.out _).mono ?_
    rintro e w2 ⟨rfl, hb2⟩
    have HB2 := Lib.hid (bs HB1.out hb2)
    clear hb2
    go_wp2_with (fail)
    go_ret
    exact ⟨rfl, HB2.out⟩

set_option maxHeartbeats 800000 in
theorem toInt_i (t : Tr) (v : Value) (w : World) (S : Nat → Prop) (h : TIn w S t v) (hT : tot t ≤ 1000000000) : Calls Tryz.prog 213 #[v] w (GivesQ w (.int .i64 (ti t))) := by
  obtain ⟨k, n, s, x, ks, vs⟩ := t
  have TB := fun w' (hb : Below w.heap.size w w') => truth_i (.mk k n s x ks vs) v w' S (h.below' hb)
  obtain ⟨A, c, rfl, -, -⟩ := h.out
  rw [tot_mk] at hT
  have LI := Lib.hid (lead.leadingInt_i s (by omega))
  rw [ti_mk]
  have eb : (if tb (.mk k n s x ks vs) then (1 : Int) else 0) = tr01 (.mk k n s x ks vs) := rfl
  rw [eb]
  obtain ⟨b, HB⟩ : ∃ b, Hid (tr01 (.mk k n s x ks vs) = b) := ⟨_, Lib.hid rfl⟩
  obtain ⟨q, HQ⟩ : ∃ q, Hid (lead.li s = q) := ⟨_, Lib.hid rfl⟩
  rw [HB.out] at TB ⊢
  rw [HQ.out] at LI ⊢
  obtain ⟨L, HL⟩ : ∃ L, Hid (L = vs.length) := ⟨_, Lib.hid rfl⟩
  rw [← HL.out] at TB ⊢
  have HTB := Lib.hid TB
  clear h hT TB eb
  by_cases h2 : k = 2
  · subst h2
    rw [if_pos rfl]
    go_enter Tryz.func213, Tryz.ntmps213
    go_wp2
    go_ret
    exact ⟨rfl, b1 _ _⟩
  rw [if_neg h2]
  by_cases h3 : k = 3
  · subst h3
    rw [if_pos rfl]
    go_enter Tryz.func213, Tryz.ntmps213
    go_wp2_with (fail)
    refine (LI.out _).mono ?_
    rintro e w1 ⟨rfl, hb1⟩
    have HB1 := Lib.hid (bs (b1 w _) hb1)
    clear hb1
    go_wp2_with (fail)
    go_ret
    exact ⟨rfl, HB1.out⟩
  rw [if_neg h3]
  go_enter Tryz.func213, Tryz.ntmps213
  go_wp2_with (fail)
  refine (HTB.out _ (b1 w _)).mono ?_
  rintro e w1 ⟨rfl, hb1⟩
  have HB1 := Lib.hid (bs (b1 w _) hb1)
  clear hb1
  go_wp2_with (fail)
  go_ret
  exact ⟨rfl, HB1.out⟩


end Go.Proofs.YtdglmnmalfpipaaGreatDoor.tree

/-
  What going through an array by places decides: whether all that is in it is plain.
  Conditions: those that each theorem names.
-/
namespace Go.Proofs.YtdglmnmalfpipaaGreatDoor.tree
open Go.ChangeShapes Go.WideShapes Go.ChangeAt Go.RowKit
set_option linter.unusedVariables false

mutual
def plainB : Tr → Bool
  | .mk k _ _ _ _ vs => (decide (0 ≤ k) && decide (k ≤ 3)) || (decide (k = 4) && plainL vs)
def plainL : List Tr → Bool
  | [] => true
  | t :: vs => plainB t && plainL vs
end
theorem plainL_cons (t : Tr) (vs : List Tr) : plainL (t :: vs) = (plainB t && plainL vs) := by rw [plainL]
theorem plainL_mem : ∀ {vs : List Tr}, plainL vs = true ↔ ∀ t ∈ vs, plainB t = true
  | [] => by rw [plainL]; simp
  | t :: vs => by rw [plainL_cons, Bool.and_eq_true, plainL_mem]; simp
theorem plain_kind {k n : Int} {s : ByteArray} {x : Int} {ks : List Ky} {vs : List Tr} (h : plainB (.mk k n s x ks vs) = true) : 0 ≤ k ∧ k ≤ 4 := by
  rw [plainB] at h
  simp at h
  omega
theorem plain_items {n : Int} {s : ByteArray} {x : Int} {ks : List Ky} {vs : List Tr} : plainB (.mk 4 n s x ks vs) = plainL vs := by
  rw [plainB]
  simp
theorem plain_other {k n : Int} {s : ByteArray} {x : Int} {ks : List Ky} {vs : List Tr} (h0 : 0 ≤ k) (h4 : k ≤ 4) (h : k ≠ 4) : plainB (.mk k n s x ks vs) = true := by
  rw [plainB]
  simp
  omega

/-- A value that has been looked at, and its array, if it is one, has been entered. -/
def Seen (B : Nat) (w : World) (e : Value → Option Value) : Tr → Prop
  | .mk k _ _ _ ks vs => (0 ≤ k ∧ k ≤ 4) ∧ (k = 4 → ∃ p, PlB B w p ks vs ∧ e p ≠ none)
def Done (B : Nat) (w : World) (P : List Pend) (rs : List Tr) (e : Value → Option Value) (vs : List Tr) : Prop := (∃ l ∈ P, l.vs = vs) ∨ ∀ x ∈ vs, Seen B w e x ∨ x ∈ rs
structure PSt (T : Tr) (B : Nat) (w : World) (P : List Pend) (rs : List Tr) (e : Value → Option Value) : Prop where
  ok : ∀ l ∈ P, PendOk B w l
  ens : ∀ p b, e p = some b → b = .bool true ∧ ∃ ks vs, PlB B w p ks vs ∧ Done B w P rs e vs
  root : Done B w P rs e [T]
  down : plainB T = true → (∀ l ∈ P, plainL l.vs = true) ∧ plainL rs = true

section
variable {T : Tr} {B : Nat} {w w' : World} {P : List Pend} {rs : List Tr} {e : Value → Option Value}
theorem Seen.kp (hk : Kp B w w') {x : Tr} (h : Seen B w e x) : Seen B w' e x := by
  cases x
  exact ⟨h.1, fun h4 => by obtain ⟨p, h1, h2⟩ := h.2 h4; exact ⟨p, h1.kp hk, h2⟩⟩
theorem Done.kp (hk : Kp B w w') {vs : List Tr} (h : Done B w P rs e vs) : Done B w' P rs e vs := h.imp id fun h x hx => (h x hx).imp (fun h => h.kp hk) id
theorem PSt.kp (hk : Kp B w w') (h : PSt T B w P rs e) : PSt T B w' P rs e where
  ok := fun l hl => ⟨(h.ok l hl).isin.kp hk, (h.ok l hl).cap⟩
  ens := fun p b hp => by
    obtain ⟨hb, ks, vs, h1, h2⟩ := h.ens p b hp
    exact ⟨hb, ks, vs, h1.kp hk, h2.kp hk⟩
  root := h.root.kp hk
  down := h.down

/-- The last list is taken. -/
theorem PSt.pop {l : Pend} (h : PSt T B w (l :: P) [] e) : PSt T B w P l.vs e := by
  have step : ∀ {vs : List Tr}, Done B w (l :: P) [] e vs → Done B w P l.vs e vs := fun {vs} hd => by
    rcases hd with ⟨l', hl, rfl⟩ | hd
    · rcases List.mem_cons.1 hl with rfl | hl
      · exact .inr fun x hx => .inr hx
      · exact .inl ⟨l', hl, rfl⟩
    · exact .inr fun x hx => .inl ((hd x hx).resolve_right (by simp))
  exact ⟨fun l' hl => h.ok l' (List.mem_cons_of_mem _ hl), fun p b hp => by
    obtain ⟨hb, ks, vs, h1, h2⟩ := h.ens p b hp
    exact ⟨hb, ks, vs, h1, step h2⟩, step h.root, fun hT => ⟨fun l' hl => (h.down hT).1 l' (List.mem_cons_of_mem _ hl), (h.down hT).1 l List.mem_cons_self⟩⟩

/-- A value that needs no more. -/
theorem PSt.next {x : Tr} (h : PSt T B w P (x :: rs) e) (hx : Seen B w e x) : PSt T B w P rs e := by
  have step : ∀ {vs : List Tr}, Done B w P (x :: rs) e vs → Done B w P rs e vs := fun {vs} hd => hd.imp id fun hd y hy => by
    rcases hd y hy with h | h
    · exact .inl h
    · rcases List.mem_cons.1 h with rfl | h
      · exact .inl hx
      · exact .inr h
  exact ⟨h.ok, fun p b hp => by
    obtain ⟨hb, ks, vs, h1, h2⟩ := h.ens p b hp
    exact ⟨hb, ks, vs, h1, step h2⟩, step h.root, fun hT => ⟨(h.down hT).1, by have := (h.down hT).2; rw [plainL_cons, Bool.and_eq_true] at this; exact this.2⟩⟩

/-- An array that is entered. -/
theorem PSt.enter {n : Int} {s : ByteArray} {x : Int} {l : Pend} (h : PSt T B w P (.mk 4 n s x l.ks l.vs :: rs) e) (hl : PendOk B w l) :
    PSt T B w (l :: P) rs (raw.put e (plc l.R l.vs.length) (.bool true)) := by
  have hp : PlB B w (plc l.R l.vs.length) l.ks l.vs := ⟨l.R, hl.isin, rfl⟩
  have more : ∀ q, e q ≠ none → raw.put e (plc l.R l.vs.length) (.bool true) q ≠ none := fun q hq => by
    by_cases e1 : q = plc l.R l.vs.length
    · rw [e1, raw.put_same]; simp
    · rw [raw.put_other e1]; exact hq
  have seen : ∀ y, Seen B w e y → Seen B w (raw.put e (plc l.R l.vs.length) (.bool true)) y := fun y hy => by
    cases y
    exact ⟨hy.1, fun h4 => by obtain ⟨p, h1, h2⟩ := hy.2 h4; exact ⟨p, h1, more p h2⟩⟩
  have step : ∀ {vs : List Tr}, Done B w P (.mk 4 n s x l.ks l.vs :: rs) e vs → Done B w (l :: P) rs (raw.put e (plc l.R l.vs.length) (.bool true)) vs := fun {vs} hd => by
    rcases hd with ⟨l', hl', rfl⟩ | hd
    · exact .inl ⟨l', List.mem_cons_of_mem _ hl', rfl⟩
    · refine .inr fun y hy => ?_
      rcases hd y hy with h | h
      · exact .inl (seen y h)
      · rcases List.mem_cons.1 h with rfl | h
        · exact .inl ⟨⟨by omega, by omega⟩, fun _ => ⟨_, hp, by rw [raw.put_same]; simp⟩⟩
        · exact .inr h
  refine ⟨fun l' hl' => ?_, fun q b hq => ?_, step h.root, fun hT => ?_⟩
  · rcases List.mem_cons.1 hl' with rfl | hl'
    · exact hl
    · exact h.ok l' hl'
  · by_cases e1 : q = plc l.R l.vs.length
    · subst e1
      rw [raw.put_same] at hq
      exact ⟨(Option.some.inj hq).symm, l.ks, l.vs, hp, .inl ⟨l, List.mem_cons_self, rfl⟩⟩
    · rw [raw.put_other e1] at hq
      obtain ⟨hb, ks, vs, h1, h2⟩ := h.ens q b hq
      exact ⟨hb, ks, vs, h1, step h2⟩
  · have := (h.down hT).2
    rw [plainL_cons, Bool.and_eq_true, plain_items] at this
    refine ⟨fun l' hl' => ?_, this.2⟩
    rcases List.mem_cons.1 hl' with rfl | hl'
    · exact this.1
    · exact (h.down hT).1 l' hl'

/-- A value that is not plain. -/
theorem PSt.bad {k n : Int} {s : ByteArray} {x : Int} {ks : List Ky} {vs : List Tr} (h : PSt T B w P (.mk k n s x ks vs :: rs) e) (hk : ¬ (0 ≤ k ∧ k ≤ 4)) : plainB T = false := by
  cases hT : plainB T with
  | false => rfl
  | true =>
    have := (h.down hT).2
    rw [plainL_cons, Bool.and_eq_true] at this
    exact absurd (plain_kind this.1) hk

/-- Nothing is left: all is plain. -/
theorem PSt.fine (h : PSt T B w [] [] e) : plainB T = true := by
  have all : ∀ m x, cnt x ≤ m → Seen B w e x → plainB x = true := by
    intro m
    induction m with
    | zero => intro x hm; cases x; rw [cnt_mk] at hm; omega
    | succ m ih =>
      intro x hm hx
      obtain ⟨k, n, s, x, ks, vs⟩ := x
      by_cases h4 : k = 4
      · subst h4
        rw [plain_items, plainL_mem]
        obtain ⟨p, hp, hne⟩ := hx.2 rfl
        obtain ⟨b, hb⟩ := Option.ne_none_iff_exists'.1 hne
        obtain ⟨-, ks', vs', hp', hd⟩ := h.ens p b hb
        obtain ⟨-, rfl⟩ := hp'.is.unique hp.is
        intro y hy
        rcases hd with ⟨l, hl, _⟩ | hd
        · cases hl
        · refine ih y ?_ ((hd y hy).resolve_right (by simp))
          have : cnt y ≤ cnts vs' := by
            clear hd hp hp' hx ih
            induction vs' with
            | nil => cases hy
            | cons u vs ih2 =>
              rw [cnts_cons]
              rcases List.mem_cons.1 hy with rfl | hy
              · omega
              · have := ih2 (by rw [cnt_mk] at hm ⊢; rw [cnts_cons] at hm; omega) hy
                omega
          rw [cnt_mk] at hm
          omega
      · exact plain_other hx.1.1 hx.1.2 h4
  rcases h.root with ⟨l, hl, _⟩ | hd
  · cases hl
  · exact all _ T (Nat.le_refl _) ((hd T (by simp)).resolve_right (by simp))
end

end Go.Proofs.YtdglmnmalfpipaaGreatDoor.tree

/-
  What going through two arrays by places decides: whether they are identical.
  Conditions: those that each theorem names.
-/
namespace Go.Proofs.YtdglmnmalfpipaaGreatDoor.tree
open Go.ChangeShapes Go.WideShapes Go.ChangeAt Go.RowKit
set_option linter.unusedVariables false

abbrev It := (Ky × Tr) × (Ky × Tr)
def zz (ks : List Ky) (vs : List Tr) (ks' : List Ky) (vs' : List Tr) : List It := (ks.zip vs).zip (ks'.zip vs')
theorem identL_iff : ∀ (ks : List Ky) (vs : List Tr) (ks' : List Ky) (vs' : List Tr), identL ks vs ks' vs' = true ↔ ∀ it ∈ zz ks vs ks' vs', it.1.1 = it.2.1 ∧ identB it.1.2 it.2.2 = true
  | y :: ks, t :: vs, y' :: ks', t' :: vs' => by
    have ih := identL_iff ks vs ks' vs'
    rw [identL, Bool.and_eq_true, Bool.and_eq_true, ih]
    simp [zz]
  | [], _, _, _ => by simp [identL, zz]
  | _ :: _, [], _, _ => by simp [identL, zz]
  | _ :: _, _ :: _, [], _ => by simp [identL, zz]
  | _ :: _, _ :: _, _ :: _, [] => by simp [identL, zz]
theorem zz_drop (ks : List Ky) (vs : List Tr) (ks' : List Ky) (vs' : List Tr) {j : Nat} {y y' : Ky} {t t' : Tr} (h1 : ks[j]? = some y) (h2 : vs[j]? = some t) (h3 : ks'[j]? = some y') (h4 : vs'[j]? = some t') :
    (zz ks vs ks' vs').drop j = ((y, t), (y', t')) :: (zz ks vs ks' vs').drop (j + 1) := by
  have e : (zz ks vs ks' vs')[j]? = some ((y, t), (y', t')) := by simp [zz, List.getElem?_zip_eq_some, h1, h2, h3, h4]
  obtain ⟨hj, e1⟩ := List.getElem?_eq_some_iff.1 e
  rw [List.drop_eq_getElem_cons hj, e1]
theorem zz_len {ks : List Ky} {vs : List Tr} {ks' : List Ky} {vs' : List Tr} (h : ks.length = vs.length) (h' : ks'.length = vs'.length) (hl : vs.length = vs'.length) : (zz ks vs ks' vs').length = vs.length := by
  simp [zz]
  omega

/-- Two places as one key. -/
def pq (x y : Value) : Value := .agg (x.cells ++ y.cells)
theorem plc_form (A : Option Addr) (n : Nat) : ∃ p m, plc A n = .agg #[.pointer p, .int .i64 m] := by
  unfold plc
  split
  · exact ⟨_, _, rfl⟩
  · exact ⟨_, _, rfl⟩
theorem pq_inj {A A' C C' : Option Addr} {n n' m m' : Nat} (h : pq (plc A n) (plc C m) = pq (plc A' n') (plc C' m')) : plc A n = plc A' n' ∧ plc C m = plc C' m' := by
  obtain ⟨a1, b1, e1⟩ := plc_form A n
  obtain ⟨a2, b2, e2⟩ := plc_form C m
  obtain ⟨a3, b3, e3⟩ := plc_form A' n'
  obtain ⟨a4, b4, e4⟩ := plc_form C' m'
  rw [e1, e2, e3, e4] at h ⊢
  simp [pq, Value.cells] at h
  obtain ⟨rfl, rfl, rfl, rfl⟩ := h
  exact ⟨rfl, rfl⟩

/-- Two lists that are still to be gone through. -/
structure Pair where
  a : Pend
  b : Pend
def Pair.z (l : Pair) : List It := zz l.a.ks l.a.vs l.b.ks l.b.vs
def Pair.cells (l : Pair) : List Value := [l.a.cell, l.b.cell]
structure PairOk (B : Nat) (w : World) (l : Pair) : Prop where
  a : PendOk B w l.a
  b : PendOk B w l.b
  len : l.a.vs.length = l.b.vs.length

def Seen2 (B : Nat) (w : World) (e : Value → Option Value) (it : It) : Prop :=
  it.1.1 = it.2.1 ∧ alikeB it.1.2 it.2.2 = true ∧ ∃ k n s x ks vs k' n' s' x' ks' vs', it.1.2 = .mk k n s x ks vs ∧ it.2.2 = .mk k' n' s' x' ks' vs' ∧ ∃ p q, PlB B w p ks vs ∧ PlB B w q ks' vs' ∧ e (pq p q) ≠ none
def Done2 (B : Nat) (w : World) (P : List Pair) (rz : List It) (e : Value → Option Value) (z : List It) : Prop := (∃ l ∈ P, l.z = z) ∨ ∀ it ∈ z, Seen2 B w e it ∨ it ∈ rz
def okZ (z : List It) : Prop := ∀ it ∈ z, it.1.1 = it.2.1 ∧ identB it.1.2 it.2.2 = true
structure ISt (T T' : Tr) (B : Nat) (w : World) (P : List Pair) (rz : List It) (e : Value → Option Value) : Prop where
  ok : ∀ l ∈ P, PairOk B w l
  ens : ∀ v b, e v = some b → b = .bool true ∧ ∃ p q ks vs ks' vs', v = pq p q ∧ PlB B w p ks vs ∧ PlB B w q ks' vs' ∧ Done2 B w P rz e (zz ks vs ks' vs')
  root : ∃ y, Done2 B w P rz e [((y, T), (y, T'))]
  down : identB T T' = true → (∀ l ∈ P, okZ l.z) ∧ okZ rz

def lefts2 : List Pair → Nat
  | [] => 0
  | l :: P => 1 + wks l.a.vs + lefts2 P
theorem lefts2_len : ∀ P : List Pair, P.length ≤ lefts2 P
  | [] => Nat.le_refl _
  | l :: P => by have := lefts2_len P; rw [lefts2, List.length_cons]; omega

section
variable {T T' : Tr} {B : Nat} {w w' : World} {P : List Pair} {rz : List It} {e : Value → Option Value}
theorem Seen2.kp (hk : Kp B w w') {it : It} (h : Seen2 B w e it) : Seen2 B w' e it := by
  obtain ⟨h1, h2, k, n, s, x, ks, vs, k', n', s', x', ks', vs', e1, e2, p, q, h3, h4, h5⟩ := h
  exact ⟨h1, h2, k, n, s, x, ks, vs, k', n', s', x', ks', vs', e1, e2, p, q, h3.kp hk, h4.kp hk, h5⟩
theorem Done2.kp (hk : Kp B w w') {z : List It} (h : Done2 B w P rz e z) : Done2 B w' P rz e z := h.imp id fun h x hx => (h x hx).imp (fun h => h.kp hk) id
theorem ISt.kp (hk : Kp B w w') (h : ISt T T' B w P rz e) : ISt T T' B w' P rz e where
  ok := fun l hl => ⟨⟨(h.ok l hl).a.isin.kp hk, (h.ok l hl).a.cap⟩, ⟨(h.ok l hl).b.isin.kp hk, (h.ok l hl).b.cap⟩, (h.ok l hl).len⟩
  ens := fun v b hv => by
    obtain ⟨hb, p, q, ks, vs, ks', vs', e1, h1, h2, h3⟩ := h.ens v b hv
    exact ⟨hb, p, q, ks, vs, ks', vs', e1, h1.kp hk, h2.kp hk, h3.kp hk⟩
  root := by
    obtain ⟨y, h⟩ := h.root
    exact ⟨y, h.kp hk⟩
  down := h.down
theorem ISt.pop {l : Pair} (h : ISt T T' B w (l :: P) [] e) : ISt T T' B w P l.z e := by
  have step : ∀ {z : List It}, Done2 B w (l :: P) [] e z → Done2 B w P l.z e z := fun {z} hd => by
    rcases hd with ⟨l', hl, rfl⟩ | hd
    · rcases List.mem_cons.1 hl with rfl | hl
      · exact .inr fun x hx => .inr hx
      · exact .inl ⟨l', hl, rfl⟩
    · exact .inr fun x hx => .inl ((hd x hx).resolve_right (by simp))
  refine ⟨fun l' hl => h.ok l' (List.mem_cons_of_mem _ hl), fun v b hv => ?_, ?_, fun hT => ⟨fun l' hl => (h.down hT).1 l' (List.mem_cons_of_mem _ hl), (h.down hT).1 l List.mem_cons_self⟩⟩
  · obtain ⟨hb, p, q, ks, vs, ks', vs', e1, h1, h2, h3⟩ := h.ens v b hv
    exact ⟨hb, p, q, ks, vs, ks', vs', e1, h1, h2, step h3⟩
  · obtain ⟨y, h⟩ := h.root
    exact ⟨y, step h⟩
theorem ISt.next {it : It} (h : ISt T T' B w P (it :: rz) e) (hx : Seen2 B w e it) : ISt T T' B w P rz e := by
  have step : ∀ {z : List It}, Done2 B w P (it :: rz) e z → Done2 B w P rz e z := fun {z} hd => hd.imp id fun hd y hy => by
    rcases hd y hy with h | h
    · exact .inl h
    · rcases List.mem_cons.1 h with rfl | h
      · exact .inl hx
      · exact .inr h
  refine ⟨h.ok, fun v b hv => ?_, ?_, fun hT => ⟨(h.down hT).1, fun i hi => (h.down hT).2 i (List.mem_cons_of_mem _ hi)⟩⟩
  · obtain ⟨hb, p, q, ks, vs, ks', vs', e1, h1, h2, h3⟩ := h.ens v b hv
    exact ⟨hb, p, q, ks, vs, ks', vs', e1, h1, h2, step h3⟩
  · obtain ⟨y, h⟩ := h.root
    exact ⟨y, step h⟩
theorem ISt.enter {y : Ky} {k n x k' n' x' : Int} {s s' : ByteArray} {l : Pair} (h : ISt T T' B w P (((y, .mk k n s x l.a.ks l.a.vs), (y, .mk k' n' s' x' l.b.ks l.b.vs)) :: rz) e)
    (hal : alikeB (.mk k n s x l.a.ks l.a.vs) (.mk k' n' s' x' l.b.ks l.b.vs) = true) (hl : PairOk B w l) :
    ISt T T' B w (l :: P) rz (raw.put e (pq (plc l.a.R l.a.vs.length) (plc l.b.R l.b.vs.length)) (.bool true)) := by
  have hp : PlB B w (plc l.a.R l.a.vs.length) l.a.ks l.a.vs := ⟨l.a.R, hl.a.isin, rfl⟩
  have hq : PlB B w (plc l.b.R l.b.vs.length) l.b.ks l.b.vs := ⟨l.b.R, hl.b.isin, rfl⟩
  generalize hK : pq (plc l.a.R l.a.vs.length) (plc l.b.R l.b.vs.length) = K
  have more : ∀ q, e q ≠ none → raw.put e K (.bool true) q ≠ none := fun q hq => by
    by_cases e1 : q = K
    · rw [e1, raw.put_same]; simp
    · rw [raw.put_other e1]; exact hq
  have seen : ∀ it, Seen2 B w e it → Seen2 B w (raw.put e K (.bool true)) it := fun it hy => by
    obtain ⟨h1, h2, k, n, s, x, ks, vs, k', n', s', x', ks', vs', e1, e2, p, q, h3, h4, h5⟩ := hy
    exact ⟨h1, h2, k, n, s, x, ks, vs, k', n', s', x', ks', vs', e1, e2, p, q, h3, h4, more _ h5⟩
  have step : ∀ {z : List It}, Done2 B w P (((y, .mk k n s x l.a.ks l.a.vs), (y, .mk k' n' s' x' l.b.ks l.b.vs)) :: rz) e z → Done2 B w (l :: P) rz (raw.put e K (.bool true)) z := fun {z} hd => by
    rcases hd with ⟨l', hl', rfl⟩ | hd
    · exact .inl ⟨l', List.mem_cons_of_mem _ hl', rfl⟩
    · refine .inr fun i hi => ?_
      rcases hd i hi with h | h
      · exact .inl (seen i h)
      · rcases List.mem_cons.1 h with rfl | h
        · exact .inl ⟨rfl, hal, _, _, _, _, _, _, _, _, _, _, _, _, rfl, rfl, _, _, hp, hq, by rw [hK, raw.put_same]; simp⟩
        · exact .inr h
  refine ⟨fun l' hl' => ?_, fun v b hv => ?_, ?_, fun hT => ?_⟩
  · rcases List.mem_cons.1 hl' with rfl | hl'
    · exact hl
    · exact h.ok l' hl'
  · by_cases e1 : v = K
    · subst e1
      rw [raw.put_same] at hv
      exact ⟨(Option.some.inj hv).symm, _, _, _, _, _, _, hK.symm, hp, hq, .inl ⟨l, List.mem_cons_self, rfl⟩⟩
    · rw [raw.put_other e1] at hv
      obtain ⟨hb, p, q, ks, vs, ks', vs', e1, h1, h2, h3⟩ := h.ens v b hv
      exact ⟨hb, p, q, ks, vs, ks', vs', e1, h1, h2, step h3⟩
  · obtain ⟨y, h⟩ := h.root
    exact ⟨y, step h⟩
  · have hd := (h.down hT).2 _ List.mem_cons_self
    rw [show identB _ _ = _ from identB_mk k n s x l.a.ks l.a.vs k' n' s' x' l.b.ks l.b.vs, Bool.and_eq_true, identL_iff] at hd
    refine ⟨fun l' hl' => ?_, fun i hi => (h.down hT).2 i (List.mem_cons_of_mem _ hi)⟩
    rcases List.mem_cons.1 hl' with rfl | hl'
    · exact hd.2.2
    · exact (h.down hT).1 l' hl'
theorem ISt.bad {it : It} (h : ISt T T' B w P (it :: rz) e) (hk : ¬ (it.1.1 = it.2.1 ∧ alikeB it.1.2 it.2.2 = true)) : identB T T' = false := by
  cases hT : identB T T' with
  | false => rfl
  | true =>
    have := (h.down hT).2 it List.mem_cons_self
    refine absurd ⟨this.1, ?_⟩ hk
    obtain ⟨⟨y, t⟩, ⟨y', t'⟩⟩ := it
    obtain ⟨k, n, s, x, ks, vs⟩ := t
    obtain ⟨k', n', s', x', ks', vs'⟩ := t'
    have h2 := this.2
    rw [show identB _ _ = _ from identB_mk k n s x ks vs k' n' s' x' ks' vs', Bool.and_eq_true] at h2
    exact h2.1
theorem zz_cnt {ks : List Ky} {vs : List Tr} {ks' : List Ky} {vs' : List Tr} {it : It} (h : it ∈ zz ks vs ks' vs') : cnt it.1.2 ≤ cnts vs := by
  have h1 := (List.of_mem_zip (show (it.1, it.2) ∈ _ from h)).1
  have h2 := (List.of_mem_zip (show (it.1.1, it.1.2) ∈ _ from h1)).2
  clear h h1
  induction vs with
  | nil => cases h2
  | cons u vs ih =>
    rw [cnts_cons]
    rcases List.mem_cons.1 h2 with h | h
    · rw [h]; omega
    · have := ih h; omega
theorem ISt.fine (h : ISt T T' B w [] [] e) : identB T T' = true := by
  have all : ∀ m (it : It), cnt it.1.2 ≤ m → Seen2 B w e it → identB it.1.2 it.2.2 = true := by
    intro m
    induction m with
    | zero => intro it hm; obtain ⟨⟨y, t⟩, z⟩ := it; cases t; simp only [cnt_mk] at hm; omega
    | succ m ih =>
      intro it hm hx
      obtain ⟨h1, h2, k, n, s, x, ks, vs, k', n', s', x', ks', vs', e1, e2, p, q, h3, h4, h5⟩ := hx
      rw [e1, e2] at h2 ⊢
      rw [e1, cnt_mk] at hm
      rw [identB_mk, h2, Bool.true_and, identL_iff]
      obtain ⟨b, hb⟩ := Option.ne_none_iff_exists'.1 h5
      obtain ⟨-, p2, q2, ks2, vs2, ks2', vs2', epq, g1, g2, hd⟩ := h.ens _ b hb
      have hpq : p = p2 ∧ q = q2 := by
        obtain ⟨A1, _, rfl⟩ := h3
        obtain ⟨A2, _, rfl⟩ := h4
        obtain ⟨A3, _, rfl⟩ := g1
        obtain ⟨A4, _, rfl⟩ := g2
        exact pq_inj epq
      obtain ⟨rfl, rfl⟩ := hpq
      obtain ⟨rfl, rfl⟩ := h3.is.unique g1.is
      obtain ⟨rfl, rfl⟩ := h4.is.unique g2.is
      intro i hi
      rcases hd with ⟨l, hl, _⟩ | hd
      · cases hl
      · have hs := (hd i hi).resolve_right (by simp)
        have hc := zz_cnt hi
        exact ⟨hs.1, ih i (by omega) hs⟩
  obtain ⟨y, hr⟩ := h.root
  rcases hr with ⟨l, hl, _⟩ | hd
  · cases hl
  · exact all _ ((y, T), (y, T')) (Nat.le_refl _) ((hd _ (by simp)).resolve_right (by simp))
end

end Go.Proofs.YtdglmnmalfpipaaGreatDoor.tree

/-
  Two values compared without their items, two keys compared, and two places as one key of a map.
  Conditions: those that each theorem names.
-/
namespace Go.Proofs.YtdglmnmalfpipaaGreatDoor.tree
open Go.ChangeShapes Go.WideShapes Go.ChangeAt Go.RowKit
set_option linter.unusedVariables false

/-! ### two places -/
abbrev P2 : TypeId := 190
def G2 (B : Nat) (w : World) (x : Value) : Prop := ∃ (p : Option Addr) (n : Int) (q : Option Addr) (m : Int), x = .agg #[.pointer p, .int .i64 n, .pointer q, .int .i64 m] ∧ (∀ a, p = some a → Lo B w a.block) ∧ ∀ a, q = some a → Lo B w a.block
theorem G2.kp {B : Nat} {w w' : World} (hk : Kp B w w') {x : Value} (h : G2 B w x) : G2 B w' x := by
  obtain ⟨p, n, q, m, e, hp, hq⟩ := h
  exact ⟨p, n, q, m, e, fun a ha => (hp a ha).kp hk, fun a ha => (hq a ha).kp hk⟩
theorem g2_stays (B : Nat) : raw.Stays (G2 B) := fun w w' b x hb h hx => by
  obtain ⟨es, clock, hm⟩ := hb
  exact hx.kp fun k _ hp => h k (fun e => by
    obtain ⟨cs, t, hc⟩ := hp
    rw [e, hm] at hc
    cases hc) hp.lt
theorem pl_info : ∃ i, Tryz.prog.info? PL = some i ∧ i.size = 2 := by
  have : (Tryz.prog.info? PL).map (·.size) = some 2 := by kernel_rfl
  cases hq : Tryz.prog.info? PL with
  | none => rw [hq] at this; cases this
  | some i => rw [hq] at this; simp at this; exact ⟨i, rfl, this⟩
theorem run_part_pl (w : World) (a n b m : Value) : (part PL #[a, n, b, m] 0).run Tryz.prog w = .ok (.agg #[a, n]) w ∧ (part PL #[a, n, b, m] 2).run Tryz.prog w = .ok (.agg #[b, m]) w := by
  obtain ⟨f0, f1, hu, _⟩ := pl_desc
  obtain ⟨i, hi, hs⟩ := pl_info
  constructor <;> simp [part, isAgg, run_underlying hu, sizeOf, typeInfo, hi, hs] <;> rfl

theorem g2_eq (d : Nat) (w : World) {x y : Value} (hx : ∃ p n q m, x = .agg #[.pointer p, .int .i64 n, .pointer q, .int .i64 m] ∧ GP w (.agg #[.pointer p, .int .i64 n]) ∧ GP w (.agg #[.pointer q, .int .i64 m]))
    (hy : ∃ p n q m, y = .agg #[.pointer p, .int .i64 n, .pointer q, .int .i64 m] ∧ GP w (.agg #[.pointer p, .int .i64 n]) ∧ GP w (.agg #[.pointer q, .int .i64 m])) :
    ∃ r : Bool, (Op.equalIn (d + 3) P2 x y).run Tryz.prog w = .ok r w ∧ (r = true ↔ x = y) := by
  obtain ⟨p, n, q, m, rfl, g1, g2⟩ := hx
  obtain ⟨p', n', q', m', rfl, g1', g2'⟩ := hy
  obtain ⟨r1, h1, i1⟩ := pl_eq w d g1 g1'
  obtain ⟨r2, h2, i2⟩ := pl_eq w d g2 g2'
  obtain ⟨a1, a2⟩ := run_part_pl w (.pointer p) (.int .i64 n) (.pointer q) (.int .i64 m)
  obtain ⟨b1, b2⟩ := run_part_pl w (.pointer p') (.int .i64 n') (.pointer q') (.int .i64 m')
  obtain ⟨i, hi, hs⟩ := pl_info
  refine ⟨r1 && r2, ?_, ?_⟩
  · rw [show d + 3 = (d + 2) + 1 from rfl, Op.equalIn]
    simp only [Sem.run_bind, run_underlying Tryz.underlying190, Result.andThen_ok]
    simp only [Std.Legacy.Range.forIn_eq_forIn_range', Std.Legacy.Range.size, Nat.sub_zero, Nat.add_one_sub_one, Nat.div_one]
    cases r1 <;> cases r2 <;> simp [List.range', sizeOf, typeInfo, hi, hs, a1, a2, b1, b2, h1, h2, Result.andThen]
  · rw [Bool.and_eq_true, i1, i2]
    simp
    constructor
    · rintro ⟨⟨rfl, rfl⟩, rfl, rfl⟩; exact ⟨rfl, rfl, rfl, rfl⟩
    · rintro ⟨rfl, rfl, rfl, rfl⟩; exact ⟨⟨rfl, rfl⟩, rfl, rfl⟩

theorem G2.two {B : Nat} {w : World} {x : Value} (h : G2 B w x) : ∃ p n q m, x = .agg #[.pointer p, .int .i64 n, .pointer q, .int .i64 m] ∧ GP w (.agg #[.pointer p, .int .i64 n]) ∧ GP w (.agg #[.pointer q, .int .i64 m]) := by
  obtain ⟨p, n, q, m, e, hp, hq⟩ := h
  exact ⟨p, n, q, m, e, ⟨p, n, rfl, fun a ha => (hp a ha).2⟩, ⟨q, m, rfl, fun a ha => (hq a ha).2⟩⟩
theorem g2_check (d : Nat) (w : World) (em : Bool) {x : Value} (h : ∃ p n q m, x = .agg #[.pointer p, .int .i64 n, .pointer q, .int .i64 m] ∧ GP w (.agg #[.pointer p, .int .i64 n]) ∧ GP w (.agg #[.pointer q, .int .i64 m])) : (Instr.checkKey em (d + 3) P2 x).run Tryz.prog w = .ok () w := by
  obtain ⟨p, n, q, m, rfl, g1, g2⟩ := h
  obtain ⟨a1, a2⟩ := run_part_pl w (.pointer p) (.int .i64 n) (.pointer q) (.int .i64 m)
  obtain ⟨i, hi, hs⟩ := pl_info
  have k1 := pl_check d w em g1
  have k2 := pl_check d w em g2
  rw [show d + 3 = (d + 2) + 1 from rfl, Instr.checkKey]
  simp only [Sem.run_bind, run_underlying Tryz.underlying190, Result.andThen_ok]
  simp only [Std.Legacy.Range.forIn_eq_forIn_range', Std.Legacy.Range.size, Nat.sub_zero, Nat.add_one_sub_one, Nat.div_one]
  simp [List.range', sizeOf, typeInfo, hi, hs, a1, a2, k1, k2, Result.andThen]
theorem g2_same (d : Nat) (p : Option Addr) (n : Int) (q : Option Addr) (m : Int) : Instr.sameBits (d + 2) (.agg #[.pointer p, .int .i64 n, .pointer q, .int .i64 m]) (.agg #[.pointer p, .int .i64 n, .pointer q, .int .i64 m]) = true := by
  simp [Instr.sameBits]
theorem good_g2 (B : Nat) : raw.Good Tryz.prog P2 (G2 B) where
  wide := by rw [Tryz.underlying190]
  check := fun w em x h => g2_check 9997 w em h.two
  eq := fun w x y hx hy => g2_eq 9997 w hx.two hy.two
  same := fun w x h => by
    obtain ⟨p, n, q, m, rfl, -, -⟩ := h
    exact g2_same 9998 p n q m

/-! ### two values without their items -/
theorem areAlike (k n : Int) (s : ByteArray) (x : Int) (ks : List Ky) (vs : List Tr) (A : Option Addr) (c : Nat) (k' n' : Int) (s' : ByteArray) (x' : Int) (ks' : List Ky) (vs' : List Tr) (A' : Option Addr) (c' : Nat) (w : World) :
    Calls Tryz.prog 172 #[vV k n s x A vs.length c, vV k' n' s' x' A' vs'.length c'] w (GivesQ w (.bool (alikeB (.mk k n s x ks vs) (.mk k' n' s' x' ks' vs')))) := by
  have e : alikeB (.mk k n s x ks vs) (.mk k' n' s' x' ks' vs') = (decide (k = k') && (decide (n = n') && (decide (s.data.toList = s'.data.toList) && decide (vs.length = vs'.length)))) := rfl
  rw [e]
  clear e
  generalize vs.length = L
  generalize vs'.length = L'
  by_cases h1 : k = k'
  · subst h1
    by_cases h2 : n = n'
    · subst h2
      by_cases h3 : s.data.toList = s'.data.toList
      · obtain rfl := bytes_same h3
        by_cases h4 : L = L'
        · subst h4
          simp only [decide_true, Bool.and_true]
          go_enter Tryz.func172, Tryz.ntmps172
          go_wp2
          go_ret
          exact ⟨rfl, b2 _ _ _⟩
        · have h5 : decide (L = L') = false := decide_eq_false h4
          have h6 : ((L : Int) == (L' : Int)) = false := beq_false_of_ne (by omega)
          simp only [decide_true, Bool.true_and, h5]
          clear h5
          go_enter Tryz.func172, Tryz.ntmps172
          go_wp2
          go_ret
          exact ⟨rfl, b2 _ _ _⟩
      · obtain ⟨g1, g2⟩ := bytes_ne h3
        have h5 : decide (s.data.toList = s'.data.toList) = false := decide_eq_false h3
        simp only [decide_true, Bool.true_and, h5, Bool.false_and]
        clear h5
        go_enter Tryz.func172, Tryz.ntmps172
        go_wp2
        go_ret
        exact ⟨rfl, b2 _ _ _⟩
    · have h5 : decide (n = n') = false := decide_eq_false h2
      simp only [decide_true, Bool.true_and, h5, Bool.false_and]
      clear h5
      go_enter Tryz.func172, Tryz.ntmps172
      go_wp2
      go_ret
      exact ⟨rfl, b2 _ _ _⟩
  · have h5 : decide (k = k') = false := decide_eq_false h1
    simp only [h5, Bool.false_and]
    clear h5
    go_enter Tryz.func172, Tryz.ntmps172
    go_wp2
    go_ret
    exact ⟨rfl, b2 _ _ _⟩

end Go.Proofs.YtdglmnmalfpipaaGreatDoor.tree

/-
  Identical of the project.
  Conditions: those that each theorem names.
-/
namespace Go.Proofs.YtdglmnmalfpipaaGreatDoor.tree
open Go.ChangeShapes Go.WideShapes Go.ChangeAt Go.RowKit
set_option linter.unusedVariables false

abbrev PG : TypeId := 188
def QRow (w : World) (B : Nat) (way : Value) (P : List Pair) : Prop := w.ownsRow B PG 2 way P.length (P.reverse.flatMap Pair.cells)
theorem cells2_len (G : List Pair) : (G.flatMap Pair.cells).length = G.length * 2 := by
  induction G with
  | nil => rfl
  | cons V l ih => rw [List.flatMap_cons, List.length_append, ih, List.length_cons]; simp [Pair.cells]; omega
theorem cells2_rev (V : Pair) (l : List Pair) : (V :: l).reverse.flatMap Pair.cells = l.reverse.flatMap Pair.cells ++ V.cells := by simp
theorem QRow.nil {w : World} {B : Nat} {way : Value} (h : QRow w B way []) : ∃ A c, way = .slice A 0 c := by
  rcases h.2 with ⟨h0, _⟩ | ⟨g, cap, cur, h0, _⟩
  · exact ⟨none, 0, h0⟩
  · exact ⟨_, cap, h0⟩
theorem QRow.below {w w' : World} {B : Nat} {way : Value} {P : List Pair} (h : QRow w B way P) (hb : Below w.heap.size w w') : QRow w' B way P :=
  World.ownsRow.kept h (mem.none_of_below hb) (by
    cases e : way.ownBlock with
    | none => exact .inl rfl
    | some k => exact .inr (by simp))
theorem QRow.own {w : World} {B : Nat} {way : Value} {P : List Pair} (h : QRow w B way P) : ∀ k, way.ownBlock = some k → B ≤ k := fun k e => by
  rcases h.2 with ⟨h0, _⟩ | ⟨g, cap, cur, h0, hB, _⟩
  · rw [h0] at e; cases e
  · rw [h0] at e
    injection e with e
    have : g = k := e
    omega
theorem QRow.kept4 {w w' : World} {B b : Nat} {way : Value} {P : List Pair} (h : QRow w B way P) (hg : w.grownBy w' (some b)) (hb : b < B) : QRow w' B way P :=
  World.ownsRow.kept h hg (by
    cases e : way.ownBlock with
    | none => exact .inl rfl
    | some k =>
      refine .inr (fun h2 => ?_)
      have := h.own k e
      injection h2 with h2
      omega)
theorem QRow.top {w : World} {B : Nat} {way : Value} {l : Pair} {P : List Pair} (h : QRow w B way (l :: P)) :
    ∃ g c, way = .slice (some ⟨g, 0, none⟩) (P.length + 1) c ∧ B ≤ g ∧ P.length + 1 ≤ c ∧ c ≤ maxLen ∧ w.cell? ⟨g, P.length * 2, none⟩ = some l.a.cell ∧ w.cell? ⟨g, P.length * 2 + 1, none⟩ = some l.b.cell ∧ QRow w B (.slice (some ⟨g, 0, none⟩) P.length c) P := by
  obtain ⟨h1, h2⟩ := h
  rcases h2 with ⟨_, h0⟩ | ⟨g, cap, cur, rfl, hB, hg, hn, hm, hs, htake⟩
  · simp at h0
  · have hl : (P.reverse.flatMap Pair.cells).length = P.length * 2 := by rw [cells2_len, List.length_reverse]
    rw [cells2_rev] at htake
    simp only [List.length_cons] at htake hn
    have at_ : ∀ q, q < 2 → w.cell? ⟨g, P.length * 2 + q, none⟩ = l.cells[q]? := fun q hq => by
      rw [cell_of_row w g _ cur PG _ hg]
      have e : (cur.toList.take ((P.length + 1) * 2))[P.length * 2 + q]? = l.cells[q]? := by
        rw [htake, List.getElem?_append_right (by omega), hl]
        congr 1
        omega
      rw [List.getElem?_take_of_lt (by omega)] at e
      simpa using e
    refine ⟨g, cap, rfl, hB, hn, hm, at_ 0 (by omega), at_ 1 (by omega), ⟨hl, .inr ⟨g, cap, cur, rfl, hB, hg, by omega, hm, hs, ?_⟩⟩⟩
    have := congrArg (List.take (P.length * 2)) htake
    rw [List.take_take, List.take_append_of_le_length (by omega), List.take_of_length_le (l := List.flatMap _ _) (by omega)] at this
    rw [← this]
    congr 1
    omega

def QRel (T T' : Tr) (w : World) (gk : Nat) (way : Value) (wr : World) : Prop :=
  ∃ P e, gk = lefts2 P ∧ ISt T T' (w.heap.size + 5) wr P [] e ∧ QRow wr (w.heap.size + 5) way P ∧ raw.Holds wr (G2 (w.heap.size + 5)) (w.heap.size + 1 + 1) e ∧ Below w.heap.size w wr ∧ gk ≤ 1 + wks [T] ∧ w.heap.size + 6 ≤ wr.heap.size
def JRel (T T' : Tr) (w : World) (gk Lr NT : Nat) (R R' : Option Addr) (rc rc' : Nat) (ks : List Ky) (vs : List Tr) (ks' : List Ky) (vs' : List Tr) (gk2 : Nat) (way i : Value) (wr : World) : Prop :=
  ∃ (j : Nat) (P : List Pair) (e : Value → Option Value), i = .int .i64 j ∧ gk2 + j = Lr + 1 ∧ j ≤ Lr ∧ IsIn wr (Lo (w.heap.size + 5) wr) ks vs R ∧ IsIn wr (Lo (w.heap.size + 5) wr) ks' vs' R' ∧ ISt T T' (w.heap.size + 5) wr P ((zz ks vs ks' vs').drop j) e ∧ QRow wr (w.heap.size + 5) way P ∧
    raw.Holds wr (G2 (w.heap.size + 5)) (w.heap.size + 1 + 1) e ∧ Below w.heap.size w wr ∧ lefts2 P + wks (vs.drop j) < gk ∧ w.heap.size + 6 ≤ NT ∧ wr.heap[NT]? = some (.cells #[.slice R Lr rc, .slice R' Lr rc'] PG (0, 0)) ∧ ∀ k, way.ownBlock = some k → k ≠ NT

theorem al2 {w : World} {B b : Nat} {f : Value → Option Value} (h : raw.Holds w (G2 B) b f) (o : Obj) : raw.Holds (w.alloc o) (G2 B) b f :=
  h.kept (Below.heap_alloc w o b h.lt) (fun x hx => hx.kp (Kp.below (b1 w o)))

theorem qstart {w : World} {lo lo' : Nat} {T T' : Tr} {k n x k' n' x' : Int} {s s' : ByteArray} {A A' : Option Addr} {L c L' c' : Nat} (h : TIn w (Nw lo w) T (vV k n s x A L c)) (h' : TIn w (Nw lo' w) T' (vV k' n' s' x' A' L' c')) (cb cb' : Array Value) (tb tb' ti ti' : TypeId) :
    QRel T T' w (1 + wks [T]) (.slice (some ⟨w.heap.size + 1 + 1 + 1 + 1 + 1, 0, none⟩) 1 1)
      ((((((w.alloc (.cells cb tb)).alloc (.cells cb' tb')).alloc (.map #[] 0)).alloc (.cells #[.bool false, .int .i64 0, .string ⟨#[]⟩, .int .i64 k, .int .i64 n, .string s, .int .i64 x, .slice A L c] ti)).alloc
        (.cells #[.bool false, .int .i64 0, .string ⟨#[]⟩, .int .i64 k', .int .i64 n', .string s', .int .i64 x', .slice A' L' c'] ti')).alloc
        (.cells #[.slice (some ⟨w.heap.size + 1 + 1 + 1, 0, none⟩) 1 1, .slice (some ⟨w.heap.size + 1 + 1 + 1 + 1, 0, none⟩) 1 1] PG)) := by
  have z1 : ((w.alloc (.cells cb tb)).alloc (.cells cb' tb')).heap.size = w.heap.size + 1 + 1 := by simp
  generalize hw1 : (w.alloc (.cells cb tb)).alloc (.cells cb' tb') = w1 at *
  have B1 : Below w.heap.size w w1 := hw1 ▸ b2 _ _ _
  have h1 := raw.Holds.made w1 (G2 (w.heap.size + 5))
  have z2 : (w1.alloc (.map #[] 0)).heap.size = w.heap.size + 1 + 1 + 1 := by simp [z1]
  have B2 := bs B1 (b1 w1 (.map #[] 0))
  generalize hw2 : w1.alloc (.map #[] 0) = w2 at *
  have e3 := heap_alloc_new w2 (.cells #[.bool false, .int .i64 0, .string ⟨#[]⟩, .int .i64 k, .int .i64 n, .string s, .int .i64 x, .slice A L c] ti)
  have z3 : (w2.alloc (.cells #[.bool false, .int .i64 0, .string ⟨#[]⟩, .int .i64 k, .int .i64 n, .string s, .int .i64 x, .slice A L c] ti)).heap.size = w.heap.size + 1 + 1 + 1 + 1 := by simp [z2]
  have h1' := al2 h1 (.cells #[.bool false, .int .i64 0, .string ⟨#[]⟩, .int .i64 k, .int .i64 n, .string s, .int .i64 x, .slice A L c] ti)
  have B3 := bs B2 (b1 w2 (.cells #[.bool false, .int .i64 0, .string ⟨#[]⟩, .int .i64 k, .int .i64 n, .string s, .int .i64 x, .slice A L c] ti))
  generalize w2.alloc (.cells #[.bool false, .int .i64 0, .string ⟨#[]⟩, .int .i64 k, .int .i64 n, .string s, .int .i64 x, .slice A L c] ti) = w3 at *
  have e4 := heap_alloc_new w3 (.cells #[.bool false, .int .i64 0, .string ⟨#[]⟩, .int .i64 k', .int .i64 n', .string s', .int .i64 x', .slice A' L' c'] ti')
  have e3' := carry (b1 w3 (.cells #[.bool false, .int .i64 0, .string ⟨#[]⟩, .int .i64 k', .int .i64 n', .string s', .int .i64 x', .slice A' L' c'] ti')) e3
  have z4 : (w3.alloc (.cells #[.bool false, .int .i64 0, .string ⟨#[]⟩, .int .i64 k', .int .i64 n', .string s', .int .i64 x', .slice A' L' c'] ti')).heap.size = w.heap.size + 1 + 1 + 1 + 1 + 1 := by simp [z3]
  have h1'' := al2 h1' (.cells #[.bool false, .int .i64 0, .string ⟨#[]⟩, .int .i64 k', .int .i64 n', .string s', .int .i64 x', .slice A' L' c'] ti')
  have B4 := bs B3 (b1 w3 (.cells #[.bool false, .int .i64 0, .string ⟨#[]⟩, .int .i64 k', .int .i64 n', .string s', .int .i64 x', .slice A' L' c'] ti'))
  generalize w3.alloc (.cells #[.bool false, .int .i64 0, .string ⟨#[]⟩, .int .i64 k', .int .i64 n', .string s', .int .i64 x', .slice A' L' c'] ti') = w4 at *
  have e5 := heap_alloc_new w4 (.cells #[.slice (some ⟨w.heap.size + 1 + 1 + 1, 0, none⟩) 1 1, .slice (some ⟨w.heap.size + 1 + 1 + 1 + 1, 0, none⟩) 1 1] PG)
  have h1f := al2 h1'' (.cells #[.slice (some ⟨w.heap.size + 1 + 1 + 1, 0, none⟩) 1 1, .slice (some ⟨w.heap.size + 1 + 1 + 1 + 1, 0, none⟩) 1 1] PG)
  have B5 := bs B4 (b1 w4 (.cells #[.slice (some ⟨w.heap.size + 1 + 1 + 1, 0, none⟩) 1 1, .slice (some ⟨w.heap.size + 1 + 1 + 1 + 1, 0, none⟩) 1 1] PG))
  have e3f := carry (b1 w4 (.cells #[.slice (some ⟨w.heap.size + 1 + 1 + 1, 0, none⟩) 1 1, .slice (some ⟨w.heap.size + 1 + 1 + 1 + 1, 0, none⟩) 1 1] PG)) e3'
  have e4f := carry (b1 w4 (.cells #[.slice (some ⟨w.heap.size + 1 + 1 + 1, 0, none⟩) 1 1, .slice (some ⟨w.heap.size + 1 + 1 + 1 + 1, 0, none⟩) 1 1] PG)) e4
  generalize w4.alloc (.cells #[.slice (some ⟨w.heap.size + 1 + 1 + 1, 0, none⟩) 1 1, .slice (some ⟨w.heap.size + 1 + 1 + 1 + 1, 0, none⟩) 1 1] PG) = w5 at *
  rw [z2] at e3f
  rw [z3] at e4f
  rw [z4] at e5
  rw [z1] at h1f
  have hT : TIn w5 (Lo (w.heap.size + 5) w5) T (vV k n s x A L c) := h.stays (fun b hb => ⟨by have := hb.2.lt; omega, by obtain ⟨_, cs, t, hc⟩ := hb; exact ⟨cs, t, carry B5 hc⟩⟩) (fun b hb hlt => B5.block b hlt)
  have hT' : TIn w5 (Lo (w.heap.size + 5) w5) T' (vV k' n' s' x' A' L' c') := h'.stays (fun b hb => ⟨by have := hb.2.lt; omega, by obtain ⟨_, cs, t, hc⟩ := hb; exact ⟨cs, t, carry B5 hc⟩⟩) (fun b hb hlt => B5.block b hlt)
  have hI := isin_one (y := ⟨false, 0, ⟨#[]⟩⟩) (S := Lo (w.heap.size + 5) w5) (g := w.heap.size + 1 + 1 + 1) ⟨by omega, _, _, e3f⟩ ⟨by show I64 0; unfold I64; omega, Nat.zero_le _⟩ e3f hT
  have hI' := isin_one (y := ⟨false, 0, ⟨#[]⟩⟩) (S := Lo (w.heap.size + 5) w5) (g := w.heap.size + 1 + 1 + 1 + 1) ⟨by omega, _, _, e4f⟩ ⟨by show I64 0; unfold I64; omega, Nat.zero_le _⟩ e4f hT'
  refine ⟨[⟨⟨some ⟨w.heap.size + 1 + 1 + 1, 0, none⟩, 1, [⟨false, 0, ⟨#[]⟩⟩], [T]⟩, ⟨some ⟨w.heap.size + 1 + 1 + 1 + 1, 0, none⟩, 1, [⟨false, 0, ⟨#[]⟩⟩], [T']⟩⟩], fun _ => none, rfl, ⟨fun l hl => ?_, (fun p b h => by cases h), ⟨⟨false, 0, ⟨#[]⟩⟩, .inl ⟨_, List.mem_singleton.2 rfl, rfl⟩⟩, fun hT => ⟨fun l hl => ?_, fun i hi => by cases hi⟩⟩, ⟨rfl, .inr ⟨w.heap.size + 1 + 1 + 1 + 1 + 1, 1, _, rfl, by omega, e5, by simp, by simp [maxLen], rfl, rfl⟩⟩, h1f, B5, Nat.le_refl _, by have := (Array.getElem?_eq_some_iff.1 e5).1; omega⟩
  · obtain rfl := List.mem_singleton.1 hl
    exact ⟨⟨hI, ⟨Nat.le_refl _, by simp [maxLen]⟩⟩, ⟨hI', ⟨Nat.le_refl _, by simp [maxLen]⟩⟩, rfl⟩
  · obtain rfl := List.mem_singleton.1 hl
    intro i hi
    obtain rfl : i = ((⟨false, 0, ⟨#[]⟩⟩, T), (⟨false, 0, ⟨#[]⟩⟩, T')) := by simpa [Pair.z, zz] using hi
    exact ⟨rfl, hT⟩

theorem At8.belowI {w w' : World} (hb : Below w.heap.size w w') {q : Addr} {y : Ky} {k n : Int} {s : ByteArray} {x : Int} {A : Option Addr} {L c : Nat} (h : At8 w q y k n s x A L c) : At8 w' q y k n s x A L c := by
  have st : ∀ (a : Addr) (u : Value), w.cell? a = some u → w'.cell? a = some u := fun a u hu => cell_stays (fun hlt => hb.block _ hlt) hu
  exact ⟨st _ _ h.c0, st _ _ h.c1, st _ _ h.c2, st _ _ h.c3, st _ _ h.c4, st _ _ h.c5, st _ _ h.c6, st _ _ h.c7⟩
/-- What is behind the two places. -/
def CutR (w wr : World) (NA NZ : Nat) (y : Ky) (k n : Int) (s : ByteArray) (x : Int) (A : Option Addr) (L c : Nat) (y' : Ky) (k' n' : Int) (s' : ByteArray) (x' : Int) (A' : Option Addr) (L' c' : Nat) (pa : Option Addr) (ma : Int) (pb : Option Addr) (mb : Int) (v : Value) (wx : World) : Prop :=
  ∃ NP, v = .pointer (some ⟨NP, 0, none⟩) ∧ NZ ≤ NP ∧ wx.heap[NP]? = some (.cells #[.pointer pa, .int .i64 ma, .pointer pb, .int .i64 mb] P2 (0, 0)) ∧ Below wr.heap.size wr wx ∧
    wx.heap[NA]? = some (.cells #[.bool y.text, .int .i64 y.num, .string y.str, .int .i64 k, .int .i64 n, .string s, .int .i64 x, .slice A L c] IE (0, 0)) ∧
    wx.heap[NA + 1]? = some (.cells #[.bool y'.text, .int .i64 y'.num, .string y'.str, .int .i64 k', .int .i64 n', .string s', .int .i64 x', .slice A' L' c'] IE (0, 0))

theorem pgRow : (Tryz.prog.info? PG).map (fun i => (i.zero, i.size, i.bytes)) = some (some (.agg #[.slice none 0 0, .slice none 0 0]), 2, 48) := by kernel_rfl
theorem two_new (w : World) (a b : Value) (t : TypeId) : ∀ j u, [a, b][j]? = some u → (w.alloc (.cells #[a, b] t)).cell? ((⟨w.heap.size, 0, none⟩ : Addr).add j) = some u := by
  intro j u hj
  rw [Addr.add_lit, Nat.zero_add, cell_of_row _ _ j _ t _ (heap_alloc_new w _)]
  simpa using hj

set_option maxHeartbeats 2000000 in
set_option maxRecDepth 100000 in
theorem identical_i (T T' : Tr) (v v' : Value) (w : World) (lo lo' : Nat) (h : TIn w (Nw lo w) T v) (h' : TIn w (Nw lo' w) T' v') (hN : cnt T ≤ 1099511627) : Calls Tryz.prog 104 #[v, v'] w (GivesQ w (.bool (identB T T'))) := by
  obtain ⟨k, n, s, x, A, L, c, rfl⟩ : ∃ k n s x A L c, v = vV k n s x A L c := by
    cases h with
    | mk k n s x ks vs A cap C => exact ⟨k, n, s, x, A, _, cap, rfl⟩
  obtain ⟨k', n', s', x', A', L', c', rfl⟩ : ∃ k n s x A L c, v' = vV k n s x A L c := by
    cases h' with
    | mk k n s x ks vs A cap C => exact ⟨k, n, s, x, A, _, cap, rfl⟩
  have HT := Lib.hid h
  have HT' := Lib.hid h'
  have hwk : 1 + wks [T] ≤ 1099511627776 := by have := wk_cnt T; rw [wks_cons, wks]; omega
  clear h h'
  have hmm := @run_makeMap Tryz.prog
  go_enter Tryz.func104, Tryz.ntmps104
  go_wp2_with (fail)
  clear hmm
  go_loopg [6] (1 + wks [T]) (fun gk way wr => QRel T T' w gk way wr)
  case atStart => exact qstart HT.out HT'.out _ _ _ _ _ _
  case round =>
    obtain ⟨P, e, hgk, hst, hrow, hm1, hb, hle, hz4⟩ := hrel
    cases P with
    | nil =>
      obtain ⟨A0, c0, rfl⟩ := hrow.nil
      have HST := Lib.hid hst
      have HB := Lib.hid hb
      clear hgk hst hrow hm1 hb hle
      go_wp2_with (fail)
      go_ret
      exact ⟨by rw [HST.out.fine]; rfl, HB.out⟩
    | cons l P =>
      obtain ⟨g, cc, rfl, hgB, hlc, hcm, htopa, htopb, hpop⟩ := hrow.top
      obtain ⟨m, HM⟩ : ∃ m, Hid (m = P.length) := ⟨_, Lib.hid rfl⟩
      rw [← HM.out] at htopa htopb hlc hpop ⊢
      have hl := hst.ok _ List.mem_cons_self
      obtain ⟨⟨R, rc, ks, vs⟩, ⟨R', rc', ks', vs'⟩⟩ := l
      obtain ⟨Lr, HLr⟩ : ∃ Lr, Hid (Lr = vs.length) := ⟨_, Lib.hid rfl⟩
      have hlen : vs.length = vs'.length := hl.len
      have HLr' : Hid (Lr = vs'.length) := Lib.hid (HLr.out.trans hlen)
      have ta : wr.cell? ⟨g, m * 2, none⟩ = some (.slice R Lr rc) := by rw [HLr.out]; exact htopa
      have tb : wr.cell? ⟨g, m * 2 + 1, none⟩ = some (.slice R' Lr rc') := by rw [HLr'.out]; exact htopb
      have HIN : Hid (IsIn wr (Lo (w.heap.size + 5) wr) ks vs R) := Lib.hid hl.a.isin
      have HIN' : Hid (IsIn wr (Lo (w.heap.size + 5) wr) ks' vs' R') := Lib.hid hl.b.isin
      have HP : Hid (ISt T T' (w.heap.size + 5) wr P (zz ks vs ks' vs') e) := Lib.hid hst.pop
      have HROW : Hid (QRow wr (w.heap.size + 5) (.slice (some ⟨g, 0, none⟩) m cc) P) := Lib.hid hpop
      have HM1 := Lib.hid hm1
      have HB := Lib.hid hb
      have HGK : Hid (gk = 1 + wks vs + lefts2 P) := Lib.hid hgk
      have HLE := Lib.hid hle
      have hglt : g < wr.heap.size := World.block_lt_of_cell? _ _ ta
      have hLr : Lr ≤ maxLen := by rw [HLr.out]; exact hl.a.isin.2.1
      unfold maxLen at hcm hLr
      obtain ⟨NT, hNT⟩ : ∃ NT, NT = wr.heap.size := ⟨_, rfl⟩
      have HNT := Lib.hid hNT
      have hkz : ISt T T' (w.heap.size + 5) (wr.alloc (.cells #[.slice R Lr rc, .slice R' Lr rc'] PG)) P (zz ks vs ks' vs') e := hst.pop.kp (Kp.below (b1 wr _))
      have HKZ := Lib.hid hkz
      clear hgk hst hrow hm1 hb hle htopa htopb hpop hl hlen hNT hkz
      go_wp2_with (fail)
      rw [← HNT.out]
      go_loopg [6, 38] (Lr + 1) (fun gk2 way i wr2 => JRel T T' w gk Lr NT R R' rc rc' ks vs ks' vs' gk2 way i wr2)
      case atStart =>
        have hb1 := b1 wr (.cells #[.slice R Lr rc, .slice R' Lr rc'] PG)
        refine ⟨0, P, e, rfl, by omega, by omega, HIN.out.kp (Kp.below hb1), HIN'.out.kp (Kp.below hb1), by simpa using HKZ.out, HROW.out.below hb1, al2 HM1.out _, bs HB.out hb1, by have := HGK.out; simp; omega, by rw [HNT.out]; exact hz4, by rw [HNT.out]; exact heap_alloc_new wr _, fun k hk => ?_⟩
        have : some g = some k := hk
        injection this with this
        rw [HNT.out]
        omega
      case round =>
        obtain ⟨j, P2, e2, rfl, hgj, hjL, hin, hin', hst, hrow, hm1, hb, hlt2, hNTB, hT8, hTo⟩ := hrel
        have HT8 := Lib.hid hT8
        obtain ⟨r8, -⟩ := rowc hT8
        have l8 : NT < wr.heap.size := (Array.getElem?_eq_some_iff.1 hT8).1
        clear hT8
        by_cases hlt : j < Lr
        · obtain ⟨a, y, k1, n1, s1, x1, ks1, vs1, A1, c1, rfl, hS, hky, hvs, ht, hyb, hkb, hin1, hcell⟩ := hin.item (i := j) (by rw [← HLr.out]; exact hlt)
          obtain ⟨a', y', k2, n2, s2, x2, ks2, vs2, A2, c2, rfl, hS', hky', hvs', ht', hyb', hkb', hin2, hcell'⟩ := hin'.item (i := j) (by rw [← HLr'.out]; exact hlt)
          have hdrop := zz_drop ks vs ks' vs' hky hvs hky' hvs'
          have hwd : wks (vs.drop j) = wk (.mk k1 n1 s1 x1 ks1 vs1) + wks (vs.drop (j + 1)) := by
            obtain ⟨hj, e1⟩ := List.getElem?_eq_some_iff.1 hvs
            rw [List.drop_eq_getElem_cons hj, wks_cons, e1]
          rw [hdrop] at hst
          rw [hwd, wk_mk] at hlt2
          obtain ⟨L1, HL1⟩ : ∃ L1, Hid (L1 = vs1.length) := ⟨_, Lib.hid rfl⟩
          obtain ⟨L2, HL2⟩ : ∃ L2, Hid (L2 = vs2.length) := ⟨_, Lib.hid rfl⟩
          have hp1 : PlB (w.heap.size + 5) wr (plc A1 vs1.length) ks1 vs1 := ⟨A1, hin1, rfl⟩
          have hp2 : PlB (w.heap.size + 5) wr (plc A2 vs2.length) ks2 vs2 := ⟨A2, hin2, rfl⟩
          have hcap1 := ht.cap
          have hcap2 := ht'.cap
          obtain ⟨pa, ma, hpl1⟩ := plc_form A1 vs1.length
          obtain ⟨pb, mb, hpl2⟩ := plc_form A2 vs2.length
          have some_of : ∀ {w : World} {S : Nat → Prop} {ks : List Ky} {vs : List Tr} {A : Option Addr}, IsIn w S ks vs A → 0 < vs.length → ∃ a, A = some a := fun hi h0 => by
            obtain ⟨_, _, C, hc, _⟩ := hi
            obtain ⟨a, ha, _⟩ := hc 0 h0
            exact ⟨a, ha⟩
          have PO1 : ∀ w, Calls Tryz.prog 92 #[.slice A1 L1 c1] w (GivesQ w (.agg #[.pointer pa, .int .i64 ma])) := fun w => by rw [HL1.out, ← hpl1]; exact placeOf A1 vs1.length c1 hin1.2.1 (some_of hin1) w
          have PO2 : ∀ w, Calls Tryz.prog 92 #[.slice A2 L2 c2] w (GivesQ w (.agg #[.pointer pb, .int .i64 mb])) := fun w => by rw [HL2.out, ← hpl2]; exact placeOf A2 vs2.length c2 hin2.2.1 (some_of hin2) w
          have AL : ∀ w, Calls Tryz.prog 172 #[vV k1 n1 s1 x1 A1 L1 c1, vV k2 n2 s2 x2 A2 L2 c2] w (GivesQ w (.bool (alikeB (.mk k1 n1 s1 x1 ks1 vs1) (.mk k2 n2 s2 x2 ks2 vs2)))) := fun w => by rw [HL1.out, HL2.out]; exact areAlike k1 n1 s1 x1 ks1 vs1 A1 c1 k2 n2 s2 x2 ks2 vs2 A2 c2 w
          have NE := fun w => ky_neq w y y'
          unfold kyV at NE
          have hkey : G2 (w.heap.size + 5) wr (.agg #[.pointer pa, .int .i64 ma, .pointer pb, .int .i64 mb]) := by
            obtain ⟨p, n, e1, h1⟩ := hp1.gb
            obtain ⟨q, m, e2, h2⟩ := hp2.gb
            rw [hpl1] at e1
            rw [hpl2] at e2
            simp at e1 e2
            obtain ⟨rfl, rfl⟩ := e1
            obtain ⟨rfl, rfl⟩ := e2
            exact ⟨_, _, _, _, rfl, h1, h2⟩
          have hpq : pq (plc A1 vs1.length) (plc A2 vs2.length) = .agg #[.pointer pa, .int .i64 ma, .pointer pb, .int .i64 mb] := by rw [hpl1, hpl2]; rfl
          have hla : (a'.add (j * 8)).block < wr.heap.size := by
            have := World.block_lt_of_cell? _ _ hcell'.c0
            exact this
          have HPQ := Lib.hid hpq
          have HP1 := Lib.hid hp1
          have HP2 := Lib.hid hp2
          have HKEY := Lib.hid hkey
          have HI := Lib.hid hin
          have HI' := Lib.hid hin'
          have HI1 := Lib.hid hin1
          have HI2 := Lib.hid hin2
          have HC1 := Lib.hid hcap1
          have HC2 := Lib.hid hcap2
          have HST := Lib.hid hst
          have HROW := Lib.hid hrow
          have HM1 := Lib.hid hm1
          have HB := Lib.hid hb
          have HLT2 := Lib.hid hlt2
          have HTO := Lib.hid hTo
          rw [← HL1.out] at hcell
          rw [← HL2.out] at hcell'
          have hc2 := hcell'.belowI (b1 wr (.cells #[.bool y.text, .int .i64 y.num, .string y.str, .int .i64 k1, .int .i64 n1, .string s1, .int .i64 x1, .slice A1 L1 c1] IE))
          obtain ⟨p0, p1, p2, p3, p4, p5, p6, p7⟩ := hcell
          obtain ⟨q0, q1, q2, q3, q4, q5, q6, q7⟩ := hc2
          clear hin hin' hst hrow hm1 hb hlt2 hS hS' hky hky' hvs hvs' ht ht' hyb hyb' hkb hkb' hin1 hin2 hp1 hp2 hcap1 hcap2 hpl1 hpl2 some_of hdrop hwd hkey hpq hTo hcell'
          by_cases hyy : y = y'
          · rw [show decide (y = y') = true from decide_eq_true hyy] at NE
            have HYY := Lib.hid hyy
            clear hyy
            cases hal : alikeB (.mk k1 n1 s1 x1 ks1 vs1) (.mk k2 n2 s2 x2 ks2 vs2) with
            | false =>
              rw [hal] at AL
              have HBAD := Lib.hid (HST.out.bad (fun h => by rw [hal] at h; cases h.2))
              clear hal
              go_wp2_with (fail)
              refine (AL _).mono ?_
              rintro e0 w5 ⟨rfl, hb5⟩
              have HB5 := Lib.hid (bs (bs HB.out (b2 _ _ _)) hb5)
              clear hb5
              go_wp2_with (fail)
              go_ret
              exact ⟨by rw [HBAD.out]; rfl, HB5.out⟩
            | true =>
              rw [hal] at AL
              have HAL := Lib.hid hal
              clear hal
              go_wp2_with (fail)
              refine (AL _).mono ?_
              rintro e0 w5 ⟨rfl, hb5⟩
              have eA := carry hb5 (heap_alloc2_old wr _ _)
              have eB := carry hb5 (heap_alloc2_new wr _ _)
              have HBC := Lib.hid (bs (b2 wr _ _) hb5)
              obtain ⟨NZ, hNZ⟩ : ∃ NZ, NZ = w5.heap.size := ⟨_, rfl⟩
              have HNZ := Lib.hid hNZ
              have HNZB : Hid (wr.heap.size ≤ NZ) := Lib.hid (by rw [hNZ]; exact HBC.out.size)
              have HNAZ : Hid (wr.heap.size < NZ) := Lib.hid (by rw [hNZ]; exact (Array.getElem?_eq_some_iff.1 eA).1)
              have HNBZ : Hid (wr.heap.size + 1 < NZ) := Lib.hid (by rw [hNZ]; exact (Array.getElem?_eq_some_iff.1 eB).1)
              clear hNZ
              obtain ⟨NA, hNA⟩ : ∃ N, N = wr.heap.size := ⟨_, rfl⟩
              rw [← hNA] at eA eB ⊢
              have HNA := Lib.hid hNA
              have HNAZ : Hid (NA < NZ) := Lib.hid (by rw [hNA]; exact HNAZ.out)
              have HNBZ : Hid (NA + 1 < NZ) := Lib.hid (by rw [hNA]; exact HNBZ.out)
              have EA := Lib.hid eA
              have EB := Lib.hid eB
              obtain ⟨rA, -⟩ := rowc eA
              obtain ⟨rB, -⟩ := rowc eB
              clear hb5 eA eB hNA
              go_wp2_with (fail)
              go_cut [12] (fun s12 wx => CutR w wr NA NZ y k1 n1 s1 x1 A1 L1 c1 y' k2 n2 s2 x2 A2 L2 c2 pa ma pb mb s12 wx)
              case first =>
                have HZ : Hid (NZ ≤ w5.heap.size) := Lib.hid (Nat.le_of_eq HNZ.out)
                have lA0 : NA < w5.heap.size := (Array.getElem?_eq_some_iff.1 EA.out).1
                have lB0 : NA + 1 < w5.heap.size := (Array.getElem?_eq_some_iff.1 EB.out).1
                go_region_with (first
                  | (go_at_call_of 92 A1; refine (PO1 _).mono ?_
                     rintro e0 wz ⟨rfl, hbz⟩
                     have HBX : Hid (Below wr.heap.size wr wz) := Lib.hid (by
                       have hs := HBC.out.size
                       first
                         | exact bs HBC.out hbz
                         | exact bs (HBC.out.drew) hbz
                         | exact bs (HBC.out.alloc hs _) hbz
                         | exact bs (HBC.out.drew.alloc hs _) hbz)
                     have EAX : Hid (wz.heap[NA]? = _) := Lib.hid (by first | exact carry hbz EA.out | exact carry hbz (keepAlloc EA.out))
                     have EBX : Hid (wz.heap[NA + 1]? = _) := Lib.hid (by first | exact carry hbz EB.out | exact carry hbz (keepAlloc EB.out))
                     have HZX : Hid (NZ ≤ wz.heap.size) := Lib.hid (Nat.le_trans HZ.out (Nat.le_trans (by simp) hbz.size))
                     try (have EPX := carry hbz EP.out
                          clear EP
                          have EP := Lib.hid EPX
                          clear EPX)
                     try (with_reducible (have EPX := carry hbz (heap_alloc_new _ (.cells #[.pointer none, .int .i64 0, .pointer none, .int .i64 0] 190)))
                          try simp only [heap_drew] at EPX
                          have EP := Lib.hid EPX
                          have HPZ := Lib.hid HZ.out
                          clear EPX)
                     clear HBC EA EB rA rB hbz HZ
                     try clear rP fP
                     have HBC := Lib.hid HBX.out
                     have EA := Lib.hid EAX.out
                     have EB := Lib.hid EBX.out
                     have HZ := Lib.hid HZX.out
                     clear HBX EAX EBX HZX
                     try (have EPY := rowc EP.out
                          obtain ⟨rP, fP⟩ := EPY)
                     have lA : NA < wz.heap.size := (Array.getElem?_eq_some_iff.1 EA.out).1
                     have lB : NA + 1 < wz.heap.size := (Array.getElem?_eq_some_iff.1 EB.out).1
                     obtain ⟨rA, -⟩ := rowc EA.out
                     obtain ⟨rB, -⟩ := rowc EB.out)
                  | (go_at_call_of 92 A2; refine (PO2 _).mono ?_
                     rintro e0 wz ⟨rfl, hbz⟩
                     have HBX : Hid (Below wr.heap.size wr wz) := Lib.hid (by
                       have hs := HBC.out.size
                       first
                         | exact bs HBC.out hbz
                         | exact bs (HBC.out.drew) hbz
                         | exact bs (HBC.out.alloc hs _) hbz
                         | exact bs (HBC.out.drew.alloc hs _) hbz)
                     have EAX : Hid (wz.heap[NA]? = _) := Lib.hid (by first | exact carry hbz EA.out | exact carry hbz (keepAlloc EA.out))
                     have EBX : Hid (wz.heap[NA + 1]? = _) := Lib.hid (by first | exact carry hbz EB.out | exact carry hbz (keepAlloc EB.out))
                     have HZX : Hid (NZ ≤ wz.heap.size) := Lib.hid (Nat.le_trans HZ.out (Nat.le_trans (by simp) hbz.size))
                     try (have EPX := carry hbz EP.out
                          clear EP
                          have EP := Lib.hid EPX
                          clear EPX)
                     try (with_reducible (have EPX := carry hbz (heap_alloc_new _ (.cells #[.pointer none, .int .i64 0, .pointer none, .int .i64 0] 190)))
                          try simp only [heap_drew] at EPX
                          have EP := Lib.hid EPX
                          have HPZ := Lib.hid HZ.out
                          clear EPX)
                     clear HBC EA EB rA rB hbz HZ
                     try clear rP fP
                     have HBC := Lib.hid HBX.out
                     have EA := Lib.hid EAX.out
                     have EB := Lib.hid EBX.out
                     have HZ := Lib.hid HZX.out
                     clear HBX EAX EBX HZX
                     try (have EPY := rowc EP.out
                          obtain ⟨rP, fP⟩ := EPY)
                     have lA : NA < wz.heap.size := (Array.getElem?_eq_some_iff.1 EA.out).1
                     have lB : NA + 1 < wz.heap.size := (Array.getElem?_eq_some_iff.1 EB.out).1
                     obtain ⟨rA, -⟩ := rowc EA.out
                     obtain ⟨rB, -⟩ := rowc EB.out))
                all_goals
                  go_wp2_with (fail)
                  go_meet
                  first
                    | exact ⟨_, rfl, HZ.out, heap_alloc_new _ _, HBC.out.alloc HBC.out.size _, keepAlloc EA.out, keepAlloc EB.out⟩
                    | (have hne : ∀ q, q < NZ → q ≠ _ := fun q hq => Nat.ne_of_lt (Nat.lt_of_lt_of_le hq HPZ.out)
                       refine ⟨_, rfl, HPZ.out, set_heap (set_heap (set_heap (set_heap EP.out 0 _) 1 _) 2 _) 3 _, ?_, ?_, ?_⟩
                       · have hle := Nat.le_trans HNZB.out HPZ.out
                         exact (((HBC.out.setCell hle _).setCell hle _).setCell hle _).setCell hle _
                       · have hq := hne NA HNAZ.out
                         exact (set_other hq).trans ((set_other hq).trans ((set_other hq).trans ((set_other hq).trans EA.out)))
                       · have hq := hne (NA + 1) HNBZ.out
                         exact (set_other hq).trans ((set_other hq).trans ((set_other hq).trans ((set_other hq).trans EB.out))))
              case rest =>
                obtain ⟨NP, rfl, hNZP, hP, hBx, hxA, hxB⟩ := hcut
                have HBX := Lib.hid hBx
                have EP := Lib.hid hP
                have EA' := Lib.hid hxA
                have EB' := Lib.hid hxB
                obtain ⟨rP, -⟩ := rowc hP
                have hm15 : raw.Holds wc (G2 (w.heap.size + 5)) (w.heap.size + 1 + 1) e2 := HM1.out.kept (hBx.block _ HM1.out.lt) (fun x hx => hx.kp (Kp.below hBx))
                have hk5 := HKEY.out.kp (Kp.below hBx)
                have hT8x : wc.heap[NT]? = _ := carry hBx HT8.out
                have HT8X := Lib.hid hT8x
                have hNAx : w.heap.size + 6 ≤ NA := by rw [HNA.out]; exact Nat.le_of_lt (Nat.lt_of_le_of_lt hNTB l8)
                have hNPx : w.heap.size + 6 ≤ NP := by have := HNAZ.out; omega
                clear hP hBx hxA hxB hT8x rA rB EA EB HBC
                cases hek : e2 (.agg #[.pointer pa, .int .i64 ma, .pointer pb, .int .i64 mb]) with
                | none =>
                  obtain ⟨i0, hi, hz⟩ : ∃ i, Tryz.prog.info? PG = some i ∧ (i.zero = some (.agg #[.slice none 0 0, .slice none 0 0]) ∧ i.size = 2 ∧ i.bytes = 48) := by
                    have := pgRow
                    cases hq : Tryz.prog.info? PG with
                    | none => rw [hq] at this; cases this
                    | some i => rw [hq] at this; simp at this; exact ⟨i, rfl, this⟩
                  have HII := Lib.hid hi
                  have HZZ := Lib.hid hz
                  have HEK := Lib.hid hek
                  have hPl : P2.length ≤ 1099511627776 := by have h1 := lefts2_len P2; have h2 := HLT2.out; have h3 := HLE.out; omega
                  obtain ⟨NPn, HNPn⟩ : ∃ NPn, Hid (NPn = P2.length) := ⟨_, Lib.hid rfl⟩
                  rw [← HNPn.out] at hPl
                  clear hek hi hz
                  go_wp2_with (first
                    | (at_lookup; refine raw.wpList_lookup_to _ rfl _ _ 186 false rfl hm15 (good_g2 _) Tryz.underlying186 (zeroBool _) rfl rfl hk5 HEK.out (got1_none _) ?_)
                    | (at_mapUpdate; refine raw.wpList_update _ rfl _ _ _ 186 rfl hm15 (good_g2 _) (g2_stays _) Tryz.underlying186 rfl rfl rfl hk5 ?_
                       intro w7 hm17 hgr7
                       have HM17 := Lib.hid hm17
                       have HGR7 := Lib.hid hgr7
                       obtain ⟨rA7, _⟩ := rowc ((hgr7.block NA (Array.getElem?_eq_some_iff.1 EA'.out).1 (by intro h; injection h; omega)).trans EA'.out)
                       obtain ⟨rB7, _⟩ := rowc ((hgr7.block (NA + 1) (Array.getElem?_eq_some_iff.1 EB'.out).1 (by intro h; injection h; omega)).trans EB'.out)
                       have HR7 := Lib.hid ((HROW.out.below HBX.out).kept4 hgr7 (by omega))
                       have lA7 : NA < w7.heap.size := Nat.lt_of_lt_of_le (Array.getElem?_eq_some_iff.1 EA'.out).1 hgr7.size
                       have lB7 : NA + 1 < w7.heap.size := Nat.lt_of_lt_of_le (Array.getElem?_eq_some_iff.1 EB'.out).1 hgr7.size
                       clear hm17 hgr7)
                    | (at_builtin; refine wpList_append_own_at _ rfl _ _ 189 rfl (w.heap.size + 5) PG i0 _ 2 48 Tryz.underlying189 HII.out HZZ.out.1 HZZ.out.2.1 HZZ.out.2.2 rfl (by decide) _ NPn _ rfl (by rw [HNPn.out]; exact HR7.out.alloc _) ⟨w7.heap.size, 0, none⟩ 1 1 [.slice A1 L1 c1, .slice A2 L2 c2] rfl rfl (two_new _ _ _ _) (by intro u hu; simp at hu; rcases hu with rfl | rfl <;> rfl) (by unfold maxLen; omega) (by omega) (by simp; omega) ?_
                       intro v' w8 hown' hgrow' hnil hloc
                       have HR8 := Lib.hid hown'
                       have HG8 := Lib.hid hgrow'
                       have HLOC := Lib.hid hloc
                       clear hown' hgrow' hnil hloc)
                    | fail)
                  go_roundg (Lr - j)
                  case rel =>
                    have k7 : Kp (w.heap.size + 5) wc w7 := Kp.grown HGR7.out (fun k hk => .inr (fun ⟨cs, t, hc⟩ => by
                      obtain rfl := Option.some.inj hk
                      obtain ⟨es, clock, hb, _⟩ := hm15
                      rw [hb] at hc
                      cases hc))
                    have hr8 := (HROW.out).own
                    have k8 := Kp.grown (B := w.heap.size + 5) HG8.out (fun k hk => .inl (hr8 k hk))
                    have hkp : Kp (w.heap.size + 5) wr w8 := (((Kp.below HBX.out).trans k7).trans (Kp.below (b1 w7 _))).trans k8
                    have hst := HST.out
                    rw [← HYY.out] at hst
                    have hlen : vs1.length = vs2.length := by have := HAL.out; simp [alikeB] at this; exact this.2.2.2
                    have hent := hst.enter (l := ⟨⟨A1, c1, ks1, vs1⟩, ⟨A2, c2, ks2, vs2⟩⟩) HAL.out ⟨⟨HI1.out, HC1.out⟩, ⟨HI2.out, HC2.out⟩, hlen⟩
                    rw [show pq (plc (Pair.mk ⟨A1, c1, ks1, vs1⟩ ⟨A2, c2, ks2, vs2⟩).a.R (Pair.mk ⟨A1, c1, ks1, vs1⟩ ⟨A2, c2, ks2, vs2⟩).a.vs.length) (plc (Pair.mk ⟨A1, c1, ks1, vs1⟩ ⟨A2, c2, ks2, vs2⟩).b.R (Pair.mk ⟨A1, c1, ks1, vs1⟩ ⟨A2, c2, ks2, vs2⟩).b.vs.length) = _ from HPQ.out] at hent
                    have s7 := HGR7.out.size
                    have s8 := HG8.out.size
                    have hlt7 := HM17.out.lt
                    have hlt8 := (Array.getElem?_eq_some_iff.1 HT8X.out).1
                    have sz0 := HB.out.size
                    have szc := HBX.out.size
                    have e8 : w8.heap[w.heap.size + 1 + 1]? = w7.heap[w.heap.size + 1 + 1]? := (HG8.out.block _ (by simp; omega) (by intro h; have := hr8 _ h.symm; omega)).trans (Below.heap_alloc _ _ _ hlt7)
                    have t8 : w8.heap[NT]? = some (.cells #[.slice (some a) Lr rc, .slice (some a') Lr rc'] PG (0, 0)) := (HG8.out.block _ (by simp; omega) (by intro h; exact HTO.out _ h.symm rfl)).trans ((Below.heap_alloc _ _ _ (by omega)).trans ((HGR7.out.block _ hlt8 (by intro h; injection h; omega)).trans HT8X.out))
                    refine ⟨j + 1, ⟨⟨A1, c1, ks1, vs1⟩, ⟨A2, c2, ks2, vs2⟩⟩ :: P2, _, by go_num, by omega, by omega, HI.out.kp hkp, HI'.out.kp hkp, hent.kp hkp, ?_, HM17.out.kept e8 (fun x hx => (hx.kp (Kp.below (b1 w7 _))).kp k8), ?_, ?_, hNTB, t8, ?_⟩
                    · show w8.ownsRow _ _ _ _ _ _
                      have := HR8.out
                      rw [HNPn.out, HL1.out, HL2.out] at this
                      simpa [Pair.cells, Pend.cell] using this
                    · exact ((((bs HB.out HBX.out).grown HGR7.out (by omega) (fun k hk => by obtain rfl := Option.some.inj hk; omega)).alloc (by omega) _).grown HG8.out (by simp; omega) (fun k hk => by have := hr8 k hk; omega))
                    · have := HLT2.out
                      rw [show lefts2 (Pair.mk ⟨A1, c1, ks1, vs1⟩ ⟨A2, c2, ks2, vs2⟩ :: P2) = 1 + wks vs1 + lefts2 P2 from rfl]
                      omega
                    · intro q hq
                      rcases HLOC.out with h | h
                      · exact HTO.out q (h ▸ hq)
                      · rw [h] at hq
                        injection hq with hq
                        simp at hq
                        omega
                  case measure => omega
                | some b =>
                  obtain rfl := (HST.out.ens _ b hek).1
                  have HEK := Lib.hid hek
                  clear hek
                  go_wp2_with (first | (at_lookup; refine raw.wpList_lookup_to _ rfl _ _ 186 false rfl hm15 (good_g2 _) Tryz.underlying186 (zeroBool _) rfl rfl hk5 HEK.out (got1_some _ _) ?_) | fail)
                  go_roundg (Lr - j)
                  case rel =>
                    have hkp := Kp.below (B := w.heap.size + 5) HBX.out
                    have hseen : Seen2 (w.heap.size + 5) wr e2 ((y, .mk k1 n1 s1 x1 ks1 vs1), (y', .mk k2 n2 s2 x2 ks2 vs2)) := ⟨HYY.out, HAL.out, _, _, _, _, _, _, _, _, _, _, _, _, rfl, rfl, _, _, HP1.out, HP2.out, by rw [HPQ.out, HEK.out]; simp⟩
                    exact ⟨j + 1, P2, e2, by go_num, by omega, by omega, HI.out.kp hkp, HI'.out.kp hkp, (HST.out.next hseen).kp hkp, HROW.out.below HBX.out, hm15, bs HB.out HBX.out, by have := HLT2.out; omega, hNTB, HT8X.out, HTO.out⟩
                  case measure => omega
          · rw [show decide (y = y') = false from decide_eq_false hyy] at NE
            have HBAD := Lib.hid (HST.out.bad (fun h => hyy h.1))
            clear hyy
            go_wp2_with (fail)
            go_ret
            exact ⟨by rw [HBAD.out]; rfl, bs HB.out (b2 _ _ _)⟩
        · obtain rfl : j = Lr := by omega
          have hd0 : (zz ks vs ks' vs').drop j = [] := List.drop_eq_nil_of_le (by rw [zz_len hin.1 hin'.1 (HLr.out.symm.trans HLr'.out)]; exact Nat.le_of_eq HLr.out.symm)
          have hd1 : vs.drop j = [] := List.drop_eq_nil_of_le (Nat.le_of_eq HLr.out.symm)
          rw [hd0] at hst
          rw [hd1] at hlt2
          have HST := Lib.hid hst
          have HROW := Lib.hid hrow
          have HM1 := Lib.hid hm1
          have HB := Lib.hid hb
          have HLT2 := Lib.hid hlt2
          clear hin hin' hst hrow hm1 hb hlt2 hd0 hd1 hTo
          go_wp2_with (fail)
          go_roundg (lefts2 P2)
          case rel => exact ⟨P2, e2, rfl, HST.out, HROW.out, HM1.out, HB.out, by have := HLT2.out; have := HLE.out; omega, by omega⟩
          case measure => have := HLT2.out; omega

end Go.Proofs.YtdglmnmalfpipaaGreatDoor.tree

/-
  Drawn words, keys and scalars.
  Conditions: the cursor's block.
-/
namespace Go.Proofs.YtdglmnmalfpipaaGreatDoor.draw
open Go.ChangeShapes Go.WideShapes Go.ChangeAt Go.RowKit tree
set_option linter.unusedVariables false

theorem strs_new' (m : Nat) (w : World) (t : TypeId) (zs : List ByteArray) (h : ∀ z ∈ zs, z.size ≤ m) (N : Nat) (hN : N < w.heap.size) :
    Strs m (w.alloc (.cells (zs.map Value.string).toArray t)) N w.heap.size zs.length := by
  refine ⟨by omega, by simp, fun j hj => ?_⟩
  refine ⟨zs[j], h zs[j] (List.getElem_mem _), ?_⟩
  rw [World.cell?_alloc_new]
  simp [hj]

theorem word (N : Nat) (w : World) (hC : Cur w N) : Calls Tryz.prog 187 #[.pointer (some ⟨N, 0, none⟩)] w (StrQ 10 N w) := by
  have hN := hC.lt
  have HI := Lib.hid (strs_new' 10 w 9 [⟨#[]⟩, ⟨#[97]⟩, ⟨#[98]⟩, ⟨#[120, 49]⟩, ⟨#[48]⟩, ⟨#[53]⟩, ⟨#[45, 53]⟩, ⟨#[48, 53]⟩, ⟨#[45, 48]⟩, ⟨#[49, 50, 97]⟩, ⟨#[48, 48, 55]⟩, ⟨#[49, 48, 48, 48, 48, 48, 48, 48, 48, 48]⟩, ⟨#[49, 48, 48, 48, 48, 48, 48, 48, 48, 49]⟩, ⟨#[32, 49]⟩, ⟨#[105, 116, 39, 115]⟩, ⟨#[10]⟩, ⟨#[60, 105, 62]⟩, ⟨#[255, 59]⟩, ⟨#[110, 97, 109, 101]⟩, ⟨#[115, 58, 49, 58]⟩] (by decide) N hN)
  have HC := Lib.hid hC
  clear hC
  go_enter Tryz.func187, Tryz.ntmps187
  go_wp2_with (fail)
  refine (pickStr 10 N w.heap.size 20 20 (by omega) (by omega) _ (HC.out.new _) HI.out).mono ?_
  rintro e w1 ⟨s, rfl, hs, hC1, hg1⟩
  have HC1 := Lib.hid hC1; have HG1 := Lib.hid hg1; clear hC1 hg1
  go_wp2
  go_ret
  exact ⟨s, rfl, hs, HC1.out, only_trans (World.grownBy_alloc _ _ _) HG1.out⟩

theorem Cur.upto {w w' : World} {N : Nat} (h : Cur w N) (hk : ∀ k, k ≤ N → w'.heap[k]? = w.heap[k]?) : Cur w' N := by
  obtain ⟨A, n, c, i, h1, h2, h3, h4, h5, h6⟩ := h
  exact ⟨A, n, c, i, h1, (hk N (Nat.le_refl _)).trans h2, h3.keep fun k hlt => hk k (by omega), h4, h5, h6⟩
/-- Three cells of one block written. -/
theorem put3 {w : World} {R : Nat} {t : TypeId} {a b c : Value} (x y z : Value) (h : w.heap[R]? = some (.cells #[a, b, c] t (0, 0))) :
    (((w.setCell ⟨R, 0, none⟩ x).setCell ⟨R, 1, none⟩ y).setCell ⟨R, 2, none⟩ z).heap[R]? = some (.cells #[x, y, z] t (0, 0)) ∧
    (∀ k, k ≠ R → (((w.setCell ⟨R, 0, none⟩ x).setCell ⟨R, 1, none⟩ y).setCell ⟨R, 2, none⟩ z).heap[k]? = w.heap[k]?) ∧
    ∀ (W : World) (N : Nat), W.heap.size ≤ R → W.grownBy w (some N) → W.grownBy (((w.setCell ⟨R, 0, none⟩ x).setCell ⟨R, 1, none⟩ y).setCell ⟨R, 2, none⟩ z) (some N) := by
  refine ⟨?_, fun k hk => ?_, fun W N hR hg => ⟨hg.os, hg.tape, hg.output, by simpa [set_size] using hg.size, fun j hj hne => ?_⟩⟩
  · have := set_heap (set_heap (set_heap h 0 x) 1 y) 2 z
    simpa using this
  · rw [set_other hk, set_other hk, set_other hk]
  · have hk : j ≠ R := by omega
    rw [set_other hk, set_other hk, set_other hk]
    exact hg.block j hj hne

/-- A drawn key. -/
def DrawKey (N : Nat) (w : World) (e : Ending) (w' : World) : Prop := ∃ y : Ky, e = .returned (kyV y) ∧ (-1000000000 ≤ y.num ∧ y.num ≤ 1000000000 ∧ y.str.size ≤ 2) ∧ Cur w' N ∧ w.grownBy w' (some N)
theorem key (N : Nat) (w : World) (hC : Cur w N) : Calls Tryz.prog 55 #[.pointer (some ⟨N, 0, none⟩)] w (DrawKey N w) := by
  have hN0 := hC.lt
  have HC := Lib.hid hC
  clear hC
  go_enter Tryz.func55, Tryz.ntmps55
  go_wp2_with (fail)
  refine (once N 3 (by omega) _ (HC.out.new _)).mono ?_
  rintro e w1 ⟨b, rfl, hC1, hg1⟩
  have hN := hC1.lt
  have eR : w1.heap[w.heap.size]? = some (.cells #[.bool false, .int .i64 0, .string ⟨#[]⟩] IK (0, 0)) := (hg1.block _ (by simp) (by intro h; injection h; omega)).trans (heap_alloc_new w _)
  have HC1 := Lib.hid hC1; have HG1 := Lib.hid (only_trans (World.grownBy_alloc w (.cells #[.bool false, .int .i64 0, .string ⟨#[]⟩] IK) (some N)) hg1)
  have ER := Lib.hid eR
  clear hC1 hg1 eR
  cases b with
  | true =>
    have HI := Lib.hid (strs_new' 2 w1 9 [⟨#[97]⟩, ⟨#[98]⟩, ⟨#[99]⟩, ⟨#[]⟩, ⟨#[48, 53]⟩, ⟨#[120]⟩] (by decide) N hN)
    go_wp2_with (fail)
    refine (pickStr 2 N w1.heap.size 6 6 (by omega) (by omega) _ (HC1.out.new _) HI.out).mono ?_
    rintro e w2 ⟨s, rfl, hs, hC2, hg2⟩
    have HC2 := Lib.hid hC2
    have hG2 := only_trans (World.grownBy_alloc w1 _ (some N)) hg2
    have eR2 := (hG2.block w.heap.size (Array.getElem?_eq_some_iff.1 ER.out).1 (by intro h; injection h; omega)).trans ER.out
    have HG2 := Lib.hid (only_trans HG1.out hG2)
    have ER2 := Lib.hid eR2
    obtain ⟨r2, f2⟩ := rowc eR2
    clear hC2 hg2 hG2 eR2
    go_wp2_with (fail)
    obtain ⟨eF, oF, gF⟩ := put3 (.bool true) (.int .i64 0) (.string s) ER2.out
    obtain ⟨rF, -⟩ := rowc eF
    have hCF : Cur _ N := Cur.upto HC2.out fun k hk => oF k (by omega)
    have hGF := gF w N (Nat.le_refl _) HG2.out
    clear r2 f2 eF oF gF
    generalize (((w2.setCell ⟨w.heap.size, 0, none⟩ (.bool true)).setCell ⟨w.heap.size, 1, none⟩ (.int .i64 0)).setCell ⟨w.heap.size, 2, none⟩ (.string s)) = wF at *
    refine bodyPost_ret (v := .agg #[.bool true, .int .i64 0, .string s]) (by simp [results, Tryz.results55, go_sem, rF]) rfl ⟨⟨true, 0, s⟩, rfl, ⟨by show (-1000000000 : Int) ≤ 0; omega, by show (0 : Int) ≤ 1000000000; omega, hs⟩, hCF, hGF⟩
  | false =>
    have HI := Lib.hid (ints_new (-1000000000) 1000000000 w1 3 [0, 1, 2, 3, 4, -1, 7, 1000000000, -1000000000] (by decide) N hN)
    go_wp2_with (fail)
    refine (pickInt (-1000000000) 1000000000 N w1.heap.size 9 9 (by omega) (by omega) _ (HC1.out.new _) HI.out).mono ?_
    rintro e w2 ⟨x, rfl, x0, x1, hC2, hg2⟩
    have HC2 := Lib.hid hC2
    have hG2 := only_trans (World.grownBy_alloc w1 _ (some N)) hg2
    have eR2 := (hG2.block w.heap.size (Array.getElem?_eq_some_iff.1 ER.out).1 (by intro h; injection h; omega)).trans ER.out
    have HG2 := Lib.hid (only_trans HG1.out hG2)
    have ER2 := Lib.hid eR2
    obtain ⟨r2, f2⟩ := rowc eR2
    clear hC2 hg2 hG2 eR2
    go_wp2_with (fail)
    obtain ⟨eF, oF, gF⟩ := put3 (.bool false) (.int .i64 x) (.string ⟨#[]⟩) ER2.out
    obtain ⟨rF, -⟩ := rowc eF
    have hCF : Cur _ N := Cur.upto HC2.out fun k hk => oF k (by omega)
    have hGF := gF w N (Nat.le_refl _) HG2.out
    clear r2 f2 eF oF gF
    generalize (((w2.setCell ⟨w.heap.size, 0, none⟩ (.bool false)).setCell ⟨w.heap.size, 1, none⟩ (.int .i64 x)).setCell ⟨w.heap.size, 2, none⟩ (.string ⟨#[]⟩)) = wF at *
    refine bodyPost_ret (v := .agg #[.bool false, .int .i64 x, .string ⟨#[]⟩]) (by simp [results, Tryz.results55, go_sem, rF]) rfl ⟨⟨false, x, ⟨#[]⟩⟩, rfl, ⟨x0, x1, by show (0 : Nat) ≤ 2; omega⟩, hCF, hGF⟩

end Go.Proofs.YtdglmnmalfpipaaGreatDoor.draw

/-
  Drawn scalars.
  Conditions: the cursor's block.
-/
namespace Go.Proofs.YtdglmnmalfpipaaGreatDoor.draw
open Go.ChangeShapes Go.WideShapes Go.ChangeAt Go.RowKit tree
set_option linter.unusedVariables false

theorem intV (n : Int) (w : World) : Calls Tryz.prog 188 #[.int .i64 n] w (GivesQ w (vV 2 n ⟨#[]⟩ 0 none 0 0)) := by
  go_enter Tryz.func188, Tryz.ntmps188
  go_wp2
  refine bodyPost_ret (v := vV 2 n ⟨#[]⟩ 0 none 0 0) (by simp [results, Tryz.results188, go_sem]) rfl ⟨rfl, b1 _ _⟩
theorem textV (s : ByteArray) (w : World) : Calls Tryz.prog 98 #[.string s] w (GivesQ w (vV 3 0 s 0 none 0 0)) := by
  go_enter Tryz.func98, Tryz.ntmps98
  go_wp2
  refine bodyPost_ret (v := vV 3 0 s 0 none 0 0) (by simp [results, Tryz.results98, go_sem]) rfl ⟨rfl, b1 _ _⟩
theorem boolV (b : Bool) (w : World) : Calls Tryz.prog 186 #[.bool b] w (GivesQ w (vV 1 (if b then 1 else 0) ⟨#[]⟩ 0 none 0 0)) := by
  cases b
  · go_enter Tryz.func186, Tryz.ntmps186
    go_wp2
    refine bodyPost_ret (v := vV 1 0 ⟨#[]⟩ 0 none 0 0) (by simp [results, Tryz.results186, go_sem]) rfl ⟨rfl, b1 _ _⟩
  · go_enter Tryz.func186, Tryz.ntmps186
    go_wp2
    refine bodyPost_ret (v := vV 1 1 ⟨#[]⟩ 0 none 0 0) (by simp [results, Tryz.results186, go_sem]) rfl ⟨rfl, b1 _ _⟩
theorem arrV (w : World) : Calls Tryz.prog 131 #[] w (GivesQ w (vV 4 0 ⟨#[]⟩ 0 none 0 0)) := by
  go_enter Tryz.func131, Tryz.ntmps131
  go_wp2
  refine bodyPost_ret (v := vV 4 0 ⟨#[]⟩ 0 none 0 0) (by simp [results, Tryz.results131, go_sem]) rfl ⟨rfl, b1 _ _⟩

theorem grown_set {W w : World} {N R j : Nat} {u : Value} (hR : W.heap.size ≤ R) (hg : W.grownBy w (some N)) : W.grownBy (w.setCell ⟨R, j, none⟩ u) (some N) :=
  ⟨hg.os, hg.tape, hg.output, by rw [set_size]; exact hg.size, fun k hk hne => (set_other (by omega)).trans (hg.block k hk hne)⟩
/-- Five cells of one block written. -/
theorem put5 {w : World} {R : Nat} {t : TypeId} {a b c d e : Value} (x y z u v : Value) (h : w.heap[R]? = some (.cells #[a, b, c, d, e] t (0, 0))) :
    (((((w.setCell ⟨R, 0, none⟩ x).setCell ⟨R, 1, none⟩ y).setCell ⟨R, 2, none⟩ z).setCell ⟨R, 3, none⟩ u).setCell ⟨R, 4, none⟩ v).heap[R]? = some (.cells #[x, y, z, u, v] t (0, 0)) ∧
    (∀ k, k ≠ R → (((((w.setCell ⟨R, 0, none⟩ x).setCell ⟨R, 1, none⟩ y).setCell ⟨R, 2, none⟩ z).setCell ⟨R, 3, none⟩ u).setCell ⟨R, 4, none⟩ v).heap[k]? = w.heap[k]?) ∧
    ∀ (W : World) (N : Nat), W.heap.size ≤ R → W.grownBy w (some N) → W.grownBy (((((w.setCell ⟨R, 0, none⟩ x).setCell ⟨R, 1, none⟩ y).setCell ⟨R, 2, none⟩ z).setCell ⟨R, 3, none⟩ u).setCell ⟨R, 4, none⟩ v) (some N) := by
  refine ⟨?_, fun k hk => ?_, fun W N hR hg => grown_set hR (grown_set hR (grown_set hR (grown_set hR (grown_set hR hg))))⟩
  · have := set_heap (set_heap (set_heap (set_heap (set_heap h 0 x) 1 y) 2 z) 3 u) 4 v
    simpa using this
  · rw [set_other hk, set_other hk, set_other hk, set_other hk, set_other hk]
theorem grown_of_below {w w' : World} (h : Below w.heap.size w w') (N : Nat) : w.grownBy w' (some N) := ⟨h.os, h.tape, h.output, h.size, fun j hj _ => h.block j hj⟩

/-- A drawn scalar. -/
def DrawScal (N : Nat) (w : World) (e : Ending) (w' : World) : Prop := ∃ (k n : Int) (s : ByteArray), e = .returned (vV k n s 0 none 0 0) ∧ (0 ≤ k ∧ k ≤ 3 ∧ -1000000000 ≤ n ∧ n ≤ 1000000000 ∧ s.size ≤ 10) ∧ Cur w' N ∧ w.grownBy w' (some N)
theorem DrawScal.of {N : Nat} {w w2 : World} {k n : Int} {s : ByteArray} (hb : 0 ≤ k ∧ k ≤ 3 ∧ -1000000000 ≤ n ∧ n ≤ 1000000000 ∧ s.size ≤ 10) (hN : N < w.heap.size) (hC : Cur w2 N) (hg : w.grownBy w2 (some N))
    (hR : w2.heap[w.heap.size]? = some (.cells #[.int .i64 0, .int .i64 0, .string ⟨#[]⟩, .int .i64 0, .slice none 0 0] IV (0, 0))) (wF : World)
    (hF : wF = ((((w2.setCell ⟨w.heap.size, 0, none⟩ (.int .i64 k)).setCell ⟨w.heap.size, 1, none⟩ (.int .i64 n)).setCell ⟨w.heap.size, 2, none⟩ (.string s)).setCell ⟨w.heap.size, 3, none⟩ (.int .i64 0)).setCell ⟨w.heap.size, 4, none⟩ (.slice none 0 0)) :
    (∀ j, wF.cell? ⟨w.heap.size, j, none⟩ = #[Value.int .i64 k, .int .i64 n, .string s, .int .i64 0, .slice none 0 0][j]?) ∧ DrawScal N w (.returned (vV k n s 0 none 0 0)) wF := by
  obtain ⟨eF, oF, gF⟩ := put5 (.int .i64 k) (.int .i64 n) (.string s) (.int .i64 0) (.slice none 0 0) hR
  rw [← hF] at eF oF gF
  exact ⟨(rowc eF).1, k, n, s, rfl, hb, Cur.upto hC fun k hk => oF k (by omega), gF w N (Nat.le_refl _) hg⟩

theorem scalar (N : Nat) (w : World) (hC : Cur w N) : Calls Tryz.prog 130 #[.pointer (some ⟨N, 0, none⟩)] w (DrawScal N w) := by
  have hN0 := hC.lt
  have HC := Lib.hid hC
  clear hC
  go_enter Tryz.func130, Tryz.ntmps130
  go_wp2_with (fail)
  refine (below N 8 (by omega) _ (HC.out.new _)).mono ?_
  rintro e w1 ⟨x, rfl, x0, x1, hC1, hg1⟩
  have hN := hC1.lt
  have eR : w1.heap[w.heap.size]? = some (.cells #[.int .i64 0, .int .i64 0, .string ⟨#[]⟩, .int .i64 0, .slice none 0 0] IV (0, 0)) := (hg1.block _ (by simp) (by intro h; injection h; omega)).trans (heap_alloc_new w _)
  have HC1 := Lib.hid hC1; have HG1 := Lib.hid (only_trans (World.grownBy_alloc w (.cells #[.int .i64 0, .int .i64 0, .string ⟨#[]⟩, .int .i64 0, .slice none 0 0] IV) (some N)) hg1)
  have ER := Lib.hid eR
  clear hC1 hg1
  have step : ∀ (w2 w3 : World) (k n : Int) (s : ByteArray), Cur w2 N → w1.grownBy w2 (some N) → Below w2.heap.size w2 w3 →
      Hid (Cur w3 N) ∧ Hid (w.grownBy w3 (some N)) ∧ Hid (w3.heap[w.heap.size]? = some (.cells #[.int .i64 0, .int .i64 0, .string ⟨#[]⟩, .int .i64 0, .slice none 0 0] IV (0, 0))) := fun w2 w3 k n s hc hg hb => by
    have hg3 := only_trans hg (grown_of_below hb N)
    exact ⟨hc.below hb, only_trans HG1.out hg3, (hg3.block _ (Array.getElem?_eq_some_iff.1 ER.out).1 (by intro h; injection h; omega)).trans ER.out⟩
  by_cases h0 : x = 0
  · subst h0
    obtain ⟨r1, f1⟩ := rowc eR
    clear eR step
    go_wp2_with (fail)
    generalize hwF : ((((((w1).setCell ⟨w.heap.size, 0, none⟩ (.int .i64 0)).setCell ⟨w.heap.size, 1, none⟩ (.int .i64 0)).setCell ⟨w.heap.size, 2, none⟩ (.string ⟨#[]⟩)).setCell ⟨w.heap.size, 3, none⟩ (.int .i64 0)).setCell ⟨w.heap.size, 4, none⟩ (.slice none 0 0)) = wF
    obtain ⟨rF, hD⟩ := DrawScal.of (k := 0) (n := 0) (s := ⟨#[]⟩) ⟨by omega, by omega, by omega, by omega, by show (0 : Nat) ≤ 10; omega⟩ hN0 HC1.out HG1.out ER.out wF hwF.symm
    clear r1 f1 hwF
    refine bodyPost_ret (v := .agg #[.int .i64 0, .int .i64 0, .string ⟨#[]⟩, .int .i64 0, .slice none 0 0]) ?_ rfl ?_
    · simp [results, Tryz.results130, go_sem, rF]
    · exact hD
  clear eR
  by_cases h1 : x = 1
  · subst h1
    go_wp2_with (fail)
    refine (once N 2 (by omega) _ HC1.out).mono ?_
    rintro e w2 ⟨b, rfl, hC2, hg2⟩
    have HC2 := Lib.hid hC2; have HG2 := Lib.hid hg2; clear hC2 hg2
    go_wp2_with (fail)
    refine (boolV b _).mono ?_
    rintro e w3 ⟨rfl, hb3⟩
    obtain ⟨HC3, HG3, ER3⟩ := step w2 w3 0 0 ⟨#[]⟩ HC2.out HG2.out hb3
    obtain ⟨r3, f3⟩ := rowc ER3.out
    clear hb3 step
    cases b with
    | false =>
      go_wp2_with (fail)
      generalize hwF : ((((((w3).setCell ⟨w.heap.size, 0, none⟩ (.int .i64 1)).setCell ⟨w.heap.size, 1, none⟩ (.int .i64 0)).setCell ⟨w.heap.size, 2, none⟩ (.string ⟨#[]⟩)).setCell ⟨w.heap.size, 3, none⟩ (.int .i64 0)).setCell ⟨w.heap.size, 4, none⟩ (.slice none 0 0)) = wF
      obtain ⟨rF, hD⟩ := DrawScal.of (k := 1) (n := 0) (s := ⟨#[]⟩) ⟨by omega, by omega, by omega, by omega, by show (0 : Nat) ≤ 10; omega⟩ hN0 HC3.out HG3.out ER3.out wF hwF.symm
      clear r3 f3 hwF
      refine bodyPost_ret (v := .agg #[.int .i64 1, .int .i64 0, .string ⟨#[]⟩, .int .i64 0, .slice none 0 0]) ?_ rfl ?_
      · simp [results, Tryz.results130, go_sem, rF]
      · exact hD
    | true =>
      go_wp2_with (fail)
      generalize hwF : ((((((w3).setCell ⟨w.heap.size, 0, none⟩ (.int .i64 1)).setCell ⟨w.heap.size, 1, none⟩ (.int .i64 1)).setCell ⟨w.heap.size, 2, none⟩ (.string ⟨#[]⟩)).setCell ⟨w.heap.size, 3, none⟩ (.int .i64 0)).setCell ⟨w.heap.size, 4, none⟩ (.slice none 0 0)) = wF
      obtain ⟨rF, hD⟩ := DrawScal.of (k := 1) (n := 1) (s := ⟨#[]⟩) ⟨by omega, by omega, by omega, by omega, by show (0 : Nat) ≤ 10; omega⟩ hN0 HC3.out HG3.out ER3.out wF hwF.symm
      clear r3 f3 hwF
      refine bodyPost_ret (v := .agg #[.int .i64 1, .int .i64 1, .string ⟨#[]⟩, .int .i64 0, .slice none 0 0]) ?_ rfl ?_
      · simp [results, Tryz.results130, go_sem, rF]
      · exact hD
  by_cases h2 : x = 2
  · subst h2
    go_wp2_with (fail)
    refine (word N _ HC1.out).mono ?_
    rintro e w2 ⟨s, rfl, hs, hC2, hg2⟩
    have HC2 := Lib.hid hC2; have HG2 := Lib.hid hg2; clear hC2 hg2
    go_wp2_with (fail)
    refine (textV s _).mono ?_
    rintro e w3 ⟨rfl, hb3⟩
    obtain ⟨HC3, HG3, ER3⟩ := step w2 w3 0 0 ⟨#[]⟩ HC2.out HG2.out hb3
    obtain ⟨r3, f3⟩ := rowc ER3.out
    clear hb3 step
    go_wp2_with (fail)
    generalize hwF : ((((((w3).setCell ⟨w.heap.size, 0, none⟩ (.int .i64 3)).setCell ⟨w.heap.size, 1, none⟩ (.int .i64 0)).setCell ⟨w.heap.size, 2, none⟩ (.string s)).setCell ⟨w.heap.size, 3, none⟩ (.int .i64 0)).setCell ⟨w.heap.size, 4, none⟩ (.slice none 0 0)) = wF
    obtain ⟨rF, hD⟩ := DrawScal.of (k := 3) (n := 0) (s := s) ⟨by omega, by omega, by omega, by omega, hs⟩ hN0 HC3.out HG3.out ER3.out wF hwF.symm
    clear r3 f3 hwF
    refine bodyPost_ret (v := .agg #[.int .i64 3, .int .i64 0, .string s, .int .i64 0, .slice none 0 0]) ?_ rfl ?_
    · simp [results, Tryz.results130, go_sem, rF]
    · exact hD
  by_cases h3 : x = 3
  · subst h3
    go_wp2_with (fail)
    refine (word N _ HC1.out).mono ?_
    rintro e w2 ⟨s, rfl, hs, hC2, hg2⟩
    have HC2 := Lib.hid hC2; have HG2 := Lib.hid hg2; clear hC2 hg2
    go_wp2_with (fail)
    refine (textV s _).mono ?_
    rintro e w3 ⟨rfl, hb3⟩
    obtain ⟨HC3, HG3, ER3⟩ := step w2 w3 0 0 ⟨#[]⟩ HC2.out HG2.out hb3
    obtain ⟨r3, f3⟩ := rowc ER3.out
    clear hb3 step
    go_wp2_with (fail)
    generalize hwF : ((((((w3).setCell ⟨w.heap.size, 0, none⟩ (.int .i64 3)).setCell ⟨w.heap.size, 1, none⟩ (.int .i64 0)).setCell ⟨w.heap.size, 2, none⟩ (.string s)).setCell ⟨w.heap.size, 3, none⟩ (.int .i64 0)).setCell ⟨w.heap.size, 4, none⟩ (.slice none 0 0)) = wF
    obtain ⟨rF, hD⟩ := DrawScal.of (k := 3) (n := 0) (s := s) ⟨by omega, by omega, by omega, by omega, hs⟩ hN0 HC3.out HG3.out ER3.out wF hwF.symm
    clear r3 f3 hwF
    refine bodyPost_ret (v := .agg #[.int .i64 3, .int .i64 0, .string s, .int .i64 0, .slice none 0 0]) ?_ rfl ?_
    · simp [results, Tryz.results130, go_sem, rF]
    · exact hD
  by_cases h4 : x = 4
  · subst h4
    have HI := Lib.hid (ints_new (-1000000000) 1000000000 w1 3 [0, 1, -1, 5, 10, 999999999, 1000000000, -1000000000] (by decide) N hN)
    go_wp2_with (fail)
    refine (pickInt (-1000000000) 1000000000 N w1.heap.size 8 8 (by omega) (by omega) _ (HC1.out.new _) HI.out).mono ?_
    rintro e w2 ⟨n, rfl, n0, n1, hC2, hg2⟩
    have HC2 := Lib.hid hC2; have HG2 := Lib.hid (only_trans (World.grownBy_alloc w1 _ (some N)) hg2); clear hC2 hg2
    go_wp2_with (fail)
    refine (intV n _).mono ?_
    rintro e w3 ⟨rfl, hb3⟩
    obtain ⟨HC3, HG3, ER3⟩ := step w2 w3 0 0 ⟨#[]⟩ HC2.out HG2.out hb3
    obtain ⟨r3, f3⟩ := rowc ER3.out
    clear hb3 step
    go_wp2_with (fail)
    generalize hwF : ((((((w3).setCell ⟨w.heap.size, 0, none⟩ (.int .i64 2)).setCell ⟨w.heap.size, 1, none⟩ (.int .i64 n)).setCell ⟨w.heap.size, 2, none⟩ (.string ⟨#[]⟩)).setCell ⟨w.heap.size, 3, none⟩ (.int .i64 0)).setCell ⟨w.heap.size, 4, none⟩ (.slice none 0 0)) = wF
    obtain ⟨rF, hD⟩ := DrawScal.of (k := 2) (n := n) (s := ⟨#[]⟩) ⟨by omega, by omega, n0, n1, by show (0 : Nat) ≤ 10; omega⟩ hN0 HC3.out HG3.out ER3.out wF hwF.symm
    clear r3 f3 hwF
    refine bodyPost_ret (v := .agg #[.int .i64 2, .int .i64 n, .string ⟨#[]⟩, .int .i64 0, .slice none 0 0]) ?_ rfl ?_
    · simp [results, Tryz.results130, go_sem, rF]
    · exact hD
  go_wp2_with (fail)
  refine (below N 20 (by omega) _ HC1.out).mono ?_
  rintro e w2 ⟨n, rfl, n0, n1, hC2, hg2⟩
  have HC2 := Lib.hid hC2; have HG2 := Lib.hid hg2; clear hC2 hg2
  have n2 : n ≤ 19 := by omega
  clear n1
  go_wp2_with (fail)
  refine (intV (n - 5) _).mono ?_
  rintro e w3 ⟨rfl, hb3⟩
  obtain ⟨HC3, HG3, ER3⟩ := step w2 w3 0 0 ⟨#[]⟩ HC2.out HG2.out hb3
  obtain ⟨r3, f3⟩ := rowc ER3.out
  clear hb3 step
  go_wp2_with (fail)
  generalize hwF : ((((((w3).setCell ⟨w.heap.size, 0, none⟩ (.int .i64 2)).setCell ⟨w.heap.size, 1, none⟩ (.int .i64 (n - 5))).setCell ⟨w.heap.size, 2, none⟩ (.string ⟨#[]⟩)).setCell ⟨w.heap.size, 3, none⟩ (.int .i64 0)).setCell ⟨w.heap.size, 4, none⟩ (.slice none 0 0)) = wF
  obtain ⟨rF, hD⟩ := DrawScal.of (k := 2) (n := (n - 5)) (s := ⟨#[]⟩) ⟨by omega, by omega, by omega, by omega, by show (0 : Nat) ≤ 10; omega⟩ hN0 HC3.out HG3.out ER3.out wF hwF.symm
  clear r3 f3 hwF
  refine bodyPost_ret (v := .agg #[.int .i64 2, .int .i64 (n - 5), .string ⟨#[]⟩, .int .i64 0, .slice none 0 0]) ?_ rfl ?_
  · simp [results, Tryz.results130, go_sem, rF]
  · exact hD

end Go.Proofs.YtdglmnmalfpipaaGreatDoor.draw

