/-
  What going through an array by places decides: whether all that is in it is plain.
  Conditions: those that each theorem names.
-/
import Derived.Test.YteiijemjofaihaaDoorMeasure
import Derived.Test.YteiijemjofaihaaDoorStack
namespace Go.Proofs.YteiijemjofaihaaDoor.tree
open Go.ChangeShapes Go.WideShapes Go.ChangeAt Go.RowKit
set_option linter.unusedVariables false

mutual
def plainB : Tr → Bool
  | .mk k _ _ _ _ vs => (decide (0 ≤ k) && decide (k ≤ 3)) || (decide (k = 4) && plainL vs)
def plainL : List Tr → Bool
  | [] => true
  | t :: vs => plainB t && plainL vs
end
theorem plainL_cons (t : Tr) (vs : List Tr) : plainL (t :: vs) = (plainB t && plainL vs) := by rw [plainL]
theorem plainL_mem : ∀ {vs : List Tr}, plainL vs = true ↔ ∀ t ∈ vs, plainB t = true
  | [] => by rw [plainL]; simp
  | t :: vs => by rw [plainL_cons, Bool.and_eq_true, plainL_mem]; simp
theorem plain_kind {k n : Int} {s : ByteArray} {x : Int} {ks : List Ky} {vs : List Tr} (h : plainB (.mk k n s x ks vs) = true) : 0 ≤ k ∧ k ≤ 4 := by
  rw [plainB] at h
  simp at h
  omega
theorem plain_items {n : Int} {s : ByteArray} {x : Int} {ks : List Ky} {vs : List Tr} : plainB (.mk 4 n s x ks vs) = plainL vs := by
  rw [plainB]
  simp
theorem plain_other {k n : Int} {s : ByteArray} {x : Int} {ks : List Ky} {vs : List Tr} (h0 : 0 ≤ k) (h4 : k ≤ 4) (h : k ≠ 4) : plainB (.mk k n s x ks vs) = true := by
  rw [plainB]
  simp
  omega

/-- A value that has been looked at, and its array, if it is one, has been entered. -/
def Seen (B : Nat) (w : World) (e : Value → Option Value) : Tr → Prop
  | .mk k _ _ _ ks vs => (0 ≤ k ∧ k ≤ 4) ∧ (k = 4 → ∃ p, PlB B w p ks vs ∧ e p ≠ none)
def Done (B : Nat) (w : World) (P : List Pend) (rs : List Tr) (e : Value → Option Value) (vs : List Tr) : Prop := (∃ l ∈ P, l.vs = vs) ∨ ∀ x ∈ vs, Seen B w e x ∨ x ∈ rs
structure PSt (T : Tr) (B : Nat) (w : World) (P : List Pend) (rs : List Tr) (e : Value → Option Value) : Prop where
  ok : ∀ l ∈ P, PendOk B w l
  ens : ∀ p b, e p = some b → b = .bool true ∧ ∃ ks vs, PlB B w p ks vs ∧ Done B w P rs e vs
  root : Done B w P rs e [T]
  down : plainB T = true → (∀ l ∈ P, plainL l.vs = true) ∧ plainL rs = true

section
variable {T : Tr} {B : Nat} {w w' : World} {P : List Pend} {rs : List Tr} {e : Value → Option Value}
theorem Seen.kp (hk : Kp B w w') {x : Tr} (h : Seen B w e x) : Seen B w' e x := by
  cases x
  exact ⟨h.1, fun h4 => by obtain ⟨p, h1, h2⟩ := h.2 h4; exact ⟨p, h1.kp hk, h2⟩⟩
theorem Done.kp (hk : Kp B w w') {vs : List Tr} (h : Done B w P rs e vs) : Done B w' P rs e vs := h.imp id fun h x hx => (h x hx).imp (fun h => h.kp hk) id
theorem PSt.kp (hk : Kp B w w') (h : PSt T B w P rs e) : PSt T B w' P rs e where
  ok := fun l hl => ⟨(h.ok l hl).isin.kp hk, (h.ok l hl).cap⟩
  ens := fun p b hp => by
    obtain ⟨hb, ks, vs, h1, h2⟩ := h.ens p b hp
    exact ⟨hb, ks, vs, h1.kp hk, h2.kp hk⟩
  root := h.root.kp hk
  down := h.down

/-- The last list is taken. -/
theorem PSt.pop {l : Pend} (h : PSt T B w (l :: P) [] e) : PSt T B w P l.vs e := by
  have step : ∀ {vs : List Tr}, Done B w (l :: P) [] e vs → Done B w P l.vs e vs := fun {vs} hd => by
    rcases hd with ⟨l', hl, rfl⟩ | hd
    · rcases List.mem_cons.1 hl with rfl | hl
      · exact .inr fun x hx => .inr hx
      · exact .inl ⟨l', hl, rfl⟩
    · exact .inr fun x hx => .inl ((hd x hx).resolve_right (by simp))
  exact ⟨fun l' hl => h.ok l' (List.mem_cons_of_mem _ hl), fun p b hp => by
    obtain ⟨hb, ks, vs, h1, h2⟩ := h.ens p b hp
    exact ⟨hb, ks, vs, h1, step h2⟩, step h.root, fun hT => ⟨fun l' hl => (h.down hT).1 l' (List.mem_cons_of_mem _ hl), (h.down hT).1 l List.mem_cons_self⟩⟩

/-- A value that needs no more. -/
theorem PSt.next {x : Tr} (h : PSt T B w P (x :: rs) e) (hx : Seen B w e x) : PSt T B w P rs e := by
  have step : ∀ {vs : List Tr}, Done B w P (x :: rs) e vs → Done B w P rs e vs := fun {vs} hd => hd.imp id fun hd y hy => by
    rcases hd y hy with h | h
    · exact .inl h
    · rcases List.mem_cons.1 h with rfl | h
      · exact .inl hx
      · exact .inr h
  exact ⟨h.ok, fun p b hp => by
    obtain ⟨hb, ks, vs, h1, h2⟩ := h.ens p b hp
    exact ⟨hb, ks, vs, h1, step h2⟩, step h.root, fun hT => ⟨(h.down hT).1, by have := (h.down hT).2; rw [plainL_cons, Bool.and_eq_true] at this; exact this.2⟩⟩

/-- An array that is entered. -/
theorem PSt.enter {n : Int} {s : ByteArray} {x : Int} {l : Pend} (h : PSt T B w P (.mk 4 n s x l.ks l.vs :: rs) e) (hl : PendOk B w l) :
    PSt T B w (l :: P) rs (raw.put e (plc l.R l.vs.length) (.bool true)) := by
  have hp : PlB B w (plc l.R l.vs.length) l.ks l.vs := ⟨l.R, hl.isin, rfl⟩
  have more : ∀ q, e q ≠ none → raw.put e (plc l.R l.vs.length) (.bool true) q ≠ none := fun q hq => by
    by_cases e1 : q = plc l.R l.vs.length
    · rw [e1, raw.put_same]; simp
    · rw [raw.put_other e1]; exact hq
  have seen : ∀ y, Seen B w e y → Seen B w (raw.put e (plc l.R l.vs.length) (.bool true)) y := fun y hy => by
    cases y
    exact ⟨hy.1, fun h4 => by obtain ⟨p, h1, h2⟩ := hy.2 h4; exact ⟨p, h1, more p h2⟩⟩
  have step : ∀ {vs : List Tr}, Done B w P (.mk 4 n s x l.ks l.vs :: rs) e vs → Done B w (l :: P) rs (raw.put e (plc l.R l.vs.length) (.bool true)) vs := fun {vs} hd => by
    rcases hd with ⟨l', hl', rfl⟩ | hd
    · exact .inl ⟨l', List.mem_cons_of_mem _ hl', rfl⟩
    · refine .inr fun y hy => ?_
      rcases hd y hy with h | h
      · exact .inl (seen y h)
      · rcases List.mem_cons.1 h with rfl | h
        · exact .inl ⟨⟨by omega, by omega⟩, fun _ => ⟨_, hp, by rw [raw.put_same]; simp⟩⟩
        · exact .inr h
  refine ⟨fun l' hl' => ?_, fun q b hq => ?_, step h.root, fun hT => ?_⟩
  · rcases List.mem_cons.1 hl' with rfl | hl'
    · exact hl
    · exact h.ok l' hl'
  · by_cases e1 : q = plc l.R l.vs.length
    · subst e1
      rw [raw.put_same] at hq
      exact ⟨(Option.some.inj hq).symm, l.ks, l.vs, hp, .inl ⟨l, List.mem_cons_self, rfl⟩⟩
    · rw [raw.put_other e1] at hq
      obtain ⟨hb, ks, vs, h1, h2⟩ := h.ens q b hq
      exact ⟨hb, ks, vs, h1, step h2⟩
  · have := (h.down hT).2
    rw [plainL_cons, Bool.and_eq_true, plain_items] at this
    refine ⟨fun l' hl' => ?_, this.2⟩
    rcases List.mem_cons.1 hl' with rfl | hl'
    · exact this.1
    · exact (h.down hT).1 l' hl'

/-- A value that is not plain. -/
theorem PSt.bad {k n : Int} {s : ByteArray} {x : Int} {ks : List Ky} {vs : List Tr} (h : PSt T B w P (.mk k n s x ks vs :: rs) e) (hk : ¬ (0 ≤ k ∧ k ≤ 4)) : plainB T = false := by
  cases hT : plainB T with
  | false => rfl
  | true =>
    have := (h.down hT).2
    rw [plainL_cons, Bool.and_eq_true] at this
    exact absurd (plain_kind this.1) hk

/-- Nothing is left: all is plain. -/
theorem PSt.fine (h : PSt T B w [] [] e) : plainB T = true := by
  have all : ∀ m x, cnt x ≤ m → Seen B w e x → plainB x = true := by
    intro m
    induction m with
    | zero => intro x hm; cases x; rw [cnt_mk] at hm; omega
    | succ m ih =>
      intro x hm hx
      obtain ⟨k, n, s, x, ks, vs⟩ := x
      by_cases h4 : k = 4
      · subst h4
        rw [plain_items, plainL_mem]
        obtain ⟨p, hp, hne⟩ := hx.2 rfl
        obtain ⟨b, hb⟩ := Option.ne_none_iff_exists'.1 hne
        obtain ⟨-, ks', vs', hp', hd⟩ := h.ens p b hb
        obtain ⟨-, rfl⟩ := hp'.is.unique hp.is
        intro y hy
        rcases hd with ⟨l, hl, _⟩ | hd
        · cases hl
        · refine ih y ?_ ((hd y hy).resolve_right (by simp))
          have : cnt y ≤ cnts vs' := by
            clear hd hp hp' hx ih
            induction vs' with
            | nil => cases hy
            | cons u vs ih2 =>
              rw [cnts_cons]
              rcases List.mem_cons.1 hy with rfl | hy
              · omega
              · have := ih2 (by rw [cnt_mk] at hm ⊢; rw [cnts_cons] at hm; omega) hy
                omega
          rw [cnt_mk] at hm
          omega
      · exact plain_other hx.1.1 hx.1.2 h4
  rcases h.root with ⟨l, hl, _⟩ | hd
  · cases hl
  · exact all _ T (Nat.le_refl _) ((hd T (by simp)).resolve_right (by simp))
end

end Go.Proofs.YteiijemjofaihaaDoor.tree
