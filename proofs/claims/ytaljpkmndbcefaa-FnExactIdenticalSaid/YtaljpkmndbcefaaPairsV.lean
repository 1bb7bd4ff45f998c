/-
  What going through two arrays by places decides: whether they are identical.
  Conditions: those that each theorem names.
-/
import Derived.Test.YtaljpkmndbcefaaPend
namespace Go.Proofs.Ytaljpkmndbcefaa.tree
open Go.ChangeShapes Go.WideShapes Go.ChangeAt Go.RowKit
set_option linter.unusedVariables false

instance : DecidableEq Ky := fun a b =>
  match a, b with
  | ⟨t, n, s⟩, ⟨t', n', s'⟩ => if h : t = t' ∧ n = n' ∧ s.data.toList = s'.data.toList then .isTrue (by
      obtain ⟨rfl, rfl, h⟩ := h
      obtain ⟨⟨s⟩⟩ := s
      obtain ⟨⟨s'⟩⟩ := s'
      simp at h
      subst h
      rfl) else .isFalse (fun e => h (by cases e; exact ⟨rfl, rfl, rfl⟩))

/-- Kind, Num, Str and the number of items. -/
def alikeB (t t' : Tr) : Bool :=
  match t, t' with
  | .mk k n s _ _ vs, .mk k' n' s' _ _ vs' => decide (k = k') && (decide (n = n') && (decide (s.data.toList = s'.data.toList) && decide (vs.length = vs'.length)))
mutual
def identB : Tr → Tr → Bool
  | .mk k n s _ ks vs, .mk k' n' s' _ ks' vs' => (decide (k = k') && (decide (n = n') && (decide (s.data.toList = s'.data.toList) && decide (vs.length = vs'.length)))) && identL ks vs ks' vs'
def identL : List Ky → List Tr → List Ky → List Tr → Bool
  | y :: ks, t :: vs, y' :: ks', t' :: vs' => (decide (y = y') && identB t t') && identL ks vs ks' vs'
  | _, _, _, _ => true
end

abbrev It := (Ky × Tr) × (Ky × Tr)
def zz (ks : List Ky) (vs : List Tr) (ks' : List Ky) (vs' : List Tr) : List It := (ks.zip vs).zip (ks'.zip vs')
theorem identL_iff : ∀ (ks : List Ky) (vs : List Tr) (ks' : List Ky) (vs' : List Tr), identL ks vs ks' vs' = true ↔ ∀ it ∈ zz ks vs ks' vs', it.1.1 = it.2.1 ∧ identB it.1.2 it.2.2 = true
  | y :: ks, t :: vs, y' :: ks', t' :: vs' => by
    have ih := identL_iff ks vs ks' vs'
    rw [identL, Bool.and_eq_true, Bool.and_eq_true, ih]
    simp [zz]
  | [], _, _, _ => by simp [identL, zz]
  | _ :: _, [], _, _ => by simp [identL, zz]
  | _ :: _, _ :: _, [], _ => by simp [identL, zz]
  | _ :: _, _ :: _, _ :: _, [] => by simp [identL, zz]
theorem identB_mk (k n : Int) (s : ByteArray) (x : Int) (ks : List Ky) (vs : List Tr) (k' n' : Int) (s' : ByteArray) (x' : Int) (ks' : List Ky) (vs' : List Tr) :
    identB (.mk k n s x ks vs) (.mk k' n' s' x' ks' vs') = (alikeB (.mk k n s x ks vs) (.mk k' n' s' x' ks' vs') && identL ks vs ks' vs') := by rw [identB]; rfl
theorem zz_drop (ks : List Ky) (vs : List Tr) (ks' : List Ky) (vs' : List Tr) {j : Nat} {y y' : Ky} {t t' : Tr} (h1 : ks[j]? = some y) (h2 : vs[j]? = some t) (h3 : ks'[j]? = some y') (h4 : vs'[j]? = some t') :
    (zz ks vs ks' vs').drop j = ((y, t), (y', t')) :: (zz ks vs ks' vs').drop (j + 1) := by
  have e : (zz ks vs ks' vs')[j]? = some ((y, t), (y', t')) := by simp [zz, List.getElem?_zip_eq_some, h1, h2, h3, h4]
  obtain ⟨hj, e1⟩ := List.getElem?_eq_some_iff.1 e
  rw [List.drop_eq_getElem_cons hj, e1]
theorem zz_len {ks : List Ky} {vs : List Tr} {ks' : List Ky} {vs' : List Tr} (h : ks.length = vs.length) (h' : ks'.length = vs'.length) (hl : vs.length = vs'.length) : (zz ks vs ks' vs').length = vs.length := by
  simp [zz]
  omega

/-- Two places as one key. -/
def pq (x y : Value) : Value := .agg (x.cells ++ y.cells)
theorem plc_form (A : Option Addr) (n : Nat) : ∃ p m, plc A n = .agg #[.pointer p, .int .i64 m] := by
  unfold plc
  split
  · exact ⟨_, _, rfl⟩
  · exact ⟨_, _, rfl⟩
theorem pq_inj {A A' C C' : Option Addr} {n n' m m' : Nat} (h : pq (plc A n) (plc C m) = pq (plc A' n') (plc C' m')) : plc A n = plc A' n' ∧ plc C m = plc C' m' := by
  obtain ⟨a1, b1, e1⟩ := plc_form A n
  obtain ⟨a2, b2, e2⟩ := plc_form C m
  obtain ⟨a3, b3, e3⟩ := plc_form A' n'
  obtain ⟨a4, b4, e4⟩ := plc_form C' m'
  rw [e1, e2, e3, e4] at h ⊢
  simp [pq, Value.cells] at h
  obtain ⟨rfl, rfl, rfl, rfl⟩ := h
  exact ⟨rfl, rfl⟩

/-- Two lists that are still to be gone through. -/
structure Pair where
  a : Pend
  b : Pend
def Pair.z (l : Pair) : List It := zz l.a.ks l.a.vs l.b.ks l.b.vs
def Pair.cells (l : Pair) : List Value := [l.a.cell, l.b.cell]
structure PairOk (B : Nat) (w : World) (l : Pair) : Prop where
  a : PendOk B w l.a
  b : PendOk B w l.b
  len : l.a.vs.length = l.b.vs.length

def Seen2 (B : Nat) (w : World) (e : Value → Option Value) (it : It) : Prop :=
  it.1.1 = it.2.1 ∧ alikeB it.1.2 it.2.2 = true ∧ ∃ k n s x ks vs k' n' s' x' ks' vs', it.1.2 = .mk k n s x ks vs ∧ it.2.2 = .mk k' n' s' x' ks' vs' ∧ ∃ p q, PlB B w p ks vs ∧ PlB B w q ks' vs' ∧ e (pq p q) ≠ none
def Done2 (B : Nat) (w : World) (P : List Pair) (rz : List It) (e : Value → Option Value) (z : List It) : Prop := (∃ l ∈ P, l.z = z) ∨ ∀ it ∈ z, Seen2 B w e it ∨ it ∈ rz
def okZ (z : List It) : Prop := ∀ it ∈ z, it.1.1 = it.2.1 ∧ identB it.1.2 it.2.2 = true
structure ISt (T T' : Tr) (B : Nat) (w : World) (P : List Pair) (rz : List It) (e : Value → Option Value) : Prop where
  ok : ∀ l ∈ P, PairOk B w l
  ens : ∀ v b, e v = some b → b = .bool true ∧ ∃ p q ks vs ks' vs', v = pq p q ∧ PlB B w p ks vs ∧ PlB B w q ks' vs' ∧ Done2 B w P rz e (zz ks vs ks' vs')
  root : ∃ y, Done2 B w P rz e [((y, T), (y, T'))]
  down : identB T T' = true → (∀ l ∈ P, okZ l.z) ∧ okZ rz

def lefts2 : List Pair → Nat
  | [] => 0
  | l :: P => 1 + wks l.a.vs + lefts2 P
theorem lefts2_len : ∀ P : List Pair, P.length ≤ lefts2 P
  | [] => Nat.le_refl _
  | l :: P => by have := lefts2_len P; rw [lefts2, List.length_cons]; omega

section
variable {T T' : Tr} {B : Nat} {w w' : World} {P : List Pair} {rz : List It} {e : Value → Option Value}
theorem Seen2.kp (hk : Kp B w w') {it : It} (h : Seen2 B w e it) : Seen2 B w' e it := by
  obtain ⟨h1, h2, k, n, s, x, ks, vs, k', n', s', x', ks', vs', e1, e2, p, q, h3, h4, h5⟩ := h
  exact ⟨h1, h2, k, n, s, x, ks, vs, k', n', s', x', ks', vs', e1, e2, p, q, h3.kp hk, h4.kp hk, h5⟩
theorem Done2.kp (hk : Kp B w w') {z : List It} (h : Done2 B w P rz e z) : Done2 B w' P rz e z := h.imp id fun h x hx => (h x hx).imp (fun h => h.kp hk) id
theorem ISt.kp (hk : Kp B w w') (h : ISt T T' B w P rz e) : ISt T T' B w' P rz e where
  ok := fun l hl => ⟨⟨(h.ok l hl).a.isin.kp hk, (h.ok l hl).a.cap⟩, ⟨(h.ok l hl).b.isin.kp hk, (h.ok l hl).b.cap⟩, (h.ok l hl).len⟩
  ens := fun v b hv => by
    obtain ⟨hb, p, q, ks, vs, ks', vs', e1, h1, h2, h3⟩ := h.ens v b hv
    exact ⟨hb, p, q, ks, vs, ks', vs', e1, h1.kp hk, h2.kp hk, h3.kp hk⟩
  root := by
    obtain ⟨y, h⟩ := h.root
    exact ⟨y, h.kp hk⟩
  down := h.down
theorem ISt.pop {l : Pair} (h : ISt T T' B w (l :: P) [] e) : ISt T T' B w P l.z e := by
  have step : ∀ {z : List It}, Done2 B w (l :: P) [] e z → Done2 B w P l.z e z := fun {z} hd => by
    rcases hd with ⟨l', hl, rfl⟩ | hd
    · rcases List.mem_cons.1 hl with rfl | hl
      · exact .inr fun x hx => .inr hx
      · exact .inl ⟨l', hl, rfl⟩
    · exact .inr fun x hx => .inl ((hd x hx).resolve_right (by simp))
  refine ⟨fun l' hl => h.ok l' (List.mem_cons_of_mem _ hl), fun v b hv => ?_, ?_, fun hT => ⟨fun l' hl => (h.down hT).1 l' (List.mem_cons_of_mem _ hl), (h.down hT).1 l List.mem_cons_self⟩⟩
  · obtain ⟨hb, p, q, ks, vs, ks', vs', e1, h1, h2, h3⟩ := h.ens v b hv
    exact ⟨hb, p, q, ks, vs, ks', vs', e1, h1, h2, step h3⟩
  · obtain ⟨y, h⟩ := h.root
    exact ⟨y, step h⟩
theorem ISt.next {it : It} (h : ISt T T' B w P (it :: rz) e) (hx : Seen2 B w e it) : ISt T T' B w P rz e := by
  have step : ∀ {z : List It}, Done2 B w P (it :: rz) e z → Done2 B w P rz e z := fun {z} hd => hd.imp id fun hd y hy => by
    rcases hd y hy with h | h
    · exact .inl h
    · rcases List.mem_cons.1 h with rfl | h
      · exact .inl hx
      · exact .inr h
  refine ⟨h.ok, fun v b hv => ?_, ?_, fun hT => ⟨(h.down hT).1, fun i hi => (h.down hT).2 i (List.mem_cons_of_mem _ hi)⟩⟩
  · obtain ⟨hb, p, q, ks, vs, ks', vs', e1, h1, h2, h3⟩ := h.ens v b hv
    exact ⟨hb, p, q, ks, vs, ks', vs', e1, h1, h2, step h3⟩
  · obtain ⟨y, h⟩ := h.root
    exact ⟨y, step h⟩
theorem ISt.enter {y : Ky} {k n x k' n' x' : Int} {s s' : ByteArray} {l : Pair} (h : ISt T T' B w P (((y, .mk k n s x l.a.ks l.a.vs), (y, .mk k' n' s' x' l.b.ks l.b.vs)) :: rz) e)
    (hal : alikeB (.mk k n s x l.a.ks l.a.vs) (.mk k' n' s' x' l.b.ks l.b.vs) = true) (hl : PairOk B w l) :
    ISt T T' B w (l :: P) rz (raw.put e (pq (plc l.a.R l.a.vs.length) (plc l.b.R l.b.vs.length)) (.bool true)) := by
  have hp : PlB B w (plc l.a.R l.a.vs.length) l.a.ks l.a.vs := ⟨l.a.R, hl.a.isin, rfl⟩
  have hq : PlB B w (plc l.b.R l.b.vs.length) l.b.ks l.b.vs := ⟨l.b.R, hl.b.isin, rfl⟩
  generalize hK : pq (plc l.a.R l.a.vs.length) (plc l.b.R l.b.vs.length) = K
  have more : ∀ q, e q ≠ none → raw.put e K (.bool true) q ≠ none := fun q hq => by
    by_cases e1 : q = K
    · rw [e1, raw.put_same]; simp
    · rw [raw.put_other e1]; exact hq
  have seen : ∀ it, Seen2 B w e it → Seen2 B w (raw.put e K (.bool true)) it := fun it hy => by
    obtain ⟨h1, h2, k, n, s, x, ks, vs, k', n', s', x', ks', vs', e1, e2, p, q, h3, h4, h5⟩ := hy
    exact ⟨h1, h2, k, n, s, x, ks, vs, k', n', s', x', ks', vs', e1, e2, p, q, h3, h4, more _ h5⟩
  have step : ∀ {z : List It}, Done2 B w P (((y, .mk k n s x l.a.ks l.a.vs), (y, .mk k' n' s' x' l.b.ks l.b.vs)) :: rz) e z → Done2 B w (l :: P) rz (raw.put e K (.bool true)) z := fun {z} hd => by
    rcases hd with ⟨l', hl', rfl⟩ | hd
    · exact .inl ⟨l', List.mem_cons_of_mem _ hl', rfl⟩
    · refine .inr fun i hi => ?_
      rcases hd i hi with h | h
      · exact .inl (seen i h)
      · rcases List.mem_cons.1 h with rfl | h
        · exact .inl ⟨rfl, hal, _, _, _, _, _, _, _, _, _, _, _, _, rfl, rfl, _, _, hp, hq, by rw [hK, raw.put_same]; simp⟩
        · exact .inr h
  refine ⟨fun l' hl' => ?_, fun v b hv => ?_, ?_, fun hT => ?_⟩
  · rcases List.mem_cons.1 hl' with rfl | hl'
    · exact hl
    · exact h.ok l' hl'
  · by_cases e1 : v = K
    · subst e1
      rw [raw.put_same] at hv
      exact ⟨(Option.some.inj hv).symm, _, _, _, _, _, _, hK.symm, hp, hq, .inl ⟨l, List.mem_cons_self, rfl⟩⟩
    · rw [raw.put_other e1] at hv
      obtain ⟨hb, p, q, ks, vs, ks', vs', e1, h1, h2, h3⟩ := h.ens v b hv
      exact ⟨hb, p, q, ks, vs, ks', vs', e1, h1, h2, step h3⟩
  · obtain ⟨y, h⟩ := h.root
    exact ⟨y, step h⟩
  · have hd := (h.down hT).2 _ List.mem_cons_self
    rw [show identB _ _ = _ from identB_mk k n s x l.a.ks l.a.vs k' n' s' x' l.b.ks l.b.vs, Bool.and_eq_true, identL_iff] at hd
    refine ⟨fun l' hl' => ?_, fun i hi => (h.down hT).2 i (List.mem_cons_of_mem _ hi)⟩
    rcases List.mem_cons.1 hl' with rfl | hl'
    · exact hd.2.2
    · exact (h.down hT).1 l' hl'
theorem ISt.bad {it : It} (h : ISt T T' B w P (it :: rz) e) (hk : ¬ (it.1.1 = it.2.1 ∧ alikeB it.1.2 it.2.2 = true)) : identB T T' = false := by
  cases hT : identB T T' with
  | false => rfl
  | true =>
    have := (h.down hT).2 it List.mem_cons_self
    refine absurd ⟨this.1, ?_⟩ hk
    obtain ⟨⟨y, t⟩, ⟨y', t'⟩⟩ := it
    obtain ⟨k, n, s, x, ks, vs⟩ := t
    obtain ⟨k', n', s', x', ks', vs'⟩ := t'
    have h2 := this.2
    rw [show identB _ _ = _ from identB_mk k n s x ks vs k' n' s' x' ks' vs', Bool.and_eq_true] at h2
    exact h2.1
theorem zz_cnt {ks : List Ky} {vs : List Tr} {ks' : List Ky} {vs' : List Tr} {it : It} (h : it ∈ zz ks vs ks' vs') : cnt it.1.2 ≤ cnts vs := by
  have h1 := (List.of_mem_zip (show (it.1, it.2) ∈ _ from h)).1
  have h2 := (List.of_mem_zip (show (it.1.1, it.1.2) ∈ _ from h1)).2
  clear h h1
  induction vs with
  | nil => cases h2
  | cons u vs ih =>
    rw [cnts_cons]
    rcases List.mem_cons.1 h2 with h | h
    · rw [h]; omega
    · have := ih h; omega
theorem ISt.fine (h : ISt T T' B w [] [] e) : identB T T' = true := by
  have all : ∀ m (it : It), cnt it.1.2 ≤ m → Seen2 B w e it → identB it.1.2 it.2.2 = true := by
    intro m
    induction m with
    | zero => intro it hm; obtain ⟨⟨y, t⟩, z⟩ := it; cases t; simp only [cnt_mk] at hm; omega
    | succ m ih =>
      intro it hm hx
      obtain ⟨h1, h2, k, n, s, x, ks, vs, k', n', s', x', ks', vs', e1, e2, p, q, h3, h4, h5⟩ := hx
      rw [e1, e2] at h2 ⊢
      rw [e1, cnt_mk] at hm
      rw [identB_mk, h2, Bool.true_and, identL_iff]
      obtain ⟨b, hb⟩ := Option.ne_none_iff_exists'.1 h5
      obtain ⟨-, p2, q2, ks2, vs2, ks2', vs2', epq, g1, g2, hd⟩ := h.ens _ b hb
      have hpq : p = p2 ∧ q = q2 := by
        obtain ⟨A1, _, rfl⟩ := h3
        obtain ⟨A2, _, rfl⟩ := h4
        obtain ⟨A3, _, rfl⟩ := g1
        obtain ⟨A4, _, rfl⟩ := g2
        exact pq_inj epq
      obtain ⟨rfl, rfl⟩ := hpq
      obtain ⟨rfl, rfl⟩ := h3.is.unique g1.is
      obtain ⟨rfl, rfl⟩ := h4.is.unique g2.is
      intro i hi
      rcases hd with ⟨l, hl, _⟩ | hd
      · cases hl
      · have hs := (hd i hi).resolve_right (by simp)
        have hc := zz_cnt hi
        exact ⟨hs.1, ih i (by omega) hs⟩
  obtain ⟨y, hr⟩ := h.root
  rcases hr with ⟨l, hl, _⟩ | hd
  · cases hl
  · exact all _ ((y, T), (y, T')) (Nat.le_refl _) ((hd _ (by simp)).resolve_right (by simp))
end

end Go.Proofs.Ytaljpkmndbcefaa.tree
