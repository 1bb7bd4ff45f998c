/-
  What measuring an array by places computes: sizes, the stack of arrays, and what is known of places.
  Conditions: those that each theorem names.
-/
import Derived.Test.YtlbkbcafkjgckaaPlace
namespace Go.Proofs.Ytlbkbcafkjgckaa.tree
open Go.ChangeShapes Go.WideShapes Go.ChangeAt Go.RowKit
set_option linter.unusedVariables false

mutual
/-- The size of a value: si for what is no array, else 1 more than its items' sizes joined. -/
def sz (si : Int) (J : Int → Int → Int) : Tr → Int
  | .mk k _ _ _ _ vs => if k = 4 then 1 + szl si J vs 0 else si
def szl (si : Int) (J : Int → Int → Int) : List Tr → Int → Int
  | [], a => a
  | t :: vs, a => szl si J vs (J a (sz si J t))
end

structure Join (si : Int) (J : Int → Int → Int) : Prop where
  lo : 0 ≤ si
  hi : si ≤ 1
  bd : ∀ a b, 0 ≤ a → 0 ≤ b → 0 ≤ J a b ∧ J a b ≤ a + b
  zero : ∀ b, 0 ≤ b → J 0 b = b

section
variable {si : Int} {J : Int → Int → Int}
theorem sz_four (n : Int) (s : ByteArray) (x : Int) (ks : List Ky) (vs : List Tr) : sz si J (.mk 4 n s x ks vs) = 1 + szl si J vs 0 := by rw [sz, if_pos rfl]
theorem sz_not {k n : Int} {s : ByteArray} {x : Int} {ks : List Ky} {vs : List Tr} (h : k ≠ 4) : sz si J (.mk k n s x ks vs) = si := by rw [sz, if_neg h]
theorem szl_nil (a : Int) : szl si J [] a = a := by rw [szl]
theorem szl_cons (t : Tr) (vs : List Tr) (a : Int) : szl si J (t :: vs) a = szl si J vs (J a (sz si J t)) := by rw [szl]
mutual
theorem sz_bd (h : Join si J) : ∀ t, 0 ≤ sz si J t ∧ sz si J t ≤ cnt t
  | .mk k _ _ _ _ vs => by
    have := szl_bd h vs 0 (Int.le_refl _)
    have h1 := h.lo
    have h2 := h.hi
    rw [sz, cnt]
    split <;> constructor <;> push_cast <;> omega
theorem szl_bd (h : Join si J) : ∀ (vs : List Tr) (a : Int), 0 ≤ a → 0 ≤ szl si J vs a ∧ szl si J vs a ≤ a + cnts vs
  | [], a, ha => by rw [szl, cnts]; exact ⟨ha, by omega⟩
  | t :: vs, a, ha => by
    have h1 := sz_bd h t
    have h2 := h.bd a (sz si J t) ha h1.1
    have h3 := szl_bd h vs (J a (sz si J t)) h2.1
    rw [szl, cnts]
    exact ⟨h3.1, by push_cast; omega⟩
end
end

mutual
/-- How many rounds a value takes at most. -/
def wk : Tr → Nat
  | .mk _ _ _ _ _ vs => 3 + wks vs
def wks : List Tr → Nat
  | [] => 0
  | t :: vs => wk t + wks vs
end
theorem wks_cons (t : Tr) (vs : List Tr) : wks (t :: vs) = wk t + wks vs := by rw [wks]
theorem wk_mk (k n : Int) (s : ByteArray) (x : Int) (ks : List Ky) (vs : List Tr) : wk (.mk k n s x ks vs) = 3 + wks vs := by rw [wk]
theorem wk_pos (t : Tr) : 3 ≤ wk t := by cases t; rw [wk]; omega
theorem cnt_mk (k n : Int) (s : ByteArray) (x : Int) (ks : List Ky) (vs : List Tr) : cnt (.mk k n s x ks vs) = 1 + cnts vs := by rw [cnt]
theorem cnts_cons (t : Tr) (vs : List Tr) : cnts (t :: vs) = cnt t + cnts vs := by rw [cnts]

/-! ### blocks that stay -/
def Lo (B : Nat) (w : World) (b : Nat) : Prop := b < B ∧ Plain w b
/-- Every plain block below B stays. -/
def Kp (B : Nat) (w w' : World) : Prop := ∀ b, b < B → Plain w b → w'.heap[b]? = w.heap[b]?
section
variable {B : Nat} {w w' w2 : World}
theorem Lo.kp (hk : Kp B w w') {b : Nat} (h : Lo B w b) : Lo B w' b := by
  obtain ⟨h1, cs, t, h2⟩ := h
  exact ⟨h1, cs, t, (hk b h1 ⟨cs, t, h2⟩).trans h2⟩
theorem Kp.refl (B : Nat) (w : World) : Kp B w w := fun _ _ _ => rfl
theorem Kp.trans (h : Kp B w w') (k : Kp B w' w2) : Kp B w w2 := fun b hb hp => (k b hb (Lo.kp h ⟨hb, hp⟩).2).trans (h b hb hp)
theorem Kp.below (h : Below w.heap.size w w') : Kp B w w' := fun b _ hp => h.block b hp.lt
theorem Kp.set (w : World) {g : Nat} (hg : B ≤ g) (j : Nat) (v : Value) : Kp B w (w.setCell ⟨g, j, none⟩ v) := fun b hb _ => set_other (by omega)
theorem Kp.grown {row : Option Nat} (h : w.grownBy w' row) (hr : ∀ k, row = some k → B ≤ k ∨ ¬ Plain w k) : Kp B w w' := fun b hb hp => h.block b hp.lt (fun e => by
  rcases hr b e.symm with h | h
  · omega
  · exact h hp)
theorem TIn.kp (hk : Kp B w w') {t : Tr} {v : Value} (h : TIn w (Lo B w) t v) : TIn w' (Lo B w') t v := h.stays (fun b hb => hb.kp hk) (fun b hb _ => hk b hb.1 hb.2)
theorem IsIn.kp (hk : Kp B w w') {ks : List Ky} {vs : List Tr} {A : Option Addr} (h : IsIn w (Lo B w) ks vs A) : IsIn w' (Lo B w') ks vs A := h.stays (fun b hb => hb.kp hk) (fun b hb _ => hk b hb.1 hb.2)

/-- At the place p lies the list, below B. -/
def PlB (B : Nat) (w : World) (p : Value) (ks : List Ky) (vs : List Tr) : Prop := ∃ A : Option Addr, IsIn w (Lo B w) ks vs A ∧ p = plc A vs.length
theorem PlB.is {p : Value} {ks : List Ky} {vs : List Tr} (h : PlB B w p ks vs) : PlIs w p ks vs := by
  obtain ⟨A, h1, h2⟩ := h
  exact ⟨_, A, h1, h2⟩
theorem PlB.kp (hk : Kp B w w') {p : Value} {ks : List Ky} {vs : List Tr} (h : PlB B w p ks vs) : PlB B w' p ks vs := by
  obtain ⟨A, h1, h2⟩ := h
  exact ⟨A, h1.kp hk, h2⟩
/-- A key of a map of places below B. -/
def GB (B : Nat) (w : World) (x : Value) : Prop := ∃ (p : Option Addr) (n : Int), x = .agg #[.pointer p, .int .i64 n] ∧ ∀ a, p = some a → Lo B w a.block
theorem GB.gp {x : Value} (h : GB B w x) : GP w x := by
  obtain ⟨p, n, e, hp⟩ := h
  exact ⟨p, n, e, fun a ha => (hp a ha).2⟩
theorem GB.kp (hk : Kp B w w') {x : Value} (h : GB B w x) : GB B w' x := by
  obtain ⟨p, n, e, hp⟩ := h
  exact ⟨p, n, e, fun a ha => (hp a ha).kp hk⟩
theorem PlB.gb {p : Value} {ks : List Ky} {vs : List Tr} (h : PlB B w p ks vs) : GB B w p := by
  obtain ⟨A, h, rfl⟩ := h
  unfold plc
  by_cases h0 : vs.length = 0
  · rw [if_pos h0]
    exact ⟨none, 0, rfl, fun a h => by cases h⟩
  · rw [if_neg h0]
    obtain ⟨hl, hm, C, hc, -⟩ := h
    obtain ⟨a, ha, hS, -⟩ := hc 0 (by omega)
    exact ⟨A, vs.length, rfl, fun a' h' => by rw [ha] at h'; obtain rfl := Option.some.inj h'; exact hS⟩
theorem good_gb (B : Nat) : raw.Good Try.prog PL (GB B) where
  wide := good_pl.wide
  check := fun w em x h => good_pl.check w em x h.gp
  eq := fun w x y hx hy => good_pl.eq w x y hx.gp hy.gp
  same := fun w x h => good_pl.same w x h.gp
theorem gb_stays (B : Nat) : raw.Stays (GB B) := fun w w' b x hb h hx => by
  obtain ⟨es, clock, hm⟩ := hb
  exact hx.kp fun k _ hp => h k (fun e => by
    obtain ⟨cs, t, hc⟩ := hp
    rw [e, hm] at hc
    cases hc) hp.lt
/-- The place that the first item of a list leads to. -/
def HeadPl (B : Nat) (w : World) (R : Option Addr) (p : Value) : Prop := ∃ (a : Addr) (A : Option Addr) (L c : Nat), R = some a ∧ Lo B w a.block ∧ w.cell? ⟨a.block, a.off + 7, none⟩ = some (.slice A L c) ∧ p = plc A L
theorem HeadPl.unique {R : Option Addr} {p p' : Value} (h : HeadPl B w R p) (h' : HeadPl B w R p') : p = p' := by
  obtain ⟨a, A, L, c, rfl, -, h1, rfl⟩ := h
  obtain ⟨a', A', L', c', e, -, h2, rfl⟩ := h'
  obtain rfl := Option.some.inj e
  rw [h1] at h2
  simp at h2
  obtain ⟨rfl, rfl, rfl⟩ := h2
  rfl
theorem HeadPl.kp (hk : Kp B w w') {R : Option Addr} {p : Value} (h : HeadPl B w R p) : HeadPl B w' R p := by
  obtain ⟨a, A, L, c, e, hl, h1, h2⟩ := h
  exact ⟨a, A, L, c, e, hl.kp hk, cell_stays (fun _ => hk _ hl.1 hl.2) h1, h2⟩
end

/-! ### the stack of arrays, the top first -/
structure Vis where
  p : Option Addr
  n : Int
  size : Int
  R : Option Addr
  c : Nat
  ks : List Ky
  vs : List Tr
def Vis.pl (V : Vis) : Value := .agg #[.pointer V.p, .int .i64 V.n]
def Vis.cells (V : Vis) : List Value := [.pointer V.p, .int .i64 V.n, .int .i64 V.size, .slice V.R V.vs.length V.c]
structure VisOk (B N : Nat) (w : World) (V : Vis) : Prop where
  isin : IsIn w (Lo B w) V.ks V.vs V.R
  cap : V.vs.length ≤ V.c ∧ V.c ≤ maxLen
  lo : 0 ≤ V.size
  hi : V.size + cnts V.vs ≤ N

section
variable {si : Int} {J : Int → Int → Int} {ans : Int} {B N : Nat} {w w' : World}
/-- V stands for the first item of U's rest. -/
structure Link (si : Int) (J : Int → Int → Int) (B : Nat) (w : World) (V U : Vis) (ks0 : List Ky) (vs0 : List Tr) : Prop where
  head : ∃ n s x ts, U.vs = .mk 4 n s x ks0 vs0 :: ts
  pl : PlB B w V.pl ks0 vs0
  at_ : HeadPl B w U.R V.pl
  size : szl si J V.vs V.size = szl si J vs0 0
  le : cnts V.vs ≤ cnts vs0
def Chain (si : Int) (J : Int → Int → Int) (ans : Int) (B : Nat) (w : World) : List Vis → Prop
  | [] => False
  | [V] => szl si J V.vs V.size = ans
  | V :: U :: l => (∃ ks0 vs0, Link si J B w V U ks0 vs0) ∧ Chain si J ans B w (U :: l)
theorem Link.kp (hk : Kp B w w') {V U : Vis} {ks0 : List Ky} {vs0 : List Tr} (h : Link si J B w V U ks0 vs0) : Link si J B w' V U ks0 vs0 :=
  ⟨h.head, h.pl.kp hk, h.at_.kp hk, h.size, h.le⟩
theorem Chain.kp (hk : Kp B w w') : ∀ {G : List Vis}, Chain si J ans B w G → Chain si J ans B w' G
  | [], h => h.elim
  | [V], h => h
  | V :: U :: l, h => by
    obtain ⟨⟨ks0, vs0, h1⟩, h2⟩ := h
    exact ⟨⟨ks0, vs0, h1.kp hk⟩, Chain.kp hk h2⟩
theorem Chain.mem : ∀ {V : Vis} {l : List Vis}, Chain si J ans B w (V :: l) → ∀ X ∈ (V :: l).dropLast, ∃ ks0 vs0, PlB B w X.pl ks0 vs0 ∧ cnts V.vs ≤ cnts vs0
  | V, [], _, X, hX => by simp at hX
  | V, U :: l, ⟨⟨ks0, vs0, h1⟩, h2⟩, X, hX => by
    rw [List.dropLast_cons_cons] at hX
    rcases List.mem_cons.1 hX with rfl | hX
    · exact ⟨ks0, vs0, h1.pl, h1.le⟩
    · obtain ⟨ks1, vs1, h3, h4⟩ := Chain.mem h2 X hX
      obtain ⟨n, s, x, ts, hu⟩ := h1.head
      refine ⟨ks1, vs1, h3, ?_⟩
      rw [hu, cnts_cons, cnt_mk] at h4
      have := h1.le
      omega

/-- What is known at the head of the loop. -/
structure St (si : Int) (J : Int → Int → Int) (ans : Int) (B N : Nat) (w : World) (G : List Vis) (hk : Bool) (f e : Value → Option Value) : Prop where
  ok : ∀ V ∈ G, VisOk B N w V
  chain : Chain si J ans B w G
  known : hk = true → ∃ V l p z, G = V :: l ∧ HeadPl B w V.R p ∧ f p = some z
  szs : ∀ p z, f p = some z → ∃ ks vs, PlB B w p ks vs ∧ z = .int .i64 (1 + szl si J vs 0)
  ens : ∀ p b, e p = some b → b = .bool true ∧ ((∃ z, f p = some z) ∨ ∃ V ∈ G.dropLast, V.pl = p)
theorem St.kp (hkp : Kp B w w') {G : List Vis} {hk : Bool} {f e : Value → Option Value} (h : St si J ans B N w G hk f e) : St si J ans B N w' G hk f e where
  ok := fun V hV => ⟨(h.ok V hV).isin.kp hkp, (h.ok V hV).cap, (h.ok V hV).lo, (h.ok V hV).hi⟩
  chain := h.chain.kp hkp
  known := fun hh => by
    obtain ⟨V, l, p, z, e1, e2, e3⟩ := h.known hh
    exact ⟨V, l, p, z, e1, e2.kp hkp, e3⟩
  szs := fun p z hp => by
    obtain ⟨ks, vs, h1, h2⟩ := h.szs p z hp
    exact ⟨ks, vs, h1.kp hkp, h2⟩
  ens := h.ens

/-- The rounds that are left at most. -/
def left : List Vis → Bool → Nat
  | [], _ => 0
  | V :: l, hk => (if hk then 1 + wks V.vs.tail else wks V.vs) + (l.map fun U => 1 + wks U.vs.tail).sum + (l.length + 1)

/-- An array that is done. -/
theorem St.pop {V U : Vis} {l : List Vis} {hk : Bool} {f e : Value → Option Value} (h : St si J ans B N w (V :: U :: l) hk f e) (hv : V.vs = []) :
    GB B w V.pl ∧ St si J ans B N w (U :: l) true (raw.put f V.pl (.int .i64 (1 + V.size))) e ∧ left (U :: l) true < left (V :: U :: l) hk := by
  obtain ⟨⟨ks0, vs0, hl⟩, hc⟩ := h.chain
  have hsz : V.size = szl si J vs0 0 := by have := hl.size; rwa [hv, szl_nil] at this
  refine ⟨hl.pl.gb, ⟨fun X hX => h.ok X (List.mem_cons_of_mem _ hX), hc, fun _ => ⟨U, l, V.pl, _, rfl, hl.at_, raw.put_same _ _ _⟩, fun p z hp => ?_, fun p b hp => ?_⟩, ?_⟩
  · by_cases e1 : p = V.pl
    · subst e1
      rw [raw.put_same] at hp
      exact ⟨ks0, vs0, hl.pl, by rw [← hsz]; exact (Option.some.inj hp).symm⟩
    · rw [raw.put_other e1] at hp
      exact h.szs p z hp
  · obtain ⟨hb, ho⟩ := h.ens p b hp
    refine ⟨hb, ?_⟩
    by_cases e1 : p = V.pl
    · subst e1
      exact .inl ⟨_, raw.put_same _ _ _⟩
    · rw [raw.put_other e1]
      rcases ho with ho | ⟨X, hX, hXp⟩
      · exact .inl ho
      · rw [List.dropLast_cons_cons] at hX
        rcases List.mem_cons.1 hX with rfl | hX
        · exact absurd hXp.symm e1
        · exact .inr ⟨X, hX, hXp⟩
  · simp only [left, List.map_cons, List.sum_cons, List.length_cons, if_true]
    have : (0 : Nat) ≤ if hk = true then 1 + wks V.vs.tail else wks V.vs := Nat.zero_le _
    omega

/-- The first item's size is known: it is taken. -/
theorem St.take (hJ : Join si J) {V : Vis} {l : List Vis} {hk : Bool} {f e : Value → Option Value} (h : St si J ans B N w (V :: l) hk f e) {y : Ky} {kt : List Ky} {t : Tr} {ts : List Tr} (hk0 : V.ks = y :: kt) (hv : V.vs = t :: ts) {R : Option Addr} {c : Nat}
    (hR : IsIn w (Lo B w) kt ts R) (hc : ts.length ≤ c ∧ c ≤ maxLen) :
    St si J ans B N w (⟨V.p, V.n, J V.size (sz si J t), R, c, kt, ts⟩ :: l) false f e ∧ left (⟨V.p, V.n, J V.size (sz si J t), R, c, kt, ts⟩ :: l) false < left (V :: l) hk := by
  have hV := h.ok V List.mem_cons_self
  have hb := hJ.bd V.size (sz si J t) hV.lo (sz_bd hJ t).1
  have hs := (sz_bd hJ t).2
  have hhi := hV.hi
  rw [hv, cnts_cons] at hhi
  push_cast at hhi
  refine ⟨⟨fun X hX => ?_, ?_, (fun h => by cases h), h.szs, fun p b hp => ?_⟩, ?_⟩
  · rcases List.mem_cons.1 hX with rfl | hX
    · exact ⟨hR, hc, hb.1, by show J V.size (sz si J t) + (cnts ts : Int) ≤ N; omega⟩
    · exact h.ok X (List.mem_cons_of_mem _ hX)
  · have hch := h.chain
    cases l with
    | nil =>
      have : szl si J V.vs V.size = ans := hch
      rw [hv, szl_cons] at this
      exact this
    | cons U l =>
      obtain ⟨⟨ks0, vs0, hl⟩, hc2⟩ := hch
      refine ⟨⟨ks0, vs0, hl.head, hl.pl, hl.at_, ?_, ?_⟩, hc2⟩
      · have := hl.size
        rw [hv, szl_cons] at this
        exact this
      · have := hl.le
        rw [hv, cnts_cons] at this
        show cnts ts ≤ cnts vs0
        omega
  · obtain ⟨hb, ho⟩ := h.ens p b hp
    refine ⟨hb, ho.imp id fun ⟨X, hX, hXp⟩ => ?_⟩
    cases l with
    | nil => simp at hX
    | cons U l =>
      rw [List.dropLast_cons_cons] at hX ⊢
      rcases List.mem_cons.1 hX with rfl | hX
      · exact ⟨_, List.mem_cons_self, hXp⟩
      · exact ⟨X, List.mem_cons_of_mem _ hX, hXp⟩
  · have := wk_pos t
    cases hk <;> simp [left, hv, wks_cons] <;> omega

/-- What is known of a place is the size of the array that lies there. -/
theorem St.size_of {G : List Vis} {hk : Bool} {f e : Value → Option Value} (h : St si J ans B N w G hk f e) {p z : Value} {ks : List Ky} {vs : List Tr} (hp : PlB B w p ks vs) (hf : f p = some z) : z = .int .i64 (1 + szl si J vs 0) := by
  obtain ⟨ks', vs', h1, h2⟩ := h.szs p z hf
  obtain ⟨-, rfl⟩ := h1.is.unique hp.is
  exact h2

/-- An array whose size is not known has not been entered: no array lies in itself. -/
theorem St.fresh {V : Vis} {l : List Vis} {hk : Bool} {f e : Value → Option Value} (h : St si J ans B N w (V :: l) hk f e) {n : Int} {s : ByteArray} {x : Int} {ks' : List Ky} {vs' ts : List Tr} (hv : V.vs = .mk 4 n s x ks' vs' :: ts) {p : Value}
    (hp : PlB B w p ks' vs') (hat : HeadPl B w V.R p) (hf : f p = none) : e p = none ∧ hk = false := by
  constructor
  · cases he : e p with
    | none => rfl
    | some b =>
      rcases (h.ens p b he).2 with ⟨z, hz⟩ | ⟨X, hX, hXp⟩
      · rw [hf] at hz; cases hz
      · obtain ⟨ks0, vs0, h1, h2⟩ := h.chain.mem X hX
        rw [hXp] at h1
        obtain ⟨-, rfl⟩ := h1.is.unique hp.is
        rw [hv, cnts_cons, cnt_mk] at h2
        omega
  · cases hk with
    | false => rfl
    | true =>
      obtain ⟨V', l', p', z, e1, e2, e3⟩ := h.known rfl
      injection e1 with e1 _
      subst e1
      rw [e2.unique hat, hf] at e3
      cases e3

/-- It is entered. -/
theorem St.push {V : Vis} {l : List Vis} {f e : Value → Option Value} (h : St si J ans B N w (V :: l) false f e) {n : Int} {s : ByteArray} {x : Int} {ks' : List Ky} {vs' ts : List Tr} (hv : V.vs = .mk 4 n s x ks' vs' :: ts) {A : Option Addr} {c : Nat} {p : Option Addr} {m : Int}
    (hin : IsIn w (Lo B w) ks' vs' A) (hc : vs'.length ≤ c ∧ c ≤ maxLen) (hpl : plc A vs'.length = .agg #[.pointer p, .int .i64 m]) (hat : HeadPl B w V.R (plc A vs'.length)) :
    St si J ans B N w (⟨p, m, 0, A, c, ks', vs'⟩ :: V :: l) false f (raw.put e (plc A vs'.length) (.bool true)) ∧ left (⟨p, m, 0, A, c, ks', vs'⟩ :: V :: l) false < left (V :: l) false := by
  have hV := h.ok V List.mem_cons_self
  have hhi := hV.hi
  have hlo := hV.lo
  rw [hv, cnts_cons, cnt_mk] at hhi
  push_cast at hhi
  have epl : Vis.pl ⟨p, m, 0, A, c, ks', vs'⟩ = plc A vs'.length := hpl.symm
  refine ⟨⟨fun X hX => ?_, ⟨⟨ks', vs', ⟨n, s, x, ts, hv⟩, ⟨A, hin, epl⟩, by rw [epl]; exact hat, rfl, Nat.le_refl _⟩, h.chain⟩, (fun h => by cases h), h.szs, fun q b hq => ?_⟩, ?_⟩
  · rcases List.mem_cons.1 hX with rfl | hX
    · exact ⟨hin, hc, Int.le_refl _, by show (0 : Int) + (cnts vs' : Int) ≤ N; omega⟩
    · exact h.ok X hX
  · by_cases e1 : q = plc A vs'.length
    · subst e1
      rw [raw.put_same] at hq
      refine ⟨(Option.some.inj hq).symm, .inr ⟨⟨p, m, 0, A, c, ks', vs'⟩, ?_, epl⟩⟩
      rw [List.dropLast_cons_cons]
      exact List.mem_cons_self
    · rw [raw.put_other e1] at hq
      obtain ⟨hb, ho⟩ := h.ens q b hq
      refine ⟨hb, ho.imp id fun ⟨X, hX, hXp⟩ => ⟨X, ?_, hXp⟩⟩
      rw [List.dropLast_cons_cons]
      exact List.mem_cons_of_mem _ hX
  · simp only [left, hv, List.tail_cons, wks_cons, wk_mk, List.map_cons, List.sum_cons, List.length_cons]
    simp
    omega

/-- The rest behind the first item. -/
theorem IsIn.tail {S : Nat → Prop} {y : Ky} {ks : List Ky} {t : Tr} {vs : List Tr} {a : Addr} (h : IsIn w S (y :: ks) (t :: vs) (some a)) : IsIn w S ks vs (some (a.add 8)) := by
  obtain ⟨hl, hm, C, hc, ht⟩ := h
  refine ⟨by simpa using hl, by simp at hm; omega, fun i => C (i + 1), fun i hi => ?_, fun i hi => ?_⟩
  · obtain ⟨a', ha, hS, ⟨p0, p1, p2, p3, p4⟩, hs, hj⟩ := hc (i + 1) (by simpa using hi)
    obtain rfl := Option.some.inj ha
    have e : ∀ q, (a.add 8).add (8 * i + q) = a.add (8 * (i + 1) + q) := fun q => by rw [add_add']; congr 1; omega
    refine ⟨_, rfl, by rw [mem.add_block]; exact hS, ⟨?_, ?_, ?_, p3, p4⟩, hs, fun j hj5 => ?_⟩
    · have := e 0
      rw [Nat.add_zero, Nat.add_zero] at this
      rw [this]; exact p0
    · rw [e 1]; exact p1
    · rw [e 2]; exact p2
    · rw [e (3 + j)]; exact hj j hj5
  · exact ht (i + 1) (by simpa using hi)
end

end Go.Proofs.Ytlbkbcafkjgckaa.tree
