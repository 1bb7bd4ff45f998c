/-
  What the texts behind this one use: 6 parts of one proof.
  Conditions: those that each theorem names.
-/
import Derived.Test.YtdglmnmalfpipaaGreatDoorSASPlace
import Derived.Maps.AppendAt
import Derived.Test.YtdglmnmalfpipaaGreatDoorSAB2
import Derived.Test.YtdglmnmalfpipaaGreatDoorSAB3
import Derived.Deep.LoopGhost
import Derived.Deep.DeepCutAuto
import Derived.Deep.RegionHeld3
import Derived.Deep.RegionWith
import Derived.Test.YtdglmnmalfpipaaGreatDoorShelf
import Derived.Test.YtdglmnmalfpipaaGreatDoorSAB1
/-
  What measuring an array by places computes: sizes, the stack of arrays, and what is known of places.
  Conditions: those that each theorem names.
-/
namespace Go.Proofs.YtdglmnmalfpipaaGreatDoor.tree
open Go.ChangeShapes Go.WideShapes Go.ChangeAt Go.RowKit
set_option linter.unusedVariables false

mutual
/-- The size of a value: si for what is no array, else 1 more than its items' sizes joined. -/
def sz (si : Int) (J : Int → Int → Int) : Tr → Int
  | .mk k _ _ _ _ vs => if k = 4 then 1 + szl si J vs 0 else si
def szl (si : Int) (J : Int → Int → Int) : List Tr → Int → Int
  | [], a => a
  | t :: vs, a => szl si J vs (J a (sz si J t))
end

structure Join (si : Int) (J : Int → Int → Int) : Prop where
  lo : 0 ≤ si
  hi : si ≤ 1
  bd : ∀ a b, 0 ≤ a → 0 ≤ b → 0 ≤ J a b ∧ J a b ≤ a + b
  zero : ∀ b, 0 ≤ b → J 0 b = b

section
variable {si : Int} {J : Int → Int → Int}
theorem sz_four (n : Int) (s : ByteArray) (x : Int) (ks : List Ky) (vs : List Tr) : sz si J (.mk 4 n s x ks vs) = 1 + szl si J vs 0 := by rw [sz, if_pos rfl]
theorem sz_not {k n : Int} {s : ByteArray} {x : Int} {ks : List Ky} {vs : List Tr} (h : k ≠ 4) : sz si J (.mk k n s x ks vs) = si := by rw [sz, if_neg h]
theorem szl_nil (a : Int) : szl si J [] a = a := by rw [szl]
theorem szl_cons (t : Tr) (vs : List Tr) (a : Int) : szl si J (t :: vs) a = szl si J vs (J a (sz si J t)) := by rw [szl]
mutual
theorem sz_bd (h : Join si J) : ∀ t, 0 ≤ sz si J t ∧ sz si J t ≤ cnt t
  | .mk k _ _ _ _ vs => by
    have := szl_bd h vs 0 (Int.le_refl _)
    have h1 := h.lo
    have h2 := h.hi
    rw [sz, cnt]
    split <;> constructor <;> push_cast <;> omega
theorem szl_bd (h : Join si J) : ∀ (vs : List Tr) (a : Int), 0 ≤ a → 0 ≤ szl si J vs a ∧ szl si J vs a ≤ a + cnts vs
  | [], a, ha => by rw [szl, cnts]; exact ⟨ha, by omega⟩
  | t :: vs, a, ha => by
    have h1 := sz_bd h t
    have h2 := h.bd a (sz si J t) ha h1.1
    have h3 := szl_bd h vs (J a (sz si J t)) h2.1
    rw [szl, cnts]
    exact ⟨h3.1, by push_cast; omega⟩
end
end

mutual
/-- How many rounds a value takes at most. -/
def wk : Tr → Nat
  | .mk _ _ _ _ _ vs => 3 + wks vs
def wks : List Tr → Nat
  | [] => 0
  | t :: vs => wk t + wks vs
end
theorem wks_cons (t : Tr) (vs : List Tr) : wks (t :: vs) = wk t + wks vs := by rw [wks]
theorem wk_mk (k n : Int) (s : ByteArray) (x : Int) (ks : List Ky) (vs : List Tr) : wk (.mk k n s x ks vs) = 3 + wks vs := by rw [wk]
theorem wk_pos (t : Tr) : 3 ≤ wk t := by cases t; rw [wk]; omega
theorem cnt_mk (k n : Int) (s : ByteArray) (x : Int) (ks : List Ky) (vs : List Tr) : cnt (.mk k n s x ks vs) = 1 + cnts vs := by rw [cnt]
theorem cnts_cons (t : Tr) (vs : List Tr) : cnts (t :: vs) = cnt t + cnts vs := by rw [cnts]

/-! ### blocks that stay -/
def Lo (B : Nat) (w : World) (b : Nat) : Prop := b < B ∧ Plain w b
/-- Every plain block below B stays. -/
def Kp (B : Nat) (w w' : World) : Prop := ∀ b, b < B → Plain w b → w'.heap[b]? = w.heap[b]?
section
variable {B : Nat} {w w' w2 : World}
theorem Lo.kp (hk : Kp B w w') {b : Nat} (h : Lo B w b) : Lo B w' b := by
  obtain ⟨h1, cs, t, h2⟩ := h
  exact ⟨h1, cs, t, (hk b h1 ⟨cs, t, h2⟩).trans h2⟩
theorem Kp.refl (B : Nat) (w : World) : Kp B w w := fun _ _ _ => rfl
theorem Kp.trans (h : Kp B w w') (k : Kp B w' w2) : Kp B w w2 := fun b hb hp => (k b hb (Lo.kp h ⟨hb, hp⟩).2).trans (h b hb hp)
theorem Kp.below (h : Below w.heap.size w w') : Kp B w w' := fun b _ hp => h.block b hp.lt
theorem Kp.set (w : World) {g : Nat} (hg : B ≤ g) (j : Nat) (v : Value) : Kp B w (w.setCell ⟨g, j, none⟩ v) := fun b hb _ => set_other (by omega)
theorem Kp.grown {row : Option Nat} (h : w.grownBy w' row) (hr : ∀ k, row = some k → B ≤ k ∨ ¬ Plain w k) : Kp B w w' := fun b hb hp => h.block b hp.lt (fun e => by
  rcases hr b e.symm with h | h
  · omega
  · exact h hp)
theorem TIn.kp (hk : Kp B w w') {t : Tr} {v : Value} (h : TIn w (Lo B w) t v) : TIn w' (Lo B w') t v := h.stays (fun b hb => hb.kp hk) (fun b hb _ => hk b hb.1 hb.2)
theorem IsIn.kp (hk : Kp B w w') {ks : List Ky} {vs : List Tr} {A : Option Addr} (h : IsIn w (Lo B w) ks vs A) : IsIn w' (Lo B w') ks vs A := h.stays (fun b hb => hb.kp hk) (fun b hb _ => hk b hb.1 hb.2)

/-- At the place p lies the list, below B. -/
def PlB (B : Nat) (w : World) (p : Value) (ks : List Ky) (vs : List Tr) : Prop := ∃ A : Option Addr, IsIn w (Lo B w) ks vs A ∧ p = plc A vs.length
theorem PlB.is {p : Value} {ks : List Ky} {vs : List Tr} (h : PlB B w p ks vs) : PlIs w p ks vs := by
  obtain ⟨A, h1, h2⟩ := h
  exact ⟨_, A, h1, h2⟩
theorem PlB.kp (hk : Kp B w w') {p : Value} {ks : List Ky} {vs : List Tr} (h : PlB B w p ks vs) : PlB B w' p ks vs := by
  obtain ⟨A, h1, h2⟩ := h
  exact ⟨A, h1.kp hk, h2⟩
/-- A key of a map of places below B. -/
def GB (B : Nat) (w : World) (x : Value) : Prop := ∃ (p : Option Addr) (n : Int), x = .agg #[.pointer p, .int .i64 n] ∧ ∀ a, p = some a → Lo B w a.block
theorem GB.gp {x : Value} (h : GB B w x) : GP w x := by
  obtain ⟨p, n, e, hp⟩ := h
  exact ⟨p, n, e, fun a ha => (hp a ha).2⟩
theorem GB.kp (hk : Kp B w w') {x : Value} (h : GB B w x) : GB B w' x := by
  obtain ⟨p, n, e, hp⟩ := h
  exact ⟨p, n, e, fun a ha => (hp a ha).kp hk⟩
theorem PlB.gb {p : Value} {ks : List Ky} {vs : List Tr} (h : PlB B w p ks vs) : GB B w p := by
  obtain ⟨A, h, rfl⟩ := h
  unfold plc
  by_cases h0 : vs.length = 0
  · rw [if_pos h0]
    exact ⟨none, 0, rfl, fun a h => by cases h⟩
  · rw [if_neg h0]
    obtain ⟨hl, hm, C, hc, -⟩ := h
    obtain ⟨a, ha, hS, -⟩ := hc 0 (by omega)
    exact ⟨A, vs.length, rfl, fun a' h' => by rw [ha] at h'; obtain rfl := Option.some.inj h'; exact hS⟩
theorem good_gb (B : Nat) : raw.Good Tryz.prog PL (GB B) where
  wide := good_pl.wide
  check := fun w em x h => good_pl.check w em x h.gp
  eq := fun w x y hx hy => good_pl.eq w x y hx.gp hy.gp
  same := fun w x h => good_pl.same w x h.gp
theorem gb_stays (B : Nat) : raw.Stays (GB B) := fun w w' b x hb h hx => by
  obtain ⟨es, clock, hm⟩ := hb
  exact hx.kp fun k _ hp => h k (fun e => by
    obtain ⟨cs, t, hc⟩ := hp
    rw [e, hm] at hc
    cases hc) hp.lt
/-- The place that the first item of a list leads to. -/
def HeadPl (B : Nat) (w : World) (R : Option Addr) (p : Value) : Prop := ∃ (a : Addr) (A : Option Addr) (L c : Nat), R = some a ∧ Lo B w a.block ∧ w.cell? ⟨a.block, a.off + 7, none⟩ = some (.slice A L c) ∧ p = plc A L
theorem HeadPl.unique {R : Option Addr} {p p' : Value} (h : HeadPl B w R p) (h' : HeadPl B w R p') : p = p' := by
  obtain ⟨a, A, L, c, rfl, -, h1, rfl⟩ := h
  obtain ⟨a', A', L', c', e, -, h2, rfl⟩ := h'
  obtain rfl := Option.some.inj e
  rw [h1] at h2
  simp at h2
  obtain ⟨rfl, rfl, rfl⟩ := h2
  rfl
theorem HeadPl.kp (hk : Kp B w w') {R : Option Addr} {p : Value} (h : HeadPl B w R p) : HeadPl B w' R p := by
  obtain ⟨a, A, L, c, e, hl, h1, h2⟩ := h
  exact ⟨a, A, L, c, e, hl.kp hk, cell_stays (fun _ => hk _ hl.1 hl.2) h1, h2⟩
end

/-! ### the stack of arrays, the top first -/
structure Vis where
  p : Option Addr
  n : Int
  size : Int
  R : Option Addr
  c : Nat
  ks : List Ky
  vs : List Tr
def Vis.pl (V : Vis) : Value := .agg #[.pointer V.p, .int .i64 V.n]
def Vis.cells (V : Vis) : List Value := [.pointer V.p, .int .i64 V.n, .int .i64 V.size, .slice V.R V.vs.length V.c]
structure VisOk (B N : Nat) (w : World) (V : Vis) : Prop where
  isin : IsIn w (Lo B w) V.ks V.vs V.R
  cap : V.vs.length ≤ V.c ∧ V.c ≤ maxLen
  lo : 0 ≤ V.size
  hi : V.size + cnts V.vs ≤ N

section
variable {si : Int} {J : Int → Int → Int} {ans : Int} {B N : Nat} {w w' : World}
/-- V stands for the first item of U's rest. -/
structure Link (si : Int) (J : Int → Int → Int) (B : Nat) (w : World) (V U : Vis) (ks0 : List Ky) (vs0 : List Tr) : Prop where
  head : ∃ n s x ts, U.vs = .mk 4 n s x ks0 vs0 :: ts
  pl : PlB B w V.pl ks0 vs0
  at_ : HeadPl B w U.R V.pl
  size : szl si J V.vs V.size = szl si J vs0 0
  le : cnts V.vs ≤ cnts vs0
def Chain (si : Int) (J : Int → Int → Int) (ans : Int) (B : Nat) (w : World) : List Vis → Prop
  | [] => False
  | [V] => szl si J V.vs V.size = ans
  | V :: U :: l => (∃ ks0 vs0, Link si J B w V U ks0 vs0) ∧ Chain si J ans B w (U :: l)
theorem Link.kp (hk : Kp B w w') {V U : Vis} {ks0 : List Ky} {vs0 : List Tr} (h : Link si J B w V U ks0 vs0) : Link si J B w' V U ks0 vs0 :=
  ⟨h.head, h.pl.kp hk, h.at_.kp hk, h.size, h.le⟩
theorem Chain.kp (hk : Kp B w w') : ∀ {G : List Vis}, Chain si J ans B w G → Chain si J ans B w' G
  | [], h => h.elim
  | [V], h => h
  | V :: U :: l, h => by
    obtain ⟨⟨ks0, vs0, h1⟩, h2⟩ := h
    exact ⟨⟨ks0, vs0, h1.kp hk⟩, Chain.kp hk h2⟩
theorem Chain.mem : ∀ {V : Vis} {l : List Vis}, Chain si J ans B w (V :: l) → ∀ X ∈ (V :: l).dropLast, ∃ ks0 vs0, PlB B w X.pl ks0 vs0 ∧ cnts V.vs ≤ cnts vs0
  | V, [], _, X, hX => by simp at hX
  | V, U :: l, ⟨⟨ks0, vs0, h1⟩, h2⟩, X, hX => by
    rw [List.dropLast_cons_cons] at hX
    rcases List.mem_cons.1 hX with rfl | hX
    · exact ⟨ks0, vs0, h1.pl, h1.le⟩
    · obtain ⟨ks1, vs1, h3, h4⟩ := Chain.mem h2 X hX
      obtain ⟨n, s, x, ts, hu⟩ := h1.head
      refine ⟨ks1, vs1, h3, ?_⟩
      rw [hu, cnts_cons, cnt_mk] at h4
      have := h1.le
      omega

/-- What is known at the head of the loop. -/
structure St (si : Int) (J : Int → Int → Int) (ans : Int) (B N : Nat) (w : World) (G : List Vis) (hk : Bool) (f e : Value → Option Value) : Prop where
  ok : ∀ V ∈ G, VisOk B N w V
  chain : Chain si J ans B w G
  known : hk = true → ∃ V l p z, G = V :: l ∧ HeadPl B w V.R p ∧ f p = some z
  szs : ∀ p z, f p = some z → ∃ ks vs, PlB B w p ks vs ∧ z = .int .i64 (1 + szl si J vs 0)
  ens : ∀ p b, e p = some b → b = .bool true ∧ ((∃ z, f p = some z) ∨ ∃ V ∈ G.dropLast, V.pl = p)
theorem St.kp (hkp : Kp B w w') {G : List Vis} {hk : Bool} {f e : Value → Option Value} (h : St si J ans B N w G hk f e) : St si J ans B N w' G hk f e where
  ok := fun V hV => ⟨(h.ok V hV).isin.kp hkp, (h.ok V hV).cap, (h.ok V hV).lo, (h.ok V hV).hi⟩
  chain := h.chain.kp hkp
  known := fun hh => by
    obtain ⟨V, l, p, z, e1, e2, e3⟩ := h.known hh
    exact ⟨V, l, p, z, e1, e2.kp hkp, e3⟩
  szs := fun p z hp => by
    obtain ⟨ks, vs, h1, h2⟩ := h.szs p z hp
    exact ⟨ks, vs, h1.kp hkp, h2⟩
  ens := h.ens

/-- The rounds that are left at most. -/
def left : List Vis → Bool → Nat
  | [], _ => 0
  | V :: l, hk => (if hk then 1 + wks V.vs.tail else wks V.vs) + (l.map fun U => 1 + wks U.vs.tail).sum + (l.length + 1)

/-- An array that is done. -/
theorem St.pop {V U : Vis} {l : List Vis} {hk : Bool} {f e : Value → Option Value} (h : St si J ans B N w (V :: U :: l) hk f e) (hv : V.vs = []) :
    GB B w V.pl ∧ St si J ans B N w (U :: l) true (raw.put f V.pl (.int .i64 (1 + V.size))) e ∧ left (U :: l) true < left (V :: U :: l) hk := by
  obtain ⟨⟨ks0, vs0, hl⟩, hc⟩ := h.chain
  have hsz : V.size = szl si J vs0 0 := by have := hl.size; rwa [hv, szl_nil] at this
  refine ⟨hl.pl.gb, ⟨fun X hX => h.ok X (List.mem_cons_of_mem _ hX), hc, fun _ => ⟨U, l, V.pl, _, rfl, hl.at_, raw.put_same _ _ _⟩, fun p z hp => ?_, fun p b hp => ?_⟩, ?_⟩
  · by_cases e1 : p = V.pl
    · subst e1
      rw [raw.put_same] at hp
      exact ⟨ks0, vs0, hl.pl, by rw [← hsz]; exact (Option.some.inj hp).symm⟩
    · rw [raw.put_other e1] at hp
      exact h.szs p z hp
  · obtain ⟨hb, ho⟩ := h.ens p b hp
    refine ⟨hb, ?_⟩
    by_cases e1 : p = V.pl
    · subst e1
      exact .inl ⟨_, raw.put_same _ _ _⟩
    · rw [raw.put_other e1]
      rcases ho with ho | ⟨X, hX, hXp⟩
      · exact .inl ho
      · rw [List.dropLast_cons_cons] at hX
        rcases List.mem_cons.1 hX with rfl | hX
        · exact absurd hXp.symm e1
        · exact .inr ⟨X, hX, hXp⟩
  · simp only [left, List.map_cons, List.sum_cons, List.length_cons, if_true]
    have : (0 : Nat) ≤ if hk = true then 1 + wks V.vs.tail else wks V.vs := Nat.zero_le _
    omega

/-- The first item's size is known: it is taken. -/
theorem St.take (hJ : Join si J) {V : Vis} {l : List Vis} {hk : Bool} {f e : Value → Option Value} (h : St si J ans B N w (V :: l) hk f e) {y : Ky} {kt : List Ky} {t : Tr} {ts : List Tr} (hk0 : V.ks = y :: kt) (hv : V.vs = t :: ts) {R : Option Addr} {c : Nat}
    (hR : IsIn w (Lo B w) kt ts R) (hc : ts.length ≤ c ∧ c ≤ maxLen) :
    St si J ans B N w (⟨V.p, V.n, J V.size (sz si J t), R, c, kt, ts⟩ :: l) false f e ∧ left (⟨V.p, V.n, J V.size (sz si J t), R, c, kt, ts⟩ :: l) false < left (V :: l) hk := by
  have hV := h.ok V List.mem_cons_self
  have hb := hJ.bd V.size (sz si J t) hV.lo (sz_bd hJ t).1
  have hs := (sz_bd hJ t).2
  have hhi := hV.hi
  rw [hv, cnts_cons] at hhi
  push_cast at hhi
  refine ⟨⟨fun X hX => ?_, ?_, (fun h => by cases h), h.szs, fun p b hp => ?_⟩, ?_⟩
  · rcases List.mem_cons.1 hX with rfl | hX
    · exact ⟨hR, hc, hb.1, by show J V.size (sz si J t) + (cnts ts : Int) ≤ N; omega⟩
    · exact h.ok X (List.mem_cons_of_mem _ hX)
  · have hch := h.chain
    cases l with
    | nil =>
      have : szl si J V.vs V.size = ans := hch
      rw [hv, szl_cons] at this
      exact this
    | cons U l =>
      obtain ⟨⟨ks0, vs0, hl⟩, hc2⟩ := hch
      refine ⟨⟨ks0, vs0, hl.head, hl.pl, hl.at_, ?_, ?_⟩, hc2⟩
      · have := hl.size
        rw [hv, szl_cons] at this
        exact this
      · have := hl.le
        rw [hv, cnts_cons] at this
        show cnts ts ≤ cnts vs0
        omega
  · obtain ⟨hb, ho⟩ := h.ens p b hp
    refine ⟨hb, ho.imp id fun ⟨X, hX, hXp⟩ => ?_⟩
    cases l with
    | nil => simp at hX
    | cons U l =>
      rw [List.dropLast_cons_cons] at hX ⊢
      rcases List.mem_cons.1 hX with rfl | hX
      · exact ⟨_, List.mem_cons_self, hXp⟩
      · exact ⟨X, List.mem_cons_of_mem _ hX, hXp⟩
  · have := wk_pos t
    cases hk <;> simp [left, hv, wks_cons] <;> omega

/-- What is known of a place is the size of the array that lies there. -/
theorem St.size_of {G : List Vis} {hk : Bool} {f e : Value → Option Value} (h : St si J ans B N w G hk f e) {p z : Value} {ks : List Ky} {vs : List Tr} (hp : PlB B w p ks vs) (hf : f p = some z) : z = .int .i64 (1 + szl si J vs 0) := by
  obtain ⟨ks', vs', h1, h2⟩ := h.szs p z hf
  obtain ⟨-, rfl⟩ := h1.is.unique hp.is
  exact h2

/-- An array whose size is not known has not been entered: no array lies in itself. -/
theorem St.fresh {V : Vis} {l : List Vis} {hk : Bool} {f e : Value → Option Value} (h : St si J ans B N w (V :: l) hk f e) {n : Int} {s : ByteArray} {x : Int} {ks' : List Ky} {vs' ts : List Tr} (hv : V.vs = .mk 4 n s x ks' vs' :: ts) {p : Value}
    (hp : PlB B w p ks' vs') (hat : HeadPl B w V.R p) (hf : f p = none) : e p = none ∧ hk = false := by
  constructor
  · cases he : e p with
    | none => rfl
    | some b =>
      rcases (h.ens p b he).2 with ⟨z, hz⟩ | ⟨X, hX, hXp⟩
      · rw [hf] at hz; cases hz
      · obtain ⟨ks0, vs0, h1, h2⟩ := h.chain.mem X hX
        rw [hXp] at h1
        obtain ⟨-, rfl⟩ := h1.is.unique hp.is
        rw [hv, cnts_cons, cnt_mk] at h2
        omega
  · cases hk with
    | false => rfl
    | true =>
      obtain ⟨V', l', p', z, e1, e2, e3⟩ := h.known rfl
      injection e1 with e1 _
      subst e1
      rw [e2.unique hat, hf] at e3
      cases e3

/-- It is entered. -/
theorem St.push {V : Vis} {l : List Vis} {f e : Value → Option Value} (h : St si J ans B N w (V :: l) false f e) {n : Int} {s : ByteArray} {x : Int} {ks' : List Ky} {vs' ts : List Tr} (hv : V.vs = .mk 4 n s x ks' vs' :: ts) {A : Option Addr} {c : Nat} {p : Option Addr} {m : Int}
    (hin : IsIn w (Lo B w) ks' vs' A) (hc : vs'.length ≤ c ∧ c ≤ maxLen) (hpl : plc A vs'.length = .agg #[.pointer p, .int .i64 m]) (hat : HeadPl B w V.R (plc A vs'.length)) :
    St si J ans B N w (⟨p, m, 0, A, c, ks', vs'⟩ :: V :: l) false f (raw.put e (plc A vs'.length) (.bool true)) ∧ left (⟨p, m, 0, A, c, ks', vs'⟩ :: V :: l) false < left (V :: l) false := by
  have hV := h.ok V List.mem_cons_self
  have hhi := hV.hi
  have hlo := hV.lo
  rw [hv, cnts_cons, cnt_mk] at hhi
  push_cast at hhi
  have epl : Vis.pl ⟨p, m, 0, A, c, ks', vs'⟩ = plc A vs'.length := hpl.symm
  refine ⟨⟨fun X hX => ?_, ⟨⟨ks', vs', ⟨n, s, x, ts, hv⟩, ⟨A, hin, epl⟩, by rw [epl]; exact hat, rfl, Nat.le_refl _⟩, h.chain⟩, (fun h => by cases h), h.szs, fun q b hq => ?_⟩, ?_⟩
  · rcases List.mem_cons.1 hX with rfl | hX
    · exact ⟨hin, hc, Int.le_refl _, by show (0 : Int) + (cnts vs' : Int) ≤ N; omega⟩
    · exact h.ok X hX
  · by_cases e1 : q = plc A vs'.length
    · subst e1
      rw [raw.put_same] at hq
      refine ⟨(Option.some.inj hq).symm, .inr ⟨⟨p, m, 0, A, c, ks', vs'⟩, ?_, epl⟩⟩
      rw [List.dropLast_cons_cons]
      exact List.mem_cons_self
    · rw [raw.put_other e1] at hq
      obtain ⟨hb, ho⟩ := h.ens q b hq
      refine ⟨hb, ho.imp id fun ⟨X, hX, hXp⟩ => ⟨X, ?_, hXp⟩⟩
      rw [List.dropLast_cons_cons]
      exact List.mem_cons_of_mem _ hX
  · simp only [left, hv, List.tail_cons, wks_cons, wk_mk, List.map_cons, List.sum_cons, List.length_cons]
    simp
    omega

/-- The rest behind the first item. -/
theorem IsIn.tail {S : Nat → Prop} {y : Ky} {ks : List Ky} {t : Tr} {vs : List Tr} {a : Addr} (h : IsIn w S (y :: ks) (t :: vs) (some a)) : IsIn w S ks vs (some (a.add 8)) := by
  obtain ⟨hl, hm, C, hc, ht⟩ := h
  refine ⟨by simpa using hl, by simp at hm; omega, fun i => C (i + 1), fun i hi => ?_, fun i hi => ?_⟩
  · obtain ⟨a', ha, hS, ⟨p0, p1, p2, p3, p4⟩, hs, hj⟩ := hc (i + 1) (by simpa using hi)
    obtain rfl := Option.some.inj ha
    have e : ∀ q, (a.add 8).add (8 * i + q) = a.add (8 * (i + 1) + q) := fun q => by rw [add_add']; congr 1; omega
    refine ⟨_, rfl, by rw [mem.add_block]; exact hS, ⟨?_, ?_, ?_, p3, p4⟩, hs, fun j hj5 => ?_⟩
    · have := e 0
      rw [Nat.add_zero, Nat.add_zero] at this
      rw [this]; exact p0
    · rw [e 1]; exact p1
    · rw [e 2]; exact p2
    · rw [e (3 + j)]; exact hj j hj5
  · exact ht (i + 1) (by simpa using hi)
end

end Go.Proofs.YtdglmnmalfpipaaGreatDoor.tree

/-
  A stack of lists that are still to be gone through, as it lies in memory.
  Conditions: those that each theorem names.
-/
namespace Go.Proofs.YtdglmnmalfpipaaGreatDoor.tree
open Go.ChangeShapes Go.WideShapes Go.ChangeAt Go.RowKit
set_option linter.unusedVariables false

/-- A list that is still to be gone through. -/
structure Pend where
  R : Option Addr
  c : Nat
  ks : List Ky
  vs : List Tr
def Pend.cell (l : Pend) : Value := .slice l.R l.vs.length l.c
structure PendOk (B : Nat) (w : World) (l : Pend) : Prop where
  isin : IsIn w (Lo B w) l.ks l.vs l.R
  cap : l.vs.length ≤ l.c ∧ l.c ≤ maxLen

def lefts : List Pend → Nat
  | [] => 0
  | l :: P => 1 + wks l.vs + lefts P
theorem lefts_len : ∀ P : List Pend, P.length ≤ lefts P
  | [] => Nat.le_refl _
  | l :: P => by have := lefts_len P; rw [lefts, List.length_cons]; omega

mutual
theorem wk_cnt : ∀ t, wk t ≤ 3 * cnt t
  | .mk _ _ _ _ _ vs => by have := wks_cnts vs; rw [wk, cnt]; omega
theorem wks_cnts : ∀ vs, wks vs ≤ 3 * cnts vs
  | [] => by rw [wks]; omega
  | t :: vs => by have h1 := wk_cnt t; have h2 := wks_cnts vs; rw [wks, cnts]; omega
end

/-! ### the lists in memory -/
abbrev SE : TypeId := 30
def PRow (w : World) (B : Nat) (way : Value) (P : List Pend) : Prop := w.ownsRow B SE 1 way P.length (P.reverse.map Pend.cell)
theorem PRow.below {w w' : World} {B : Nat} {way : Value} {P : List Pend} (h : PRow w B way P) (hb : Below w.heap.size w w') : PRow w' B way P :=
  World.ownsRow.kept h (mem.none_of_below hb) (by
    cases e : way.ownBlock with
    | none => exact .inl rfl
    | some k => exact .inr (by simp))
theorem PRow.top {w : World} {B : Nat} {way : Value} {l : Pend} {P : List Pend} (h : PRow w B way (l :: P)) :
    ∃ g c, way = .slice (some ⟨g, 0, none⟩) (P.length + 1) c ∧ B ≤ g ∧ P.length + 1 ≤ c ∧ c ≤ maxLen ∧ w.cell? ⟨g, P.length, none⟩ = some l.cell ∧ PRow w B (.slice (some ⟨g, 0, none⟩) P.length c) P := by
  obtain ⟨h1, h2⟩ := h
  rcases h2 with ⟨_, h0⟩ | ⟨g, cap, cur, rfl, hB, hg, hn, hm, hs, htake⟩
  · simp at h0
  · have hl : (P.reverse.map Pend.cell).length = P.length := by simp
    have er : (l :: P).reverse.map Pend.cell = P.reverse.map Pend.cell ++ [l.cell] := by simp
    rw [Nat.mul_one, er] at htake
    rw [Nat.mul_one] at hs
    simp only [List.length_cons] at htake hn
    refine ⟨g, cap, rfl, hB, hn, hm, ?_, ⟨by simp, .inr ⟨g, cap, cur, rfl, hB, hg, by omega, hm, by omega, ?_⟩⟩⟩
    · rw [cell_of_row w g _ cur SE _ hg]
      have e : (cur.toList.take (P.length + 1))[P.length]? = some l.cell := by
        rw [htake, List.getElem?_append_right (by omega), hl]
        simp
      rw [List.getElem?_take_of_lt (by omega)] at e
      simpa using e
    · have := congrArg (List.take P.length) htake
      rw [List.take_take, List.take_append_of_le_length (by omega), List.take_of_length_le (l := List.map _ _) (by omega)] at this
      rw [Nat.mul_one, ← this]
      congr 1
      omega

theorem seRow : (Tryz.prog.info? SE).map (fun i => (i.zero, i.size, i.bytes)) = some (some (.slice none 0 0), 1, 24) := by kernel_rfl
theorem PRow.kept4 {w w' : World} {B b : Nat} {way : Value} {P : List Pend} (h : PRow w B way P) (hg : w.grownBy w' (some b)) (hb : b < B) : PRow w' B way P :=
  World.ownsRow.kept h hg (by
    cases e : way.ownBlock with
    | none => exact .inl rfl
    | some k =>
      refine .inr (fun h2 => ?_)
      rcases h.2 with ⟨h0, _⟩ | ⟨g, cap, cur, h0, hB, _⟩
      · rw [h0] at e; cases e
      · rw [h0] at e
        injection e with e
        injection h2 with h2
        have : g = k := e
        omega)
theorem PRow.own {w : World} {B : Nat} {way : Value} {P : List Pend} (h : PRow w B way P) : ∀ k, way.ownBlock = some k → B ≤ k := fun k e => by
  rcases h.2 with ⟨h0, _⟩ | ⟨g, cap, cur, h0, hB, _⟩
  · rw [h0] at e; cases e
  · rw [h0] at e
    injection e with e
    have : g = k := e
    omega
theorem one_new (w : World) (a : Value) (t : TypeId) : ∀ j u, [a][j]? = some u → (w.alloc (.cells #[a] t)).cell? ((⟨w.heap.size, 0, none⟩ : Addr).add j) = some u := by
  intro j u hj
  rw [Addr.add_lit, Nat.zero_add, cell_of_row _ _ j _ t _ (heap_alloc_new w _)]
  simpa using hj

theorem one_new' (w : World) (a : Value) (t : TypeId) {N : Nat} (hN : w.heap.size = N) : ∀ j u, [a][j]? = some u → (w.alloc (.cells #[a] t)).cell? ((⟨N, 0, none⟩ : Addr).add j) = some u := by
  subst hN
  exact one_new w a t
theorem PRow.nil {w : World} {B : Nat} {way : Value} (h : PRow w B way []) : ∃ A c, way = .slice A 0 c := by
  rcases h.2 with ⟨h0, _⟩ | ⟨g, cap, cur, h0, _⟩
  · exact ⟨none, 0, h0⟩
  · exact ⟨_, cap, h0⟩

theorem alH {w : World} {B b : Nat} {f : Value → Option Value} (h : raw.Holds w (GB B) b f) (o : Obj) : raw.Holds (w.alloc o) (GB B) b f :=
  h.kept (Below.heap_alloc w o b h.lt) (fun x hx => hx.kp (Kp.below (b1 w o)))
theorem isin_one {w : World} {S : Nat → Prop} {g : Nat} {y : Ky} {k n x : Int} {s : ByteArray} {A : Option Addr} {L c : Nat} {t : TypeId} {T : Tr} (hS : S g) (hy : I64 y.num ∧ y.str.size ≤ maxLen)
    (hg : w.heap[g]? = some (.cells #[.bool y.text, .int .i64 y.num, .string y.str, .int .i64 k, .int .i64 n, .string s, .int .i64 x, .slice A L c] t (0, 0))) (h : TIn w S T (vV k n s x A L c)) : IsIn w S [y] [T] (some ⟨g, 0, none⟩) := by
  obtain ⟨r, -⟩ := rowc hg
  refine ⟨rfl, by simp [maxLen], fun _ => #[.int .i64 k, .int .i64 n, .string s, .int .i64 x, .slice A L c], fun i hi => ?_, fun i hi => ?_⟩
  · obtain rfl : i = 0 := by simp at hi; omega
    refine ⟨_, rfl, hS, ⟨?_, ?_, ?_, hy⟩, rfl, fun j hj => ?_⟩
    · rw [Addr.add_lit]; exact r 0
    · rw [Addr.add_lit]; exact r 1
    · rw [Addr.add_lit]; exact r 2
    · rw [Addr.add_lit]
      match j, hj with
      | 0, _ => exact r 3
      | 1, _ => exact r 4
      | 2, _ => exact r 5
      | 3, _ => exact r 6
      | 4, _ => exact r 7
  · obtain rfl : i = 0 := by simp at hi; omega
    exact h
theorem zeroBool (w : World) : (zeroValue 4).run Tryz.prog w = .ok (.bool false) w := by kernel_rfl
theorem got1_none (z : Value) : raw.Got false z none = z := rfl
theorem got1_some (z v : Value) : raw.Got false z (some v) = v := rfl
theorem got_some (z v : Value) : raw.Got true z (some v) = .tuple #[v, .bool true] := rfl
theorem got_none (z : Value) : raw.Got true z none = .tuple #[z, .bool false] := rfl

end Go.Proofs.YtdglmnmalfpipaaGreatDoor.tree

/-
  What going through an array by places decides: whether all that is in it is plain.
  Conditions: those that each theorem names.
-/
namespace Go.Proofs.YtdglmnmalfpipaaGreatDoor.tree
open Go.ChangeShapes Go.WideShapes Go.ChangeAt Go.RowKit
set_option linter.unusedVariables false

mutual
def plainB : Tr → Bool
  | .mk k _ _ _ _ vs => (decide (0 ≤ k) && decide (k ≤ 3)) || (decide (k = 4) && plainL vs)
def plainL : List Tr → Bool
  | [] => true
  | t :: vs => plainB t && plainL vs
end
theorem plainL_cons (t : Tr) (vs : List Tr) : plainL (t :: vs) = (plainB t && plainL vs) := by rw [plainL]
theorem plainL_mem : ∀ {vs : List Tr}, plainL vs = true ↔ ∀ t ∈ vs, plainB t = true
  | [] => by rw [plainL]; simp
  | t :: vs => by rw [plainL_cons, Bool.and_eq_true, plainL_mem]; simp
theorem plain_kind {k n : Int} {s : ByteArray} {x : Int} {ks : List Ky} {vs : List Tr} (h : plainB (.mk k n s x ks vs) = true) : 0 ≤ k ∧ k ≤ 4 := by
  rw [plainB] at h
  simp at h
  omega
theorem plain_items {n : Int} {s : ByteArray} {x : Int} {ks : List Ky} {vs : List Tr} : plainB (.mk 4 n s x ks vs) = plainL vs := by
  rw [plainB]
  simp
theorem plain_other {k n : Int} {s : ByteArray} {x : Int} {ks : List Ky} {vs : List Tr} (h0 : 0 ≤ k) (h4 : k ≤ 4) (h : k ≠ 4) : plainB (.mk k n s x ks vs) = true := by
  rw [plainB]
  simp
  omega

/-- A value that has been looked at, and its array, if it is one, has been entered. -/
def Seen (B : Nat) (w : World) (e : Value → Option Value) : Tr → Prop
  | .mk k _ _ _ ks vs => (0 ≤ k ∧ k ≤ 4) ∧ (k = 4 → ∃ p, PlB B w p ks vs ∧ e p ≠ none)
def Done (B : Nat) (w : World) (P : List Pend) (rs : List Tr) (e : Value → Option Value) (vs : List Tr) : Prop := (∃ l ∈ P, l.vs = vs) ∨ ∀ x ∈ vs, Seen B w e x ∨ x ∈ rs
structure PSt (T : Tr) (B : Nat) (w : World) (P : List Pend) (rs : List Tr) (e : Value → Option Value) : Prop where
  ok : ∀ l ∈ P, PendOk B w l
  ens : ∀ p b, e p = some b → b = .bool true ∧ ∃ ks vs, PlB B w p ks vs ∧ Done B w P rs e vs
  root : Done B w P rs e [T]
  down : plainB T = true → (∀ l ∈ P, plainL l.vs = true) ∧ plainL rs = true

section
variable {T : Tr} {B : Nat} {w w' : World} {P : List Pend} {rs : List Tr} {e : Value → Option Value}
theorem Seen.kp (hk : Kp B w w') {x : Tr} (h : Seen B w e x) : Seen B w' e x := by
  cases x
  exact ⟨h.1, fun h4 => by obtain ⟨p, h1, h2⟩ := h.2 h4; exact ⟨p, h1.kp hk, h2⟩⟩
theorem Done.kp (hk : Kp B w w') {vs : List Tr} (h : Done B w P rs e vs) : Done B w' P rs e vs := h.imp id fun h x hx => (h x hx).imp (fun h => h.kp hk) id
theorem PSt.kp (hk : Kp B w w') (h : PSt T B w P rs e) : PSt T B w' P rs e where
  ok := fun l hl => ⟨(h.ok l hl).isin.kp hk, (h.ok l hl).cap⟩
  ens := fun p b hp => by
    obtain ⟨hb, ks, vs, h1, h2⟩ := h.ens p b hp
    exact ⟨hb, ks, vs, h1.kp hk, h2.kp hk⟩
  root := h.root.kp hk
  down := h.down

/-- The last list is taken. -/
theorem PSt.pop {l : Pend} (h : PSt T B w (l :: P) [] e) : PSt T B w P l.vs e := by
  have step : ∀ {vs : List Tr}, Done B w (l :: P) [] e vs → Done B w P l.vs e vs := fun {vs} hd => by
    rcases hd with ⟨l', hl, rfl⟩ | hd
    · rcases List.mem_cons.1 hl with rfl | hl
      · exact .inr fun x hx => .inr hx
      · exact .inl ⟨l', hl, rfl⟩
    · exact .inr fun x hx => .inl ((hd x hx).resolve_right (by simp))
  exact ⟨fun l' hl => h.ok l' (List.mem_cons_of_mem _ hl), fun p b hp => by
    obtain ⟨hb, ks, vs, h1, h2⟩ := h.ens p b hp
    exact ⟨hb, ks, vs, h1, step h2⟩, step h.root, fun hT => ⟨fun l' hl => (h.down hT).1 l' (List.mem_cons_of_mem _ hl), (h.down hT).1 l List.mem_cons_self⟩⟩

/-- A value that needs no more. -/
theorem PSt.next {x : Tr} (h : PSt T B w P (x :: rs) e) (hx : Seen B w e x) : PSt T B w P rs e := by
  have step : ∀ {vs : List Tr}, Done B w P (x :: rs) e vs → Done B w P rs e vs := fun {vs} hd => hd.imp id fun hd y hy => by
    rcases hd y hy with h | h
    · exact .inl h
    · rcases List.mem_cons.1 h with rfl | h
      · exact .inl hx
      · exact .inr h
  exact ⟨h.ok, fun p b hp => by
    obtain ⟨hb, ks, vs, h1, h2⟩ := h.ens p b hp
    exact ⟨hb, ks, vs, h1, step h2⟩, step h.root, fun hT => ⟨(h.down hT).1, by have := (h.down hT).2; rw [plainL_cons, Bool.and_eq_true] at this; exact this.2⟩⟩

/-- An array that is entered. -/
theorem PSt.enter {n : Int} {s : ByteArray} {x : Int} {l : Pend} (h : PSt T B w P (.mk 4 n s x l.ks l.vs :: rs) e) (hl : PendOk B w l) :
    PSt T B w (l :: P) rs (raw.put e (plc l.R l.vs.length) (.bool true)) := by
  have hp : PlB B w (plc l.R l.vs.length) l.ks l.vs := ⟨l.R, hl.isin, rfl⟩
  have more : ∀ q, e q ≠ none → raw.put e (plc l.R l.vs.length) (.bool true) q ≠ none := fun q hq => by
    by_cases e1 : q = plc l.R l.vs.length
    · rw [e1, raw.put_same]; simp
    · rw [raw.put_other e1]; exact hq
  have seen : ∀ y, Seen B w e y → Seen B w (raw.put e (plc l.R l.vs.length) (.bool true)) y := fun y hy => by
    cases y
    exact ⟨hy.1, fun h4 => by obtain ⟨p, h1, h2⟩ := hy.2 h4; exact ⟨p, h1, more p h2⟩⟩
  have step : ∀ {vs : List Tr}, Done B w P (.mk 4 n s x l.ks l.vs :: rs) e vs → Done B w (l :: P) rs (raw.put e (plc l.R l.vs.length) (.bool true)) vs := fun {vs} hd => by
    rcases hd with ⟨l', hl', rfl⟩ | hd
    · exact .inl ⟨l', List.mem_cons_of_mem _ hl', rfl⟩
    · refine .inr fun y hy => ?_
      rcases hd y hy with h | h
      · exact .inl (seen y h)
      · rcases List.mem_cons.1 h with rfl | h
        · exact .inl ⟨⟨by omega, by omega⟩, fun _ => ⟨_, hp, by rw [raw.put_same]; simp⟩⟩
        · exact .inr h
  refine ⟨fun l' hl' => ?_, fun q b hq => ?_, step h.root, fun hT => ?_⟩
  · rcases List.mem_cons.1 hl' with rfl | hl'
    · exact hl
    · exact h.ok l' hl'
  · by_cases e1 : q = plc l.R l.vs.length
    · subst e1
      rw [raw.put_same] at hq
      exact ⟨(Option.some.inj hq).symm, l.ks, l.vs, hp, .inl ⟨l, List.mem_cons_self, rfl⟩⟩
    · rw [raw.put_other e1] at hq
      obtain ⟨hb, ks, vs, h1, h2⟩ := h.ens q b hq
      exact ⟨hb, ks, vs, h1, step h2⟩
  · have := (h.down hT).2
    rw [plainL_cons, Bool.and_eq_true, plain_items] at this
    refine ⟨fun l' hl' => ?_, this.2⟩
    rcases List.mem_cons.1 hl' with rfl | hl'
    · exact this.1
    · exact (h.down hT).1 l' hl'

/-- A value that is not plain. -/
theorem PSt.bad {k n : Int} {s : ByteArray} {x : Int} {ks : List Ky} {vs : List Tr} (h : PSt T B w P (.mk k n s x ks vs :: rs) e) (hk : ¬ (0 ≤ k ∧ k ≤ 4)) : plainB T = false := by
  cases hT : plainB T with
  | false => rfl
  | true =>
    have := (h.down hT).2
    rw [plainL_cons, Bool.and_eq_true] at this
    exact absurd (plain_kind this.1) hk

/-- Nothing is left: all is plain. -/
theorem PSt.fine (h : PSt T B w [] [] e) : plainB T = true := by
  have all : ∀ m x, cnt x ≤ m → Seen B w e x → plainB x = true := by
    intro m
    induction m with
    | zero => intro x hm; cases x; rw [cnt_mk] at hm; omega
    | succ m ih =>
      intro x hm hx
      obtain ⟨k, n, s, x, ks, vs⟩ := x
      by_cases h4 : k = 4
      · subst h4
        rw [plain_items, plainL_mem]
        obtain ⟨p, hp, hne⟩ := hx.2 rfl
        obtain ⟨b, hb⟩ := Option.ne_none_iff_exists'.1 hne
        obtain ⟨-, ks', vs', hp', hd⟩ := h.ens p b hb
        obtain ⟨-, rfl⟩ := hp'.is.unique hp.is
        intro y hy
        rcases hd with ⟨l, hl, _⟩ | hd
        · cases hl
        · refine ih y ?_ ((hd y hy).resolve_right (by simp))
          have : cnt y ≤ cnts vs' := by
            clear hd hp hp' hx ih
            induction vs' with
            | nil => cases hy
            | cons u vs ih2 =>
              rw [cnts_cons]
              rcases List.mem_cons.1 hy with rfl | hy
              · omega
              · have := ih2 (by rw [cnt_mk] at hm ⊢; rw [cnts_cons] at hm; omega) hy
                omega
          rw [cnt_mk] at hm
          omega
      · exact plain_other hx.1.1 hx.1.2 h4
  rcases h.root with ⟨l, hl, _⟩ | hd
  · cases hl
  · exact all _ T (Nat.le_refl _) ((hd T (by simp)).resolve_right (by simp))
end

end Go.Proofs.YtdglmnmalfpipaaGreatDoor.tree

/-
  The project's text of a value, written into a buffer of the call's own.
  Conditions: those that each theorem names.
-/
namespace Go.Proofs.YtdglmnmalfpipaaGreatDoor.tree
open Go.ChangeShapes Go.WideShapes Go.ChangeAt Go.RowKit
set_option linter.unusedVariables false

set_option maxHeartbeats 1048576 in
set_option maxRecDepth 100000 in
theorem leaf_i (k n : Int) (s : ByteArray) (x : Int) (A : Option Addr) (L c : Nat) (hk : 0 ≤ k ∧ k ≤ 3) (hn : I64 n) (hs : s.size ≤ 1000000000) (B b : Nat) (l : List UInt8) (w : World) (hB : Bf B b l w) (hBw : B ≤ w.heap.size) (hE : Tb B w) (hl : l.length ≤ 1000000000000) :
    Calls Tryz.prog 82 #[.pointer (some ⟨b, 0, none⟩), vV k n s x A L c] w (WrQ B b (l ++ lf k n s) w) := by
  have FM := Lib.hid (fun w' (hb : Below B w w') => fmt.implFormat n hn.1 hn.2 w' (hE.on hb).tab)
  have FS := Lib.hid (fun w' (hb : Below B w w') => fmt.implFormat (s.size : Int) (by omega) (by omega) w' (hE.on hb).tab)
  have hz := itoa_sz n hn
  have hy := itoa_sz (s.size : Int) (by unfold I64; omega)
  simp only [bz_num] at FM FS
  have hlf := lf_len k n s hn (by unfold maxLen; omega)
  have WS := Lib.hid (wrS B b l (bz (lf k n s)) (by rw [bz_size]; omega))
  rw [bz_list] at WS
  have HB := Lib.hid hB
  have hBA : ∀ o, Below B w (w.alloc o) := fun o => (Below.refl B w).alloc hBw o
  have hc : k = 0 ∨ k = 1 ∨ k = 2 ∨ k = 3 := by omega
  clear hk hn hE hB hlf
  rcases hc with rfl | rfl | rfl | rfl
  · have WS : Hid (∀ w, Bf B b l w → B ≤ w.heap.size → Calls Tryz.prog 150 #[.pointer (some ⟨b, 0, none⟩), .string ⟨#[78, 59]⟩] w (WsQ B b (l ++ lf 0 n s) w)) := WS
    go_enter Tryz.func82, Tryz.ntmps82
    go_wp2_with (fail)
    refine (WS.out _ (HB.out.alloc _) (Nat.le_trans hBw (b1 w _).size)).mono ?_
    rintro e w1 ⟨⟨u, rfl⟩, hq⟩
    have HQ := Lib.hid (hq.first hBw)
    clear hq
    go_wp2_with (fail)
    go_end0
    exact HQ.out.q
  · rw [show lf 1 n s = [98, 58] ++ (Lib.itoa n ++ [59]) from rfl, ← seq3] at WS
    obtain ⟨z, HZ⟩ : ∃ z, Hid (bz (Lib.itoa n) = z) := ⟨_, Lib.hid rfl⟩
    rw [HZ.out] at FM hz WS
    have WS : Hid (∀ w, Bf B b l w → B ≤ w.heap.size → Calls Tryz.prog 150 #[.pointer (some ⟨b, 0, none⟩), .string (⟨#[98, 58]⟩ ++ z ++ ⟨#[59]⟩)] w (WsQ B b (l ++ lf 1 n s) w)) := WS
    go_enter Tryz.func82, Tryz.ntmps82
    go_wp2_with (fail)
    refine (FM.out _ (hBA _)).mono ?_
    rintro e w1 ⟨rfl, hb1⟩
    have HB1 := Lib.hid (bs (b1 w _) hb1)
    have hs1 := HB1.out.size
    clear hb1
    go_wp2_with (fail)
    refine (WS.out _ (HB.out.old HB1.out) (by omega)).mono ?_
    rintro e w2 ⟨⟨u, rfl⟩, hq⟩
    have HQ := Lib.hid (hq.behind hBw HB1.out)
    clear hq
    go_wp2_with (fail)
    go_end0
    exact HQ.out.q
  · rw [show lf 2 n s = [105, 58] ++ (Lib.itoa n ++ [59]) from rfl, ← seq3] at WS
    obtain ⟨z, HZ⟩ : ∃ z, Hid (bz (Lib.itoa n) = z) := ⟨_, Lib.hid rfl⟩
    rw [HZ.out] at FM hz WS
    have WS : Hid (∀ w, Bf B b l w → B ≤ w.heap.size → Calls Tryz.prog 150 #[.pointer (some ⟨b, 0, none⟩), .string (⟨#[105, 58]⟩ ++ z ++ ⟨#[59]⟩)] w (WsQ B b (l ++ lf 2 n s) w)) := WS
    go_enter Tryz.func82, Tryz.ntmps82
    go_wp2_with (fail)
    refine (FM.out _ (hBA _)).mono ?_
    rintro e w1 ⟨rfl, hb1⟩
    have HB1 := Lib.hid (bs (b1 w _) hb1)
    have hs1 := HB1.out.size
    clear hb1
    go_wp2_with (fail)
    refine (WS.out _ (HB.out.old HB1.out) (by omega)).mono ?_
    rintro e w2 ⟨⟨u, rfl⟩, hq⟩
    have HQ := Lib.hid (hq.behind hBw HB1.out)
    clear hq
    go_wp2_with (fail)
    go_end0
    exact HQ.out.q
  · rw [show lf 3 n s = [115, 58] ++ (Lib.itoa s.size ++ ([58] ++ (s.data.toList ++ [59]))) from rfl, ← seq5, bz_of] at WS
    obtain ⟨z, HZ⟩ : ∃ z, Hid (bz (Lib.itoa s.size) = z) := ⟨_, Lib.hid rfl⟩
    rw [HZ.out] at FS hy WS
    have WS : Hid (∀ w, Bf B b l w → B ≤ w.heap.size → Calls Tryz.prog 150 #[.pointer (some ⟨b, 0, none⟩), .string (⟨#[115, 58]⟩ ++ z ++ ⟨#[58]⟩ ++ s ++ ⟨#[59]⟩)] w (WsQ B b (l ++ lf 3 n s) w)) := WS
    obtain ⟨W0, HW0⟩ : ∃ W, Hid (W = w.alloc (.cells #[.int .i64 3, .int .i64 n, .string s, .int .i64 x, .slice A L c] IV)) := ⟨_, Lib.hid rfl⟩
    have E0 : Hid (W0.heap[w.heap.size]? = some (.cells #[.int .i64 3, .int .i64 n, .string s, .int .i64 x, .slice A L c] IV (0, 0))) := Lib.hid (by rw [HW0.out]; exact heap_alloc_new w _)
    have HB0 : Hid (Below w.heap.size w W0) := Lib.hid (by rw [HW0.out]; exact b1 w _)
    have HX0 : Hid (Below B w W0) := Lib.hid (HB0.out.mono hBw)
    have hne : w.heap.size ≠ b := fun e => by have := HB.out.lt; omega
    have z0 : W0.cell? ⟨w.heap.size, 2, none⟩ = some (.string s) := (rowc E0.out).1 2
    go_enter Tryz.func82, Tryz.ntmps82
    go_wp2_with (fail)
    rw [← HW0.out]
    go_region_with (first
      | (go_at_call 151; refine (FS.out _ (HX0.out.trans ((Below.refl _ _).drew))).mono ?_
         rintro e w1 ⟨rfl, hb1⟩
         have hbx := (bs ((Below.refl W0.heap.size W0).drew) hb1)
         have z2 : w1.cell? ⟨w.heap.size, 2, none⟩ = some (.string s) := (rowc (carry hbx E0.out)).1 2
         have HB1 := Lib.hid (bs HB0.out hbx)
         have hs1 := HB1.out.size
         clear hb1 hbx)
      | (go_at_call 150; refine (WS.out _ (HB.out.old HB1.out) (by omega)).mono ?_
         rintro e w2 ⟨⟨u, rfl⟩, hq⟩
         have HQ := Lib.hid (hq.behind hBw HB1.out)
         clear hq))
    all_goals
      go_wp2_with (fail)
      go_end0
      exact HQ.out.q

/-- A key's value. -/
theorem leaf_key_i (y : Ky) (hy : I64 y.num ∧ y.str.size ≤ 1000000000) (B b : Nat) (l : List UInt8) (w : World) (hB : Bf B b l w) (hBw : B ≤ w.heap.size) (hE : Tb B w) (hl : l.length ≤ 1000000000000) :
    Calls Tryz.prog 82 #[.pointer (some ⟨b, 0, none⟩), if y.text then vV 3 0 y.str 0 none 0 0 else vV 2 y.num ⟨#[]⟩ 0 none 0 0] w (WrQ B b (l ++ serK y) w) := by
  unfold serK
  cases hb : y.text with
  | true => exact leaf_i 3 0 y.str 0 none 0 0 (by decide) (by unfold I64; omega) hy.2 B b l w hB hBw hE hl
  | false => exact leaf_i 2 y.num ⟨#[]⟩ 0 none 0 0 (by decide) hy.1 (Nat.zero_le _) B b l w hB hBw hE hl

def SeI (t : Tr) : Prop := ∀ (B b : Nat) (l : List UInt8) (w : World) (v : Value), TIn w (fun q => q < B) t v → plainB t = true → tot t ≤ 1048576 → Bf B b l w → B ≤ w.heap.size → Tb B w → l.length + (ser t).length ≤ 1000000000000 →
  Calls Tryz.prog 82 #[.pointer (some ⟨b, 0, none⟩), v] w (WrQ B b (l ++ ser t) w)

set_option maxHeartbeats 2000000 in
set_option maxRecDepth 100000 in
theorem write_i : ∀ t, SeI t := Tr.ind fun k n s x ks vs ih B b l w v h hp hT hB hBw hE hl => by
  have hkk := plain_kind hp
  have hwd := wd_sers h.wd
  obtain ⟨A, c, rfl, hk, hin⟩ := h.out
  clear h
  rw [tot] at hT
  rw [ser_mk] at hl ⊢
  by_cases h4 : k = 4
  · subst h4
    rw [if_neg (by decide)] at hl ⊢
    rw [plain_items] at hp
    obtain ⟨L, HL⟩ : ∃ L, Hid (L = vs.length) := ⟨_, Lib.hid rfl⟩
    have F1 := Lib.hid (fun w' (hb : Below B w w') => fmt.implFormat (L : Int) (by have := HL.out; omega) (by have := HL.out; omega) w' (hE.on hb).tab)
    have F2 := Lib.hid (fun w' (hb : Below B w w') => fmt.implFormat x hk.2.2.1.1 hk.2.2.1.2 w' (hE.on hb).tab)
    have hz1 := itoa_sz (L : Int) (by have := HL.out; unfold I64; omega)
    have hz2 := itoa_sz x hk.2.2.1
    simp only [bz_num] at F1 F2
    obtain ⟨T, HT⟩ : ∃ T, Hid (l ++ (hd L x ++ sers ks vs) = T) := ⟨_, Lib.hid rfl⟩
    have hTl : T.length + 1 ≤ 1000000000000 := by rw [← HT.out, HL.out]; simp only [List.length_append, List.length_cons, List.length_nil] at hl ⊢; omega
    have hLm : L ≤ 1048576 := by rw [HL.out]; omega
    have hhl : l.length + (hd L x).length ≤ 1000000000000 := by simp only [List.length_append, List.length_cons, List.length_nil] at hl; rw [← HL.out] at hl; omega
    have WS := Lib.hid (wrS B b l (bz (hd L x)) (by rw [bz_size]; omega))
    rw [bz_list] at WS
    have WE := Lib.hid (fun l' (hl' : l'.length ≤ 1000000000000) => wrS B b l' (bz [125]) (by rw [bz_size, List.length_singleton]; omega))
    rw [bz_list] at WE
    have WE : Hid (∀ l', l'.length ≤ 1000000000000 → ∀ w, Bf B b l' w → B ≤ w.heap.size → Calls Tryz.prog 150 #[.pointer (some ⟨b, 0, none⟩), .string ⟨#[125]⟩] w (WsQ B b (l' ++ [125]) w)) := WE
    rw [← seq_hd] at WS
    obtain ⟨y1, HZ1⟩ : ∃ z, Hid (bz (Lib.itoa L) = z) := ⟨_, Lib.hid rfl⟩
    obtain ⟨y2, HZ2⟩ : ∃ z, Hid (bz (Lib.itoa x) = z) := ⟨_, Lib.hid rfl⟩
    rw [HZ1.out] at F1 hz1 WS
    rw [HZ2.out] at F2 hz2 WS
    have WS : Hid (∀ w, Bf B b l w → B ≤ w.heap.size → Calls Tryz.prog 150 #[.pointer (some ⟨b, 0, none⟩), .string (⟨#[97, 58]⟩ ++ y1 ++ ⟨#[58]⟩ ++ y2 ++ ⟨#[123]⟩)] w (WsQ B b (l ++ hd L x) w)) := WS
    have HI := Lib.hid hin
    have HP := Lib.hid hp
    have HEE := Lib.hid hE
    have HBB := Lib.hid hB
    have HTOT : Hid (tots ks vs ≤ 1048576) := Lib.hid (by omega)
    have EQT : Hid (l ++ (hd vs.length x ++ (sers ks vs ++ [125])) = T ++ [125]) := Lib.hid (by rw [← HT.out, HL.out]; simp only [List.append_assoc])
    rw [EQT.out, ← HL.out]
    obtain ⟨W0, HW0⟩ : ∃ W, Hid (W = w.alloc (.cells #[.int .i64 4, .int .i64 n, .string s, .int .i64 x, .slice A L c] IV)) := ⟨_, Lib.hid rfl⟩
    have E0 : Hid (W0.heap[w.heap.size]? = some (.cells #[.int .i64 4, .int .i64 n, .string s, .int .i64 x, .slice A L c] IV (0, 0))) := Lib.hid (by rw [HW0.out]; exact heap_alloc_new w _)
    have HB0 : Hid (Below w.heap.size w W0) := Lib.hid (by rw [HW0.out]; exact b1 w _)
    have hne : w.heap.size ≠ b := fun e => by have := HBB.out.lt; omega
    have z0 : W0.cell? ⟨w.heap.size, 4, none⟩ = some (.slice A L c) := (rowc E0.out).1 4
    have z1 : W0.cell? ⟨w.heap.size, 3, none⟩ = some (.int .i64 x) := (rowc E0.out).1 3
    have s1 : ¬ 9223372036854775807 < 2 + y1.size := by omega
    have s2 : ¬ 9223372036854775807 < 2 + y1.size + 1 := by omega
    have s3 : ¬ 9223372036854775807 < 2 + y1.size + 1 + y2.size := by omega
    have s4 : ¬ 9223372036854775807 < 2 + y1.size + 1 + y2.size + 1 := by omega
    clear hin hk hwd hT hp hE hB hl hkk EQT
    go_enter Tryz.func82, Tryz.ntmps82
    go_upto_region 11 with fail
    rw [← HW0.out]
    -- HELD I11
    refine wp_region_held_drew (S := (fun w' => w'.cell? ⟨w.heap.size, 4, none⟩ = some (.slice A L c) ∧ w'.cell? ⟨w.heap.size, 3, none⟩ = some (.int .i64 x))) (by kernel_rfl) ?_ (fun hHeld => ?_)
    · (try dsimp only) <;> go_keep
    refine wpAnyH_take (i := 0) (v := ?_) rfl (by kernel_rfl) (by kernel_rfl) (by kernel_rfl) (fun _ _ _ h => h) (Or.inl ⟨by kernel_rfl, ?_⟩) (by assumption) ?_
    rotate_left
    · (intro w hSw; (try dsimp only at hSw); go_split_ands; go_simp; try (with_reducible rfl))
    try simp only [Act.put, List.setIfInBounds_toArray, List.set_cons_zero, List.set_cons_succ, List.getElem_toArray, List.getElem_cons_zero]
    refine wpAnyH_take (i := 1) (v := ?_) rfl (by kernel_rfl) (by kernel_rfl) (by kernel_rfl) (fun _ _ _ h => h) (Or.inl ⟨by kernel_rfl, ?_⟩) (by assumption) ?_
    rotate_left
    · (intro w hSw; (try dsimp only at hSw); go_split_ands; go_simp; try (with_reducible rfl))
    try simp only [Act.put, List.setIfInBounds_toArray, List.set_cons_zero, List.set_cons_succ, List.getElem_toArray, List.getElem_cons_zero, List.getElem_cons_succ]
    refine wpAnyH_take (i := 2) (v := ?_) rfl (by kernel_rfl) (by kernel_rfl) (by kernel_rfl) (fun _ _ _ h => h) (Or.inl ⟨by kernel_rfl, ?_⟩) (by assumption) ?_
    rotate_left
    · (intro w hSw; (try dsimp only at hSw); go_split_ands; go_simp; try (with_reducible rfl))
    try simp only [Act.put, List.setIfInBounds_toArray, List.set_cons_zero, List.set_cons_succ, List.getElem_toArray, List.getElem_cons_zero, List.getElem_cons_succ]
    refine wpAnyH_take (i := 3) (v := ?_) rfl (by kernel_rfl) (by kernel_rfl) (by kernel_rfl) (fun _ _ _ h => h) (Or.inl ⟨by kernel_rfl, ?_⟩) (by assumption) ?_
    rotate_left
    · (intro w hSw; (try dsimp only at hSw); go_split_ands; go_simp; try (with_reducible rfl))
    try simp only [Act.put, List.setIfInBounds_toArray, List.set_cons_zero, List.set_cons_succ, List.getElem_toArray, List.getElem_cons_zero, List.getElem_cons_succ]
    refine wpAnyH_take (i := 7) (v := ?_) rfl (by kernel_rfl) (by kernel_rfl) (by kernel_rfl) (fun _ _ _ h => h) (Or.inl ⟨by kernel_rfl, ?_⟩) (by assumption) ?_
    rotate_left
    · (intro w hSw; (try dsimp only at hSw); go_split_ands; go_simp; try (with_reducible rfl))
    try simp only [Act.put, List.setIfInBounds_toArray, List.set_cons_zero, List.set_cons_succ, List.getElem_toArray, List.getElem_cons_zero, List.getElem_cons_succ]
    refine wpAnyH_take (i := 8) (v := ?_) rfl (by kernel_rfl) (by kernel_rfl) (by kernel_rfl) (fun _ _ _ h => h) (Or.inl ⟨by kernel_rfl, ?_⟩) (by assumption) ?_
    rotate_left
    · (intro w hSw; (try dsimp only at hSw); go_split_ands; go_simp; try (with_reducible rfl))
    try simp only [Act.put, List.setIfInBounds_toArray, List.set_cons_zero, List.set_cons_succ, List.getElem_toArray, List.getElem_cons_zero, List.getElem_cons_succ]
    refine wpAnyH_ready (rs := [4]) (by kernel_rfl) (by simp) ?_
    refine AllReadyH.cons rfl (fun K hK => ?_) AllReadyH.nil
    go_simp
    go_at_call 151
    refine (F1.out _ ((HB0.out.mono hBw).trans ((Below.refl _ _).drew))).mono ?_
    rintro e w1 ⟨rfl, hb1⟩
    have hbx := (bs ((Below.refl W0.heap.size W0).drew) hb1)
    have E1 := Lib.hid (carry hbx E0.out)
    have HB1 := Lib.hid (bs HB0.out hbx)
    have a0 : w1.cell? ⟨w.heap.size, 4, none⟩ = some (.slice A L c) := (rowc E1.out).1 4
    have a1 : w1.cell? ⟨w.heap.size, 3, none⟩ = some (.int .i64 x) := (rowc E1.out).1 3
    clear hb1 hbx
    try go_wp2_with (fail)
    refine hK.out _ _ ?_ (fun hHeld => ?_)
    · ((try dsimp only); first | with_reducible exact ⟨z0, z1⟩ | with_reducible exact ⟨a0, a1⟩ | with_reducible exact ⟨b0, b1⟩ | with_reducible exact ⟨d0, d1⟩ | go_keep)
    clear hK K
    try simp only [Act.put, List.setIfInBounds_toArray, List.set_cons_zero, List.set_cons_succ, List.getElem_toArray, List.getElem_cons_zero, List.getElem_cons_succ]
    refine wpAnyH_take (i := 5) (v := ?_) rfl (by kernel_rfl) (by kernel_rfl) (by kernel_rfl) (fun _ _ _ h => h) (Or.inl ⟨by kernel_rfl, ?_⟩) (by assumption) ?_
    rotate_left
    · (intro w hSw; (try dsimp only at hSw); go_split_ands; go_simp; try (with_reducible rfl))
    try simp only [Act.put, List.setIfInBounds_toArray, List.set_cons_zero, List.set_cons_succ, List.getElem_toArray, List.getElem_cons_zero, List.getElem_cons_succ]
    refine wpAnyH_take (i := 6) (v := ?_) rfl (by kernel_rfl) (by kernel_rfl) (by kernel_rfl) (fun _ _ _ h => h) (Or.inl ⟨by kernel_rfl, ?_⟩) (by assumption) ?_
    rotate_left
    · (intro w hSw; (try dsimp only at hSw); go_split_ands; go_simp; try (with_reducible rfl))
    try simp only [Act.put, List.setIfInBounds_toArray, List.set_cons_zero, List.set_cons_succ, List.getElem_toArray, List.getElem_cons_zero, List.getElem_cons_succ]
    refine wpAnyH_ready (rs := [9]) (by kernel_rfl) (by simp) ?_
    refine AllReadyH.cons rfl (fun K hK => ?_) AllReadyH.nil
    go_simp
    go_at_call 151
    refine (F2.out _ (HB1.out.mono hBw)).mono ?_
    rintro e w2 ⟨rfl, hb2⟩
    have E2 := Lib.hid (carry hb2 E1.out)
    have HB2 := Lib.hid (bs HB1.out hb2)
    have b0 : w2.cell? ⟨w.heap.size, 4, none⟩ = some (.slice A L c) := (rowc E2.out).1 4
    have b1 : w2.cell? ⟨w.heap.size, 3, none⟩ = some (.int .i64 x) := (rowc E2.out).1 3
    clear hb2
    try go_wp2_with (fail)
    refine hK.out _ _ ?_ (fun hHeld => ?_)
    · ((try dsimp only); first | with_reducible exact ⟨z0, z1⟩ | with_reducible exact ⟨a0, a1⟩ | with_reducible exact ⟨b0, b1⟩ | with_reducible exact ⟨d0, d1⟩ | go_keep)
    clear hK K
    try simp only [Act.put, List.setIfInBounds_toArray, List.set_cons_zero, List.set_cons_succ, List.getElem_toArray, List.getElem_cons_zero, List.getElem_cons_succ]
    refine wpAnyH_take (i := 10) (v := ?_) rfl (by kernel_rfl) (by kernel_rfl) (by kernel_rfl) (fun _ _ _ h => h) (Or.inl ⟨by kernel_rfl, ?_⟩) (by assumption) ?_
    rotate_left
    · (intro w hSw; (try dsimp only at hSw); go_split_ands; go_simp; try (with_reducible rfl))
    try simp only [Act.put, List.setIfInBounds_toArray, List.set_cons_zero, List.set_cons_succ, List.getElem_toArray, List.getElem_cons_zero, List.getElem_cons_succ]
    refine wpAnyH_take (i := 11) (v := ?_) rfl (by kernel_rfl) (by kernel_rfl) (by kernel_rfl) (fun _ _ _ h => h) (Or.inl ⟨by kernel_rfl, ?_⟩) (by assumption) ?_
    rotate_left
    · (intro w hSw; (try dsimp only at hSw); go_split_ands; go_simp; try (with_reducible rfl))
    try simp only [Act.put, List.setIfInBounds_toArray, List.set_cons_zero, List.set_cons_succ, List.getElem_toArray, List.getElem_cons_zero, List.getElem_cons_succ]
    refine wpAnyH_ready (rs := [12]) (by kernel_rfl) (by simp) ?_
    refine AllReadyH.cons rfl (fun K hK => ?_) AllReadyH.nil
    go_simp
    go_at_call 150
    refine (WS.out _ (HBB.out.old HB2.out) (Nat.le_trans hBw HB2.out.size)).mono ?_
    rintro e w3 ⟨⟨u, rfl⟩, hq⟩
    have E3 := Lib.hid (hq.keep E2.out hne (by decide))
    have HQ3 := Lib.hid (hq.behind hBw HB2.out)
    have d0 : w3.cell? ⟨w.heap.size, 4, none⟩ = some (.slice A L c) := (rowc E3.out).1 4
    have d1 : w3.cell? ⟨w.heap.size, 3, none⟩ = some (.int .i64 x) := (rowc E3.out).1 3
    clear hq
    try go_wp2_with (fail)
    refine hK.out _ _ ?_ (fun hHeld => ?_)
    · ((try dsimp only); first | with_reducible exact ⟨z0, z1⟩ | with_reducible exact ⟨a0, a1⟩ | with_reducible exact ⟨b0, b1⟩ | with_reducible exact ⟨d0, d1⟩ | go_keep)
    clear hK K
    try simp only [Act.put, List.setIfInBounds_toArray, List.set_cons_zero, List.set_cons_succ, List.getElem_toArray, List.getElem_cons_zero, List.getElem_cons_succ]
    refine wpAnyH_done (by kernel_rfl) ?_ _
    clear z0 z1 a0 a1 b0 b1 s1 s2 s3 s4
    go_wp2_with (fail)
    go_loopg [62] (L + 1) (fun gk i wr => ∃ (j : Nat) (l' : List UInt8), i = .int .i64 j ∧ gk + j = L + 1 ∧ j ≤ L ∧ Hid (l' ++ sers (ks.drop j) (vs.drop j) = T) ∧ Wr B b l' w wr)
    case atStart => exact ⟨0, l ++ hd L x, rfl, by omega, by omega, Lib.hid (by rw [List.drop_zero, List.drop_zero, List.append_assoc]; exact HT.out), HQ3.out⟩
    case round =>
      obtain ⟨j, l', rfl, hgj, hjL, HQ, hw⟩ := hrel
      have HWR := Lib.hid hw
      have hls : l'.length + (sers (ks.drop j) (vs.drop j)).length + 1 ≤ 1000000000000 := by
        have := congrArg List.length HQ.out
        rw [List.length_append] at this
        omega
      have hBr : B ≤ wr.heap.size := Nat.le_trans hBw hw.below.size
      clear hw
      by_cases hlt : j < L
      · have hinr : IsIn wr (fun q => q < B) ks vs A := HI.out.stays (fun _ h => h) (fun q hq _ => HWR.out.below.block q hq)
        obtain ⟨a, ⟨yb, yn, ys⟩, k', n', s', x', ks', vs', A1, c1, rfl, hS, hky, hvs, ht, hyb, hkb, hin', hcell⟩ := hinr.item (i := j) (by rw [← HL.out]; exact hlt)
        have htm := tots_item hky hvs
        have hto := HTOT.out
        have hys : ys.size ≤ 1048576 := by have : (Ky.mk yb yn ys).str.size = ys.size := rfl; omega
        have hpl : plainB (.mk k' n' s' x' ks' vs') = true := plainL_mem.1 HP.out _ (List.mem_of_getElem? hvs)
        have hdr := sers_drop hky hvs
        have hln := congrArg List.length hdr
        simp only [List.length_append] at hln
        have hEr : Tb B wr := HEE.out.on HWR.out.below
        have KV := Lib.hid (keyValue_i ⟨yb, yn, ys⟩ (Nat.le_trans hys (by decide)))
        have LK := Lib.hid (fun w' hB' hBw' (hb : Below B wr w') => leaf_key_i ⟨yb, yn, ys⟩ ⟨hyb.1, Nat.le_trans hys (by decide)⟩ B b l' w' hB' hBw' (hEr.on hb) (by omega))
        have ihj := Lib.hid (fun w' hB' hBw' (hb : Below B wr w') => ih _ (List.mem_of_getElem? hvs) B b (l' ++ serK ⟨yb, yn, ys⟩) w' _ (ht.stays (S' := fun q => q < B) (fun _ h => h) (fun q hq _ => hb.block q hq)) hpl (by omega) hB' hBw' (hEr.on hb) (by rw [List.length_append]; omega))
        obtain ⟨L1, HL1⟩ : ∃ L1, Hid (L1 = vs'.length) := ⟨_, Lib.hid rfl⟩
        rw [← HL1.out] at hcell ihj
        have HD : Hid (l' ++ serK ⟨yb, yn, ys⟩ ++ ser (.mk k' n' s' x' ks' vs') ++ sers (ks.drop (j + 1)) (vs.drop (j + 1)) = T) := Lib.hid (by rw [← HQ.out, hdr]; simp only [List.append_assoc])
        obtain ⟨SK, HSK⟩ : ∃ z, Hid (serK ⟨yb, yn, ys⟩ = z) := ⟨_, Lib.hid rfl⟩
        obtain ⟨SV, HSV⟩ : ∃ z, Hid (ser (.mk k' n' s' x' ks' vs') = z) := ⟨_, Lib.hid rfl⟩
        rw [HSK.out] at LK ihj HD
        rw [HSV.out] at ihj HD
        obtain ⟨V, HV⟩ : ∃ V, Hid ((if (Ky.mk yb yn ys).text = true then vV 3 0 (Ky.mk yb yn ys).str 0 none 0 0 else vV 2 (Ky.mk yb yn ys).num ⟨#[]⟩ 0 none 0 0) = V) := ⟨_, Lib.hid rfl⟩
        rw [HV.out] at KV LK
        clear hky hvs ht hin' hyb hkb hS htm hto hys hinr hpl hdr hln hEr
        obtain ⟨p0, p1, p2, p3, p4, p5, p6, p7⟩ := hcell
        obtain ⟨W2, HW2⟩ : ∃ W, Hid (W = wr.alloc (.cells #[.bool yb, .int .i64 yn, .string ys, .int .i64 k', .int .i64 n', .string s', .int .i64 x', .slice A1 L1 c1] IE)) := ⟨_, Lib.hid rfl⟩
        have I2 : Hid (W2.heap[wr.heap.size]? = some (.cells #[.bool yb, .int .i64 yn, .string ys, .int .i64 k', .int .i64 n', .string s', .int .i64 x', .slice A1 L1 c1] IE (0, 0))) := Lib.hid (by rw [HW2.out]; exact heap_alloc_new wr _)
        have HB2' : Hid (Below wr.heap.size wr W2) := Lib.hid (by rw [HW2.out]; exact b1 wr _)
        have hne2 : wr.heap.size ≠ b := fun e => by have := HWR.out.bf.lt; omega
        obtain ⟨M, HM⟩ : ∃ M, Hid (M = wr.heap.size) := ⟨_, Lib.hid rfl⟩
        go_wp2_with (fail)
        rw [← HW2.out]
        refine (KV.out _).mono ?_
        rintro e w4 ⟨rfl, hb4⟩
        have HB4 := Lib.hid (bs HB2'.out hb4)
        have I4 := Lib.hid (carry hb4 I2.out)
        clear hb4 p0 p1 p2 p3 p4 p5 p6 p7
        go_wp2_with (fail)
        refine (LK.out _ (HWR.out.bf.old HB4.out) (Nat.le_trans hBr HB4.out.size) (HB4.out.mono hBr)).mono ?_
        rintro e w5 ⟨rfl, hq5⟩
        have I5 := Lib.hid (hq5.keep I4.out hne2 (by decide))
        have HQ5 := Lib.hid (hq5.behind hBr HB4.out)
        obtain ⟨r5, -⟩ := rowc I5.out
        clear hq5
        go_wp2_with (fail)
        refine (ihj.out _ HQ5.out.bf (Nat.le_trans hBr HQ5.out.below.size) HQ5.out.below).mono ?_
        rintro e w6 ⟨rfl, hq6⟩
        have HQ6 := Lib.hid (HQ5.out.trans hq6)
        clear hq6 r5
        go_wp2_with (fail)
        go_roundg (L - j)
        case rel => exact ⟨j + 1, _, by go_num, by omega, by omega, HD, HWR.out.trans HQ6.out⟩
        case measure => omega
      · have hjl : j = L := by omega
        have HF : Hid (l' = T) := Lib.hid (by
          have := HQ.out
          rw [show vs.drop j = [] from List.drop_eq_nil_of_le (by rw [hjl]; exact Nat.le_of_eq HL.out.symm), sers_nil, List.append_nil] at this
          exact this)
        go_wp2_with (fail)
        refine (WE.out l' (by omega) _ HWR.out.bf hBr).mono ?_
        rintro e w7 ⟨⟨u, rfl⟩, hq7⟩
        have HQ7 := Lib.hid (HWR.out.trans hq7)
        clear hq7
        go_wp2_with (fail)
        go_end0
        exact (show Wr B b (T ++ [125]) w _ from HF.out ▸ HQ7.out).q
    -- DLEH
  · rw [if_pos (by omega)] at hl ⊢
    exact leaf_i k n s x A vs.length c (by omega) hk.2.1 (by omega) B b l w hB hBw hE (by omega)

end Go.Proofs.YtdglmnmalfpipaaGreatDoor.tree

/-
  Reading a value off its text, of the project and of the model, as functions on lists of bytes: both read just the texts of plain and valid values.
  Conditions: those that each theorem names.
-/
namespace Go.Proofs.YtdglmnmalfpipaaGreatDoor.tree
open Go.ChangeShapes Go.WideShapes Go.ChangeAt Go.RowKit
set_option linter.unusedVariables false

theorem itoa_byte (n : Int) (b : UInt8) (h : b ∈ Lib.itoa n) : b.toNat ≤ 57 := by
  by_cases hn : n < 0
  · rw [dec.itoa_neg' hn] at h
    rcases List.mem_cons.1 h with rfl | h
    · decide
    · exact (dec.decDigits_dig _ b h).2
  · rw [dec.itoa_pos' hn] at h
    exact (dec.decDigits_dig _ b h).2
theorem itoa_twelve (n : Int) (h : -1000000000 ≤ n) (h' : n ≤ 1000000001) : (Lib.itoa n).length ≤ 12 := by
  have e : (10 : Nat) ^ 11 = 100000000000 := by decide
  by_cases hn : n < 0
  · rw [dec.itoa_neg' hn, List.length_cons, Lib.decDigits_length]
    have := dec.nDigits_le 11 n.natAbs (by omega) (by omega)
    omega
  · rw [dec.itoa_pos' hn, Lib.decDigits_length]
    have := dec.nDigits_le 11 n.toNat (by omega) (by omega)
    omega
theorem itoa_zero : Lib.itoa 0 = [48] := by
  rw [dec.itoa_pos' (by omega), show (0 : Int).toNat = 0 from rfl, Lib.decDigits_one (by omega)]
  rfl
theorem itoa_one : Lib.itoa 1 = [49] := by
  rw [dec.itoa_pos' (by omega), show (1 : Int).toNat = 1 from rfl, Lib.decDigits_one (by omega)]
  rfl
theorem itoa_big : Lib.itoa 1000000001 = [49, 48, 48, 48, 48, 48, 48, 48, 48, 49] := by
  rw [dec.itoa_pos' (by omega), show (1000000001 : Int).toNat = 1000000001 from rfl]
  rw [dec.decDigits_step (u := 1000000001) (by omega), dec.decDigits_step (u := 1000000001 / 10) (by omega), dec.decDigits_step (u := 1000000001 / 10 / 10) (by omega), dec.decDigits_step (u := 1000000001 / 10 / 10 / 10) (by omega), dec.decDigits_step (u := 1000000001 / 10 / 10 / 10 / 10) (by omega), dec.decDigits_step (u := 1000000001 / 10 / 10 / 10 / 10 / 10) (by omega), dec.decDigits_step (u := 1000000001 / 10 / 10 / 10 / 10 / 10 / 10) (by omega), dec.decDigits_step (u := 1000000001 / 10 / 10 / 10 / 10 / 10 / 10 / 10) (by omega), dec.decDigits_step (u := 1000000001 / 10 / 10 / 10 / 10 / 10 / 10 / 10 / 10) (by omega), Lib.decDigits_one (by omega)]
  rfl
/-- What stands ahead of the first c, and what stands behind it. -/
def cutC (c : UInt8) : List UInt8 → Option (List UInt8 × List UInt8)
  | [] => none
  | b :: l => if b = c then some ([], l) else (cutC c l).map fun p => (b :: p.1, p.2)
theorem cutC_in {c : UInt8} : ∀ (d r : List UInt8), c ∉ d → cutC c (d ++ c :: r) = some (d, r)
  | [], r, _ => by rw [List.nil_append, cutC, if_pos rfl]
  | b :: d, r, h => by
    rw [List.cons_append, cutC, if_neg (fun e => h (by simp [e])), cutC_in d r (fun e => h (by simp [e]))]
    rfl
theorem cutC_out {c : UInt8} : ∀ {l d r : List UInt8}, cutC c l = some (d, r) → l = d ++ c :: r ∧ c ∉ d
  | [], d, r, h => by rw [cutC] at h; cases h
  | b :: l, d, r, h => by
    rw [cutC] at h
    by_cases e : b = c
    · rw [if_pos e] at h
      cases h
      subst e
      exact ⟨rfl, by simp⟩
    · rw [if_neg e] at h
      obtain ⟨⟨d', r'⟩, h1, h2⟩ := Option.map_eq_some_iff.1 h
      cases h2
      obtain ⟨e1, e2⟩ := cutC_out h1
      refine ⟨by rw [e1]; rfl, fun hm => ?_⟩
      rcases List.mem_cons.1 hm with h3 | h3
      · exact e h3.symm
      · exact e2 h3
/-- What is left behind a prefix. -/
def pf : List UInt8 → List UInt8 → Option (List UInt8)
  | [], l => some l
  | a :: p, b :: l => if a = b then pf p l else none
  | _ :: _, [] => none
theorem pf_in : ∀ p r, pf p (p ++ r) = some r
  | [], r => by rw [List.nil_append, pf]
  | a :: p, r => by rw [List.cons_append, pf, if_pos rfl, pf_in p r]
theorem pf_out : ∀ {p l r : List UInt8}, pf p l = some r → l = p ++ r
  | [], l, r, h => by rw [pf] at h; cases h; rfl
  | a :: p, [], r, h => by rw [pf] at h; cases h
  | a :: p, b :: l, r, h => by
    rw [pf] at h
    by_cases e : a = b
    · rw [if_pos e] at h
      rw [pf_out h, e]
      rfl
    · rw [if_neg e] at h
      cases h
theorem pf_head {a b : UInt8} {p l : List UInt8} (h : a ≠ b) : pf (a :: p) (b :: l) = none := by rw [pf, if_neg h]
theorem pf_two {a b b' : UInt8} {p l : List UInt8} (h : b ≠ b') : pf (a :: b :: p) (a :: b' :: l) = none := by rw [pf, if_pos rfl, pf, if_neg h]
theorem not_num {c : UInt8} (hc : 58 ≤ c.toNat) (n : Int) : c ∉ Lib.itoa n := fun h => by
  have := itoa_byte n c h
  omega
/-- A number ahead of c. -/
def nm (c : UInt8) (lo hi : Int) (l : List UInt8) : Option (Int × List UInt8) := (cutC c l).bind fun p => if (dec.pr lo hi p.1).2 = true then some ((dec.pr lo hi p.1).1, p.2) else none
theorem nm_out {c : UInt8} {lo hi n : Int} {l r : List UInt8} (h : nm c lo hi l = some (n, r)) : l = Lib.itoa n ++ c :: r ∧ lo ≤ n ∧ n ≤ hi := by
  obtain ⟨⟨d, r'⟩, h1, h2⟩ := Option.bind_eq_some_iff.1 h
  by_cases hp : (dec.pr lo hi d).2 = true
  · simp only [hp, if_true] at h2
    cases h2
    obtain ⟨e1, e2, e3⟩ := dec.pr_true hp
    rw [e1]
    exact ⟨(cutC_out h1).1, e2, e3⟩
  · simp only [hp] at h2
    cases h2
theorem nm_in {c : UInt8} {lo hi n : Int} (hc : 58 ≤ c.toNat) (h0 : -9223372036854775808 ≤ n) (h1 : n ≤ 9223372036854775807) (hl : lo ≤ n) (hh : n ≤ hi) (r : List UInt8) : nm c lo hi (Lib.itoa n ++ c :: r) = some (n, r) := by
  unfold nm
  rw [cutC_in _ _ (not_num hc n)]
  simp only [Option.bind_some]
  rw [dec.pr_yes rfl h0 h1 hl hh]
  rfl
/-- So many letters, and a semicolon. -/
def txN (n : Nat) (r : List UInt8) : Option (List UInt8 × List UInt8) := if n ≤ r.length then (pf [59] (r.drop n)).map fun q => (r.take n, q) else none
theorem txN_out {n : Nat} {r d q : List UInt8} (h : txN n r = some (d, q)) : r = d ++ ([59] ++ q) ∧ d.length = n := by
  unfold txN at h
  split at h
  · rename_i hn
    obtain ⟨q', h1, h2⟩ := Option.map_eq_some_iff.1 h
    cases h2
    rw [← pf_out h1, List.take_append_drop, List.length_take]
    exact ⟨rfl, by omega⟩
  · cases h
theorem txN_in (d q : List UInt8) : txN d.length (d ++ ([59] ++ q)) = some (d, q) := by
  unfold txN
  rw [if_pos (by simp), List.drop_left, pf_in, List.take_left]
  rfl
def tx (l : List UInt8) : Option (List UInt8 × List UInt8) := (nm 58 0 1000000000000 l).bind fun p => txN p.1.toNat p.2
theorem tx_out {l d q : List UInt8} (h : tx l = some (d, q)) : l = Lib.itoa d.length ++ ([58] ++ (d ++ ([59] ++ q))) := by
  obtain ⟨⟨n, r⟩, h1, h2⟩ := Option.bind_eq_some_iff.1 h
  obtain ⟨e1, e2, -⟩ := nm_out h1
  obtain ⟨e3, e4⟩ := txN_out h2
  rw [e1, show n = (d.length : Int) by rw [e4]; simp only; omega]
  simp only at e3
  rw [e3]
  rfl
theorem tx_in (d q : List UInt8) (hd : d.length ≤ 1000000000000) : tx (Lib.itoa d.length ++ ([58] ++ (d ++ ([59] ++ q)))) = some (d, q) := by
  unfold tx
  rw [show [58] ++ (d ++ ([59] ++ q)) = 58 :: (d ++ ([59] ++ q)) from rfl, nm_in (by decide) (by omega) (by omega) (by omega) (by omega)]
  exact txN_in d q
/-- A value that is no array. -/
def leaf (k n : Int) (s : ByteArray) : Tr := .mk k n s 0 [] []
/-- The project's key. -/
def rdK (l : List UInt8) : Option (Ky × List UInt8) :=
  match pf [105, 58] l with
  | some r => (nm 59 (-1000000000) 1000000000 r).map fun p => (⟨false, p.1, ⟨#[]⟩⟩, p.2)
  | none => match pf [115, 58] l with
    | some r => (tx r).map fun p => (⟨true, 0, bz p.1⟩, p.2)
    | none => none
/-- Items, by a reader of values. -/
def its (rd : Nat → List UInt8 → Option (Tr × List UInt8 × Nat)) : Nat → Nat → List UInt8 → Option (List Ky × List Tr × List UInt8 × Nat)
  | 0, W, l => some ([], [], l, W)
  | n + 1, W, l => (rdK l).bind fun p => (rd W p.2).bind fun q => (its rd n q.2.2 q.2.1).map fun z => (p.1 :: z.1, q.1 :: z.2.1, z.2.2.1, z.2.2.2)
/-- The project's value that is no array: not one (none), none read (some none). -/
def rdS (l : List UInt8) : Option (Option (Tr × List UInt8)) :=
  match pf [78, 59] l with
  | some r => some (some (leaf 0 0 ⟨#[]⟩, r))
  | none => match pf [98, 58, 48, 59] l with
    | some r => some (some (leaf 1 0 ⟨#[]⟩, r))
    | none => match pf [98, 58, 49, 59] l with
      | some r => some (some (leaf 1 1 ⟨#[]⟩, r))
      | none => match pf [105, 58] l with
        | some r => some ((nm 59 (-1000000000) 1000000000 r).map fun p => (leaf 2 p.1 ⟨#[]⟩, p.2))
        | none => match pf [115, 58] l with
          | some r => some ((tx r).map fun p => (leaf 3 0 (bz p.1), p.2))
          | none => none
/-- The project's array, behind its first two letters. -/
def rdA (rd : Nat → List UInt8 → Option (Tr × List UInt8 × Nat)) (W : Nat) (r : List UInt8) : Option (Tr × List UInt8 × Nat) :=
  (nm 58 0 1000000000000 r).bind fun p => (nm 123 0 1000000000000 p.2).bind fun q => (its rd p.1.toNat W q.2).bind fun z => (pf [125] z.2.2.1).map fun e => (.mk 4 0 ⟨#[]⟩ q.1 z.1 z.2.1, e, z.2.2.2)
/-- The project's value: what is read, what is left of the text and of the weight. -/
def rdP : Nat → Nat → List UInt8 → Option (Tr × List UInt8 × Nat)
  | 0, _, _ => none
  | _ + 1, 0, _ => none
  | f + 1, W + 1, l => match rdS l with
    | some o => o.map fun p => (p.1, p.2, W)
    | none => match pf [97, 58] l with
      | some r => rdA (rdP f) W r
      | none => none

/-- A text that is read is the value's text. -/
def Reads (t : Tr) (l r : List UInt8) : Prop := l = ser t ++ r ∧ plainB t = true ∧ fits t
theorem ser_leaf {k n : Int} {s : ByteArray} (h : 0 ≤ k ∧ k ≤ 3) : ser (leaf k n s) = lf k n s := by unfold leaf; rw [ser_mk, if_pos h]
theorem leaf_reads {k n : Int} {s : ByteArray} {l r : List UInt8} (h : 0 ≤ k ∧ k ≤ 3) (hl : l = lf k n s ++ r) : Reads (leaf k n s) l r := by
  refine ⟨by rw [ser_leaf h]; exact hl, ?_, ?_⟩
  · unfold leaf
    rw [plainB]
    simp [h]
  · unfold leaf
    rw [fits, fitss]
    exact ⟨rfl, trivial⟩
theorem rdK_out {l r : List UInt8} {y : Ky} (h : rdK l = some (y, r)) : l = serK y ++ r := by
  unfold rdK at h
  split at h
  · rename_i r1 h1
    obtain ⟨⟨n, r2⟩, h2, h3⟩ := Option.map_eq_some_iff.1 h
    cases h3
    rw [pf_out h1, (nm_out h2).1]
    simp [serK, lf]
  · split at h
    · rename_i r1 h1
      obtain ⟨⟨d, r2⟩, h2, h3⟩ := Option.map_eq_some_iff.1 h
      cases h3
      rw [pf_out h1, tx_out h2]
      simp [serK, lf, bz_list, bz_size]
    · cases h
theorem rdS_out {l r : List UInt8} {t : Tr} (h : rdS l = some (some (t, r))) : Reads t l r := by
  unfold rdS at h
  split at h
  · rename_i r1 h1
    cases h
    exact leaf_reads (by decide) (pf_out h1)
  · split at h
    · rename_i r1 h1
      cases h
      exact leaf_reads (by decide) (by rw [pf_out h1]; unfold lf; simp [itoa_zero])
    · split at h
      · rename_i r1 h1
        cases h
        exact leaf_reads (by decide) (by rw [pf_out h1]; unfold lf; simp [itoa_one])
      · split at h
        · rename_i r1 h1
          obtain ⟨⟨n, r2⟩, h2, h3⟩ := Option.map_eq_some_iff.1 (Option.some.inj h)
          cases h3
          exact leaf_reads (by decide) (by rw [pf_out h1, (nm_out h2).1]; simp [lf])
        · split at h
          · rename_i r1 h1
            obtain ⟨⟨d, r2⟩, h2, h3⟩ := Option.map_eq_some_iff.1 (Option.some.inj h)
            cases h3
            exact leaf_reads (by decide) (by rw [pf_out h1, tx_out h2]; simp [lf, bz_list, bz_size])
          · cases h
theorem its_out {rd : Nat → List UInt8 → Option (Tr × List UInt8 × Nat)} (hrd : ∀ W l t r W', rd W l = some (t, r, W') → Reads t l r) : ∀ (n W : Nat) (l : List UInt8) (ks : List Ky) (vs : List Tr) (r : List UInt8) (W' : Nat), its rd n W l = some (ks, vs, r, W') →
    l = sers ks vs ++ r ∧ plainL vs = true ∧ ks.length = n ∧ vs.length = n ∧ fitss vs
  | 0, W, l, ks, vs, r, W', h => by
    rw [its] at h
    cases h
    exact ⟨by rw [sers_nil]; rfl, by rw [plainL], rfl, rfl, by rw [fitss]; trivial⟩
  | n + 1, W, l, ks, vs, r, W', h => by
    rw [its] at h
    obtain ⟨⟨y, l1⟩, h1, h⟩ := Option.bind_eq_some_iff.1 h
    obtain ⟨⟨t, l2, W2⟩, h2, h⟩ := Option.bind_eq_some_iff.1 h
    obtain ⟨⟨ks', vs', r', W3⟩, h3, h⟩ := Option.map_eq_some_iff.1 h
    cases h
    obtain ⟨a1, a2, a3⟩ := hrd _ _ _ _ _ h2
    obtain ⟨b1, b2, b3, b4, b5⟩ := its_out hrd n _ _ _ _ _ _ h3
    simp only at a1 b1
    refine ⟨?_, by rw [plainL_cons, a2, b2]; rfl, by simp [b3], by simp [b4], by rw [fitss]; exact ⟨a3, b5⟩⟩
    rw [rdK_out h1, a1, b1, sers_cons]
    simp
theorem array_reads {x : Int} {ks : List Ky} {vs : List Tr} {l r : List UInt8} (hl : l = hd vs.length x ++ (sers ks vs ++ ([125] ++ r))) (hp : plainL vs = true) (hk : ks.length = vs.length) (hf : fitss vs) : Reads (.mk 4 0 ⟨#[]⟩ x ks vs) l r := by
  refine ⟨?_, by rw [plain_items]; exact hp, by rw [fits]; exact ⟨hk, hf⟩⟩
  rw [ser_mk, if_neg (by decide), hl]
  simp
theorem rdP_out : ∀ (f W : Nat) (l : List UInt8) (t : Tr) (r : List UInt8) (W' : Nat), rdP f W l = some (t, r, W') → Reads t l r
  | 0, W, l, t, r, W', h => by rw [rdP] at h; cases h
  | f + 1, 0, l, t, r, W', h => by rw [rdP] at h; cases h
  | f + 1, W + 1, l, t, r, W', h => by
    rw [rdP] at h
    split at h
    · rename_i o ho
      obtain ⟨⟨t', r'⟩, h1, h2⟩ := Option.map_eq_some_iff.1 h
      cases h2
      subst h1
      exact rdS_out ho
    · split at h
      · rename_i r1 h1
        unfold rdA at h
        obtain ⟨⟨n, l1⟩, h2, h⟩ := Option.bind_eq_some_iff.1 h
        obtain ⟨⟨x, l2⟩, h3, h⟩ := Option.bind_eq_some_iff.1 h
        obtain ⟨⟨ks, vs, l3, W3⟩, h4, h⟩ := Option.bind_eq_some_iff.1 h
        obtain ⟨e, h5, h⟩ := Option.map_eq_some_iff.1 h
        cases h
        obtain ⟨b1, b2, b3, b4, b5⟩ := its_out (rdP_out f) _ _ _ _ _ _ _ h4
        obtain ⟨n1, n2, -⟩ := nm_out h2
        simp only at b3 b4 n1 b1 h3 h5
        refine array_reads ?_ b2 (by rw [b3, b4]) b5
        rw [pf_out h1, n1, (nm_out h3).1, b1, pf_out h5]
        rw [show n = (vs.length : Int) by rw [b4]; omega]
        simp [hd]
      · cases h
theorem sz_list (s : ByteArray) : s.data.toList.length = s.size := Array.length_toList
theorem rdK_in {y : Ky} (h : keyB y = true) (r : List UInt8) : rdK (serK y ++ r) = some (y, r) := by
  obtain ⟨b, n, s⟩ := y
  unfold keyB nums.inr at h
  cases b with
  | true =>
    simp at h
    obtain ⟨⟨rfl, h2⟩, -⟩ := h
    unfold rdK serK
    have e : lf 3 0 s ++ r = [115, 58] ++ (Lib.itoa s.data.toList.length ++ ([58] ++ (s.data.toList ++ ([59] ++ r)))) := by rw [sz_list]; simp [lf]
    simp only [if_true]
    rw [e, pf_in, show ∀ l, pf [105, 58] ([115, 58] ++ l) = none from fun l => pf_head (by decide)]
    simp only
    rw [tx_in _ _ (by rw [sz_list]; omega)]
    rfl
  | false =>
    simp only [Bool.false_eq_true, if_false, Bool.and_eq_true, decide_eq_true_eq] at h
    obtain ⟨⟨h1, h2⟩, h3⟩ := h
    obtain rfl := empty_of h3
    unfold rdK serK
    have e : lf 2 n ⟨#[]⟩ ++ r = [105, 58] ++ (Lib.itoa n ++ 59 :: r) := by simp [lf]
    simp only [Bool.false_eq_true, if_false]
    rw [e, pf_in]
    simp only
    rw [nm_in (by decide) (by omega) (by omega) h1 h2]
    rfl
theorem rdS_in {k n : Int} {s : ByteArray} (hk : 0 ≤ k ∧ k ≤ 3) (h : restB k n s 0 0 = true) (r : List UInt8) : rdS (lf k n s ++ r) = some (some (leaf k n s, r)) := by
  unfold restB at h
  have hs := h
  simp only [Bool.and_eq_true, Bool.or_eq_true, decide_eq_true_eq] at hs
  obtain ⟨⟨h1, -, -⟩, h2⟩ := hs
  have hc : k = 0 ∨ k = 1 ∨ k = 2 ∨ k = 3 := by omega
  rcases hc with rfl | rfl | rfl | rfl
  · obtain rfl := empty_of (h1.resolve_left (by decide))
    have : n = 0 := by simpa [scalB] using h2
    subst this
    unfold rdS
    rw [show lf 0 0 ⟨#[]⟩ ++ r = [78, 59] ++ r by simp [lf], pf_in]
  · obtain rfl := empty_of (h1.resolve_left (by decide))
    have h3 : 0 ≤ n ∧ n ≤ 1 := by simpa [scalB, nums.inr] using h2
    have h4 : n = 0 ∨ n = 1 := by omega
    unfold rdS
    rcases h4 with rfl | rfl
    · rw [show lf 1 0 ⟨#[]⟩ ++ r = [98, 58, 48, 59] ++ r by simp [lf, itoa_zero], pf_in]
      rw [show pf [78, 59] ([98, 58, 48, 59] ++ r) = none from pf_head (by decide)]
    · rw [show lf 1 1 ⟨#[]⟩ ++ r = [98, 58, 49, 59] ++ r by simp [lf, itoa_one], pf_in]
      rw [show pf [78, 59] ([98, 58, 49, 59] ++ r) = none from pf_head (by decide), show pf [98, 58, 48, 59] ([98, 58, 49, 59] ++ r) = none from by simp [pf]]
  · obtain rfl := empty_of (h1.resolve_left (by decide))
    have h3 : -1000000000 ≤ n ∧ n ≤ 1000000000 := by simpa [scalB, nums.inr] using h2
    unfold rdS
    rw [show lf 2 n ⟨#[]⟩ ++ r = [105, 58] ++ (Lib.itoa n ++ 59 :: r) by simp [lf], pf_in]
    rw [show ∀ l, pf [78, 59] ([105, 58] ++ l) = none from fun l => pf_head (by decide), show ∀ l, pf [98, 58, 48, 59] ([105, 58] ++ l) = none from fun l => pf_head (by decide), show ∀ l, pf [98, 58, 49, 59] ([105, 58] ++ l) = none from fun l => pf_head (by decide)]
    simp only
    rw [nm_in (by decide) (by omega) (by omega) h3.1 h3.2]
    rfl
  · have h3 : n = 0 ∧ s.size ≤ 400 := by simpa [scalB] using h2
    obtain ⟨rfl, h4⟩ := h3
    unfold rdS
    rw [show lf 3 0 s ++ r = [115, 58] ++ (Lib.itoa s.data.toList.length ++ ([58] ++ (s.data.toList ++ ([59] ++ r)))) by rw [sz_list]; simp [lf], pf_in]
    rw [show ∀ l, pf [78, 59] ([115, 58] ++ l) = none from fun l => pf_head (by decide), show ∀ l, pf [98, 58, 48, 59] ([115, 58] ++ l) = none from fun l => pf_head (by decide), show ∀ l, pf [98, 58, 49, 59] ([115, 58] ++ l) = none from fun l => pf_head (by decide), show ∀ l, pf [105, 58] ([115, 58] ++ l) = none from fun l => pf_head (by decide)]
    simp only
    rw [tx_in _ _ (by rw [sz_list]; omega)]
    rfl
theorem rdS_no (c : UInt8) (l : List UInt8) (h1 : c ≠ 78) (h2 : c ≠ 98) (h3 : c ≠ 105) (h4 : c ≠ 115) : rdS (c :: l) = none := by
  unfold rdS
  rw [pf_head h1.symm, pf_head h2.symm, pf_head h2.symm, pf_head h3.symm, pf_head h4.symm]
theorem snd_items {x : Int} {seen : List Ky} {y : Ky} {ks : List Ky} {t : Tr} {vs : List Tr} (h : itemsB x seen (y :: ks) (t :: vs) = true) : keyB y = true ∧ sndB t = true ∧ itemsB x (seen ++ [y]) ks vs = true := by
  rw [items_cons] at h
  simp only [Bool.and_eq_true] at h
  obtain ⟨⟨-, h1, h2⟩, h3⟩ := h
  unfold belowB at h1
  simp only [Bool.and_eq_true] at h1
  exact ⟨h1.1, h2, h3⟩
theorem its_in {rd : Nat → List UInt8 → Option (Tr × List UInt8 × Nat)} {f : Nat} (x : Int) : ∀ (vs : List Tr) (ks seen : List Ky) (W : Nat) (r : List UInt8),
    (∀ t ∈ vs, ∀ W r, wgt t ≤ W → W ≤ f → sndB t = true → plainB t = true → fits t → rd W (ser t ++ r) = some (t, r, W - wgt t)) →
    itemsB x seen ks vs = true → plainL vs = true → ks.length = vs.length → fitss vs → wgts vs ≤ W → W ≤ f → its rd vs.length W (sers ks vs ++ r) = some (ks, vs, r, W - wgts vs)
  | [], ks, seen, W, r, _, _, _, hl, _, _, _ => by
    obtain rfl : ks = [] := List.eq_nil_of_length_eq_zero hl
    rw [sers_nil, wgts_nil]
    rfl
  | t :: vs, [], seen, W, r, _, _, _, hl, _, _, _ => by simp at hl
  | t :: vs, y :: ks, seen, W, r, hrd, hi, hp, hl, hf, hw, hWf => by
    obtain ⟨h1, h2, h3⟩ := snd_items hi
    rw [plainL_cons, Bool.and_eq_true] at hp
    rw [fitss] at hf
    rw [wgts_cons] at hw
    rw [sers_cons, List.length_cons, its, wgts_cons]
    rw [show serK y ++ (ser t ++ sers ks vs) ++ r = serK y ++ (ser t ++ (sers ks vs ++ r)) by simp, rdK_in h1]
    simp only [Option.bind_some]
    rw [hrd t (by simp) W _ (by omega) hWf h2 hp.1 hf.1]
    simp only [Option.bind_some]
    rw [its_in x vs ks _ (W - wgt t) r (fun u hu => hrd u (by simp [hu])) h3 hp.2 (by simpa using hl) hf.2 (by omega) (by omega)]
    simp only [Option.map_some]
    rw [show W - wgt t - wgts vs = W - (wgt t + wgts vs) by omega]
theorem len_wgts : ∀ vs : List Tr, vs.length ≤ wgts vs
  | [] => by simp
  | t :: vs => by
    have := len_wgts vs
    have := wgt_pos t
    rw [wgts_cons, List.length_cons]
    omega
theorem rdP_in : ∀ (t : Tr) (f W : Nat) (r : List UInt8), wgt t ≤ W → W ≤ f → f ≤ 1000000 → sndB t = true → plainB t = true → fits t → rdP f W (ser t ++ r) = some (t, r, W - wgt t) := Tr.ind fun k n s x ks vs ih f W r hw hWf hf hs hp hfit => by
  have hpos := wgt_pos (.mk k n s x ks vs)
  obtain ⟨W, rfl⟩ : ∃ W', W = W' + 1 := ⟨W - 1, by omega⟩
  obtain ⟨f, rfl⟩ : ∃ f', f = f' + 1 := ⟨f - 1, by omega⟩
  have hk := plain_kind hp
  rw [ser_mk, rdP]
  by_cases h4 : k = 4
  · subst h4
    rw [if_neg (by decide)]
    rw [snd_four] at hs
    rw [plain_items] at hp
    rw [wgt_four] at hw ⊢
    rw [fits] at hfit
    simp only [Bool.and_eq_true, decide_eq_true_eq, nums.inr] at hs
    obtain ⟨h1, rfl, ⟨h2, h3⟩, h5⟩ := hs
    obtain rfl := empty_of h1
    have hlen := len_wgts vs
    have e : hd vs.length x ++ (sers ks vs ++ [125]) ++ r = [97, 58] ++ (Lib.itoa vs.length ++ 58 :: (Lib.itoa x ++ 123 :: (sers ks vs ++ ([125] ++ r)))) := by simp [hd]
    rw [e, pf_in, show ∀ l, rdS ([97, 58] ++ l) = none from fun l => rdS_no 97 _ (by decide) (by decide) (by decide) (by decide)]
    simp only
    unfold rdA
    rw [nm_in (by decide) (by omega) (by omega) (by omega) (by omega)]
    simp only [Option.bind_some]
    rw [nm_in (by decide) (by omega) (by omega) (by omega) (by omega)]
    simp only [Option.bind_some, Int.toNat_natCast]
    rw [its_in (f := f) x vs ks [] W _ (fun t ht W' r' a1 a2 a3 a4 a5 => ih t ht f W' r' a1 a2 (by omega) a3 a4 a5) h5 hp hfit.1 hfit.2 (by omega) (by omega)]
    simp only [Option.bind_some]
    rw [pf_in]
    simp only [Option.map_some]
    rw [show W - wgts vs = W + 1 - (1 + wgts vs) by omega]
  · rw [if_pos (by omega)]
    rw [snd_not h4] at hs
    rw [wgt_not h4]
    have hr := hs
    unfold restB at hr
    simp only [Bool.and_eq_true, decide_eq_true_eq] at hr
    obtain ⟨⟨-, rfl, hv⟩, -⟩ := hr
    obtain rfl : vs = [] := List.eq_nil_of_length_eq_zero hv
    rw [fits] at hfit
    obtain rfl : ks = [] := List.eq_nil_of_length_eq_zero hfit.1
    rw [rdS_in (by omega) hs]
    rfl

/-- The model's number ahead of c. -/
def numM (c : UInt8) (l : List UInt8) : Option (Int × List UInt8) := (cutC c (l.take 13)).bind fun p =>
  if (dec.pr (-1000000000) 1000000000 p.1).2 = true then some ((dec.pr (-1000000000) 1000000000 p.1).1, l.drop (p.1.length + 1)) else if p.1 = [49, 48, 48, 48, 48, 48, 48, 48, 48, 49] then some (1000000001, l.drop (p.1.length + 1)) else none
theorem numM_out {c : UInt8} {n : Int} {l r : List UInt8} (h : numM c l = some (n, r)) : l = Lib.itoa n ++ c :: r := by
  obtain ⟨⟨d, r0⟩, h1, h2⟩ := Option.bind_eq_some_iff.1 h
  obtain ⟨e1, -⟩ := cutC_out h1
  have e2 : l = d ++ c :: (r0 ++ l.drop 13) := by
    calc l = l.take 13 ++ l.drop 13 := (List.take_append_drop _ _).symm
      _ = _ := by rw [e1]; simp
  have e3 : l.drop (d.length + 1) = r0 ++ l.drop 13 := by
    conv => lhs; rw [e2]
    rw [List.drop_append]
    simp
  simp only [e3] at h2
  by_cases hp : (dec.pr (-1000000000) 1000000000 d).2 = true
  · simp only [hp, if_true] at h2
    cases h2
    rw [(dec.pr_true hp).1]
    exact e2
  · simp only [hp] at h2
    by_cases hd : d = [49, 48, 48, 48, 48, 48, 48, 48, 48, 49]
    · simp only [hd, if_true] at h2
      cases h2
      rw [itoa_big, ← hd]
      exact e2
    · simp only [hd] at h2
      cases h2
theorem numM_in {c : UInt8} {n : Int} (hc : 58 ≤ c.toNat) (h0 : -1000000000 ≤ n) (h1 : n ≤ 1000000001) (r : List UInt8) : numM c (Lib.itoa n ++ c :: r) = some (n, r) := by
  have hl := itoa_twelve n h0 h1
  unfold numM
  have e1 : (Lib.itoa n ++ c :: r).take 13 = Lib.itoa n ++ c :: r.take (12 - (Lib.itoa n).length) := by
    rw [List.take_append, List.take_of_length_le (by omega), show 13 - (Lib.itoa n).length = (12 - (Lib.itoa n).length) + 1 by omega, List.take_succ_cons]
  have e2 : (Lib.itoa n ++ c :: r).drop ((Lib.itoa n).length + 1) = r := by
    rw [List.drop_append]
    simp
  rw [e1, cutC_in _ _ (not_num hc n)]
  simp only [Option.bind_some]
  rw [e2]
  by_cases hn : n = 1000000001
  · subst hn
    have hp : ¬ (dec.pr (-1000000000) 1000000000 (Lib.itoa 1000000001)).2 = true := fun hp => by
      obtain ⟨a1, a2, a3⟩ := dec.pr_true hp
      have := dec.itoa_inj (by omega) (by omega) (by omega) (by omega) a1
      omega
    rw [if_neg hp, if_pos itoa_big]
  · rw [dec.pr_yes rfl (by omega) (by omega) h0 (by omega)]
    rfl
def txM (l : List UInt8) : Option (List UInt8 × List UInt8) := (numM 58 l).bind fun p => if 0 ≤ p.1 then txN p.1.toNat p.2 else none
theorem txM_out {l d q : List UInt8} (h : txM l = some (d, q)) : l = Lib.itoa d.length ++ ([58] ++ (d ++ ([59] ++ q))) := by
  obtain ⟨⟨n, r⟩, h1, h2⟩ := Option.bind_eq_some_iff.1 h
  by_cases hn : 0 ≤ n
  · simp only [hn, if_true] at h2
    obtain ⟨e3, e4⟩ := txN_out h2
    rw [numM_out h1, show n = (d.length : Int) by rw [e4]; omega, e3]
    rfl
  · simp only [hn] at h2
    cases h2
theorem txM_in (d q : List UInt8) (hd : d.length ≤ 1000000000) : txM (Lib.itoa d.length ++ ([58] ++ (d ++ ([59] ++ q)))) = some (d, q) := by
  unfold txM
  rw [show [58] ++ (d ++ ([59] ++ q)) = 58 :: (d ++ ([59] ++ q)) from rfl, numM_in (by decide) (by omega) (by omega)]
  simp only [Option.bind_some]
  rw [if_pos (by omega)]
  exact txN_in d q
/-- A value as a key. -/
def kyM : Tr → Option Ky
  | .mk k n s _ _ _ => if k = 2 ∨ k = 3 then some ⟨decide (k = 3), n, s⟩ else none
/-- The model's items. -/
def itM (rd : List UInt8 → Option (Tr × List UInt8)) : Nat → List UInt8 → Option (List Ky × List Tr × List UInt8)
  | 0, l => some ([], [], l)
  | n + 1, l => (rd l).bind fun p => (kyM p.1).bind fun y => (rd p.2).bind fun q => (itM rd n q.2).map fun z => (y :: z.1, q.1 :: z.2.1, z.2.2)
/-- The model's value that is no array: not one (none), none read (some none). -/
def rdN (l : List UInt8) : Option (Option (Tr × List UInt8)) :=
  match pf [78, 59] l with
  | some r => some (some (leaf 0 0 ⟨#[]⟩, r))
  | none => match pf [98, 58] l with
    | some r => some ((numM 59 r).map fun p => (leaf 1 p.1 ⟨#[]⟩, p.2))
    | none => match pf [105, 58] l with
      | some r => some ((numM 59 r).map fun p => (leaf 2 p.1 ⟨#[]⟩, p.2))
      | none => match pf [115, 58] l with
        | some r => some ((txM r).map fun p => (leaf 3 0 (bz p.1), p.2))
        | none => none
def rdB (rd : List UInt8 → Option (Tr × List UInt8)) (r : List UInt8) : Option (Tr × List UInt8) :=
  (numM 58 r).bind fun p => if 0 ≤ p.1 ∧ p.1 ≤ 200 then (numM 123 p.2).bind fun q => (itM rd p.1.toNat q.2).bind fun z => (pf [125] z.2.2).map fun e => (.mk 4 0 ⟨#[]⟩ q.1 z.1 z.2.1, e) else none
/-- The model's value, and what is left of the text. -/
def rdM : Nat → List UInt8 → Option (Tr × List UInt8)
  | 0, _ => none
  | f + 1, l => match rdN l with
    | some o => o
    | none => match pf [97, 58] l with
      | some r => rdB (rdM f) r
      | none => none
theorem rdN_out {l r : List UInt8} {t : Tr} (h : rdN l = some (some (t, r))) : Reads t l r := by
  unfold rdN at h
  split at h
  · rename_i r1 h1
    cases h
    exact leaf_reads (by decide) (pf_out h1)
  · split at h
    · rename_i r1 h1
      obtain ⟨⟨n, r2⟩, h2, h3⟩ := Option.map_eq_some_iff.1 (Option.some.inj h)
      cases h3
      exact leaf_reads (by decide) (by rw [pf_out h1, numM_out h2]; simp [lf])
    · split at h
      · rename_i r1 h1
        obtain ⟨⟨n, r2⟩, h2, h3⟩ := Option.map_eq_some_iff.1 (Option.some.inj h)
        cases h3
        exact leaf_reads (by decide) (by rw [pf_out h1, numM_out h2]; simp [lf])
      · split at h
        · rename_i r1 h1
          obtain ⟨⟨d, r2⟩, h2, h3⟩ := Option.map_eq_some_iff.1 (Option.some.inj h)
          cases h3
          exact leaf_reads (by decide) (by rw [pf_out h1, txM_out h2]; simp [lf, bz_list, bz_size])
        · cases h
theorem kyM_ser {t : Tr} {y : Ky} (h : kyM t = some y) : ser t = serK y := by
  obtain ⟨k, n, s, x, ks, vs⟩ := t
  replace h : (if k = 2 ∨ k = 3 then some (⟨decide (k = 3), n, s⟩ : Ky) else none) = some y := h
  by_cases hk : k = 2 ∨ k = 3
  · rw [if_pos hk] at h
    cases h
    rcases hk with rfl | rfl
    · rw [ser_mk]; simp [serK, lf]
    · rw [ser_mk]; simp [serK, lf]
  · rw [if_neg hk] at h
    cases h
theorem itM_out {rd : List UInt8 → Option (Tr × List UInt8)} (hrd : ∀ l t r, rd l = some (t, r) → Reads t l r) : ∀ (n : Nat) (l : List UInt8) (ks : List Ky) (vs : List Tr) (r : List UInt8), itM rd n l = some (ks, vs, r) →
    l = sers ks vs ++ r ∧ plainL vs = true ∧ ks.length = n ∧ vs.length = n ∧ fitss vs
  | 0, l, ks, vs, r, h => by
    rw [itM] at h
    cases h
    exact ⟨by rw [sers_nil]; rfl, by rw [plainL], rfl, rfl, by rw [fitss]; trivial⟩
  | n + 1, l, ks, vs, r, h => by
    rw [itM] at h
    obtain ⟨⟨k, l1⟩, h1, h⟩ := Option.bind_eq_some_iff.1 h
    obtain ⟨y, hy, h⟩ := Option.bind_eq_some_iff.1 h
    obtain ⟨⟨t, l2⟩, h2, h⟩ := Option.bind_eq_some_iff.1 h
    obtain ⟨⟨ks', vs', r'⟩, h3, h⟩ := Option.map_eq_some_iff.1 h
    cases h
    obtain ⟨c1, -, -⟩ := hrd _ _ _ h1
    obtain ⟨a1, a2, a3⟩ := hrd _ _ _ h2
    obtain ⟨b1, b2, b3, b4, b5⟩ := itM_out hrd n _ _ _ _ h3
    simp only at a1 b1 hy
    refine ⟨?_, by rw [plainL_cons, a2, b2]; rfl, by simp [b3], by simp [b4], by rw [fitss]; exact ⟨a3, b5⟩⟩
    rw [c1, kyM_ser hy, a1, b1, sers_cons]
    simp
theorem rdM_out : ∀ (f : Nat) (l : List UInt8) (t : Tr) (r : List UInt8), rdM f l = some (t, r) → Reads t l r
  | 0, l, t, r, h => by rw [rdM] at h; cases h
  | f + 1, l, t, r, h => by
    rw [rdM] at h
    split at h
    · rename_i o ho
      subst h
      exact rdN_out ho
    · split at h
      · rename_i r1 h1
        unfold rdB at h
        obtain ⟨⟨n, l1⟩, h2, h⟩ := Option.bind_eq_some_iff.1 h
        by_cases hn : 0 ≤ n ∧ n ≤ 200
        · simp only [hn, and_self, if_true] at h
          obtain ⟨⟨x, l2⟩, h3, h⟩ := Option.bind_eq_some_iff.1 h
          obtain ⟨⟨ks, vs, l3⟩, h4, h⟩ := Option.bind_eq_some_iff.1 h
          obtain ⟨e, h5, h⟩ := Option.map_eq_some_iff.1 h
          cases h
          obtain ⟨b1, b2, b3, b4, b5⟩ := itM_out (rdM_out f) _ _ _ _ _ h4
          simp only at b1 h5
          refine array_reads ?_ b2 (by rw [b3, b4]) b5
          rw [pf_out h1, numM_out h2, numM_out h3, b1, pf_out h5]
          rw [show n = (vs.length : Int) by rw [b4]; omega]
          simp [hd]
        · simp only [hn, if_false] at h
          cases h
      · cases h
theorem rdN_in {k n : Int} {s : ByteArray} (hk : 0 ≤ k ∧ k ≤ 3) (h : restB k n s 0 0 = true) (r : List UInt8) : rdN (lf k n s ++ r) = some (some (leaf k n s, r)) := by
  unfold restB at h
  have hs := h
  simp only [Bool.and_eq_true, Bool.or_eq_true, decide_eq_true_eq] at hs
  obtain ⟨⟨h1, -, -⟩, h2⟩ := hs
  have hc : k = 0 ∨ k = 1 ∨ k = 2 ∨ k = 3 := by omega
  rcases hc with rfl | rfl | rfl | rfl
  · obtain rfl := empty_of (h1.resolve_left (by decide))
    have : n = 0 := by simpa [scalB] using h2
    subst this
    unfold rdN
    rw [show lf 0 0 ⟨#[]⟩ ++ r = [78, 59] ++ r by simp [lf], pf_in]
  · obtain rfl := empty_of (h1.resolve_left (by decide))
    have h3 : 0 ≤ n ∧ n ≤ 1 := by simpa [scalB, nums.inr] using h2
    unfold rdN
    rw [show lf 1 n ⟨#[]⟩ ++ r = [98, 58] ++ (Lib.itoa n ++ 59 :: r) by simp [lf], pf_in]
    rw [show ∀ l, pf [78, 59] ([98, 58] ++ l) = none from fun l => pf_head (by decide)]
    simp only
    rw [numM_in (by decide) (by omega) (by omega)]
    rfl
  · obtain rfl := empty_of (h1.resolve_left (by decide))
    have h3 : -1000000000 ≤ n ∧ n ≤ 1000000000 := by simpa [scalB, nums.inr] using h2
    unfold rdN
    rw [show lf 2 n ⟨#[]⟩ ++ r = [105, 58] ++ (Lib.itoa n ++ 59 :: r) by simp [lf], pf_in]
    rw [show ∀ l, pf [78, 59] ([105, 58] ++ l) = none from fun l => pf_head (by decide), show ∀ l, pf [98, 58] ([105, 58] ++ l) = none from fun l => pf_head (by decide)]
    simp only
    rw [numM_in (by decide) (by omega) (by omega)]
    rfl
  · have h3 : n = 0 ∧ s.size ≤ 400 := by simpa [scalB] using h2
    obtain ⟨rfl, h4⟩ := h3
    unfold rdN
    rw [show lf 3 0 s ++ r = [115, 58] ++ (Lib.itoa s.data.toList.length ++ ([58] ++ (s.data.toList ++ ([59] ++ r)))) by rw [sz_list]; simp [lf], pf_in]
    rw [show ∀ l, pf [78, 59] ([115, 58] ++ l) = none from fun l => pf_head (by decide), show ∀ l, pf [98, 58] ([115, 58] ++ l) = none from fun l => pf_head (by decide), show ∀ l, pf [105, 58] ([115, 58] ++ l) = none from fun l => pf_head (by decide)]
    simp only
    rw [txM_in _ _ (by rw [sz_list]; omega)]
    rfl
theorem rdN_no (c : UInt8) (l : List UInt8) (h1 : c ≠ 78) (h2 : c ≠ 98) (h3 : c ≠ 105) (h4 : c ≠ 115) : rdN (c :: l) = none := by
  unfold rdN
  rw [pf_head h1.symm, pf_head h2.symm, pf_head h3.symm, pf_head h4.symm]
/-- A key as a value. -/
def keyT (y : Ky) : Tr := if y.text = true then leaf 3 0 y.str else leaf 2 y.num ⟨#[]⟩
theorem key_rest {y : Ky} (h : keyB y = true) : ∃ k n s, keyT y = leaf k n s ∧ (0 ≤ k ∧ k ≤ 3) ∧ restB k n s 0 0 = true ∧ serK y = lf k n s ∧ kyM (leaf k n s) = some y := by
  obtain ⟨b, n, s⟩ := y
  unfold keyB nums.inr at h
  cases b with
  | true =>
    simp at h
    obtain ⟨⟨rfl, h2⟩, -⟩ := h
    exact ⟨3, 0, s, rfl, by decide, by simp [restB, scalB, h2], rfl, by simp [leaf, kyM]⟩
  | false =>
    simp only [Bool.false_eq_true, if_false, Bool.and_eq_true, decide_eq_true_eq] at h
    obtain ⟨⟨h1, h2⟩, h3⟩ := h
    obtain rfl := empty_of h3
    exact ⟨2, n, ⟨#[]⟩, rfl, by decide, by simp [restB, scalB, nums.inr, h1, h2, ByteArray.size], rfl, by simp [leaf, kyM]⟩
theorem rdM_key {y : Ky} (h : keyB y = true) (f : Nat) (r : List UInt8) : rdM (f + 1) (serK y ++ r) = some (keyT y, r) ∧ kyM (keyT y) = some y := by
  obtain ⟨k, n, s, e, hk, h1, e1, e2⟩ := key_rest h
  rw [e, e1, rdM, rdN_in hk h1]
  exact ⟨rfl, e2⟩
theorem itM_in {f : Nat} (x : Int) : ∀ (vs : List Tr) (ks seen : List Ky) (r : List UInt8),
    (∀ t ∈ vs, ∀ r, wgt t ≤ f + 1 → sndB t = true → plainB t = true → fits t → rdM (f + 1) (ser t ++ r) = some (t, r)) →
    itemsB x seen ks vs = true → plainL vs = true → ks.length = vs.length → fitss vs → wgts vs ≤ f + 1 → itM (rdM (f + 1)) vs.length (sers ks vs ++ r) = some (ks, vs, r)
  | [], ks, seen, r, _, _, _, hl, _, _ => by
    obtain rfl : ks = [] := List.eq_nil_of_length_eq_zero hl
    rw [sers_nil]
    rfl
  | t :: vs, [], seen, r, _, _, _, hl, _, _ => by simp at hl
  | t :: vs, y :: ks, seen, r, hrd, hi, hp, hl, hf, hw => by
    obtain ⟨h1, h2, h3⟩ := snd_items hi
    rw [plainL_cons, Bool.and_eq_true] at hp
    rw [fitss] at hf
    rw [wgts_cons] at hw
    obtain ⟨k1, k2⟩ := rdM_key h1 f (ser t ++ (sers ks vs ++ r))
    rw [sers_cons, List.length_cons, itM]
    rw [show serK y ++ (ser t ++ sers ks vs) ++ r = serK y ++ (ser t ++ (sers ks vs ++ r)) by simp, k1]
    simp only [Option.bind_some]
    rw [k2]
    simp only [Option.bind_some]
    rw [hrd t (by simp) _ (by omega) h2 hp.1 hf.1]
    simp only [Option.bind_some]
    rw [itM_in x vs ks _ r (fun u hu => hrd u (by simp [hu])) h3 hp.2 (by simpa using hl) hf.2 (by omega)]
    rfl
theorem rdM_in : ∀ (t : Tr) (f : Nat) (r : List UInt8), wgt t ≤ f → wgt t ≤ 200 → sndB t = true → plainB t = true → fits t → rdM f (ser t ++ r) = some (t, r) := Tr.ind fun k n s x ks vs ih f r hw h200 hs hp hfit => by
  have hpos := wgt_pos (.mk k n s x ks vs)
  obtain ⟨f, rfl⟩ : ∃ f', f = f' + 1 := ⟨f - 1, by omega⟩
  have hk := plain_kind hp
  rw [ser_mk, rdM]
  by_cases h4 : k = 4
  · subst h4
    rw [if_neg (by decide)]
    rw [snd_four] at hs
    rw [plain_items] at hp
    rw [wgt_four] at hw h200
    rw [fits] at hfit
    simp only [Bool.and_eq_true, decide_eq_true_eq, nums.inr] at hs
    obtain ⟨h1, rfl, ⟨h2, h3⟩, h5⟩ := hs
    obtain rfl := empty_of h1
    have hlen := len_wgts vs
    have e : hd vs.length x ++ (sers ks vs ++ [125]) ++ r = [97, 58] ++ (Lib.itoa vs.length ++ 58 :: (Lib.itoa x ++ 123 :: (sers ks vs ++ ([125] ++ r)))) := by simp [hd]
    rw [e, pf_in, show ∀ l, rdN ([97, 58] ++ l) = none from fun l => rdN_no 97 _ (by decide) (by decide) (by decide) (by decide)]
    simp only
    unfold rdB
    rw [numM_in (by decide) (by omega) (by omega)]
    simp only [Option.bind_some]
    rw [if_pos (by omega), numM_in (by decide) (by omega) (by omega)]
    simp only [Option.bind_some, Int.toNat_natCast]
    have hit : itM (rdM f) vs.length (sers ks vs ++ ([125] ++ r)) = some (ks, vs, [125] ++ r) := by
      cases f with
      | zero =>
        obtain rfl : vs = [] := List.eq_nil_of_length_eq_zero (by omega)
        obtain rfl : ks = [] := List.eq_nil_of_length_eq_zero hfit.1
        rw [sers_nil]
        rfl
      | succ f =>
        exact itM_in x vs ks [] _ (fun t ht r' a1 a3 a4 a5 => by
          have hb : ∀ (us : List Tr) (t : Tr), t ∈ us → wgt t ≤ wgts us := fun us => by
            induction us with
            | nil => intro t h; simp at h
            | cons u us ihu =>
              intro t h
              rw [wgts_cons]
              rcases List.mem_cons.1 h with rfl | h
              · omega
              · have := ihu t h
                omega
          have := hb vs t ht
          exact ih t ht (f + 1) r' a1 (by omega) a3 a4 a5) h5 hp hfit.1 hfit.2 (by omega)
    rw [hit]
    simp only [Option.bind_some]
    rw [pf_in]
    rfl
  · rw [if_pos (by omega)]
    rw [snd_not h4] at hs
    have hr := hs
    unfold restB at hr
    simp only [Bool.and_eq_true, decide_eq_true_eq] at hr
    obtain ⟨⟨-, rfl, hv⟩, -⟩ := hr
    obtain rfl : vs = [] := List.eq_nil_of_length_eq_zero hv
    rw [fits] at hfit
    obtain rfl : ks = [] := List.eq_nil_of_length_eq_zero hfit.1
    rw [rdN_in (by omega) hs]
    rfl
/-- The value that is read off a text, of the project. -/
def unP (l : List UInt8) : Option Tr := (rdP 200 200 l).bind fun p => if p.2.1 = [] ∧ valB p.1 = true then some p.1 else none
/-- .. and of the model. -/
def unM (l : List UInt8) : Option Tr := (rdM 201 l).bind fun p => if p.2 = [] ∧ valB p.1 = true then some p.1 else none
/-- A value whose text is read. -/
def Good (t : Tr) : Prop := valB t = true ∧ plainB t = true ∧ fits t
theorem unP_iff {l : List UInt8} {t : Tr} : unP l = some t ↔ l = ser t ∧ Good t := by
  constructor
  · intro h
    obtain ⟨⟨u, r, W⟩, h1, h2⟩ := Option.bind_eq_some_iff.1 h
    obtain ⟨e, h3, h4⟩ := rdP_out _ _ _ _ _ _ h1
    by_cases hc : r = [] ∧ valB u = true
    · simp only [hc, and_self, if_true] at h2
      cases h2
      obtain ⟨rfl, hv⟩ := hc
      exact ⟨by rw [e, List.append_nil], hv, h3, h4⟩
    · simp only at h2
      rw [if_neg hc] at h2
      cases h2
  · rintro ⟨rfl, h1, h2, h3⟩
    have hv := h1
    unfold valB lightB at hv
    simp only [Bool.and_eq_true, decide_eq_true_eq] at hv
    have := rdP_in t 200 200 [] hv.1 (by omega) (by omega) hv.2 h2 h3
    rw [List.append_nil] at this
    unfold unP
    rw [this]
    simp only [Option.bind_some]
    simp [h1]
theorem unM_iff {l : List UInt8} {t : Tr} : unM l = some t ↔ l = ser t ∧ Good t := by
  constructor
  · intro h
    obtain ⟨⟨u, r⟩, h1, h2⟩ := Option.bind_eq_some_iff.1 h
    obtain ⟨e, h3, h4⟩ := rdM_out _ _ _ _ h1
    by_cases hc : r = [] ∧ valB u = true
    · simp only [hc, and_self, if_true] at h2
      cases h2
      obtain ⟨rfl, hv⟩ := hc
      exact ⟨by rw [e, List.append_nil], hv, h3, h4⟩
    · simp only at h2
      rw [if_neg hc] at h2
      cases h2
  · rintro ⟨rfl, h1, h2, h3⟩
    have hv := h1
    unfold valB lightB at hv
    simp only [Bool.and_eq_true, decide_eq_true_eq] at hv
    have := rdM_in t 201 [] (by omega) hv.1 hv.2 h2 h3
    rw [List.append_nil] at this
    unfold unM
    rw [this]
    simp only [Option.bind_some]
    simp [h1]
theorem un_eq (l : List UInt8) : unM l = unP l := by
  cases h : unP l with
  | some t => exact unM_iff.2 (unP_iff.1 h)
  | none =>
    cases h' : unM l with
    | none => rfl
    | some t => rw [unP_iff.2 (unM_iff.1 h')] at h; cases h

/-- Serialize's two answers. -/
def seB (t : Tr) : Bool := valB t && plainB t
def seL (t : Tr) : List UInt8 := if seB t = true then ser t else []
def seV (t : Tr) : Value := .tuple #[.string (bz (seL t)), .bool (seB t)]

end Go.Proofs.YtdglmnmalfpipaaGreatDoor.tree

/-
  The project's reader of a text: its small steps.
  Conditions: those that each theorem names.
-/
namespace Go.Proofs.YtdglmnmalfpipaaGreatDoor.tree
open Go.ChangeShapes Go.WideShapes Go.ChangeAt Go.RowKit
set_option linter.unusedVariables false

theorem bz_ext (l : List UInt8) (i j : Nat) : (bz l).extract i j = bz ((l.drop i).take (j - i)) := by
  apply ByteArray.ext
  apply Array.toList_inj.1
  rw [ByteArray.data_extract, Array.toList_extract, List.extract_eq_take_drop]
  rfl
theorem bz_from (l : List UInt8) (i : Nat) : (bz l).extract i (bz l).size = bz (l.drop i) := by
  rw [bz_ext, bz_size, List.take_of_length_le (by rw [List.length_drop]; omega)]
theorem bz_upto (l : List UInt8) (j : Nat) : (bz l).extract 0 j = bz (l.take j) := by rw [bz_ext]; rfl
theorem pf_has : ∀ p l, Lib.hasPrefix l p = (pf p l).isSome
  | [], l => by rw [pf]; cases l <;> rfl
  | a :: p, [] => rfl
  | a :: p, b :: l => by
    rw [pf]
    have ih := pf_has p l
    unfold Lib.hasPrefix at ih ⊢
    rw [List.isPrefixOf]
    by_cases e : a = b
    · rw [if_pos e, ← ih, e]; simp
    · rw [if_neg e]; simp [e]
theorem pf_trim (p l : List UInt8) : Lib.trimPrefix l p = (pf p l).getD l := by
  unfold Lib.trimPrefix
  rw [pf_has]
  cases h : pf p l with
  | none => rfl
  | some r =>
    rw [pf_out h]
    simp
theorem pf_len {p l r : List UInt8} (h : pf p l = some r) : l.length = p.length + r.length := by rw [pf_out h, List.length_append]
theorem ix_cut (c : UInt8) : ∀ l, (cutC c l = none ∧ Lib.indexByte l c = -1) ∨ ∃ d r, cutC c l = some (d, r) ∧ Lib.indexByte l c = d.length ∧ l = d ++ c :: r
  | [] => .inl ⟨rfl, rfl⟩
  | b :: l => by
    rw [cutC, Lib.indexByte]
    by_cases e : b = c
    · subst e
      exact .inr ⟨[], l, by rw [if_pos rfl], by simp, rfl⟩
    · have e' : (b == c) = false := by simpa using e
      rw [if_neg e, e']
      rcases ix_cut c l with ⟨h1, h2⟩ | ⟨d, r, h1, h2, h3⟩
      · exact .inl ⟨by rw [h1]; rfl, by rw [h2]; rfl⟩
      · refine .inr ⟨b :: d, r, by rw [h1]; rfl, ?_, by rw [h3]; rfl⟩
        rw [h2]
        have : ((d.length : Int) == -1) = false := by rw [beq_eq_false_iff_ne]; omega
        simp [this]
theorem nm_len {c : UInt8} {lo hi n : Int} {l r : List UInt8} (h : nm c lo hi l = some (n, r)) : r.length + 1 ≤ l.length := by
  rw [(nm_out h).1]
  simp only [List.length_append, List.length_cons]
  omega

/-- The reader in block R: what is left of the text and of the weight. -/
structure Rs (B R : Nat) (l : List UInt8) (W : Int) (w : World) : Prop where
  blk : w.heap[R]? = some (.cells #[.string (bz l), .int .i64 W] 115 (0, 0))
  le : B ≤ R
  env : ∃ w0, prs.Env w0 ∧ w0.heap.size ≤ B ∧ Below w0.heap.size w0 w
  len : l.length ≤ 1099511627776
  wt : -2 ≤ W ∧ W ≤ 200
def OnR (R : Nat) (q : Nat) : Prop := q = R
theorem fr_on {R j : Nat} {u : Value} {w : World} : Fr (OnR R) w (w.setCell ⟨R, j, none⟩ u) := Fr.set (S := OnR R) rfl _ _
section
variable {B R : Nat} {l l' : List UInt8} {W W' : Int} {w w' : World}
theorem Rs.lt (h : Rs B R l W w) : R < w.heap.size := (Array.getElem?_eq_some_iff.1 h.blk).1
theorem Rs.ev (h : Rs B R l W w) : prs.Env w := by
  obtain ⟨w0, h1, h2, h3⟩ := h.env
  exact h1.stays h3
theorem Rs.next (h : Rs B R l W w) (hf : Fr (OnR R) w w') (hb : w'.heap[R]? = some (.cells #[.string (bz l'), .int .i64 W'] 115 (0, 0))) (hl : l'.length ≤ l.length) (hw : -2 ≤ W' ∧ W' ≤ 200) : Rs B R l' W' w' := by
  refine ⟨hb, h.le, ?_, Nat.le_trans hl h.len, hw⟩
  obtain ⟨w0, h1, h2, h3⟩ := h.env
  have hle := h.le
  exact ⟨w0, h1, h2, h3.trans (hf.below h3.size (fun q hq => by unfold OnR at hq; omega))⟩
theorem Rs.stays (h : Rs B R l W w) (hb : Below w.heap.size w w') : Rs B R l W w' := h.next (Fr.of hb) (carry hb h.blk) (Nat.le_refl _) h.wt
theorem Rs.text (h : Rs B R l W w) (hl : l'.length ≤ l.length) : Rs B R l' W (w.setCell ⟨R, 0, none⟩ (.string (bz l'))) :=
  h.next (fr_on) (by have := set_heap h.blk 0 (.string (bz l')); simpa using this) hl h.wt
theorem Rs.weight (h : Rs B R l W w) (hw : -2 ≤ W' ∧ W' ≤ 200) : Rs B R l W' (w.setCell ⟨R, 1, none⟩ (.int .i64 W')) :=
  h.next (fr_on) (by have := set_heap h.blk 1 (.int .i64 W'); simpa using this) (Nat.le_refl _) hw
end

set_option maxRecDepth 100000 in
theorem skip_i (p : List UInt8) (B R : Nat) (l : List UInt8) (W : Int) (w : World) (h : Rs B R l W w) :
    Calls Tryz.prog 153 #[.pointer (some ⟨R, 0, none⟩), .string (bz p)] w
      (fun e w' => e = .returned (.bool (pf p l).isSome) ∧ Rs B R ((pf p l).getD l) W w' ∧ Fr (OnR R) w w') := by
  have CP : ∀ w, Calls Tryz.prog 200 #[.string (bz l), .string (bz p)] w (fun e w' => e = .returned (.tuple #[.string (bz ((pf p l).getD l)), .bool (pf p l).isSome]) ∧ w' = w) := fun w => by
    have := Tryz.strings_CutPrefix (bz l) (bz p) w
    rw [bz_list, bz_list, pf_trim, pf_has] at this
    exact this
  have hle : ((pf p l).getD l).length ≤ l.length := by
    cases h : pf p l with
    | none => exact Nat.le_refl _
    | some r => have := pf_len h; simp only [Option.getD_some]; omega
  obtain ⟨r, f⟩ := rowc h.blk
  have HT := Lib.hid (h.text hle)
  generalize (pf p l).isSome = q at *
  generalize (pf p l).getD l = l1 at *
  generalize bz p = P at *
  generalize hz : bz l = z at *
  generalize bz l1 = z1 at *
  have CP := Lib.hid CP
  clear h hle hz
  go_enter Tryz.func153, Tryz.ntmps153
  go_wp2_with (fail)
  refine (CP.out _).mono ?_
  rintro e w1 ⟨rfl, rfl⟩
  go_wp2_with (fail)
  go_ret
  exact ⟨rfl, HT.out, fr_on⟩

/-- What strings.Cut gives at a separator of one byte. -/
def cutV (l : List UInt8) (c : UInt8) : Value := match cutC c l with
  | some p => .tuple #[.string (bz p.1), .string (bz p.2), .bool true]
  | none => .tuple #[.string (bz l), .string ⟨#[]⟩, .bool false]
set_option maxRecDepth 100000 in
theorem cutLite (l : List UInt8) (hl : l.length ≤ 1099511627776) (c : UInt8) (w : World) :
    Calls Tryz.prog 244 #[.string (bz l), .string ⟨#[c]⟩] w (fun e w' => e = .returned (cutV l c) ∧ (w'.heap = w.heap ∧ Below w.heap.size w w')) := by
  have IX := Lib.hid (fun w => Tryz.stringslite_Index_one (bz l) c w)
  rcases ix_cut c l with ⟨h1, h2⟩ | ⟨d, r, h1, h2, h3⟩
  · unfold cutV
    rw [h1]
    have IX : Hid (∀ w, Calls Tryz.prog 258 #[.string (bz l), .string ⟨#[c]⟩] w fun e w' => e = .returned (.int .i64 (-1)) ∧ w' = w) := Lib.hid fun w => h2 ▸ IX.out w
    show Calls _ _ _ _ (fun e w' => e = .returned (.tuple #[.string (bz l), .string ⟨#[]⟩, .bool false]) ∧ _)
    generalize bz l = z at *
    clear h1 h2
    go_enter Tryz.func244, Tryz.ntmps244
    go_wp2_with (fail)
    refine (IX.out _).mono ?_
    rintro e w1 ⟨rfl, rfl⟩
    go_wp2_with (fail)
    go_ret3
    exact ⟨rfl, rfl, Below.refl _ _⟩
  · unfold cutV
    rw [h1]
    have IX : Hid (∀ w, Calls Tryz.prog 258 #[.string (bz l), .string ⟨#[c]⟩] w fun e w' => e = .returned (.int .i64 d.length) ∧ w' = w) := Lib.hid fun w => h2 ▸ IX.out w
    have e1 : (bz l).extract 0 d.length = bz d := by rw [bz_upto, h3, List.take_left]
    have e2 : (bz l).extract (d.length + 1) (bz l).size = bz r := by rw [bz_from, h3, show d ++ c :: r = (d ++ [c]) ++ r by simp, show d.length + 1 = (d ++ [c]).length by simp, List.drop_left]
    have hs : (bz l).size = d.length + 1 + r.length := by rw [bz_size, h3]; simp only [List.length_append, List.length_cons]; omega
    have hll : d.length + 1 + r.length ≤ 1099511627776 := by rw [← hs]; exact hl
    show Calls _ _ _ _ (fun e w' => e = .returned (.tuple #[.string (bz d), .string (bz r), .bool true]) ∧ _)
    generalize bz l = z at *
    generalize bz d = y1 at *
    generalize bz r = y2 at *
    generalize d.length = i at *
    have c1 : (0 : Int) ≤ ↑i := by omega
    have c2 : (↑i : Int) ≤ ↑z.size := by omega
    have c3 : (0 : Int) ≤ ↑i + 1 := by omega
    have c4 : (↑i + 1 : Int) ≤ ↑z.size := by omega
    have c5 : i ≤ z.size := by omega
    have c6 : i + 1 ≤ z.size := by omega
    clear h1 h2 h3
    rw [hs] at e2
    go_enter Tryz.func244, Tryz.ntmps244
    go_wp2_with (fail)
    refine (IX.out _).mono ?_
    rintro e w1 ⟨rfl, rfl⟩
    go_wp2_with (fail)
    go_quiet (fail)
    all_goals
      go_wp2_with (fail)
      go_ret3
      first | exact ⟨rfl, rfl, ⟨rfl, rfl, rfl, Nat.le_refl _, fun _ _ => rfl⟩⟩ | exact ⟨by simp [e1, e2], rfl, ⟨rfl, rfl, rfl, Nat.le_refl _, fun _ _ => rfl⟩⟩
set_option maxRecDepth 100000 in
theorem cut_i (l : List UInt8) (hl : l.length ≤ 1099511627776) (c : UInt8) (w : World) :
    Calls Tryz.prog 228 #[.string (bz l), .string ⟨#[c]⟩] w (fun e w' => e = .returned (cutV l c) ∧ (w'.heap = w.heap ∧ Below w.heap.size w w')) := by
  have CL := cutLite l hl c
  unfold cutV at CL ⊢
  cases h : cutC c l with
  | none =>
    rw [h] at CL
    have CL : Hid (∀ w, Calls Tryz.prog 244 #[.string (bz l), .string ⟨#[c]⟩] w (fun e w' => e = .returned (.tuple #[.string (bz l), .string ⟨#[]⟩, .bool false]) ∧ (w'.heap = w.heap ∧ Below w.heap.size w w'))) := CL
    show Calls _ _ _ _ (fun e w' => e = .returned (.tuple #[.string (bz l), .string ⟨#[]⟩, .bool false]) ∧ _)
    generalize bz l = z at *
    go_enter Tryz.func228, Tryz.ntmps228
    go_wp2_with (fail)
    refine (CL.out _).mono ?_
    rintro e w1 ⟨rfl, hh, hb⟩
    have HH := Lib.hid (And.intro hh hb)
    clear hh hb
    go_wp2_with (fail)
    go_ret3
    exact ⟨rfl, HH.out⟩
  | some p =>
    obtain ⟨d, r⟩ := p
    rw [h] at CL
    have CL : Hid (∀ w, Calls Tryz.prog 244 #[.string (bz l), .string ⟨#[c]⟩] w (fun e w' => e = .returned (.tuple #[.string (bz d), .string (bz r), .bool true]) ∧ (w'.heap = w.heap ∧ Below w.heap.size w w'))) := CL
    show Calls _ _ _ _ (fun e w' => e = .returned (.tuple #[.string (bz d), .string (bz r), .bool true]) ∧ _)
    generalize bz l = z at *
    generalize bz d = y1 at *
    generalize bz r = y2 at *
    go_enter Tryz.func228, Tryz.ntmps228
    go_wp2_with (fail)
    refine (CL.out _).mono ?_
    rintro e w1 ⟨rfl, hh, hb⟩
    have HH := Lib.hid (And.intro hh hb)
    clear hh hb
    go_wp2_with (fail)
    go_ret3
    exact ⟨rfl, HH.out⟩

/-- What cutAt leaves. -/
def CaQ (B R : Nat) (l : List UInt8) (W : Int) (c : UInt8) (w : World) (e : Ending) (w' : World) : Prop :=
  (∃ d r, cutC c l = some (d, r) ∧ e = .returned (.tuple #[.string (bz d), .bool true]) ∧ Rs B R r W w' ∧ Fr (OnR R) w w' ∧ d.length ≤ l.length) ∨
  (cutC c l = none ∧ e = .returned (.tuple #[.string (bz l), .bool false]) ∧ Rs B R l W w' ∧ Fr (OnR R) w w')
set_option maxRecDepth 100000 in
theorem cutAt_i (c : UInt8) (B R : Nat) (l : List UInt8) (W : Int) (w : World) (h : Rs B R l W w) :
    Calls Tryz.prog 201 #[.pointer (some ⟨R, 0, none⟩), .string ⟨#[c]⟩] w (CaQ B R l W c w) := by
  have CU := cut_i l h.len c
  unfold cutV at CU
  have HS := Lib.hid h
  obtain ⟨r0, f0⟩ := rowc h.blk
  cases hc : cutC c l with
  | none =>
    rw [hc] at CU
    have CU : Hid (∀ w, Calls Tryz.prog 228 #[.string (bz l), .string ⟨#[c]⟩] w (fun e w' => e = .returned (.tuple #[.string (bz l), .string ⟨#[]⟩, .bool false]) ∧ (w'.heap = w.heap ∧ Below w.heap.size w w'))) := CU
    suffices hq : Calls Tryz.prog 201 #[.pointer (some ⟨R, 0, none⟩), .string ⟨#[c]⟩] w (fun e w' => e = .returned (.tuple #[.string (bz l), .bool false]) ∧ Rs B R l W w' ∧ Fr (OnR R) w w') by
      exact hq.mono fun e w' h => .inr ⟨hc, h⟩
    clear hc h
    generalize hz : bz l = z at *
    go_enter Tryz.func201, Tryz.ntmps201
    go_wp2_with (fail)
    refine (CU.out _).mono ?_
    rintro e w1 ⟨rfl, -, hb⟩
    have HB := Lib.hid hb
    clear hb r0 f0
    go_wp2_with (fail)
    go_ret2
    exact ⟨rfl, HS.out.stays HB.out, Fr.of HB.out⟩
  | some p =>
    obtain ⟨d, r⟩ := p
    rw [hc] at CU
    have CU : Hid (∀ w, Calls Tryz.prog 228 #[.string (bz l), .string ⟨#[c]⟩] w (fun e w' => e = .returned (.tuple #[.string (bz d), .string (bz r), .bool true]) ∧ (w'.heap = w.heap ∧ Below w.heap.size w w'))) := CU
    have hl := congrArg List.length (cutC_out hc).1
    simp only [List.length_append, List.length_cons] at hl
    suffices hq : Calls Tryz.prog 201 #[.pointer (some ⟨R, 0, none⟩), .string ⟨#[c]⟩] w (fun e w' => e = .returned (.tuple #[.string (bz d), .bool true]) ∧ Rs B R r W w' ∧ Fr (OnR R) w w') by
      exact hq.mono fun e w' h => .inl ⟨d, r, hc, h.1, h.2.1, h.2.2, by omega⟩
    have hrl : r.length ≤ l.length := by omega
    have HX := Lib.hid (fun w' (hb : Below w.heap.size w w') => (HS.out.stays hb).text hrl)
    clear hc h hl hrl
    generalize hz : bz l = z at *
    generalize bz d = y1 at *
    generalize bz r = y2 at *
    go_enter Tryz.func201, Tryz.ntmps201
    go_wp2_with (fail)
    refine (CU.out _).mono ?_
    rintro e w1 ⟨rfl, -, hb⟩
    have HB := Lib.hid hb
    obtain ⟨r1, f1⟩ := rowc (carry hb HS.out.blk)
    clear hb r0 f0
    go_wp2_with (fail)
    go_ret2
    exact ⟨rfl, HX.out _ HB.out, (Fr.of HB.out).trans fr_on⟩

/-- What a number read off leaves. -/
def NrQ (B R : Nat) (l : List UInt8) (W : Int) (o : Option (Int × List UInt8)) (w : World) (e : Ending) (w' : World) : Prop :=
  ∃ l', Rs B R l' W w' ∧ Fr (OnR R) w w' ∧ l'.length ≤ l.length ∧ ((∃ n, o = some (n, l') ∧ e = .returned (.tuple #[.int .i64 n, .bool true])) ∨ (o = none ∧ e = .returned (.tuple #[.int .i64 0, .bool false])))
theorem nm_none {c : UInt8} {lo hi : Int} {l : List UInt8} (h : cutC c l = none) : nm c lo hi l = none := by unfold nm; rw [h]; rfl
theorem nm_bad {c : UInt8} {lo hi : Int} {l d r : List UInt8} (h : cutC c l = some (d, r)) (hp : (dec.pr lo hi d).2 = false) : nm c lo hi l = none := by unfold nm; rw [h]; simp [hp]
theorem nm_good {c : UInt8} {lo hi : Int} {l d r : List UInt8} (h : cutC c l = some (d, r)) (hp : (dec.pr lo hi d).2 = true) : nm c lo hi l = some ((dec.pr lo hi d).1, r) := by unfold nm; rw [h]; simp [hp]

set_option maxRecDepth 100000 in
theorem readSigned_i (B R : Nat) (l : List UInt8) (W : Int) (w : World) (h : Rs B R l W w) :
    Calls Tryz.prog 154 #[.pointer (some ⟨R, 0, none⟩)] w (NrQ B R l W (nm 59 (-1000000000) 1000000000 l) w) := by
  have CA := Lib.hid (cutAt_i 59 B R l W w h)
  have HLN := Lib.hid h.len
  clear h
  go_enter Tryz.func154, Tryz.ntmps154
  go_wp2_with (fail)
  refine CA.out.mono ?_
  rintro e w1 (⟨d, r, hc, rfl, hs, hf, hd⟩ | ⟨hc, rfl, hs, hf⟩)
  · have HS := Lib.hid hs
    have HF := Lib.hid hf
    have hrl : Hid (r.length ≤ l.length) := Lib.hid (by have := congrArg List.length (cutC_out hc).1; simp only [List.length_append, List.length_cons] at this; omega)
    have PS := Lib.hid (fun w' (hE : prs.Env w') => prs.implParseSigned (bz d) (by rw [bz_size]; have := HLN.out; omega) w' hE)
    rw [bz_list] at PS
    cases hp : (dec.pr (-1000000000) 1000000000 d).2 with
    | true =>
      have HN := Lib.hid (nm_good hc hp)
      obtain ⟨n, HNN⟩ : ∃ n, Hid ((dec.pr (-1000000000) 1000000000 d).1 = n) := ⟨_, Lib.hid rfl⟩
      have PS : Hid (∀ w', prs.Env w' → Calls Tryz.prog 137 #[.string (bz d)] w' fun e w1 => e = .returned (.tuple #[.int .i64 n, .bool true]) ∧ RowKit.Below w'.heap.size w' w1) := Lib.hid fun w' hE => by
        have := PS.out w' hE
        unfold prs.two at this
        rw [hp, HNN.out] at this
        exact this
      rw [HNN.out] at HN
      clear hs hf hc hp hd
      go_wp2_with (fail)
      refine (PS.out _ HS.out.ev).mono ?_
      rintro e w2 ⟨rfl, hb⟩
      have HB := Lib.hid hb
      clear hb
      go_wp2_with (fail)
      go_ret2
      exact ⟨r, HS.out.stays HB.out, HF.out.trans (Fr.of HB.out), hrl.out, .inl ⟨n, HN.out, rfl⟩⟩
    | false =>
      have HN := Lib.hid (nm_bad hc hp)
      have PS : Hid (∀ w', prs.Env w' → Calls Tryz.prog 137 #[.string (bz d)] w' fun e w1 => e = .returned (.tuple #[.int .i64 0, .bool false]) ∧ RowKit.Below w'.heap.size w' w1) := Lib.hid fun w' hE => by
        have := PS.out w' hE
        unfold prs.two at this
        rw [hp, dec.pr_false hp] at this
        exact this
      clear hs hf hc hp hd
      go_wp2_with (fail)
      refine (PS.out _ HS.out.ev).mono ?_
      rintro e w2 ⟨rfl, hb⟩
      have HB := Lib.hid hb
      clear hb
      go_wp2_with (fail)
      go_ret2
      exact ⟨r, HS.out.stays HB.out, HF.out.trans (Fr.of HB.out), hrl.out, .inr ⟨HN.out, rfl⟩⟩
  · have HS := Lib.hid hs
    have HF := Lib.hid hf
    have HN := Lib.hid (nm_none (lo := (-1000000000)) (hi := 1000000000) hc)
    clear hs hf hc
    go_wp2_with (fail)
    go_ret2
    exact ⟨l, HS.out, HF.out, Nat.le_refl _, .inr ⟨HN.out, rfl⟩⟩

set_option maxRecDepth 100000 in
theorem readUnsigned_i (c : UInt8) (B R : Nat) (l : List UInt8) (W : Int) (w : World) (h : Rs B R l W w) :
    Calls Tryz.prog 202 #[.pointer (some ⟨R, 0, none⟩), .string ⟨#[c]⟩] w (NrQ B R l W (nm c 0 1000000000000 l) w) := by
  have CA := Lib.hid (cutAt_i c B R l W w h)
  have HLN := Lib.hid h.len
  clear h
  go_enter Tryz.func202, Tryz.ntmps202
  go_wp2_with (fail)
  refine CA.out.mono ?_
  rintro e w1 (⟨d, r, hc, rfl, hs, hf, hd⟩ | ⟨hc, rfl, hs, hf⟩)
  · have HS := Lib.hid hs
    have HF := Lib.hid hf
    have hrl : Hid (r.length ≤ l.length) := Lib.hid (by have := congrArg List.length (cutC_out hc).1; simp only [List.length_append, List.length_cons] at this; omega)
    have PS := Lib.hid (fun w' (hE : prs.Env w') => prs.implParse (bz d) (by rw [bz_size]; have := HLN.out; omega) w' hE)
    rw [bz_list] at PS
    cases hp : (dec.pr 0 1000000000000 d).2 with
    | true =>
      have HN := Lib.hid (nm_good hc hp)
      obtain ⟨n, HNN⟩ : ∃ n, Hid ((dec.pr 0 1000000000000 d).1 = n) := ⟨_, Lib.hid rfl⟩
      have PS : Hid (∀ w', prs.Env w' → Calls Tryz.prog 229 #[.string (bz d)] w' fun e w1 => e = .returned (.tuple #[.int .i64 n, .bool true]) ∧ RowKit.Below w'.heap.size w' w1) := Lib.hid fun w' hE => by
        have := PS.out w' hE
        unfold prs.two at this
        rw [hp, HNN.out] at this
        exact this
      rw [HNN.out] at HN
      clear hs hf hc hp hd
      go_wp2_with (fail)
      refine (PS.out _ HS.out.ev).mono ?_
      rintro e w2 ⟨rfl, hb⟩
      have HB := Lib.hid hb
      clear hb
      go_wp2_with (fail)
      go_ret2
      exact ⟨r, HS.out.stays HB.out, HF.out.trans (Fr.of HB.out), hrl.out, .inl ⟨n, HN.out, rfl⟩⟩
    | false =>
      have HN := Lib.hid (nm_bad hc hp)
      have PS : Hid (∀ w', prs.Env w' → Calls Tryz.prog 229 #[.string (bz d)] w' fun e w1 => e = .returned (.tuple #[.int .i64 0, .bool false]) ∧ RowKit.Below w'.heap.size w' w1) := Lib.hid fun w' hE => by
        have := PS.out w' hE
        unfold prs.two at this
        rw [hp, dec.pr_false hp] at this
        exact this
      clear hs hf hc hp hd
      go_wp2_with (fail)
      refine (PS.out _ HS.out.ev).mono ?_
      rintro e w2 ⟨rfl, hb⟩
      have HB := Lib.hid hb
      clear hb
      go_wp2_with (fail)
      go_ret2
      exact ⟨r, HS.out.stays HB.out, HF.out.trans (Fr.of HB.out), hrl.out, .inr ⟨HN.out, rfl⟩⟩
  · have HS := Lib.hid hs
    have HF := Lib.hid hf
    have HN := Lib.hid (nm_none (lo := 0) (hi := 1000000000000) hc)
    clear hs hf hc
    go_wp2_with (fail)
    go_ret2
    exact ⟨l, HS.out, HF.out, Nat.le_refl _, .inr ⟨HN.out, rfl⟩⟩

end Go.Proofs.YtdglmnmalfpipaaGreatDoor.tree

