/-
  What the texts behind this one use: 6 parts of one proof.
  Conditions: those that each theorem names.
-/
import Derived.Test.YteoilhbidnnneaaGreatDoorBSNumOf
import Derived.Test.YteoilhbidnnneaaGreatDoorBB2
import Derived.Test.YteoilhbidnnneaaGreatDoorBB4
import Derived.Lib.Bytealg
import Derived.Lib.Small
import Derived.Test.YteoilhbidnnneaaGreatDoorBSHeld
import Derived.Test.YteoilhbidnnneaaGreatDoorBSEnvTx
import Derived.Test.YteoilhbidnnneaaGreatDoorBSEnvKey
import Derived.Deep.DeepCutAuto
import Derived.Maps.AppendAt
/-
  How two values compare, without the program; and what going through two arrays with a list of places decides.
  Conditions: those that each theorem names.
-/
namespace Go.Proofs.YteoilhbidnnneaaGreatDoor.tree
open Go.ChangeShapes Go.WideShapes Go.ChangeAt Go.RowKit
set_option linter.unusedVariables false

def bys (a b : ByteArray) : Int := Lib.compareBytes a.data.toList b.data.toList
/-- How two values compare without going into arrays. -/
def ordO : Tr → Tr → Int
  | .mk k n s x ks vs, .mk k' n' s' x' ks' vs' =>
    if (k = 0 ∧ k' = 3) ∨ (k' = 0 ∧ k = 3) then bys (ers.tt (.mk k n s x ks vs)).1 (ers.tt (.mk k' n' s' x' ks' vs')).1
    else if (k = 0 ∨ k = 1) ∨ (k' = 0 ∨ k' = 1) then Lib.compareInt (tr01 (.mk k n s x ks vs)) (tr01 (.mk k' n' s' x' ks' vs'))
    else if (ers.nn (.mk k n s x ks vs)).2 = true ∧ (ers.nn (.mk k' n' s' x' ks' vs')).2 = true then Lib.compareInt (ers.nn (.mk k n s x ks vs)).1 (ers.nn (.mk k' n' s' x' ks' vs')).1
    else if (k = 2 ∨ k = 3) ∧ (k' = 2 ∨ k' = 3) then bys (ers.tt (.mk k n s x ks vs)).1 (ers.tt (.mk k' n' s' x' ks' vs')).1
    else if k = 4 ∧ k' = 4 then Lib.compareInt vs.length vs'.length
    else if k = 4 then 1
    else if k' = 4 then -1
    else if k = k' ∧ n = n' then 0 else 2
theorem ordO_mk (k n : Int) (s : ByteArray) (x : Int) (ks : List Ky) (vs : List Tr) (k' n' : Int) (s' : ByteArray) (x' : Int) (ks' : List Ky) (vs' : List Tr) : ordO (.mk k n s x ks vs) (.mk k' n' s' x' ks' vs') = (if (k = 0 ∧ k' = 3) ∨ (k' = 0 ∧ k = 3) then bys (ers.tt (.mk k n s x ks vs)).1 (ers.tt (.mk k' n' s' x' ks' vs')).1 else if (k = 0 ∨ k = 1) ∨ (k' = 0 ∨ k' = 1) then Lib.compareInt (tr01 (.mk k n s x ks vs)) (tr01 (.mk k' n' s' x' ks' vs')) else if (ers.nn (.mk k n s x ks vs)).2 = true ∧ (ers.nn (.mk k' n' s' x' ks' vs')).2 = true then Lib.compareInt (ers.nn (.mk k n s x ks vs)).1 (ers.nn (.mk k' n' s' x' ks' vs')).1 else if (k = 2 ∨ k = 3) ∧ (k' = 2 ∨ k' = 3) then bys (ers.tt (.mk k n s x ks vs)).1 (ers.tt (.mk k' n' s' x' ks' vs')).1 else if k = 4 ∧ k' = 4 then Lib.compareInt vs.length vs'.length else if k = 4 then 1 else if k' = 4 then -1 else if k = k' ∧ n = n' then 0 else 2) := rfl
/-- The value of a key's first item. -/
def getL (ks : List Ky) (vs : List Tr) (y : Ky) : Option Tr := if pos ks y 0 = -1 then none else vs[(pos ks y 0).toNat]?
def thn (a b : Int) : Int := if a = 0 then b else a
def isArr : Tr → Bool
  | .mk k _ _ _ _ _ => decide (k = 4)
mutual
/-- How two values compare. -/
def cmpT : Tr → Tr → Int
  | .mk k n s x ks vs, .mk k' n' s' x' ks' vs' => if ordO (.mk k n s x ks vs) (.mk k' n' s' x' ks' vs') = 0 ∧ k = 4 ∧ k' = 4 then cmpL ks vs ks' vs' else ordO (.mk k n s x ks vs) (.mk k' n' s' x' ks' vs')
/-- How the items of an array compare with those of another. -/
def cmpL : List Ky → List Tr → List Ky → List Tr → Int
  | y :: ks, t :: vs, ks', vs' => match getL ks' vs' y with
    | none => 2
    | some u => thn (cmpT t u) (cmpL ks vs ks' vs')
  | _, _, _, _ => 0
end
theorem cmpT_mk (k n : Int) (s : ByteArray) (x : Int) (ks : List Ky) (vs : List Tr) (k' n' : Int) (s' : ByteArray) (x' : Int) (ks' : List Ky) (vs' : List Tr) : cmpT (.mk k n s x ks vs) (.mk k' n' s' x' ks' vs') = if ordO (.mk k n s x ks vs) (.mk k' n' s' x' ks' vs') = 0 ∧ k = 4 ∧ k' = 4 then cmpL ks vs ks' vs' else ordO (.mk k n s x ks vs) (.mk k' n' s' x' ks' vs') := by rw [cmpT]
theorem cmpL_cons (y : Ky) (ks : List Ky) (t : Tr) (vs : List Tr) (ks' : List Ky) (vs' : List Tr) : cmpL (y :: ks) (t :: vs) ks' vs' = match getL ks' vs' y with
    | none => 2
    | some u => thn (cmpT t u) (cmpL ks vs ks' vs') := by rw [cmpL]
theorem cmpL_nil (ks : List Ky) (ks' : List Ky) (vs' : List Tr) : cmpL ks [] ks' vs' = 0 := by
  cases ks <;> rw [cmpL] <;> simp
theorem thn_zero (b : Int) : thn 0 b = b := by unfold thn; rw [if_pos rfl]
theorem thn_not {a : Int} (h : a ≠ 0) (b : Int) : thn a b = a := by unfold thn; rw [if_neg h]

/-! ### two arrays that are being compared -/
structure Mt where
  R : Option Addr
  c : Nat
  ks : List Ky
  vs : List Tr
  A' : Option Addr
  c' : Nat
  ks' : List Ky
  vs' : List Tr
  p : Nat
  b : Nat
  ks0 : List Ky
  vs0 : List Tr
def Mt.cells (F : Mt) : List Value := [.slice F.R F.vs.length F.c, .slice F.A' F.vs'.length F.c', .int .i64 F.p, .map (some F.b)]
/-- What the map of a matching holds: where each of the first keys stands first. -/
def FirstK (l : List Ky) (f : Value → Option Value) : Prop := ∀ y : Ky, f (kyV y) = if pos l y 0 = -1 then none else some (.int .i64 (pos l y 0))
structure MtOk (B : Nat) (w : World) (F : Mt) : Prop where
  isin : IsIn w (Lo B w) F.ks F.vs F.R
  cap : F.vs.length ≤ F.c ∧ F.c ≤ maxLen
  isin' : IsIn w (Lo B w) F.ks' F.vs' F.A'
  cap' : F.vs'.length ≤ F.c' ∧ F.c' ≤ maxLen
  le : cnts F.vs ≤ cnts F.vs0
  hp : F.p ≤ F.vs'.length
  map : ∃ f, raw.Holds w GK F.b f ∧ FirstK (F.ks'.take F.p) f
def Mt.whole (F : Mt) : Int := cmpL F.ks0 F.vs0 F.ks' F.vs'
def CChain (R : Int) : Int → List Mt → Prop
  | v, [] => v = R
  | v, F :: l => F.whole = thn v (cmpL F.ks F.vs F.ks' F.vs') ∧ CChain R F.whole l
def Nest : List Mt → Prop
  | [] => True
  | F :: l => (∀ G ∈ l, cnts F.vs0 < cnts G.vs0 ∧ G.b < F.b) ∧ Nest l
/-- What is known at the head of the loop. -/
structure CSt (R : Int) (B : Nat) (w : World) (v : Int) (G : List Mt) (e : Value → Option Value) : Prop where
  ok : ∀ F ∈ G, MtOk B w F
  chain : CChain R v G
  nest : Nest G
  ens : ∀ q b, e q = some b → b = .bool true ∧ ∃ p1 p2 ks vs ks' vs', q = pq p1 p2 ∧ PlB B w p1 ks vs ∧ PlB B w p2 ks' vs' ∧ ((∃ F ∈ G, F.ks0 = ks ∧ F.vs0 = vs ∧ F.ks' = ks' ∧ F.vs' = vs') ∨ cmpL ks vs ks' vs' = 0)
def left9 : List Mt → Nat
  | [] => 0
  | F :: l => 1 + wks F.vs + left9 l
theorem left9_len : ∀ G : List Mt, G.length ≤ left9 G
  | [] => Nat.le_refl _
  | F :: l => by have := left9_len l; rw [left9, List.length_cons]; omega

theorem CChain.stop {R : Int} : ∀ {v : Int} {G : List Mt}, v ≠ 0 → CChain R v G → v = R
  | v, [], _, h => h
  | v, F :: l, hv, h => by
    obtain ⟨h1, h2⟩ := h
    rw [thn_not hv] at h1
    rw [← h1] at hv ⊢
    exact CChain.stop hv h2

section
variable {R : Int} {B : Nat} {w w' : World} {v : Int} {G : List Mt} {e : Value → Option Value}
theorem hk_map {F : Nat} {f : Value → Option Value} (h : raw.Holds w GK F f) (hb : w'.heap[F]? = w.heap[F]?) : raw.Holds w' GK F f := h.kept hb (fun _ hx => hx)
theorem MtOk.kp (hk : Kp B w w') {F : Mt} (h : MtOk B w F) (hb : w'.heap[F.b]? = w.heap[F.b]?) : MtOk B w' F where
  isin := h.isin.kp hk
  cap := h.cap
  isin' := h.isin'.kp hk
  cap' := h.cap'
  le := h.le
  hp := h.hp
  map := by
    obtain ⟨f, h1, h2⟩ := h.map
    exact ⟨f, hk_map h1 hb, h2⟩
theorem CSt.kp (hk : Kp B w w') (h : CSt R B w v G e) (hb : ∀ F ∈ G, w'.heap[F.b]? = w.heap[F.b]?) : CSt R B w' v G e where
  ok := fun F hF => (h.ok F hF).kp hk (hb F hF)
  chain := h.chain
  nest := h.nest
  ens := fun q b hq => by
    obtain ⟨h0, p1, p2, ks, vs, ks', vs', e1, h1, h2, h3⟩ := h.ens q b hq
    exact ⟨h0, p1, p2, ks, vs, ks', vs', e1, h1.kp hk, h2.kp hk, h3⟩
theorem MtOk.lt {F : Mt} (h : MtOk B w F) : F.b < w.heap.size := by
  obtain ⟨f, h1, -⟩ := h.map
  exact h1.lt

/-- A matching that is done. -/
theorem CSt.pop {F : Mt} (h : CSt R B w 0 (F :: G) e) (hv : F.vs = []) : CSt R B w 0 G e := by
  have h0 : F.whole = 0 := by rw [h.chain.1, hv, cmpL_nil, thn_zero]
  refine ⟨fun X hX => h.ok X (List.mem_cons_of_mem _ hX), by have := h.chain.2; rwa [h0] at this, h.nest.2, fun q b hq => ?_⟩
  obtain ⟨hb, p1, p2, ks, vs, ks', vs', e1, h1, h2, h3⟩ := h.ens q b hq
  refine ⟨hb, p1, p2, ks, vs, ks', vs', e1, h1, h2, ?_⟩
  rcases h3 with ⟨X, hX, g1, g2, g3, g4⟩ | h3
  · rcases List.mem_cons.1 hX with rfl | hX
    · subst g1 g2 g3 g4
      exact .inr h0
    · exact .inl ⟨X, hX, g1, g2, g3, g4⟩
  · exact .inr h3
theorem CSt.fine (h : CSt R B w 0 [] e) : R = 0 := h.chain.symm

/-- An item is taken: what the comparison gives it. -/
theorem CSt.take {F : Mt} {y : Ky} {kt : List Ky} {t : Tr} {ts : List Tr} (h : CSt R B w 0 (F :: G) e) (hkp : Kp B w w') (hbs : ∀ X ∈ G, w'.heap[X.b]? = w.heap[X.b]?) (hk0 : F.ks = y :: kt) (hv : F.vs = t :: ts) {R1 : Option Addr} {c1 p1 : Nat}
    (hR : IsIn w' (Lo B w') kt ts R1) (hc : ts.length ≤ c1 ∧ c1 ≤ maxLen) (hp : p1 ≤ F.vs'.length) (hm : ∃ f, raw.Holds w' GK F.b f ∧ FirstK (F.ks'.take p1) f) :
    (getL F.ks' F.vs' y = none → R = 2) ∧ ∀ u, getL F.ks' F.vs' y = some u → CSt R B w' (cmpT t u) (⟨R1, c1, kt, ts, F.A', F.c', F.ks', F.vs', p1, F.b, F.ks0, F.vs0⟩ :: G) e := by
  obtain ⟨hc1, hc2⟩ := h.chain
  rw [thn_zero, hk0, hv, cmpL_cons] at hc1
  constructor
  · intro hn
    rw [hn] at hc1
    exact (CChain.stop (v := F.whole) (by rw [hc1]; show (2 : Int) ≠ 0; decide) hc2).symm.trans hc1
  · intro u hu
    rw [hu] at hc1
    have hF := h.ok F List.mem_cons_self
    refine ⟨fun X hX => ?_, ⟨hc1, hc2⟩, h.nest, fun q b hq => ?_⟩
    · rcases List.mem_cons.1 hX with rfl | hX
      · refine ⟨hR, hc, hF.isin'.kp hkp, hF.cap', ?_, hp, hm⟩
        have := hF.le
        rw [hv, cnts_cons] at this
        show cnts ts ≤ cnts F.vs0
        omega
      · exact (h.ok X (List.mem_cons_of_mem _ hX)).kp hkp (hbs X hX)
    · obtain ⟨hb, q1, q2, ks, vs, ks', vs', e1, h1, h2, h3⟩ := h.ens q b hq
      refine ⟨hb, q1, q2, ks, vs, ks', vs', e1, h1.kp hkp, h2.kp hkp, h3.imp (fun ⟨X, hX, g⟩ => ?_) id⟩
      rcases List.mem_cons.1 hX with rfl | hX
      · exact ⟨_, List.mem_cons_self, g⟩
      · exact ⟨X, List.mem_cons_of_mem _ hX, g⟩
theorem CSt.stop (h : CSt R B w v G e) (hv : v ≠ 0) : R = v := (CChain.stop hv h.chain).symm

/-- Two lists that are known to have been entered are equal: none lies in itself. -/
theorem CSt.known {F : Mt} (h : CSt R B w v (F :: G) e) {ks1 vs1 : _} {ks2 vs2 : _} {p1 p2 : Value} (hp1 : PlB B w p1 ks1 vs1) (hp2 : PlB B w p2 ks2 vs2) (hlt : cnts vs1 < cnts F.vs0) {b : Value} (he : e (pq p1 p2) = some b) : b = .bool true ∧ cmpL ks1 vs1 ks2 vs2 = 0 := by
  obtain ⟨hb, q1, q2, ks, vs, ks', vs', e1, h1, h2, h3⟩ := h.ens _ b he
  have hpq : p1 = q1 ∧ p2 = q2 := by
    obtain ⟨A1, _, rfl⟩ := hp1
    obtain ⟨A2, _, rfl⟩ := hp2
    obtain ⟨A3, _, rfl⟩ := h1
    obtain ⟨A4, _, rfl⟩ := h2
    exact pq_inj e1
  obtain ⟨rfl, rfl⟩ := hpq
  obtain ⟨rfl, rfl⟩ := h1.is.unique hp1.is
  obtain ⟨rfl, rfl⟩ := h2.is.unique hp2.is
  refine ⟨hb, ?_⟩
  rcases h3 with ⟨X, hX, g1, g2, g3, g4⟩ | h3
  · rcases List.mem_cons.1 hX with rfl | hX
    · rw [g2] at hlt; omega
    · have := (h.nest.1 X hX).1
      rw [g2] at this
      omega
  · exact h3

/-- Two arrays are entered. -/
theorem CSt.push {F : Mt} {ks1 ks2 : List Ky} {vs1 vs2 : List Tr} {A1 A2 : Option Addr} {c1 c2 b : Nat} (h : CSt R B w (cmpL ks1 vs1 ks2 vs2) (F :: G) e) (hin1 : IsIn w (Lo B w) ks1 vs1 A1) (hc1 : vs1.length ≤ c1 ∧ c1 ≤ maxLen)
    (hin2 : IsIn w (Lo B w) ks2 vs2 A2) (hc2 : vs2.length ≤ c2 ∧ c2 ≤ maxLen) (hlt : cnts vs1 < cnts F.vs0) (hb : ∀ X ∈ F :: G, X.b < b) (hm : raw.Holds w GK b (fun _ => none)) :
    CSt R B w 0 (⟨A1, c1, ks1, vs1, A2, c2, ks2, vs2, 0, b, ks1, vs1⟩ :: F :: G) (raw.put e (pq (plc A1 vs1.length) (plc A2 vs2.length)) (.bool true)) := by
  refine ⟨fun X hX => ?_, ⟨by rw [thn_zero]; rfl, h.chain⟩, ⟨fun X hX => ⟨?_, hb X hX⟩, h.nest⟩, fun q z hq => ?_⟩
  · rcases List.mem_cons.1 hX with rfl | hX
    · exact ⟨hin1, hc1, hin2, hc2, Nat.le_refl _, Nat.zero_le _, _, hm, fun y => by simp [pos]⟩
    · exact h.ok X hX
  · rcases List.mem_cons.1 hX with rfl | hX
    · exact hlt
    · have := (h.nest.1 X hX).1
      show cnts vs1 < _
      omega
  · by_cases e1 : q = pq (plc A1 vs1.length) (plc A2 vs2.length)
    · subst e1
      rw [raw.put_same] at hq
      exact ⟨(Option.some.inj hq).symm, _, _, ks1, vs1, ks2, vs2, rfl, ⟨A1, hin1, rfl⟩, ⟨A2, hin2, rfl⟩, .inl ⟨_, List.mem_cons_self, rfl, rfl, rfl, rfl⟩⟩
    · rw [raw.put_other e1] at hq
      obtain ⟨hb, q1, q2, ks, vs, ks', vs', e1, h1, h2, h3⟩ := h.ens q z hq
      exact ⟨hb, q1, q2, ks, vs, ks', vs', e1, h1, h2, h3.imp (fun ⟨X, hX, g⟩ => ⟨X, List.mem_cons_of_mem _ hX, g⟩) id⟩
end

/-! ### where a key stands first, from item to item -/
theorem pos_app : ∀ (l : List Ky) (y z : Ky) (i : Nat), pos (l ++ [z]) y i = if pos l y i = -1 then (if z = y then ((i + l.length : Nat) : Int) else -1) else pos l y i
  | [], y, z, i => by
    simp [pos]
  | x :: l, y, z, i => by
    have ih := pos_app l y z (i + 1)
    rw [List.cons_append, pos, pos]
    by_cases hx : x = y
    · rw [if_pos hx, if_pos hx, if_neg (by omega)]
    · rw [if_neg hx, if_neg hx, ih]
      simp only [List.length_cons]
      have : i + 1 + l.length = i + (l.length + 1) := by omega
      rw [this]
theorem FirstK.push {l : List Ky} {f : Value → Option Value} (h : FirstK l f) {y : Ky} (hy : pos l y 0 = -1) : FirstK (l ++ [y]) (raw.put f (kyV y) (.int .i64 l.length)) := fun z => by
  rw [pos_app]
  by_cases hz : z = y
  · subst hz
    rw [raw.put_same, hy]
    simp
  · rw [raw.put_other (fun e => hz (ky_inj e)), h z]
    have : ¬ y = z := fun e => hz e.symm
    rw [if_neg this]
    split <;> simp_all
theorem FirstK.skip {l : List Ky} {f : Value → Option Value} (h : FirstK l f) {y : Ky} (hy : pos l y 0 ≠ -1) : FirstK (l ++ [y]) f := fun z => by
  rw [pos_app, h z]
  by_cases hz : y = z
  · subst hz
    simp [hy]
  · simp only [if_neg hz]
    by_cases h1 : pos l z 0 = -1 <;> simp [h1]
theorem pos_take : ∀ (l : List Ky) (y : Ky) (n i : Nat), pos (l.take n) y i ≠ -1 → pos l y i = pos (l.take n) y i
  | [], y, n, i, h => by simp [pos]
  | x :: l, y, 0, i, h => by simp [pos] at h
  | x :: l, y, n + 1, i, h => by
    rw [List.take_succ_cons, pos] at h
    rw [List.take_succ_cons, pos, pos]
    by_cases hx : x = y
    · rw [if_pos hx, if_pos hx]
    · rw [if_neg hx] at h
      rw [if_neg hx, if_neg hx]
      exact pos_take l y n (i + 1) h

end Go.Proofs.YteoilhbidnnneaaGreatDoor.tree

/-
  How two values compare is one of -1, 0, 1 and 2.
  Conditions: none.
-/
namespace Go.Proofs.YteoilhbidnnneaaGreatDoor.tree
open Go.ChangeShapes Go.WideShapes Go.ChangeAt Go.RowKit
set_option linter.unusedVariables false

theorem ci_rng (a b : Int) : -1 ≤ Lib.compareInt a b ∧ Lib.compareInt a b ≤ 2 := by
  unfold Lib.compareInt
  constructor <;> repeat' split
  all_goals omega
theorem cb_rng : ∀ (a b : List UInt8), -1 ≤ Lib.compareBytes a b ∧ Lib.compareBytes a b ≤ 2
  | [], [] => by simp [Lib.compareBytes]
  | [], _ :: _ => by simp [Lib.compareBytes]
  | _ :: _, [] => by simp [Lib.compareBytes]
  | a :: r, b :: r' => by
    have ih := cb_rng r r'
    simp only [Lib.compareBytes]
    repeat' split
    all_goals first | omega | exact ih
theorem ord_rng (t u : Tr) : -1 ≤ ordO t u ∧ ordO t u ≤ 2 := by
  obtain ⟨k, n, s, x, ks, vs⟩ := t
  obtain ⟨k', n', s', x', ks', vs'⟩ := u
  rw [ordO_mk]
  repeat' split
  all_goals first | exact cb_rng _ _ | exact ci_rng _ _ | omega
theorem cmpL_rng (ks' : List Ky) (vs' : List Tr) : ∀ (ks : List Ky) (vs : List Tr), (∀ t ∈ vs, ∀ u, -1 ≤ cmpT t u ∧ cmpT t u ≤ 2) → -1 ≤ cmpL ks vs ks' vs' ∧ cmpL ks vs ks' vs' ≤ 2
  | [], vs, _ => by cases vs <;> rw [cmpL] <;> simp
  | y :: ks, [], _ => by rw [cmpL_nil]; omega
  | y :: ks, t :: vs, h => by
    have ih := cmpL_rng ks' vs' ks vs (fun u hu => h u (List.mem_cons_of_mem _ hu))
    rw [cmpL_cons]
    split
    · omega
    · rename_i u _
      have := h t List.mem_cons_self u
      unfold thn
      split
      · exact ih
      · exact this
theorem cmp_rng : ∀ (t u : Tr), -1 ≤ cmpT t u ∧ cmpT t u ≤ 2 := Tr.ind fun k n s x ks vs ih u => by
  obtain ⟨k', n', s', x', ks', vs'⟩ := u
  rw [cmpT_mk]
  split
  · exact cmpL_rng _ _ _ _ (fun t ht u => ih t ht u)
  · exact ord_rng _ _

end Go.Proofs.YteoilhbidnnneaaGreatDoor.tree

/-
  The model's look at a key.
  Conditions: none.
-/
namespace Go.Proofs.YteoilhbidnnneaaGreatDoor.tree
open Go.ChangeShapes Go.WideShapes Go.ChangeAt Go.RowKit
set_option linter.unusedVariables false

set_option maxHeartbeats 800000 in
theorem l6Get_s (t : Tr) (v : Value) (y : Ky) (w : World) (S : Nat → Prop) (h : TIn w S t v) : Calls Tryz.prog 122 #[v, kyV y] w (OutT w (getR t y) (getB t y) S) := by
  obtain ⟨k, n, s, x, ks, vs⟩ := t
  obtain ⟨A, c, rfl, -, hin⟩ := h.out
  have FI := fun w h => findV_s (.mk k n s x ks vs) (vV k n s x A vs.length c) y w S h
  obtain ⟨L, HL⟩ : ∃ L, Hid (L = vs.length) := ⟨_, Lib.hid rfl⟩
  have hm : L ≤ maxLen := by rw [HL.out]; exact hin.2.1
  unfold maxLen at hm
  have hkl : Hid (ks.length = L) := Lib.hid (by rw [HL.out]; exact hin.1)
  rw [← HL.out] at h FI ⊢
  have HT := Lib.hid h
  have HI := Lib.hid hin
  clear h hin
  rcases posV_cases k n s x ks vs y with hp | ⟨i, hp, hi, rfl⟩
  · have e1 : getR (.mk k n s x ks vs) y = nullT := by unfold getR; rw [getT_none hp]; rfl
    have e2 : getB (.mk k n s x ks vs) y = false := by unfold getB; rw [getT_none hp]; rfl
    rw [e1, e2]
    rw [hp] at FI
    have HF := Lib.hid FI
    clear FI hp e1 e2
    obtain ⟨yb, yn, ys⟩ := y
    unfold kyV at HF ⊢
    go_enter Tryz.func122, Tryz.ntmps122
    go_wp2_with (fail)
    obtain ⟨a0, a1, a2, az, ab⟩ := al3 w #[.int .i64 k, .int .i64 n, .string s, .int .i64 x, .slice A L c] #[.bool yb, .int .i64 yn, .string ys] #[.int .i64 0, .int .i64 0, .string ⟨#[]⟩, .int .i64 0, .slice none 0 0] IV IK IV
    refine (HF.out _ (HT.out.below' ab)).mono ?_
    rintro e w1 ⟨rfl, hb1⟩
    have A2 := Lib.hid (carry hb1 a2)
    have HB1 := Lib.hid (bs ab hb1)
    obtain ⟨r, f⟩ := rowc A2.out
    clear a0 a1 a2 az ab hb1
    go_wp2_with (fail)
    generalize hwF : (((((w1.setCell ⟨w.heap.size + 1 + 1, 0, none⟩ (.int .i64 0)).setCell ⟨w.heap.size + 1 + 1, 1, none⟩ (.int .i64 0)).setCell ⟨w.heap.size + 1 + 1, 2, none⟩ (.string ⟨#[]⟩)).setCell ⟨w.heap.size + 1 + 1, 3, none⟩ (.int .i64 0)).setCell ⟨w.heap.size + 1 + 1, 4, none⟩ (.slice none 0 0)) = wF
    obtain ⟨rF, -, bF⟩ := fill5 A2.out hwF
    refine bodyPost_ret (v := .tuple #[vV 0 0 ⟨#[]⟩ 0 none 0 0, .bool false]) ?_ rfl ?_
    · simp [results, Tryz.results122, go_sem, rF]
    · exact ⟨_, rfl, flat ⟨by unfold I64; omega, by unfold I64; omega, by unfold I64; omega, Nat.zero_le _⟩ _ _ none 0 (Nat.zero_le _), bF _ _ (by omega) HB1.out⟩
  · obtain ⟨t', ht'⟩ : ∃ t', vs[i]? = some t' := ⟨_, List.getElem?_eq_getElem (by rw [← HL.out, ← hkl.out]; exact hi)⟩
    have e1 : getR (.mk 4 n s x ks vs) y = t' := by unfold getR; rw [getT_some hp, ht']; rfl
    have e2 : getB (.mk 4 n s x ks vs) y = true := by unfold getB; rw [getT_some hp, ht']; rfl
    rw [e1, e2]
    rw [hp] at FI
    have hiL : i < L := by rw [← hkl.out]; exact hi
    obtain ⟨a, y1, k1, n1, s1, x1, ks1, vs1, A1, c1, rfl, hS, hky, hvs, htin, hyb, hkb, hin1, hcell⟩ := HI.out.item (i := i) (by rw [← HL.out]; exact hiL)
    rw [ht'] at hvs
    obtain rfl := Option.some.inj hvs
    obtain ⟨L1, HL1⟩ : ∃ L1, Hid (L1 = vs1.length) := ⟨_, Lib.hid rfl⟩
    rw [← HL1.out] at hcell
    have HF := Lib.hid FI
    have HC := Lib.hid hcell
    have HV := Lib.hid htin
    clear FI hp e1 e2 hcell htin hky hyb hkb hin1 hS ht'
    obtain ⟨yb, yn, ys⟩ := y
    unfold kyV at HF ⊢
    go_enter Tryz.func122, Tryz.ntmps122
    go_wp2_with (fail)
    obtain ⟨a0, a1, a2, az, ab⟩ := al3 w #[.int .i64 4, .int .i64 n, .string s, .int .i64 x, .slice (some a) L c] #[.bool yb, .int .i64 yn, .string ys] #[.int .i64 0, .int .i64 0, .string ⟨#[]⟩, .int .i64 0, .slice none 0 0] IV IK IV
    refine (HF.out _ (HT.out.below' ab)).mono ?_
    rintro e w1 ⟨rfl, hb1⟩
    have A0 := Lib.hid (carry hb1 a0)
    have A2 := Lib.hid (carry hb1 a2)
    have HB1 := Lib.hid (bs ab hb1)
    obtain ⟨p0, p1, p2, p3, p4, p5, p6, p7⟩ := HC.out.below HB1.out
    have q4 := (rowc A0.out).1 4
    obtain ⟨r, f⟩ := rowc A2.out
    clear a0 a1 a2 az ab hb1
    go_wp2_with (fail)
    generalize hwF : (((((w1.setCell ⟨w.heap.size + 1 + 1, 0, none⟩ (.int .i64 k1)).setCell ⟨w.heap.size + 1 + 1, 1, none⟩ (.int .i64 n1)).setCell ⟨w.heap.size + 1 + 1, 2, none⟩ (.string s1)).setCell ⟨w.heap.size + 1 + 1, 3, none⟩ (.int .i64 x1)).setCell ⟨w.heap.size + 1 + 1, 4, none⟩ (.slice A1 L1 c1)) = wF
    obtain ⟨rF, oF, bF⟩ := fill5 A2.out hwF
    refine bodyPost_ret (v := .tuple #[vV k1 n1 s1 x1 A1 L1 c1, .bool true]) ?_ rfl ?_
    · simp [results, Tryz.results122, go_sem, rF]
    · have hb := bF w.heap.size w (by omega) HB1.out
      exact ⟨_, by rw [HL1.out], HV.out.below' hb, hb⟩

end Go.Proofs.YteoilhbidnnneaaGreatDoor.tree

/-
  What comparing wants of the world.
  Conditions: none.
-/
namespace Go.Proofs.YteoilhbidnnneaaGreatDoor.ers
open Go.ChangeShapes Go.WideShapes Go.ChangeAt Go.RowKit
set_option linter.unusedVariables false

/-- What comparing wants of the world. -/
def CmE (w : World) : Prop := fmt.Tab w ∧ (∃ a, HasT w a) ∧ ∃ b, HasN w b
theorem CmE.stays {w w' : World} (h : CmE w) (hb : Below w.heap.size w w') : CmE w' := ⟨h.1.stays hb, h.2.1.imp fun a h => h.stays hb, h.2.2.imp fun a h => h.stays hb⟩

end Go.Proofs.YteoilhbidnnneaaGreatDoor.ers

/-
  What the package variables that the rows of the operators list hold.
  Conditions: the variables hold what the program's text lays.
-/
namespace Go.Proofs.YteoilhbidnnneaaGreatDoor.ers
open Go.ChangeShapes Go.WideShapes Go.ChangeAt Go.RowKit
set_option linter.unusedVariables false

/-- What the operators want of the world. -/
def OpE (w : World) : Prop := prs.Env w ∧ CmE w
theorem OpE.stays {w w' : World} (h : OpE w) (hb : Below w.heap.size w w') : OpE w' := ⟨h.1.stays hb, h.2.stays hb⟩

namespace bin
def laidOf : List (String × DataW Unit) := Rows.fnExactBinaryOpRow.laid
theorem env_of {W : World} (h : laidMetH Tryz.prog laidOf W) : OpE W := by
  refine ⟨prs.env_of h, ?_⟩
  rw [MakeChecks.laidMetH_plain _ _ _ (by kernel_rfl)] at h
  refine ⟨Lib.tabIs_of_head fmt.gTab tTab Tryz.underlying166 Tryz.underlying158 (by kernel_rfl) (by kernel_rfl) h.tail.tail, ?_⟩
  obtain ⟨a0, a1, s0, s1, c0, c1, t0, t1, hv0, hv1, -, -, -, -, -, -, hne, hb0, hb1⟩ := laid_sentinels2 h.tail.tail.tail.tail.tail gT tT gN tN Tryz.underlying89 rowErr Tryz.underlying187 Tryz.underlying189 rfl rfl Tryz.underlying9 cellsErr cellsStr
  exact ⟨⟨a0, hv0⟩, ⟨a1, hv1⟩⟩
theorem door_met (os : Os) (args : Array Value) : laidMetH Tryz.prog laidOf ((World.doorLaid Tryz.prog 400 os).forCall (fun _ _ => 0) ⟨#[], args, []⟩).memory :=
  laidMetH_of_parts3 (fuel := 8) (laidMet_of_run' 8 (by kernel_rfl) (by kernel_rfl)) (by kernel_rfl) (by kernel_rfl)
end bin

end Go.Proofs.YteoilhbidnnneaaGreatDoor.ers

/-
  Identical of the project.
  Conditions: those that each theorem names.
-/
namespace Go.Proofs.YteoilhbidnnneaaGreatDoor.tree
open Go.ChangeShapes Go.WideShapes Go.ChangeAt Go.RowKit
set_option linter.unusedVariables false

abbrev PG : TypeId := 94
def QRow (w : World) (B : Nat) (way : Value) (P : List Pair) : Prop := w.ownsRow B PG 2 way P.length (P.reverse.flatMap Pair.cells)
theorem cells2_len (G : List Pair) : (G.flatMap Pair.cells).length = G.length * 2 := by
  induction G with
  | nil => rfl
  | cons V l ih => rw [List.flatMap_cons, List.length_append, ih, List.length_cons]; simp [Pair.cells]; omega
theorem cells2_rev (V : Pair) (l : List Pair) : (V :: l).reverse.flatMap Pair.cells = l.reverse.flatMap Pair.cells ++ V.cells := by simp
theorem QRow.nil {w : World} {B : Nat} {way : Value} (h : QRow w B way []) : ∃ A c, way = .slice A 0 c := by
  rcases h.2 with ⟨h0, _⟩ | ⟨g, cap, cur, h0, _⟩
  · exact ⟨none, 0, h0⟩
  · exact ⟨_, cap, h0⟩
theorem QRow.below {w w' : World} {B : Nat} {way : Value} {P : List Pair} (h : QRow w B way P) (hb : Below w.heap.size w w') : QRow w' B way P :=
  World.ownsRow.kept h (mem.none_of_below hb) (by
    cases e : way.ownBlock with
    | none => exact .inl rfl
    | some k => exact .inr (by simp))
theorem QRow.own {w : World} {B : Nat} {way : Value} {P : List Pair} (h : QRow w B way P) : ∀ k, way.ownBlock = some k → B ≤ k := fun k e => by
  rcases h.2 with ⟨h0, _⟩ | ⟨g, cap, cur, h0, hB, _⟩
  · rw [h0] at e; cases e
  · rw [h0] at e
    injection e with e
    have : g = k := e
    omega
theorem QRow.kept4 {w w' : World} {B b : Nat} {way : Value} {P : List Pair} (h : QRow w B way P) (hg : w.grownBy w' (some b)) (hb : b < B) : QRow w' B way P :=
  World.ownsRow.kept h hg (by
    cases e : way.ownBlock with
    | none => exact .inl rfl
    | some k =>
      refine .inr (fun h2 => ?_)
      have := h.own k e
      injection h2 with h2
      omega)
theorem QRow.top {w : World} {B : Nat} {way : Value} {l : Pair} {P : List Pair} (h : QRow w B way (l :: P)) :
    ∃ g c, way = .slice (some ⟨g, 0, none⟩) (P.length + 1) c ∧ B ≤ g ∧ P.length + 1 ≤ c ∧ c ≤ maxLen ∧ w.cell? ⟨g, P.length * 2, none⟩ = some l.a.cell ∧ w.cell? ⟨g, P.length * 2 + 1, none⟩ = some l.b.cell ∧ QRow w B (.slice (some ⟨g, 0, none⟩) P.length c) P := by
  obtain ⟨h1, h2⟩ := h
  rcases h2 with ⟨_, h0⟩ | ⟨g, cap, cur, rfl, hB, hg, hn, hm, hs, htake⟩
  · simp at h0
  · have hl : (P.reverse.flatMap Pair.cells).length = P.length * 2 := by rw [cells2_len, List.length_reverse]
    rw [cells2_rev] at htake
    simp only [List.length_cons] at htake hn
    have at_ : ∀ q, q < 2 → w.cell? ⟨g, P.length * 2 + q, none⟩ = l.cells[q]? := fun q hq => by
      rw [cell_of_row w g _ cur PG _ hg]
      have e : (cur.toList.take ((P.length + 1) * 2))[P.length * 2 + q]? = l.cells[q]? := by
        rw [htake, List.getElem?_append_right (by omega), hl]
        congr 1
        omega
      rw [List.getElem?_take_of_lt (by omega)] at e
      simpa using e
    refine ⟨g, cap, rfl, hB, hn, hm, at_ 0 (by omega), at_ 1 (by omega), ⟨hl, .inr ⟨g, cap, cur, rfl, hB, hg, by omega, hm, hs, ?_⟩⟩⟩
    have := congrArg (List.take (P.length * 2)) htake
    rw [List.take_take, List.take_append_of_le_length (by omega), List.take_of_length_le (l := List.flatMap _ _) (by omega)] at this
    rw [← this]
    congr 1
    omega

def QRel (T T' : Tr) (w : World) (gk : Nat) (way : Value) (wr : World) : Prop :=
  ∃ P e, gk = lefts2 P ∧ ISt T T' (w.heap.size + 5) wr P [] e ∧ QRow wr (w.heap.size + 5) way P ∧ raw.Holds wr (G2 (w.heap.size + 5)) (w.heap.size + 1 + 1) e ∧ Below w.heap.size w wr ∧ gk ≤ 1 + wks [T] ∧ w.heap.size + 6 ≤ wr.heap.size
def JRel (T T' : Tr) (w : World) (gk Lr NT : Nat) (R R' : Option Addr) (rc rc' : Nat) (ks : List Ky) (vs : List Tr) (ks' : List Ky) (vs' : List Tr) (gk2 : Nat) (way i : Value) (wr : World) : Prop :=
  ∃ (j : Nat) (P : List Pair) (e : Value → Option Value), i = .int .i64 j ∧ gk2 + j = Lr + 1 ∧ j ≤ Lr ∧ IsIn wr (Lo (w.heap.size + 5) wr) ks vs R ∧ IsIn wr (Lo (w.heap.size + 5) wr) ks' vs' R' ∧ ISt T T' (w.heap.size + 5) wr P ((zz ks vs ks' vs').drop j) e ∧ QRow wr (w.heap.size + 5) way P ∧
    raw.Holds wr (G2 (w.heap.size + 5)) (w.heap.size + 1 + 1) e ∧ Below w.heap.size w wr ∧ lefts2 P + wks (vs.drop j) < gk ∧ w.heap.size + 6 ≤ NT ∧ wr.heap[NT]? = some (.cells #[.slice R Lr rc, .slice R' Lr rc'] PG (0, 0)) ∧ ∀ k, way.ownBlock = some k → k ≠ NT

theorem al2 {w : World} {B b : Nat} {f : Value → Option Value} (h : raw.Holds w (G2 B) b f) (o : Obj) : raw.Holds (w.alloc o) (G2 B) b f :=
  h.kept (Below.heap_alloc w o b h.lt) (fun x hx => hx.kp (Kp.below (b1 w o)))

theorem qstart {w : World} {lo lo' : Nat} {T T' : Tr} {k n x k' n' x' : Int} {s s' : ByteArray} {A A' : Option Addr} {L c L' c' : Nat} (h : TIn w (Nw lo w) T (vV k n s x A L c)) (h' : TIn w (Nw lo' w) T' (vV k' n' s' x' A' L' c')) (cb cb' : Array Value) (tb tb' ti ti' : TypeId) :
    QRel T T' w (1 + wks [T]) (.slice (some ⟨w.heap.size + 1 + 1 + 1 + 1 + 1, 0, none⟩) 1 1)
      ((((((w.alloc (.cells cb tb)).alloc (.cells cb' tb')).alloc (.map #[] 0)).alloc (.cells #[.bool false, .int .i64 0, .string ⟨#[]⟩, .int .i64 k, .int .i64 n, .string s, .int .i64 x, .slice A L c] ti)).alloc
        (.cells #[.bool false, .int .i64 0, .string ⟨#[]⟩, .int .i64 k', .int .i64 n', .string s', .int .i64 x', .slice A' L' c'] ti')).alloc
        (.cells #[.slice (some ⟨w.heap.size + 1 + 1 + 1, 0, none⟩) 1 1, .slice (some ⟨w.heap.size + 1 + 1 + 1 + 1, 0, none⟩) 1 1] PG)) := by
  have z1 : ((w.alloc (.cells cb tb)).alloc (.cells cb' tb')).heap.size = w.heap.size + 1 + 1 := by simp
  generalize hw1 : (w.alloc (.cells cb tb)).alloc (.cells cb' tb') = w1 at *
  have B1 : Below w.heap.size w w1 := hw1 ▸ b2 _ _ _
  have h1 := raw.Holds.made w1 (G2 (w.heap.size + 5))
  have z2 : (w1.alloc (.map #[] 0)).heap.size = w.heap.size + 1 + 1 + 1 := by simp [z1]
  have B2 := bs B1 (b1 w1 (.map #[] 0))
  generalize hw2 : w1.alloc (.map #[] 0) = w2 at *
  have e3 := heap_alloc_new w2 (.cells #[.bool false, .int .i64 0, .string ⟨#[]⟩, .int .i64 k, .int .i64 n, .string s, .int .i64 x, .slice A L c] ti)
  have z3 : (w2.alloc (.cells #[.bool false, .int .i64 0, .string ⟨#[]⟩, .int .i64 k, .int .i64 n, .string s, .int .i64 x, .slice A L c] ti)).heap.size = w.heap.size + 1 + 1 + 1 + 1 := by simp [z2]
  have h1' := al2 h1 (.cells #[.bool false, .int .i64 0, .string ⟨#[]⟩, .int .i64 k, .int .i64 n, .string s, .int .i64 x, .slice A L c] ti)
  have B3 := bs B2 (b1 w2 (.cells #[.bool false, .int .i64 0, .string ⟨#[]⟩, .int .i64 k, .int .i64 n, .string s, .int .i64 x, .slice A L c] ti))
  generalize w2.alloc (.cells #[.bool false, .int .i64 0, .string ⟨#[]⟩, .int .i64 k, .int .i64 n, .string s, .int .i64 x, .slice A L c] ti) = w3 at *
  have e4 := heap_alloc_new w3 (.cells #[.bool false, .int .i64 0, .string ⟨#[]⟩, .int .i64 k', .int .i64 n', .string s', .int .i64 x', .slice A' L' c'] ti')
  have e3' := carry (b1 w3 (.cells #[.bool false, .int .i64 0, .string ⟨#[]⟩, .int .i64 k', .int .i64 n', .string s', .int .i64 x', .slice A' L' c'] ti')) e3
  have z4 : (w3.alloc (.cells #[.bool false, .int .i64 0, .string ⟨#[]⟩, .int .i64 k', .int .i64 n', .string s', .int .i64 x', .slice A' L' c'] ti')).heap.size = w.heap.size + 1 + 1 + 1 + 1 + 1 := by simp [z3]
  have h1'' := al2 h1' (.cells #[.bool false, .int .i64 0, .string ⟨#[]⟩, .int .i64 k', .int .i64 n', .string s', .int .i64 x', .slice A' L' c'] ti')
  have B4 := bs B3 (b1 w3 (.cells #[.bool false, .int .i64 0, .string ⟨#[]⟩, .int .i64 k', .int .i64 n', .string s', .int .i64 x', .slice A' L' c'] ti'))
  generalize w3.alloc (.cells #[.bool false, .int .i64 0, .string ⟨#[]⟩, .int .i64 k', .int .i64 n', .string s', .int .i64 x', .slice A' L' c'] ti') = w4 at *
  have e5 := heap_alloc_new w4 (.cells #[.slice (some ⟨w.heap.size + 1 + 1 + 1, 0, none⟩) 1 1, .slice (some ⟨w.heap.size + 1 + 1 + 1 + 1, 0, none⟩) 1 1] PG)
  have h1f := al2 h1'' (.cells #[.slice (some ⟨w.heap.size + 1 + 1 + 1, 0, none⟩) 1 1, .slice (some ⟨w.heap.size + 1 + 1 + 1 + 1, 0, none⟩) 1 1] PG)
  have B5 := bs B4 (b1 w4 (.cells #[.slice (some ⟨w.heap.size + 1 + 1 + 1, 0, none⟩) 1 1, .slice (some ⟨w.heap.size + 1 + 1 + 1 + 1, 0, none⟩) 1 1] PG))
  have e3f := carry (b1 w4 (.cells #[.slice (some ⟨w.heap.size + 1 + 1 + 1, 0, none⟩) 1 1, .slice (some ⟨w.heap.size + 1 + 1 + 1 + 1, 0, none⟩) 1 1] PG)) e3'
  have e4f := carry (b1 w4 (.cells #[.slice (some ⟨w.heap.size + 1 + 1 + 1, 0, none⟩) 1 1, .slice (some ⟨w.heap.size + 1 + 1 + 1 + 1, 0, none⟩) 1 1] PG)) e4
  generalize w4.alloc (.cells #[.slice (some ⟨w.heap.size + 1 + 1 + 1, 0, none⟩) 1 1, .slice (some ⟨w.heap.size + 1 + 1 + 1 + 1, 0, none⟩) 1 1] PG) = w5 at *
  rw [z2] at e3f
  rw [z3] at e4f
  rw [z4] at e5
  rw [z1] at h1f
  have hT : TIn w5 (Lo (w.heap.size + 5) w5) T (vV k n s x A L c) := h.stays (fun b hb => ⟨by have := hb.2.lt; omega, by obtain ⟨_, cs, t, hc⟩ := hb; exact ⟨cs, t, carry B5 hc⟩⟩) (fun b hb hlt => B5.block b hlt)
  have hT' : TIn w5 (Lo (w.heap.size + 5) w5) T' (vV k' n' s' x' A' L' c') := h'.stays (fun b hb => ⟨by have := hb.2.lt; omega, by obtain ⟨_, cs, t, hc⟩ := hb; exact ⟨cs, t, carry B5 hc⟩⟩) (fun b hb hlt => B5.block b hlt)
  have hI := isin_one (y := ⟨false, 0, ⟨#[]⟩⟩) (S := Lo (w.heap.size + 5) w5) (g := w.heap.size + 1 + 1 + 1) ⟨by omega, _, _, e3f⟩ ⟨by show I64 0; unfold I64; omega, Nat.zero_le _⟩ e3f hT
  have hI' := isin_one (y := ⟨false, 0, ⟨#[]⟩⟩) (S := Lo (w.heap.size + 5) w5) (g := w.heap.size + 1 + 1 + 1 + 1) ⟨by omega, _, _, e4f⟩ ⟨by show I64 0; unfold I64; omega, Nat.zero_le _⟩ e4f hT'
  refine ⟨[⟨⟨some ⟨w.heap.size + 1 + 1 + 1, 0, none⟩, 1, [⟨false, 0, ⟨#[]⟩⟩], [T]⟩, ⟨some ⟨w.heap.size + 1 + 1 + 1 + 1, 0, none⟩, 1, [⟨false, 0, ⟨#[]⟩⟩], [T']⟩⟩], fun _ => none, rfl, ⟨fun l hl => ?_, (fun p b h => by cases h), ⟨⟨false, 0, ⟨#[]⟩⟩, .inl ⟨_, List.mem_singleton.2 rfl, rfl⟩⟩, fun hT => ⟨fun l hl => ?_, fun i hi => by cases hi⟩⟩, ⟨rfl, .inr ⟨w.heap.size + 1 + 1 + 1 + 1 + 1, 1, _, rfl, by omega, e5, by simp, by simp [maxLen], rfl, rfl⟩⟩, h1f, B5, Nat.le_refl _, by have := (Array.getElem?_eq_some_iff.1 e5).1; omega⟩
  · obtain rfl := List.mem_singleton.1 hl
    exact ⟨⟨hI, ⟨Nat.le_refl _, by simp [maxLen]⟩⟩, ⟨hI', ⟨Nat.le_refl _, by simp [maxLen]⟩⟩, rfl⟩
  · obtain rfl := List.mem_singleton.1 hl
    intro i hi
    obtain rfl : i = ((⟨false, 0, ⟨#[]⟩⟩, T), (⟨false, 0, ⟨#[]⟩⟩, T')) := by simpa [Pair.z, zz] using hi
    exact ⟨rfl, hT⟩

/-- What is behind the two places. -/
def CutR (w wr : World) (NA NZ : Nat) (y : Ky) (k n : Int) (s : ByteArray) (x : Int) (A : Option Addr) (L c : Nat) (y' : Ky) (k' n' : Int) (s' : ByteArray) (x' : Int) (A' : Option Addr) (L' c' : Nat) (pa : Option Addr) (ma : Int) (pb : Option Addr) (mb : Int) (v : Value) (wx : World) : Prop :=
  ∃ NP, v = .pointer (some ⟨NP, 0, none⟩) ∧ NZ ≤ NP ∧ wx.heap[NP]? = some (.cells #[.pointer pa, .int .i64 ma, .pointer pb, .int .i64 mb] P2 (0, 0)) ∧ Below wr.heap.size wr wx ∧
    wx.heap[NA]? = some (.cells #[.bool y.text, .int .i64 y.num, .string y.str, .int .i64 k, .int .i64 n, .string s, .int .i64 x, .slice A L c] IE (0, 0)) ∧
    wx.heap[NA + 1]? = some (.cells #[.bool y'.text, .int .i64 y'.num, .string y'.str, .int .i64 k', .int .i64 n', .string s', .int .i64 x', .slice A' L' c'] IE (0, 0))

theorem pgRow : (Tryz.prog.info? PG).map (fun i => (i.zero, i.size, i.bytes)) = some (some (.agg #[.slice none 0 0, .slice none 0 0]), 2, 48) := by kernel_rfl
theorem two_new (w : World) (a b : Value) (t : TypeId) : ∀ j u, [a, b][j]? = some u → (w.alloc (.cells #[a, b] t)).cell? ((⟨w.heap.size, 0, none⟩ : Addr).add j) = some u := by
  intro j u hj
  rw [Addr.add_lit, Nat.zero_add, cell_of_row _ _ j _ t _ (heap_alloc_new w _)]
  simpa using hj

set_option maxHeartbeats 2000000 in
set_option maxRecDepth 100000 in
theorem identical_i (T T' : Tr) (v v' : Value) (w : World) (lo lo' : Nat) (h : TIn w (Nw lo w) T v) (h' : TIn w (Nw lo' w) T' v') (hN : cnt T ≤ 1099511627) : Calls Tryz.prog 34 #[v, v'] w (GivesQ w (.bool (identB T T'))) := by
  obtain ⟨k, n, s, x, A, L, c, rfl⟩ : ∃ k n s x A L c, v = vV k n s x A L c := by
    cases h with
    | mk k n s x ks vs A cap C => exact ⟨k, n, s, x, A, _, cap, rfl⟩
  obtain ⟨k', n', s', x', A', L', c', rfl⟩ : ∃ k n s x A L c, v' = vV k n s x A L c := by
    cases h' with
    | mk k n s x ks vs A cap C => exact ⟨k, n, s, x, A, _, cap, rfl⟩
  have HT := Lib.hid h
  have HT' := Lib.hid h'
  have hwk : 1 + wks [T] ≤ 1099511627776 := by have := wk_cnt T; rw [wks_cons, wks]; omega
  clear h h'
  have hmm := @run_makeMap Tryz.prog
  go_enter Tryz.func34, Tryz.ntmps34
  go_wp2_with (fail)
  clear hmm
  go_loopg [6] (1 + wks [T]) (fun gk way wr => QRel T T' w gk way wr)
  case atStart => exact qstart HT.out HT'.out _ _ _ _ _ _
  case round =>
    obtain ⟨P, e, hgk, hst, hrow, hm1, hb, hle, hz4⟩ := hrel
    cases P with
    | nil =>
      obtain ⟨A0, c0, rfl⟩ := hrow.nil
      have HST := Lib.hid hst
      have HB := Lib.hid hb
      clear hgk hst hrow hm1 hb hle
      go_wp2_with (fail)
      go_ret
      exact ⟨by rw [HST.out.fine]; rfl, HB.out⟩
    | cons l P =>
      obtain ⟨g, cc, rfl, hgB, hlc, hcm, htopa, htopb, hpop⟩ := hrow.top
      obtain ⟨m, HM⟩ : ∃ m, Hid (m = P.length) := ⟨_, Lib.hid rfl⟩
      rw [← HM.out] at htopa htopb hlc hpop ⊢
      have hl := hst.ok _ List.mem_cons_self
      obtain ⟨⟨R, rc, ks, vs⟩, ⟨R', rc', ks', vs'⟩⟩ := l
      obtain ⟨Lr, HLr⟩ : ∃ Lr, Hid (Lr = vs.length) := ⟨_, Lib.hid rfl⟩
      have hlen : vs.length = vs'.length := hl.len
      have HLr' : Hid (Lr = vs'.length) := Lib.hid (HLr.out.trans hlen)
      have ta : wr.cell? ⟨g, m * 2, none⟩ = some (.slice R Lr rc) := by rw [HLr.out]; exact htopa
      have tb : wr.cell? ⟨g, m * 2 + 1, none⟩ = some (.slice R' Lr rc') := by rw [HLr'.out]; exact htopb
      have HIN : Hid (IsIn wr (Lo (w.heap.size + 5) wr) ks vs R) := Lib.hid hl.a.isin
      have HIN' : Hid (IsIn wr (Lo (w.heap.size + 5) wr) ks' vs' R') := Lib.hid hl.b.isin
      have HP : Hid (ISt T T' (w.heap.size + 5) wr P (zz ks vs ks' vs') e) := Lib.hid hst.pop
      have HROW : Hid (QRow wr (w.heap.size + 5) (.slice (some ⟨g, 0, none⟩) m cc) P) := Lib.hid hpop
      have HM1 := Lib.hid hm1
      have HB := Lib.hid hb
      have HGK : Hid (gk = 1 + wks vs + lefts2 P) := Lib.hid hgk
      have HLE := Lib.hid hle
      have hglt : g < wr.heap.size := World.block_lt_of_cell? _ _ ta
      have hLr : Lr ≤ maxLen := by rw [HLr.out]; exact hl.a.isin.2.1
      unfold maxLen at hcm hLr
      obtain ⟨NT, hNT⟩ : ∃ NT, NT = wr.heap.size := ⟨_, rfl⟩
      have HNT := Lib.hid hNT
      have hkz : ISt T T' (w.heap.size + 5) (wr.alloc (.cells #[.slice R Lr rc, .slice R' Lr rc'] PG)) P (zz ks vs ks' vs') e := hst.pop.kp (Kp.below (b1 wr _))
      have HKZ := Lib.hid hkz
      clear hgk hst hrow hm1 hb hle htopa htopb hpop hl hlen hNT hkz
      go_wp2_with (fail)
      rw [← HNT.out]
      go_loopg [6, 38] (Lr + 1) (fun gk2 way i wr2 => JRel T T' w gk Lr NT R R' rc rc' ks vs ks' vs' gk2 way i wr2)
      case atStart =>
        have hb1 := b1 wr (.cells #[.slice R Lr rc, .slice R' Lr rc'] PG)
        refine ⟨0, P, e, rfl, by omega, by omega, HIN.out.kp (Kp.below hb1), HIN'.out.kp (Kp.below hb1), by simpa using HKZ.out, HROW.out.below hb1, al2 HM1.out _, bs HB.out hb1, by have := HGK.out; simp; omega, by rw [HNT.out]; exact hz4, by rw [HNT.out]; exact heap_alloc_new wr _, fun k hk => ?_⟩
        have : some g = some k := hk
        injection this with this
        rw [HNT.out]
        omega
      case round =>
        obtain ⟨j, P2, e2, rfl, hgj, hjL, hin, hin', hst, hrow, hm1, hb, hlt2, hNTB, hT8, hTo⟩ := hrel
        have HT8 := Lib.hid hT8
        obtain ⟨r8, -⟩ := rowc hT8
        have l8 : NT < wr.heap.size := (Array.getElem?_eq_some_iff.1 hT8).1
        clear hT8
        by_cases hlt : j < Lr
        · obtain ⟨a, y, k1, n1, s1, x1, ks1, vs1, A1, c1, rfl, hS, hky, hvs, ht, hyb, hkb, hin1, hcell⟩ := hin.item (i := j) (by rw [← HLr.out]; exact hlt)
          obtain ⟨a', y', k2, n2, s2, x2, ks2, vs2, A2, c2, rfl, hS', hky', hvs', ht', hyb', hkb', hin2, hcell'⟩ := hin'.item (i := j) (by rw [← HLr'.out]; exact hlt)
          have hdrop := zz_drop ks vs ks' vs' hky hvs hky' hvs'
          have hwd : wks (vs.drop j) = wk (.mk k1 n1 s1 x1 ks1 vs1) + wks (vs.drop (j + 1)) := by
            obtain ⟨hj, e1⟩ := List.getElem?_eq_some_iff.1 hvs
            rw [List.drop_eq_getElem_cons hj, wks_cons, e1]
          rw [hdrop] at hst
          rw [hwd, wk_mk] at hlt2
          obtain ⟨L1, HL1⟩ : ∃ L1, Hid (L1 = vs1.length) := ⟨_, Lib.hid rfl⟩
          obtain ⟨L2, HL2⟩ : ∃ L2, Hid (L2 = vs2.length) := ⟨_, Lib.hid rfl⟩
          have hp1 : PlB (w.heap.size + 5) wr (plc A1 vs1.length) ks1 vs1 := ⟨A1, hin1, rfl⟩
          have hp2 : PlB (w.heap.size + 5) wr (plc A2 vs2.length) ks2 vs2 := ⟨A2, hin2, rfl⟩
          have hcap1 := ht.cap
          have hcap2 := ht'.cap
          obtain ⟨pa, ma, hpl1⟩ := plc_form A1 vs1.length
          obtain ⟨pb, mb, hpl2⟩ := plc_form A2 vs2.length
          have some_of : ∀ {w : World} {S : Nat → Prop} {ks : List Ky} {vs : List Tr} {A : Option Addr}, IsIn w S ks vs A → 0 < vs.length → ∃ a, A = some a := fun hi h0 => by
            obtain ⟨_, _, C, hc, _⟩ := hi
            obtain ⟨a, ha, _⟩ := hc 0 h0
            exact ⟨a, ha⟩
          have PO1 : ∀ w, Calls Tryz.prog 77 #[.slice A1 L1 c1] w (GivesQ w (.agg #[.pointer pa, .int .i64 ma])) := fun w => by rw [HL1.out, ← hpl1]; exact placeOf A1 vs1.length c1 hin1.2.1 (some_of hin1) w
          have PO2 : ∀ w, Calls Tryz.prog 77 #[.slice A2 L2 c2] w (GivesQ w (.agg #[.pointer pb, .int .i64 mb])) := fun w => by rw [HL2.out, ← hpl2]; exact placeOf A2 vs2.length c2 hin2.2.1 (some_of hin2) w
          have AL : ∀ w, Calls Tryz.prog 76 #[vV k1 n1 s1 x1 A1 L1 c1, vV k2 n2 s2 x2 A2 L2 c2] w (GivesQ w (.bool (alikeB (.mk k1 n1 s1 x1 ks1 vs1) (.mk k2 n2 s2 x2 ks2 vs2)))) := fun w => by rw [HL1.out, HL2.out]; exact areAlike k1 n1 s1 x1 ks1 vs1 A1 c1 k2 n2 s2 x2 ks2 vs2 A2 c2 w
          have NE := fun w => ky_neq w y y'
          unfold kyV at NE
          have hkey : G2 (w.heap.size + 5) wr (.agg #[.pointer pa, .int .i64 ma, .pointer pb, .int .i64 mb]) := by
            obtain ⟨p, n, e1, h1⟩ := hp1.gb
            obtain ⟨q, m, e2, h2⟩ := hp2.gb
            rw [hpl1] at e1
            rw [hpl2] at e2
            simp at e1 e2
            obtain ⟨rfl, rfl⟩ := e1
            obtain ⟨rfl, rfl⟩ := e2
            exact ⟨_, _, _, _, rfl, h1, h2⟩
          have hpq : pq (plc A1 vs1.length) (plc A2 vs2.length) = .agg #[.pointer pa, .int .i64 ma, .pointer pb, .int .i64 mb] := by rw [hpl1, hpl2]; rfl
          have hla : (a'.add (j * 8)).block < wr.heap.size := by
            have := World.block_lt_of_cell? _ _ hcell'.c0
            exact this
          have HPQ := Lib.hid hpq
          have HP1 := Lib.hid hp1
          have HP2 := Lib.hid hp2
          have HKEY := Lib.hid hkey
          have HI := Lib.hid hin
          have HI' := Lib.hid hin'
          have HI1 := Lib.hid hin1
          have HI2 := Lib.hid hin2
          have HC1 := Lib.hid hcap1
          have HC2 := Lib.hid hcap2
          have HST := Lib.hid hst
          have HROW := Lib.hid hrow
          have HM1 := Lib.hid hm1
          have HB := Lib.hid hb
          have HLT2 := Lib.hid hlt2
          have HTO := Lib.hid hTo
          rw [← HL1.out] at hcell
          rw [← HL2.out] at hcell'
          have hc2 := hcell'.below (b1 wr (.cells #[.bool y.text, .int .i64 y.num, .string y.str, .int .i64 k1, .int .i64 n1, .string s1, .int .i64 x1, .slice A1 L1 c1] IE))
          obtain ⟨p0, p1, p2, p3, p4, p5, p6, p7⟩ := hcell
          obtain ⟨q0, q1, q2, q3, q4, q5, q6, q7⟩ := hc2
          clear hin hin' hst hrow hm1 hb hlt2 hS hS' hky hky' hvs hvs' ht ht' hyb hyb' hkb hkb' hin1 hin2 hp1 hp2 hcap1 hcap2 hpl1 hpl2 some_of hdrop hwd hkey hpq hTo hcell'
          by_cases hyy : y = y'
          · rw [show decide (y = y') = true from decide_eq_true hyy] at NE
            have HYY := Lib.hid hyy
            clear hyy
            cases hal : alikeB (.mk k1 n1 s1 x1 ks1 vs1) (.mk k2 n2 s2 x2 ks2 vs2) with
            | false =>
              rw [hal] at AL
              have HBAD := Lib.hid (HST.out.bad (fun h => by rw [hal] at h; cases h.2))
              clear hal
              go_wp2_with (fail)
              refine (AL _).mono ?_
              rintro e0 w5 ⟨rfl, hb5⟩
              have HB5 := Lib.hid (bs (bs HB.out (b2 _ _ _)) hb5)
              clear hb5
              go_wp2_with (fail)
              go_ret
              exact ⟨by rw [HBAD.out]; rfl, HB5.out⟩
            | true =>
              rw [hal] at AL
              have HAL := Lib.hid hal
              clear hal
              go_wp2_with (fail)
              refine (AL _).mono ?_
              rintro e0 w5 ⟨rfl, hb5⟩
              have eA := carry hb5 (heap_alloc2_old wr _ _)
              have eB := carry hb5 (heap_alloc2_new wr _ _)
              have HBC := Lib.hid (bs (b2 wr _ _) hb5)
              obtain ⟨NZ, hNZ⟩ : ∃ NZ, NZ = w5.heap.size := ⟨_, rfl⟩
              have HNZ := Lib.hid hNZ
              have HNZB : Hid (wr.heap.size ≤ NZ) := Lib.hid (by rw [hNZ]; exact HBC.out.size)
              have HNAZ : Hid (wr.heap.size < NZ) := Lib.hid (by rw [hNZ]; exact (Array.getElem?_eq_some_iff.1 eA).1)
              have HNBZ : Hid (wr.heap.size + 1 < NZ) := Lib.hid (by rw [hNZ]; exact (Array.getElem?_eq_some_iff.1 eB).1)
              clear hNZ
              obtain ⟨NA, hNA⟩ : ∃ N, N = wr.heap.size := ⟨_, rfl⟩
              rw [← hNA] at eA eB ⊢
              have HNA := Lib.hid hNA
              have HNAZ : Hid (NA < NZ) := Lib.hid (by rw [hNA]; exact HNAZ.out)
              have HNBZ : Hid (NA + 1 < NZ) := Lib.hid (by rw [hNA]; exact HNBZ.out)
              have EA := Lib.hid eA
              have EB := Lib.hid eB
              obtain ⟨rA, -⟩ := rowc eA
              obtain ⟨rB, -⟩ := rowc eB
              clear hb5 eA eB hNA
              go_wp2_with (fail)
              go_cut [12] (fun s12 wx => CutR w wr NA NZ y k1 n1 s1 x1 A1 L1 c1 y' k2 n2 s2 x2 A2 L2 c2 pa ma pb mb s12 wx)
              case first =>
                have HZ : Hid (NZ ≤ w5.heap.size) := Lib.hid (Nat.le_of_eq HNZ.out)
                have lA0 : NA < w5.heap.size := (Array.getElem?_eq_some_iff.1 EA.out).1
                have lB0 : NA + 1 < w5.heap.size := (Array.getElem?_eq_some_iff.1 EB.out).1
                go_region_with (first
                  | (go_at_call_of 77 A1; refine (PO1 _).mono ?_
                     rintro e0 wz ⟨rfl, hbz⟩
                     have HBX : Hid (Below wr.heap.size wr wz) := Lib.hid (by
                       have hs := HBC.out.size
                       first
                         | exact bs HBC.out hbz
                         | exact bs (HBC.out.drew) hbz
                         | exact bs (HBC.out.alloc hs _) hbz
                         | exact bs (HBC.out.drew.alloc hs _) hbz)
                     have EAX : Hid (wz.heap[NA]? = _) := Lib.hid (by first | exact carry hbz EA.out | exact carry hbz (keepAlloc EA.out))
                     have EBX : Hid (wz.heap[NA + 1]? = _) := Lib.hid (by first | exact carry hbz EB.out | exact carry hbz (keepAlloc EB.out))
                     have HZX : Hid (NZ ≤ wz.heap.size) := Lib.hid (Nat.le_trans HZ.out (Nat.le_trans (by simp) hbz.size))
                     try (have EPX := carry hbz EP.out
                          clear EP
                          have EP := Lib.hid EPX
                          clear EPX)
                     try (with_reducible (have EPX := carry hbz (heap_alloc_new _ (.cells #[.pointer none, .int .i64 0, .pointer none, .int .i64 0] 100)))
                          try simp only [heap_drew] at EPX
                          have EP := Lib.hid EPX
                          have HPZ := Lib.hid HZ.out
                          clear EPX)
                     clear HBC EA EB rA rB hbz HZ
                     try clear rP fP
                     have HBC := Lib.hid HBX.out
                     have EA := Lib.hid EAX.out
                     have EB := Lib.hid EBX.out
                     have HZ := Lib.hid HZX.out
                     clear HBX EAX EBX HZX
                     try (have EPY := rowc EP.out
                          obtain ⟨rP, fP⟩ := EPY)
                     have lA : NA < wz.heap.size := (Array.getElem?_eq_some_iff.1 EA.out).1
                     have lB : NA + 1 < wz.heap.size := (Array.getElem?_eq_some_iff.1 EB.out).1
                     obtain ⟨rA, -⟩ := rowc EA.out
                     obtain ⟨rB, -⟩ := rowc EB.out)
                  | (go_at_call_of 77 A2; refine (PO2 _).mono ?_
                     rintro e0 wz ⟨rfl, hbz⟩
                     have HBX : Hid (Below wr.heap.size wr wz) := Lib.hid (by
                       have hs := HBC.out.size
                       first
                         | exact bs HBC.out hbz
                         | exact bs (HBC.out.drew) hbz
                         | exact bs (HBC.out.alloc hs _) hbz
                         | exact bs (HBC.out.drew.alloc hs _) hbz)
                     have EAX : Hid (wz.heap[NA]? = _) := Lib.hid (by first | exact carry hbz EA.out | exact carry hbz (keepAlloc EA.out))
                     have EBX : Hid (wz.heap[NA + 1]? = _) := Lib.hid (by first | exact carry hbz EB.out | exact carry hbz (keepAlloc EB.out))
                     have HZX : Hid (NZ ≤ wz.heap.size) := Lib.hid (Nat.le_trans HZ.out (Nat.le_trans (by simp) hbz.size))
                     try (have EPX := carry hbz EP.out
                          clear EP
                          have EP := Lib.hid EPX
                          clear EPX)
                     try (with_reducible (have EPX := carry hbz (heap_alloc_new _ (.cells #[.pointer none, .int .i64 0, .pointer none, .int .i64 0] 100)))
                          try simp only [heap_drew] at EPX
                          have EP := Lib.hid EPX
                          have HPZ := Lib.hid HZ.out
                          clear EPX)
                     clear HBC EA EB rA rB hbz HZ
                     try clear rP fP
                     have HBC := Lib.hid HBX.out
                     have EA := Lib.hid EAX.out
                     have EB := Lib.hid EBX.out
                     have HZ := Lib.hid HZX.out
                     clear HBX EAX EBX HZX
                     try (have EPY := rowc EP.out
                          obtain ⟨rP, fP⟩ := EPY)
                     have lA : NA < wz.heap.size := (Array.getElem?_eq_some_iff.1 EA.out).1
                     have lB : NA + 1 < wz.heap.size := (Array.getElem?_eq_some_iff.1 EB.out).1
                     obtain ⟨rA, -⟩ := rowc EA.out
                     obtain ⟨rB, -⟩ := rowc EB.out))
                all_goals
                  go_wp2_with (fail)
                  go_meet
                  first
                    | exact ⟨_, rfl, HZ.out, heap_alloc_new _ _, HBC.out.alloc HBC.out.size _, keepAlloc EA.out, keepAlloc EB.out⟩
                    | (have hne : ∀ q, q < NZ → q ≠ _ := fun q hq => Nat.ne_of_lt (Nat.lt_of_lt_of_le hq HPZ.out)
                       refine ⟨_, rfl, HPZ.out, set_heap (set_heap (set_heap (set_heap EP.out 0 _) 1 _) 2 _) 3 _, ?_, ?_, ?_⟩
                       · have hle := Nat.le_trans HNZB.out HPZ.out
                         exact (((HBC.out.setCell hle _).setCell hle _).setCell hle _).setCell hle _
                       · have hq := hne NA HNAZ.out
                         exact (set_other hq).trans ((set_other hq).trans ((set_other hq).trans ((set_other hq).trans EA.out)))
                       · have hq := hne (NA + 1) HNBZ.out
                         exact (set_other hq).trans ((set_other hq).trans ((set_other hq).trans ((set_other hq).trans EB.out))))
              case rest =>
                obtain ⟨NP, rfl, hNZP, hP, hBx, hxA, hxB⟩ := hcut
                have HBX := Lib.hid hBx
                have EP := Lib.hid hP
                have EA' := Lib.hid hxA
                have EB' := Lib.hid hxB
                obtain ⟨rP, -⟩ := rowc hP
                have hm15 : raw.Holds wc (G2 (w.heap.size + 5)) (w.heap.size + 1 + 1) e2 := HM1.out.kept (hBx.block _ HM1.out.lt) (fun x hx => hx.kp (Kp.below hBx))
                have hk5 := HKEY.out.kp (Kp.below hBx)
                have hT8x : wc.heap[NT]? = _ := carry hBx HT8.out
                have HT8X := Lib.hid hT8x
                have hNAx : w.heap.size + 6 ≤ NA := by rw [HNA.out]; exact Nat.le_of_lt (Nat.lt_of_le_of_lt hNTB l8)
                have hNPx : w.heap.size + 6 ≤ NP := by have := HNAZ.out; omega
                clear hP hBx hxA hxB hT8x rA rB EA EB HBC
                cases hek : e2 (.agg #[.pointer pa, .int .i64 ma, .pointer pb, .int .i64 mb]) with
                | none =>
                  obtain ⟨i0, hi, hz⟩ : ∃ i, Tryz.prog.info? PG = some i ∧ (i.zero = some (.agg #[.slice none 0 0, .slice none 0 0]) ∧ i.size = 2 ∧ i.bytes = 48) := by
                    have := pgRow
                    cases hq : Tryz.prog.info? PG with
                    | none => rw [hq] at this; cases this
                    | some i => rw [hq] at this; simp at this; exact ⟨i, rfl, this⟩
                  have HII := Lib.hid hi
                  have HZZ := Lib.hid hz
                  have HEK := Lib.hid hek
                  have hPl : P2.length ≤ 1099511627776 := by have h1 := lefts2_len P2; have h2 := HLT2.out; have h3 := HLE.out; omega
                  obtain ⟨NPn, HNPn⟩ : ∃ NPn, Hid (NPn = P2.length) := ⟨_, Lib.hid rfl⟩
                  rw [← HNPn.out] at hPl
                  clear hek hi hz
                  go_wp2_with (first
                    | (at_lookup; refine raw.wpList_lookup_to _ rfl _ _ 92 false rfl hm15 (good_g2 _) Tryz.underlying92 (zeroBool _) rfl rfl hk5 HEK.out (got1_none _) ?_)
                    | (at_mapUpdate; refine raw.wpList_update _ rfl _ _ _ 92 rfl hm15 (good_g2 _) (g2_stays _) Tryz.underlying92 rfl rfl rfl hk5 ?_
                       intro w7 hm17 hgr7
                       have HM17 := Lib.hid hm17
                       have HGR7 := Lib.hid hgr7
                       obtain ⟨rA7, _⟩ := rowc ((hgr7.block NA (Array.getElem?_eq_some_iff.1 EA'.out).1 (by intro h; injection h; omega)).trans EA'.out)
                       obtain ⟨rB7, _⟩ := rowc ((hgr7.block (NA + 1) (Array.getElem?_eq_some_iff.1 EB'.out).1 (by intro h; injection h; omega)).trans EB'.out)
                       have HR7 := Lib.hid ((HROW.out.below HBX.out).kept4 hgr7 (by omega))
                       have lA7 : NA < w7.heap.size := Nat.lt_of_lt_of_le (Array.getElem?_eq_some_iff.1 EA'.out).1 hgr7.size
                       have lB7 : NA + 1 < w7.heap.size := Nat.lt_of_lt_of_le (Array.getElem?_eq_some_iff.1 EB'.out).1 hgr7.size
                       clear hm17 hgr7)
                    | (at_builtin; refine wpList_append_own_at _ rfl _ _ 95 rfl (w.heap.size + 5) PG i0 _ 2 48 Tryz.underlying95 HII.out HZZ.out.1 HZZ.out.2.1 HZZ.out.2.2 rfl (by decide) _ NPn _ rfl (by rw [HNPn.out]; exact HR7.out.alloc _) ⟨w7.heap.size, 0, none⟩ 1 1 [.slice A1 L1 c1, .slice A2 L2 c2] rfl rfl (two_new _ _ _ _) (by intro u hu; simp at hu; rcases hu with rfl | rfl <;> rfl) (by unfold maxLen; omega) (by omega) (by simp; omega) ?_
                       intro v' w8 hown' hgrow' hnil hloc
                       have HR8 := Lib.hid hown'
                       have HG8 := Lib.hid hgrow'
                       have HLOC := Lib.hid hloc
                       clear hown' hgrow' hnil hloc)
                    | fail)
                  go_roundg (Lr - j)
                  case rel =>
                    have k7 : Kp (w.heap.size + 5) wc w7 := Kp.grown HGR7.out (fun k hk => .inr (fun ⟨cs, t, hc⟩ => by
                      obtain rfl := Option.some.inj hk
                      obtain ⟨es, clock, hb, _⟩ := hm15
                      rw [hb] at hc
                      cases hc))
                    have hr8 := (HROW.out).own
                    have k8 := Kp.grown (B := w.heap.size + 5) HG8.out (fun k hk => .inl (hr8 k hk))
                    have hkp : Kp (w.heap.size + 5) wr w8 := (((Kp.below HBX.out).trans k7).trans (Kp.below (b1 w7 _))).trans k8
                    have hst := HST.out
                    rw [← HYY.out] at hst
                    have hlen : vs1.length = vs2.length := by have := HAL.out; simp [alikeB] at this; exact this.2.2.2
                    have hent := hst.enter (l := ⟨⟨A1, c1, ks1, vs1⟩, ⟨A2, c2, ks2, vs2⟩⟩) HAL.out ⟨⟨HI1.out, HC1.out⟩, ⟨HI2.out, HC2.out⟩, hlen⟩
                    rw [show pq (plc (Pair.mk ⟨A1, c1, ks1, vs1⟩ ⟨A2, c2, ks2, vs2⟩).a.R (Pair.mk ⟨A1, c1, ks1, vs1⟩ ⟨A2, c2, ks2, vs2⟩).a.vs.length) (plc (Pair.mk ⟨A1, c1, ks1, vs1⟩ ⟨A2, c2, ks2, vs2⟩).b.R (Pair.mk ⟨A1, c1, ks1, vs1⟩ ⟨A2, c2, ks2, vs2⟩).b.vs.length) = _ from HPQ.out] at hent
                    have s7 := HGR7.out.size
                    have s8 := HG8.out.size
                    have hlt7 := HM17.out.lt
                    have hlt8 := (Array.getElem?_eq_some_iff.1 HT8X.out).1
                    have sz0 := HB.out.size
                    have szc := HBX.out.size
                    have e8 : w8.heap[w.heap.size + 1 + 1]? = w7.heap[w.heap.size + 1 + 1]? := (HG8.out.block _ (by simp; omega) (by intro h; have := hr8 _ h.symm; omega)).trans (Below.heap_alloc _ _ _ hlt7)
                    have t8 : w8.heap[NT]? = some (.cells #[.slice (some a) Lr rc, .slice (some a') Lr rc'] PG (0, 0)) := (HG8.out.block _ (by simp; omega) (by intro h; exact HTO.out _ h.symm rfl)).trans ((Below.heap_alloc _ _ _ (by omega)).trans ((HGR7.out.block _ hlt8 (by intro h; injection h; omega)).trans HT8X.out))
                    refine ⟨j + 1, ⟨⟨A1, c1, ks1, vs1⟩, ⟨A2, c2, ks2, vs2⟩⟩ :: P2, _, by go_num, by omega, by omega, HI.out.kp hkp, HI'.out.kp hkp, hent.kp hkp, ?_, HM17.out.kept e8 (fun x hx => (hx.kp (Kp.below (b1 w7 _))).kp k8), ?_, ?_, hNTB, t8, ?_⟩
                    · show w8.ownsRow _ _ _ _ _ _
                      have := HR8.out
                      rw [HNPn.out, HL1.out, HL2.out] at this
                      simpa [Pair.cells, Pend.cell] using this
                    · exact ((((bs HB.out HBX.out).grown HGR7.out (by omega) (fun k hk => by obtain rfl := Option.some.inj hk; omega)).alloc (by omega) _).grown HG8.out (by simp; omega) (fun k hk => by have := hr8 k hk; omega))
                    · have := HLT2.out
                      rw [show lefts2 (Pair.mk ⟨A1, c1, ks1, vs1⟩ ⟨A2, c2, ks2, vs2⟩ :: P2) = 1 + wks vs1 + lefts2 P2 from rfl]
                      omega
                    · intro q hq
                      rcases HLOC.out with h | h
                      · exact HTO.out q (h ▸ hq)
                      · rw [h] at hq
                        injection hq with hq
                        simp at hq
                        omega
                  case measure => omega
                | some b =>
                  obtain rfl := (HST.out.ens _ b hek).1
                  have HEK := Lib.hid hek
                  clear hek
                  go_wp2_with (first | (at_lookup; refine raw.wpList_lookup_to _ rfl _ _ 92 false rfl hm15 (good_g2 _) Tryz.underlying92 (zeroBool _) rfl rfl hk5 HEK.out (got1_some _ _) ?_) | fail)
                  go_roundg (Lr - j)
                  case rel =>
                    have hkp := Kp.below (B := w.heap.size + 5) HBX.out
                    have hseen : Seen2 (w.heap.size + 5) wr e2 ((y, .mk k1 n1 s1 x1 ks1 vs1), (y', .mk k2 n2 s2 x2 ks2 vs2)) := ⟨HYY.out, HAL.out, _, _, _, _, _, _, _, _, _, _, _, _, rfl, rfl, _, _, HP1.out, HP2.out, by rw [HPQ.out, HEK.out]; simp⟩
                    exact ⟨j + 1, P2, e2, by go_num, by omega, by omega, HI.out.kp hkp, HI'.out.kp hkp, (HST.out.next hseen).kp hkp, HROW.out.below HBX.out, hm15, bs HB.out HBX.out, by have := HLT2.out; omega, hNTB, HT8X.out, HTO.out⟩
                  case measure => omega
          · rw [show decide (y = y') = false from decide_eq_false hyy] at NE
            have HBAD := Lib.hid (HST.out.bad (fun h => hyy h.1))
            clear hyy
            go_wp2_with (fail)
            go_ret
            exact ⟨by rw [HBAD.out]; rfl, bs HB.out (b2 _ _ _)⟩
        · obtain rfl : j = Lr := by omega
          have hd0 : (zz ks vs ks' vs').drop j = [] := List.drop_eq_nil_of_le (by rw [zz_len hin.1 hin'.1 (HLr.out.symm.trans HLr'.out)]; exact Nat.le_of_eq HLr.out.symm)
          have hd1 : vs.drop j = [] := List.drop_eq_nil_of_le (Nat.le_of_eq HLr.out.symm)
          rw [hd0] at hst
          rw [hd1] at hlt2
          have HST := Lib.hid hst
          have HROW := Lib.hid hrow
          have HM1 := Lib.hid hm1
          have HB := Lib.hid hb
          have HLT2 := Lib.hid hlt2
          clear hin hin' hst hrow hm1 hb hlt2 hd0 hd1 hTo
          go_wp2_with (fail)
          go_roundg (lefts2 P2)
          case rel => exact ⟨P2, e2, rfl, HST.out, HROW.out, HM1.out, HB.out, by have := HLT2.out; have := HLE.out; omega, by omega⟩
          case measure => have := HLT2.out; omega

end Go.Proofs.YteoilhbidnnneaaGreatDoor.tree

