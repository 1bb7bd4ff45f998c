/-
  What the texts behind this one use: 3 parts of one proof.
  Conditions: those that each theorem names.
-/
import Derived.Test.YtlbkbcafkjgckaaDoorCmSNumOf
import Derived.Test.YtlbkbcafkjgckaaDoorCmB2
import Derived.Test.YtlbkbcafkjgckaaDoorCmB4
import Derived.Lib.Bytealg
import Derived.Lib.Small
import Derived.Test.YtlbkbcafkjgckaaDoorCmSHeld
/-
  How two values compare, without the program; and what going through two arrays with a list of places decides.
  Conditions: those that each theorem names.
-/
namespace Go.Proofs.YtlbkbcafkjgckaaDoor.tree
open Go.ChangeShapes Go.WideShapes Go.ChangeAt Go.RowKit
set_option linter.unusedVariables false

def bys (a b : ByteArray) : Int := Lib.compareBytes a.data.toList b.data.toList
/-- How two values compare without going into arrays. -/
def ordO : Tr → Tr → Int
  | .mk k n s x ks vs, .mk k' n' s' x' ks' vs' =>
    if (k = 0 ∧ k' = 3) ∨ (k' = 0 ∧ k = 3) then bys (ers.tt (.mk k n s x ks vs)).1 (ers.tt (.mk k' n' s' x' ks' vs')).1
    else if (k = 0 ∨ k = 1) ∨ (k' = 0 ∨ k' = 1) then Lib.compareInt (tr01 (.mk k n s x ks vs)) (tr01 (.mk k' n' s' x' ks' vs'))
    else if (ers.nn (.mk k n s x ks vs)).2 = true ∧ (ers.nn (.mk k' n' s' x' ks' vs')).2 = true then Lib.compareInt (ers.nn (.mk k n s x ks vs)).1 (ers.nn (.mk k' n' s' x' ks' vs')).1
    else if (k = 2 ∨ k = 3) ∧ (k' = 2 ∨ k' = 3) then bys (ers.tt (.mk k n s x ks vs)).1 (ers.tt (.mk k' n' s' x' ks' vs')).1
    else if k = 4 ∧ k' = 4 then Lib.compareInt vs.length vs'.length
    else if k = 4 then 1
    else if k' = 4 then -1
    else if k = k' ∧ n = n' then 0 else 2
theorem ordO_mk (k n : Int) (s : ByteArray) (x : Int) (ks : List Ky) (vs : List Tr) (k' n' : Int) (s' : ByteArray) (x' : Int) (ks' : List Ky) (vs' : List Tr) : ordO (.mk k n s x ks vs) (.mk k' n' s' x' ks' vs') = (if (k = 0 ∧ k' = 3) ∨ (k' = 0 ∧ k = 3) then bys (ers.tt (.mk k n s x ks vs)).1 (ers.tt (.mk k' n' s' x' ks' vs')).1 else if (k = 0 ∨ k = 1) ∨ (k' = 0 ∨ k' = 1) then Lib.compareInt (tr01 (.mk k n s x ks vs)) (tr01 (.mk k' n' s' x' ks' vs')) else if (ers.nn (.mk k n s x ks vs)).2 = true ∧ (ers.nn (.mk k' n' s' x' ks' vs')).2 = true then Lib.compareInt (ers.nn (.mk k n s x ks vs)).1 (ers.nn (.mk k' n' s' x' ks' vs')).1 else if (k = 2 ∨ k = 3) ∧ (k' = 2 ∨ k' = 3) then bys (ers.tt (.mk k n s x ks vs)).1 (ers.tt (.mk k' n' s' x' ks' vs')).1 else if k = 4 ∧ k' = 4 then Lib.compareInt vs.length vs'.length else if k = 4 then 1 else if k' = 4 then -1 else if k = k' ∧ n = n' then 0 else 2) := rfl
/-- The value of a key's first item. -/
def getL (ks : List Ky) (vs : List Tr) (y : Ky) : Option Tr := if pos ks y 0 = -1 then none else vs[(pos ks y 0).toNat]?
def thn (a b : Int) : Int := if a = 0 then b else a
def isArr : Tr → Bool
  | .mk k _ _ _ _ _ => decide (k = 4)
mutual
/-- How two values compare. -/
def cmpT : Tr → Tr → Int
  | .mk k n s x ks vs, .mk k' n' s' x' ks' vs' => if ordO (.mk k n s x ks vs) (.mk k' n' s' x' ks' vs') = 0 ∧ k = 4 ∧ k' = 4 then cmpL ks vs ks' vs' else ordO (.mk k n s x ks vs) (.mk k' n' s' x' ks' vs')
/-- How the items of an array compare with those of another. -/
def cmpL : List Ky → List Tr → List Ky → List Tr → Int
  | y :: ks, t :: vs, ks', vs' => match getL ks' vs' y with
    | none => 2
    | some u => thn (cmpT t u) (cmpL ks vs ks' vs')
  | _, _, _, _ => 0
end
theorem cmpT_mk (k n : Int) (s : ByteArray) (x : Int) (ks : List Ky) (vs : List Tr) (k' n' : Int) (s' : ByteArray) (x' : Int) (ks' : List Ky) (vs' : List Tr) : cmpT (.mk k n s x ks vs) (.mk k' n' s' x' ks' vs') = if ordO (.mk k n s x ks vs) (.mk k' n' s' x' ks' vs') = 0 ∧ k = 4 ∧ k' = 4 then cmpL ks vs ks' vs' else ordO (.mk k n s x ks vs) (.mk k' n' s' x' ks' vs') := by rw [cmpT]
theorem cmpL_cons (y : Ky) (ks : List Ky) (t : Tr) (vs : List Tr) (ks' : List Ky) (vs' : List Tr) : cmpL (y :: ks) (t :: vs) ks' vs' = match getL ks' vs' y with
    | none => 2
    | some u => thn (cmpT t u) (cmpL ks vs ks' vs') := by rw [cmpL]
theorem cmpL_nil (ks : List Ky) (ks' : List Ky) (vs' : List Tr) : cmpL ks [] ks' vs' = 0 := by
  cases ks <;> rw [cmpL] <;> simp
theorem thn_zero (b : Int) : thn 0 b = b := by unfold thn; rw [if_pos rfl]
theorem thn_not {a : Int} (h : a ≠ 0) (b : Int) : thn a b = a := by unfold thn; rw [if_neg h]

/-! ### two arrays that are being compared -/
structure Mt where
  R : Option Addr
  c : Nat
  ks : List Ky
  vs : List Tr
  A' : Option Addr
  c' : Nat
  ks' : List Ky
  vs' : List Tr
  p : Nat
  b : Nat
  ks0 : List Ky
  vs0 : List Tr
def Mt.cells (F : Mt) : List Value := [.slice F.R F.vs.length F.c, .slice F.A' F.vs'.length F.c', .int .i64 F.p, .map (some F.b)]
/-- What the map of a matching holds: where each of the first keys stands first. -/
def FirstK (l : List Ky) (f : Value → Option Value) : Prop := ∀ y : Ky, f (kyV y) = if pos l y 0 = -1 then none else some (.int .i64 (pos l y 0))
structure MtOk (B : Nat) (w : World) (F : Mt) : Prop where
  isin : IsIn w (Lo B w) F.ks F.vs F.R
  cap : F.vs.length ≤ F.c ∧ F.c ≤ maxLen
  isin' : IsIn w (Lo B w) F.ks' F.vs' F.A'
  cap' : F.vs'.length ≤ F.c' ∧ F.c' ≤ maxLen
  le : cnts F.vs ≤ cnts F.vs0
  hp : F.p ≤ F.vs'.length
  map : ∃ f, raw.Holds w GK F.b f ∧ FirstK (F.ks'.take F.p) f
def Mt.whole (F : Mt) : Int := cmpL F.ks0 F.vs0 F.ks' F.vs'
def CChain (R : Int) : Int → List Mt → Prop
  | v, [] => v = R
  | v, F :: l => F.whole = thn v (cmpL F.ks F.vs F.ks' F.vs') ∧ CChain R F.whole l
def Nest : List Mt → Prop
  | [] => True
  | F :: l => (∀ G ∈ l, cnts F.vs0 < cnts G.vs0 ∧ G.b < F.b) ∧ Nest l
/-- What is known at the head of the loop. -/
structure CSt (R : Int) (B : Nat) (w : World) (v : Int) (G : List Mt) (e : Value → Option Value) : Prop where
  ok : ∀ F ∈ G, MtOk B w F
  chain : CChain R v G
  nest : Nest G
  ens : ∀ q b, e q = some b → b = .bool true ∧ ∃ p1 p2 ks vs ks' vs', q = pq p1 p2 ∧ PlB B w p1 ks vs ∧ PlB B w p2 ks' vs' ∧ ((∃ F ∈ G, F.ks0 = ks ∧ F.vs0 = vs ∧ F.ks' = ks' ∧ F.vs' = vs') ∨ cmpL ks vs ks' vs' = 0)
def left9 : List Mt → Nat
  | [] => 0
  | F :: l => 1 + wks F.vs + left9 l
theorem left9_len : ∀ G : List Mt, G.length ≤ left9 G
  | [] => Nat.le_refl _
  | F :: l => by have := left9_len l; rw [left9, List.length_cons]; omega

theorem CChain.stop {R : Int} : ∀ {v : Int} {G : List Mt}, v ≠ 0 → CChain R v G → v = R
  | v, [], _, h => h
  | v, F :: l, hv, h => by
    obtain ⟨h1, h2⟩ := h
    rw [thn_not hv] at h1
    rw [← h1] at hv ⊢
    exact CChain.stop hv h2

section
variable {R : Int} {B : Nat} {w w' : World} {v : Int} {G : List Mt} {e : Value → Option Value}
theorem hk_map {F : Nat} {f : Value → Option Value} (h : raw.Holds w GK F f) (hb : w'.heap[F]? = w.heap[F]?) : raw.Holds w' GK F f := h.kept hb (fun _ hx => hx)
theorem MtOk.kp (hk : Kp B w w') {F : Mt} (h : MtOk B w F) (hb : w'.heap[F.b]? = w.heap[F.b]?) : MtOk B w' F where
  isin := h.isin.kp hk
  cap := h.cap
  isin' := h.isin'.kp hk
  cap' := h.cap'
  le := h.le
  hp := h.hp
  map := by
    obtain ⟨f, h1, h2⟩ := h.map
    exact ⟨f, hk_map h1 hb, h2⟩
theorem CSt.kp (hk : Kp B w w') (h : CSt R B w v G e) (hb : ∀ F ∈ G, w'.heap[F.b]? = w.heap[F.b]?) : CSt R B w' v G e where
  ok := fun F hF => (h.ok F hF).kp hk (hb F hF)
  chain := h.chain
  nest := h.nest
  ens := fun q b hq => by
    obtain ⟨h0, p1, p2, ks, vs, ks', vs', e1, h1, h2, h3⟩ := h.ens q b hq
    exact ⟨h0, p1, p2, ks, vs, ks', vs', e1, h1.kp hk, h2.kp hk, h3⟩
theorem MtOk.lt {F : Mt} (h : MtOk B w F) : F.b < w.heap.size := by
  obtain ⟨f, h1, -⟩ := h.map
  exact h1.lt

/-- A matching that is done. -/
theorem CSt.pop {F : Mt} (h : CSt R B w 0 (F :: G) e) (hv : F.vs = []) : CSt R B w 0 G e := by
  have h0 : F.whole = 0 := by rw [h.chain.1, hv, cmpL_nil, thn_zero]
  refine ⟨fun X hX => h.ok X (List.mem_cons_of_mem _ hX), by have := h.chain.2; rwa [h0] at this, h.nest.2, fun q b hq => ?_⟩
  obtain ⟨hb, p1, p2, ks, vs, ks', vs', e1, h1, h2, h3⟩ := h.ens q b hq
  refine ⟨hb, p1, p2, ks, vs, ks', vs', e1, h1, h2, ?_⟩
  rcases h3 with ⟨X, hX, g1, g2, g3, g4⟩ | h3
  · rcases List.mem_cons.1 hX with rfl | hX
    · subst g1 g2 g3 g4
      exact .inr h0
    · exact .inl ⟨X, hX, g1, g2, g3, g4⟩
  · exact .inr h3
theorem CSt.fine (h : CSt R B w 0 [] e) : R = 0 := h.chain.symm

/-- An item is taken: what the comparison gives it. -/
theorem CSt.take {F : Mt} {y : Ky} {kt : List Ky} {t : Tr} {ts : List Tr} (h : CSt R B w 0 (F :: G) e) (hkp : Kp B w w') (hbs : ∀ X ∈ G, w'.heap[X.b]? = w.heap[X.b]?) (hk0 : F.ks = y :: kt) (hv : F.vs = t :: ts) {R1 : Option Addr} {c1 p1 : Nat}
    (hR : IsIn w' (Lo B w') kt ts R1) (hc : ts.length ≤ c1 ∧ c1 ≤ maxLen) (hp : p1 ≤ F.vs'.length) (hm : ∃ f, raw.Holds w' GK F.b f ∧ FirstK (F.ks'.take p1) f) :
    (getL F.ks' F.vs' y = none → R = 2) ∧ ∀ u, getL F.ks' F.vs' y = some u → CSt R B w' (cmpT t u) (⟨R1, c1, kt, ts, F.A', F.c', F.ks', F.vs', p1, F.b, F.ks0, F.vs0⟩ :: G) e := by
  obtain ⟨hc1, hc2⟩ := h.chain
  rw [thn_zero, hk0, hv, cmpL_cons] at hc1
  constructor
  · intro hn
    rw [hn] at hc1
    exact (CChain.stop (v := F.whole) (by rw [hc1]; show (2 : Int) ≠ 0; decide) hc2).symm.trans hc1
  · intro u hu
    rw [hu] at hc1
    have hF := h.ok F List.mem_cons_self
    refine ⟨fun X hX => ?_, ⟨hc1, hc2⟩, h.nest, fun q b hq => ?_⟩
    · rcases List.mem_cons.1 hX with rfl | hX
      · refine ⟨hR, hc, hF.isin'.kp hkp, hF.cap', ?_, hp, hm⟩
        have := hF.le
        rw [hv, cnts_cons] at this
        show cnts ts ≤ cnts F.vs0
        omega
      · exact (h.ok X (List.mem_cons_of_mem _ hX)).kp hkp (hbs X hX)
    · obtain ⟨hb, q1, q2, ks, vs, ks', vs', e1, h1, h2, h3⟩ := h.ens q b hq
      refine ⟨hb, q1, q2, ks, vs, ks', vs', e1, h1.kp hkp, h2.kp hkp, h3.imp (fun ⟨X, hX, g⟩ => ?_) id⟩
      rcases List.mem_cons.1 hX with rfl | hX
      · exact ⟨_, List.mem_cons_self, g⟩
      · exact ⟨X, List.mem_cons_of_mem _ hX, g⟩
theorem CSt.stop (h : CSt R B w v G e) (hv : v ≠ 0) : R = v := (CChain.stop hv h.chain).symm

/-- Two lists that are known to have been entered are equal: none lies in itself. -/
theorem CSt.known {F : Mt} (h : CSt R B w v (F :: G) e) {ks1 vs1 : _} {ks2 vs2 : _} {p1 p2 : Value} (hp1 : PlB B w p1 ks1 vs1) (hp2 : PlB B w p2 ks2 vs2) (hlt : cnts vs1 < cnts F.vs0) {b : Value} (he : e (pq p1 p2) = some b) : b = .bool true ∧ cmpL ks1 vs1 ks2 vs2 = 0 := by
  obtain ⟨hb, q1, q2, ks, vs, ks', vs', e1, h1, h2, h3⟩ := h.ens _ b he
  have hpq : p1 = q1 ∧ p2 = q2 := by
    obtain ⟨A1, _, rfl⟩ := hp1
    obtain ⟨A2, _, rfl⟩ := hp2
    obtain ⟨A3, _, rfl⟩ := h1
    obtain ⟨A4, _, rfl⟩ := h2
    exact pq_inj e1
  obtain ⟨rfl, rfl⟩ := hpq
  obtain ⟨rfl, rfl⟩ := h1.is.unique hp1.is
  obtain ⟨rfl, rfl⟩ := h2.is.unique hp2.is
  refine ⟨hb, ?_⟩
  rcases h3 with ⟨X, hX, g1, g2, g3, g4⟩ | h3
  · rcases List.mem_cons.1 hX with rfl | hX
    · rw [g2] at hlt; omega
    · have := (h.nest.1 X hX).1
      rw [g2] at this
      omega
  · exact h3

/-- Two arrays are entered. -/
theorem CSt.push {F : Mt} {ks1 ks2 : List Ky} {vs1 vs2 : List Tr} {A1 A2 : Option Addr} {c1 c2 b : Nat} (h : CSt R B w (cmpL ks1 vs1 ks2 vs2) (F :: G) e) (hin1 : IsIn w (Lo B w) ks1 vs1 A1) (hc1 : vs1.length ≤ c1 ∧ c1 ≤ maxLen)
    (hin2 : IsIn w (Lo B w) ks2 vs2 A2) (hc2 : vs2.length ≤ c2 ∧ c2 ≤ maxLen) (hlt : cnts vs1 < cnts F.vs0) (hb : ∀ X ∈ F :: G, X.b < b) (hm : raw.Holds w GK b (fun _ => none)) :
    CSt R B w 0 (⟨A1, c1, ks1, vs1, A2, c2, ks2, vs2, 0, b, ks1, vs1⟩ :: F :: G) (raw.put e (pq (plc A1 vs1.length) (plc A2 vs2.length)) (.bool true)) := by
  refine ⟨fun X hX => ?_, ⟨by rw [thn_zero]; rfl, h.chain⟩, ⟨fun X hX => ⟨?_, hb X hX⟩, h.nest⟩, fun q z hq => ?_⟩
  · rcases List.mem_cons.1 hX with rfl | hX
    · exact ⟨hin1, hc1, hin2, hc2, Nat.le_refl _, Nat.zero_le _, _, hm, fun y => by simp [pos]⟩
    · exact h.ok X hX
  · rcases List.mem_cons.1 hX with rfl | hX
    · exact hlt
    · have := (h.nest.1 X hX).1
      show cnts vs1 < _
      omega
  · by_cases e1 : q = pq (plc A1 vs1.length) (plc A2 vs2.length)
    · subst e1
      rw [raw.put_same] at hq
      exact ⟨(Option.some.inj hq).symm, _, _, ks1, vs1, ks2, vs2, rfl, ⟨A1, hin1, rfl⟩, ⟨A2, hin2, rfl⟩, .inl ⟨_, List.mem_cons_self, rfl, rfl, rfl, rfl⟩⟩
    · rw [raw.put_other e1] at hq
      obtain ⟨hb, q1, q2, ks, vs, ks', vs', e1, h1, h2, h3⟩ := h.ens q z hq
      exact ⟨hb, q1, q2, ks, vs, ks', vs', e1, h1, h2, h3.imp (fun ⟨X, hX, g⟩ => ⟨X, List.mem_cons_of_mem _ hX, g⟩) id⟩
end

/-! ### where a key stands first, from item to item -/
theorem pos_app : ∀ (l : List Ky) (y z : Ky) (i : Nat), pos (l ++ [z]) y i = if pos l y i = -1 then (if z = y then ((i + l.length : Nat) : Int) else -1) else pos l y i
  | [], y, z, i => by
    simp [pos]
  | x :: l, y, z, i => by
    have ih := pos_app l y z (i + 1)
    rw [List.cons_append, pos, pos]
    by_cases hx : x = y
    · rw [if_pos hx, if_pos hx, if_neg (by omega)]
    · rw [if_neg hx, if_neg hx, ih]
      simp only [List.length_cons]
      have : i + 1 + l.length = i + (l.length + 1) := by omega
      rw [this]
theorem FirstK.push {l : List Ky} {f : Value → Option Value} (h : FirstK l f) {y : Ky} (hy : pos l y 0 = -1) : FirstK (l ++ [y]) (raw.put f (kyV y) (.int .i64 l.length)) := fun z => by
  rw [pos_app]
  by_cases hz : z = y
  · subst hz
    rw [raw.put_same, hy]
    simp
  · rw [raw.put_other (fun e => hz (ky_inj e)), h z]
    have : ¬ y = z := fun e => hz e.symm
    rw [if_neg this]
    split <;> simp_all
theorem FirstK.skip {l : List Ky} {f : Value → Option Value} (h : FirstK l f) {y : Ky} (hy : pos l y 0 ≠ -1) : FirstK (l ++ [y]) f := fun z => by
  rw [pos_app, h z]
  by_cases hz : y = z
  · subst hz
    simp [hy]
  · simp only [if_neg hz]
    by_cases h1 : pos l z 0 = -1 <;> simp [h1]
theorem pos_take : ∀ (l : List Ky) (y : Ky) (n i : Nat), pos (l.take n) y i ≠ -1 → pos l y i = pos (l.take n) y i
  | [], y, n, i, h => by simp [pos]
  | x :: l, y, 0, i, h => by simp [pos] at h
  | x :: l, y, n + 1, i, h => by
    rw [List.take_succ_cons, pos] at h
    rw [List.take_succ_cons, pos, pos]
    by_cases hx : x = y
    · rw [if_pos hx, if_pos hx]
    · rw [if_neg hx] at h
      rw [if_neg hx, if_neg hx]
      exact pos_take l y n (i + 1) h

end Go.Proofs.YtlbkbcafkjgckaaDoor.tree

/-
  Sorting by putting in, without the program: nothing is lost, and integers come out in order.
  Conditions: those that each theorem names.
-/
namespace Go.Proofs.YtlbkbcafkjgckaaDoor.tree
open Go.ChangeShapes Go.WideShapes Go.ChangeAt Go.RowKit
set_option linter.unusedVariables false

/-- Where a value is put: behind the last that is not greater. -/
def insP (s : List Tr) (v : Tr) : Nat → Nat
  | 0 => 0
  | i + 1 => match s[i]? with
    | some u => if cmpT u v = 1 then insP s v i else i + 1
    | none => i + 1
theorem insP_le (s : List Tr) (v : Tr) : ∀ n, insP s v n ≤ n
  | 0 => Nat.le_refl _
  | i + 1 => by
    have := insP_le s v i
    rw [insP]
    split
    · split <;> omega
    · omega
theorem insP_step {s : List Tr} {v u : Tr} {i : Nat} (h : s[i]? = some u) (hc : cmpT u v = 1) : insP s v (i + 1) = insP s v i := by rw [insP, h]; simp [hc]
theorem insP_stop {s : List Tr} {v u : Tr} {i : Nat} (h : s[i]? = some u) (hc : cmpT u v ≠ 1) : insP s v (i + 1) = i + 1 := by rw [insP, h]; simp [hc]
def ins (s : List Tr) (v : Tr) : List Tr := s.take (insP s v s.length) ++ v :: s.drop (insP s v s.length)
def isort (l : List Tr) : List Tr := l.foldl ins []
theorem ins_len (s : List Tr) (v : Tr) : (ins s v).length = s.length + 1 := by
  have := insP_le s v s.length
  simp [ins]
  omega
theorem ins_perm (s : List Tr) (v : Tr) : (ins s v).Perm (v :: s) := by
  have h := List.perm_middle (a := v) (l₁ := s.take (insP s v s.length)) (l₂ := s.drop (insP s v s.length))
  rw [List.take_append_drop] at h
  exact h
theorem foldl_perm : ∀ (l s : List Tr), (l.foldl ins s).Perm (l ++ s)
  | [], s => List.Perm.refl _
  | v :: l, s => by
    rw [List.foldl_cons]
    have h1 := foldl_perm l (ins s v)
    have h2 := List.Perm.append_left l (ins_perm s v)
    have h3 : (l ++ v :: s).Perm (v :: l ++ s) := List.perm_middle
    exact (h1.trans h2).trans h3
theorem isort_perm (l : List Tr) : (isort l).Perm l := by
  have := foldl_perm l []
  rwa [List.append_nil] at this
theorem isort_len (l : List Tr) : (isort l).length = l.length := (isort_perm l).length_eq
theorem isort_take (l : List Tr) {j : Nat} {v : Tr} (h : l[j]? = some v) : isort (l.take (j + 1)) = ins (isort (l.take j)) v := by
  unfold isort
  rw [List.take_add_one, h, List.foldl_append]
  rfl

/-- No value is greater than the next one. -/
def ordB : List Tr → Bool
  | t :: u :: l => !decide (cmpT t u = 1) && ordB (u :: l)
  | _ => true
def isIn (t : Tr) : Prop := ∃ n s x ks vs, t = .mk 2 n s x ks vs
theorem cmp_ints {t u : Tr} (ht : isIn t) (hu : isIn u) : cmpT t u = 1 → cmpT u t ≠ 1 := by
  obtain ⟨n, s, x, ks, vs, rfl⟩ := ht
  obtain ⟨m, s', x', ks', vs', rfl⟩ := hu
  have e : ∀ n s x ks vs m s' x' ks' vs', cmpT (.mk 2 n s x ks vs) (.mk 2 m s' x' ks' vs') = Lib.compareInt n m := fun n s x ks vs m s' x' ks' vs' => by
    rw [cmpT_mk, if_neg (by simp)]
    rw [ordO_mk]
    rw [if_neg (by omega), if_neg (by omega), if_pos (by rw [ers.nn_mk, ers.nn_mk]; simp), ers.nn_mk, ers.nn_mk]
    simp [ti_mk]
  rw [e, e]
  unfold Lib.compareInt
  intro h
  split at h
  · cases h
  · split at h
    · rw [if_pos (by omega)]; decide
    · cases h
theorem ordB_iff : ∀ {l : List Tr}, ordB l = true ↔ ∀ i t u, l[i]? = some t → l[i + 1]? = some u → cmpT t u ≠ 1
  | [] => by simp [ordB]
  | [t] => by simp [ordB]
  | t :: u :: l => by
    rw [ordB, Bool.and_eq_true, ordB_iff (l := u :: l)]
    constructor
    · rintro ⟨h1, h2⟩ i a b ha hb
      match i, ha, hb with
      | 0, ha, hb =>
        simp at ha hb
        subst ha hb
        simpa using h1
      | i + 1, ha, hb => exact h2 i a b (by simpa using ha) (by simpa using hb)
    · intro h
      exact ⟨by simpa using h 0 t u rfl rfl, fun i a b ha hb => h (i + 1) a b (by simpa using ha) (by simpa using hb)⟩
theorem insP_left (s : List Tr) (v : Tr) : ∀ n, n ≤ s.length → ∀ u, 0 < insP s v n → s[insP s v n - 1]? = some u → cmpT u v ≠ 1
  | 0, _, u, h, _ => absurd h (by simp [insP])
  | i + 1, hn, u, h, hu => by
    obtain ⟨a, ha⟩ : ∃ a, s[i]? = some a := ⟨_, List.getElem?_eq_getElem (by omega)⟩
    by_cases hc : cmpT a v = 1
    · rw [insP_step ha hc] at h hu
      exact insP_left s v i (by omega) u h hu
    · rw [insP_stop ha hc] at hu
      rw [Nat.add_sub_cancel, ha] at hu
      obtain rfl := Option.some.inj hu
      exact hc
theorem insP_right (s : List Tr) (v : Tr) : ∀ n, n ≤ s.length → ∀ i u, insP s v n ≤ i → i < n → s[i]? = some u → cmpT u v = 1
  | 0, _, i, u, _, h, _ => absurd h (by omega)
  | n + 1, hn, i, u, h, hi, hu => by
    obtain ⟨a, ha⟩ : ∃ a, s[n]? = some a := ⟨_, List.getElem?_eq_getElem (by omega)⟩
    by_cases hc : cmpT a v = 1
    · rw [insP_step ha hc] at h
      by_cases e : i = n
      · subst e
        rw [ha] at hu
        obtain rfl := Option.some.inj hu
        exact hc
      · exact insP_right s v n (by omega) i u h (by omega) hu
    · rw [insP_stop ha hc] at h
      omega
theorem ins_ord {s : List Tr} {v : Tr} (hs : ∀ t ∈ s, isIn t) (hv : isIn v) (ho : ordB s = true) : ordB (ins s v) = true := by
  have hp := insP_le s v s.length
  have hL := insP_left s v s.length (Nat.le_refl _)
  have hR := insP_right s v s.length (Nat.le_refl _)
  unfold ins
  generalize insP s v s.length = p at *
  rw [ordB_iff] at ho ⊢
  have hlen : (s.take p).length = p := by rw [List.length_take]; omega
  intro i t u ht hu
  by_cases h1 : i + 1 < p
  · rw [List.getElem?_append_left (by omega), List.getElem?_take_of_lt (by omega)] at ht hu
    exact ho i t u ht hu
  · by_cases h2 : i + 1 = p
    · rw [List.getElem?_append_left (by omega), List.getElem?_take_of_lt (by omega)] at ht
      rw [List.getElem?_append_right (by omega), hlen, h2, Nat.sub_self] at hu
      simp at hu
      subst hu
      exact hL t (by omega) (by rw [← h2, Nat.add_sub_cancel]; exact ht)
    · by_cases h3 : i = p
      · subst h3
        rw [List.getElem?_append_right (by omega), hlen, Nat.sub_self] at ht
        rw [List.getElem?_append_right (by omega), hlen, Nat.add_sub_cancel_left] at hu
        simp at ht hu
        subst ht
        have hi := (List.getElem?_eq_some_iff.1 hu).1
        exact cmp_ints (hs u (List.mem_of_getElem? hu)) hv (hR i u (Nat.le_refl _) hi hu)
      · obtain ⟨j, rfl⟩ : ∃ j, i = p + 1 + j := ⟨i - (p + 1), by omega⟩
        rw [List.getElem?_append_right (by omega), hlen, show p + 1 + j - p = j + 1 by omega, List.getElem?_cons_succ, List.getElem?_drop] at ht
        rw [List.getElem?_append_right (by omega), hlen, show p + 1 + j + 1 - p = j + 1 + 1 by omega, List.getElem?_cons_succ, List.getElem?_drop] at hu
        exact ho (p + j) t u ht (by rw [← hu]; congr 1)
theorem foldl_ord : ∀ (l s : List Tr), (∀ t ∈ l, isIn t) → (∀ t ∈ s, isIn t) → ordB s = true → ordB (l.foldl ins s) = true
  | [], s, _, _, h => h
  | v :: l, s, hl, hs, h => by
    rw [List.foldl_cons]
    refine foldl_ord l _ (fun t ht => hl t (List.mem_cons_of_mem _ ht)) (fun t ht => ?_) (ins_ord hs (hl v List.mem_cons_self) h)
    rcases List.mem_cons.1 ((ins_perm s v).mem_iff.1 ht) with rfl | ht
    · exact hl _ List.mem_cons_self
    · exact hs t ht
theorem isort_ord {l : List Tr} (h : ∀ t ∈ l, isIn t) : ordB (isort l) = true := foldl_ord l [] h (fun t ht => by cases ht) rfl

end Go.Proofs.YtlbkbcafkjgckaaDoor.tree

/-
  The model's look at a key.
  Conditions: none.
-/
namespace Go.Proofs.YtlbkbcafkjgckaaDoor.tree
open Go.ChangeShapes Go.WideShapes Go.ChangeAt Go.RowKit
set_option linter.unusedVariables false

set_option maxHeartbeats 800000 in
theorem l6Get_s (t : Tr) (v : Value) (y : Ky) (w : World) (S : Nat → Prop) (h : TIn w S t v) : Calls Tryd.prog 132 #[v, kyV y] w (OutT w (getR t y) (getB t y) S) := by
  obtain ⟨k, n, s, x, ks, vs⟩ := t
  obtain ⟨A, c, rfl, -, hin⟩ := h.out
  have FI := fun w h => findV_s (.mk k n s x ks vs) (vV k n s x A vs.length c) y w S h
  obtain ⟨L, HL⟩ : ∃ L, Hid (L = vs.length) := ⟨_, Lib.hid rfl⟩
  have hm : L ≤ maxLen := by rw [HL.out]; exact hin.2.1
  unfold maxLen at hm
  have hkl : Hid (ks.length = L) := Lib.hid (by rw [HL.out]; exact hin.1)
  rw [← HL.out] at h FI ⊢
  have HT := Lib.hid h
  have HI := Lib.hid hin
  clear h hin
  rcases posV_cases k n s x ks vs y with hp | ⟨i, hp, hi, rfl⟩
  · have e1 : getR (.mk k n s x ks vs) y = nullT := by unfold getR; rw [getT_none hp]; rfl
    have e2 : getB (.mk k n s x ks vs) y = false := by unfold getB; rw [getT_none hp]; rfl
    rw [e1, e2]
    rw [hp] at FI
    have HF := Lib.hid FI
    clear FI hp e1 e2
    obtain ⟨yb, yn, ys⟩ := y
    unfold kyV at HF ⊢
    go_enter Tryd.func132, Tryd.ntmps132
    go_wp2_with (fail)
    obtain ⟨a0, a1, a2, az, ab⟩ := al3 w #[.int .i64 k, .int .i64 n, .string s, .int .i64 x, .slice A L c] #[.bool yb, .int .i64 yn, .string ys] #[.int .i64 0, .int .i64 0, .string ⟨#[]⟩, .int .i64 0, .slice none 0 0] IV IK IV
    refine (HF.out _ (HT.out.below' ab)).mono ?_
    rintro e w1 ⟨rfl, hb1⟩
    have A2 := Lib.hid (carry hb1 a2)
    have HB1 := Lib.hid (bs ab hb1)
    obtain ⟨r, f⟩ := rowc A2.out
    clear a0 a1 a2 az ab hb1
    go_wp2_with (fail)
    generalize hwF : (((((w1.setCell ⟨w.heap.size + 1 + 1, 0, none⟩ (.int .i64 0)).setCell ⟨w.heap.size + 1 + 1, 1, none⟩ (.int .i64 0)).setCell ⟨w.heap.size + 1 + 1, 2, none⟩ (.string ⟨#[]⟩)).setCell ⟨w.heap.size + 1 + 1, 3, none⟩ (.int .i64 0)).setCell ⟨w.heap.size + 1 + 1, 4, none⟩ (.slice none 0 0)) = wF
    obtain ⟨rF, -, bF⟩ := fill5 A2.out hwF
    refine bodyPost_ret (v := .tuple #[vV 0 0 ⟨#[]⟩ 0 none 0 0, .bool false]) ?_ rfl ?_
    · simp [results, Tryd.results132, go_sem, rF]
    · exact ⟨_, rfl, flat ⟨by unfold I64; omega, by unfold I64; omega, by unfold I64; omega, Nat.zero_le _⟩ _ _ none 0 (Nat.zero_le _), bF _ _ (by omega) HB1.out⟩
  · obtain ⟨t', ht'⟩ : ∃ t', vs[i]? = some t' := ⟨_, List.getElem?_eq_getElem (by rw [← HL.out, ← hkl.out]; exact hi)⟩
    have e1 : getR (.mk 4 n s x ks vs) y = t' := by unfold getR; rw [getT_some hp, ht']; rfl
    have e2 : getB (.mk 4 n s x ks vs) y = true := by unfold getB; rw [getT_some hp, ht']; rfl
    rw [e1, e2]
    rw [hp] at FI
    have hiL : i < L := by rw [← hkl.out]; exact hi
    obtain ⟨a, y1, k1, n1, s1, x1, ks1, vs1, A1, c1, rfl, hS, hky, hvs, htin, hyb, hkb, hin1, hcell⟩ := HI.out.item (i := i) (by rw [← HL.out]; exact hiL)
    rw [ht'] at hvs
    obtain rfl := Option.some.inj hvs
    obtain ⟨L1, HL1⟩ : ∃ L1, Hid (L1 = vs1.length) := ⟨_, Lib.hid rfl⟩
    rw [← HL1.out] at hcell
    have HF := Lib.hid FI
    have HC := Lib.hid hcell
    have HV := Lib.hid htin
    clear FI hp e1 e2 hcell htin hky hyb hkb hin1 hS ht'
    obtain ⟨yb, yn, ys⟩ := y
    unfold kyV at HF ⊢
    go_enter Tryd.func132, Tryd.ntmps132
    go_wp2_with (fail)
    obtain ⟨a0, a1, a2, az, ab⟩ := al3 w #[.int .i64 4, .int .i64 n, .string s, .int .i64 x, .slice (some a) L c] #[.bool yb, .int .i64 yn, .string ys] #[.int .i64 0, .int .i64 0, .string ⟨#[]⟩, .int .i64 0, .slice none 0 0] IV IK IV
    refine (HF.out _ (HT.out.below' ab)).mono ?_
    rintro e w1 ⟨rfl, hb1⟩
    have A0 := Lib.hid (carry hb1 a0)
    have A2 := Lib.hid (carry hb1 a2)
    have HB1 := Lib.hid (bs ab hb1)
    obtain ⟨p0, p1, p2, p3, p4, p5, p6, p7⟩ := HC.out.below HB1.out
    have q4 := (rowc A0.out).1 4
    obtain ⟨r, f⟩ := rowc A2.out
    clear a0 a1 a2 az ab hb1
    go_wp2_with (fail)
    generalize hwF : (((((w1.setCell ⟨w.heap.size + 1 + 1, 0, none⟩ (.int .i64 k1)).setCell ⟨w.heap.size + 1 + 1, 1, none⟩ (.int .i64 n1)).setCell ⟨w.heap.size + 1 + 1, 2, none⟩ (.string s1)).setCell ⟨w.heap.size + 1 + 1, 3, none⟩ (.int .i64 x1)).setCell ⟨w.heap.size + 1 + 1, 4, none⟩ (.slice A1 L1 c1)) = wF
    obtain ⟨rF, oF, bF⟩ := fill5 A2.out hwF
    refine bodyPost_ret (v := .tuple #[vV k1 n1 s1 x1 A1 L1 c1, .bool true]) ?_ rfl ?_
    · simp [results, Tryd.results132, go_sem, rF]
    · have hb := bF w.heap.size w (by omega) HB1.out
      exact ⟨_, by rw [HL1.out], HV.out.below' hb, hb⟩

end Go.Proofs.YtlbkbcafkjgckaaDoor.tree

