/-
  What the texts behind this one use: 9 parts of one proof.
  Conditions: those that each theorem names.
-/
import Derived.Test.YtdglmnmalfpipaaGreatDoorVB7
import Derived.Test.YtdglmnmalfpipaaGreatDoorVB13
import Derived.Test.YtdglmnmalfpipaaGreatDoorVB4
import Derived.Test.YtdglmnmalfpipaaGreatDoorVB8
import Derived.Test.YtdglmnmalfpipaaGreatDoorVSNumOf
import Derived.Test.YtdglmnmalfpipaaGreatDoorVB11
import Derived.Lib.Bytealg
import Derived.Lib.Small
import Derived.Test.YtdglmnmalfpipaaGreatDoorVB3
import Derived.Test.YtdglmnmalfpipaaGreatDoorVSGetK
import Derived.Test.YtdglmnmalfpipaaGreatDoorVSEnvTx
import Derived.Test.YtdglmnmalfpipaaGreatDoorVSEnvKey
/-
  The union of two arrays, without the program.
  Conditions: those that each theorem names.
-/
namespace Go.Proofs.YtdglmnmalfpipaaGreatDoor.tree
open Go.ChangeShapes Go.WideShapes Go.ChangeAt Go.RowKit
set_option linter.unusedVariables false

/-- The keys of the right list that the left one does not have. -/
def uk (K : List Ky) : List Ky → List Tr → List Ky
  | y :: ks, t :: vs => if y ∈ K then uk K ks vs else y :: uk K ks vs
  | _, _ => []
/-- Their values. -/
def uv (K : List Ky) : List Ky → List Tr → List Tr
  | y :: ks, t :: vs => if y ∈ K then uv K ks vs else t :: uv K ks vs
  | _, _ => []
theorem uk_nil (K ks : List Ky) : uk K ks [] = [] := by cases ks <;> rfl
theorem uv_nil (K ks : List Ky) : uv K ks [] = [] := by cases ks <;> rfl
theorem uk_len (K : List Ky) : ∀ (ks : List Ky) (vs : List Tr), (uk K ks vs).length = (uv K ks vs).length
  | [], vs => by cases vs <;> rfl
  | _ :: _, [] => rfl
  | y :: ks, t :: vs => by
    have := uk_len K ks vs
    rw [uk, uv]
    split
    · exact this
    · simp [this]
theorem u_drop {K ks : List Ky} {vs : List Tr} {j : Nat} {y : Ky} {t : Tr} (hk : ks[j]? = some y) (hv : vs[j]? = some t) :
    (uk K (ks.drop j) (vs.drop j) = if y ∈ K then uk K (ks.drop (j + 1)) (vs.drop (j + 1)) else y :: uk K (ks.drop (j + 1)) (vs.drop (j + 1))) ∧
    uv K (ks.drop j) (vs.drop j) = if y ∈ K then uv K (ks.drop (j + 1)) (vs.drop (j + 1)) else t :: uv K (ks.drop (j + 1)) (vs.drop (j + 1)) := by
  obtain ⟨hj, rfl⟩ := List.getElem?_eq_some_iff.1 hk
  obtain ⟨hj', rfl⟩ := List.getElem?_eq_some_iff.1 hv
  rw [List.drop_eq_getElem_cons hj, List.drop_eq_getElem_cons hj', uk, uv]
  exact ⟨rfl, rfl⟩
theorem uv_cnts (K : List Ky) : ∀ (ks : List Ky) (vs : List Tr), cnts (uv K ks vs) ≤ cnts vs
  | [], vs => by cases vs <;> simp [uv, cnts]
  | _ :: _, [] => by simp [uv]
  | y :: ks, t :: vs => by
    have := uv_cnts K ks vs
    rw [uv, cnts_cons']
    split
    · omega
    · rw [cnts_cons']; omega
theorem uv_len (K : List Ky) : ∀ (ks : List Ky) (vs : List Tr), (uv K ks vs).length ≤ vs.length
  | [], vs => by cases vs <;> simp [uv]
  | _ :: _, [] => by simp [uv]
  | y :: ks, t :: vs => by
    have := uv_len K ks vs
    rw [uv, List.length_cons]
    split
    · omega
    · rw [List.length_cons]; omega
theorem u_tots (K : List Ky) : ∀ (ks : List Ky) (vs : List Tr), tots (uk K ks vs) (uv K ks vs) ≤ tots ks vs
  | [], vs => by cases vs <;> simp [uk, uv, tots]
  | _ :: _, [] => by simp [uk, uv, tots]
  | y :: ks, t :: vs => by
    have := u_tots K ks vs
    rw [uk, uv, tots_cons]
    split
    · omega
    · rw [tots_cons]; omega
theorem tots_join : ∀ (ks : List Ky) (vs : List Tr) (ks' : List Ky) (vs' : List Tr), ks.length = vs.length → tots (ks ++ ks') (vs ++ vs') = tots ks vs + tots ks' vs'
  | [], [], ks', vs', _ => by simp [tots]
  | y :: ks, t :: vs, ks', vs', h => by
    have := tots_join ks vs ks' vs' (by simpa using h)
    rw [List.cons_append, List.cons_append, tots_cons, tots_cons, this]
    omega
/-- The union of two arrays. -/
def uniT : Tr → Tr → Tr
  | .mk k n s x ks vs, .mk _ _ _ x' ks' vs' => .mk k n s (nums.mx x x') (ks ++ uk ks ks' vs') (vs ++ uv ks ks' vs')
theorem uni_mk (k n x k' n' x' : Int) (s s' : ByteArray) (ks ks' : List Ky) (vs vs' : List Tr) : uniT (.mk k n s x ks vs) (.mk k' n' s' x' ks' vs') = .mk k n s (nums.mx x x') (ks ++ uk ks ks' vs') (vs ++ uv ks ks' vs') := rfl
theorem uni_cnt (t u : Tr) : cnt (uniT t u) ≤ cnt t + cnt u := by
  obtain ⟨k, n, s, x, ks, vs⟩ := t
  obtain ⟨k', n', s', x', ks', vs'⟩ := u
  have := uv_cnts ks ks' vs'
  rw [uni_mk, cnt_mk', cnt_mk', cnt_mk', cnts_append]
  omega
theorem uni_tot (t u : Tr) (hf : fits t) : tot (uniT t u) ≤ tot t + tot u := by
  obtain ⟨k, n, s, x, ks, vs⟩ := t
  obtain ⟨k', n', s', x', ks', vs'⟩ := u
  rw [fits] at hf
  have h1 := u_tots ks ks' vs'
  have h2 := uv_len ks ks' vs'
  rw [uni_mk, tot_mk, tot_mk, tot_mk, tots_join _ _ _ _ hf.1, List.length_append]
  omega
/-- Whether a value is an array. -/
def isA : Tr → Bool
  | .mk k _ _ _ _ _ => decide (k = 4)
/-- Whether two values have a union. -/
def uniB (t u : Tr) : Bool := (isA t && isA u) && (valB t && valB u)
/-- The error of a union. -/
def uniC (t u : Tr) : Int := if uniB t u = true then (if wgt (uniT t u) ≤ 200 then 0 else 9) else 2
/-- The value of a union. -/
def uniR (t u : Tr) : Tr := if uniB t u = true then (if wgt (uniT t u) ≤ 200 then uniT t u else nullT) else nullT
theorem uni_not {t u : Tr} (h : uniB t u = false) : uniC t u = 2 ∧ uniR t u = nullT := by unfold uniC uniR; rw [h]; exact ⟨rfl, rfl⟩
theorem uni_big {t u : Tr} (h : uniB t u = true) (hw : ¬ wgt (uniT t u) ≤ 200) : uniC t u = 9 ∧ uniR t u = nullT := by unfold uniC uniR; rw [if_pos h, if_pos h, if_neg hw, if_neg hw]; exact ⟨rfl, rfl⟩
theorem uni_fits {t u : Tr} (h : uniB t u = true) (hw : wgt (uniT t u) ≤ 200) : uniC t u = 0 ∧ uniR t u = uniT t u := by unfold uniC uniR; rw [if_pos h, if_pos h, if_pos hw, if_pos hw]; exact ⟨rfl, rfl⟩
theorem cnt_null : cnt nullT = 1 := by unfold nullT; rw [cnt_mk']; rfl
theorem uniR_cnt (t u : Tr) : cnt (uniR t u) ≤ cnt t + cnt u := by
  have h1 := uni_cnt t u
  have h2 := cnt_null
  have h3 : 1 ≤ cnt t := by cases t; rw [cnt_mk']; omega
  unfold uniR
  split
  · split <;> omega
  · omega
theorem val_four {n x : Int} {s : ByteArray} {ks : List Ky} {vs : List Tr} (h : valB (.mk 4 n s x ks vs) = true) : s.size = 0 ∧ n = 0 ∧ (0 ≤ x ∧ x ≤ 1000000001) ∧ itemsB x [] ks vs = true := by
  unfold valB at h
  rw [Bool.and_eq_true, snd_four, Bool.and_eq_true, Bool.and_eq_true, Bool.and_eq_true] at h
  obtain ⟨-, h1, h2, h3, h4⟩ := h
  unfold nums.inr at h3
  rw [Bool.and_eq_true] at h3
  exact ⟨of_decide_eq_true h1, of_decide_eq_true h2, ⟨of_decide_eq_true h3.1, of_decide_eq_true h3.2⟩, h4⟩

end Go.Proofs.YtdglmnmalfpipaaGreatDoor.tree

/-
  How two values compare, without the program; and what going through two arrays with a list of places decides.
  Conditions: those that each theorem names.
-/
namespace Go.Proofs.YtdglmnmalfpipaaGreatDoor.tree
open Go.ChangeShapes Go.WideShapes Go.ChangeAt Go.RowKit
set_option linter.unusedVariables false

def bys (a b : ByteArray) : Int := Lib.compareBytes a.data.toList b.data.toList
/-- How two values compare without going into arrays. -/
def ordO : Tr → Tr → Int
  | .mk k n s x ks vs, .mk k' n' s' x' ks' vs' =>
    if (k = 0 ∧ k' = 3) ∨ (k' = 0 ∧ k = 3) then bys (ers.tt (.mk k n s x ks vs)).1 (ers.tt (.mk k' n' s' x' ks' vs')).1
    else if (k = 0 ∨ k = 1) ∨ (k' = 0 ∨ k' = 1) then Lib.compareInt (tr01 (.mk k n s x ks vs)) (tr01 (.mk k' n' s' x' ks' vs'))
    else if (ers.nn (.mk k n s x ks vs)).2 = true ∧ (ers.nn (.mk k' n' s' x' ks' vs')).2 = true then Lib.compareInt (ers.nn (.mk k n s x ks vs)).1 (ers.nn (.mk k' n' s' x' ks' vs')).1
    else if (k = 2 ∨ k = 3) ∧ (k' = 2 ∨ k' = 3) then bys (ers.tt (.mk k n s x ks vs)).1 (ers.tt (.mk k' n' s' x' ks' vs')).1
    else if k = 4 ∧ k' = 4 then Lib.compareInt vs.length vs'.length
    else if k = 4 then 1
    else if k' = 4 then -1
    else if k = k' ∧ n = n' then 0 else 2
theorem ordO_mk (k n : Int) (s : ByteArray) (x : Int) (ks : List Ky) (vs : List Tr) (k' n' : Int) (s' : ByteArray) (x' : Int) (ks' : List Ky) (vs' : List Tr) : ordO (.mk k n s x ks vs) (.mk k' n' s' x' ks' vs') = (if (k = 0 ∧ k' = 3) ∨ (k' = 0 ∧ k = 3) then bys (ers.tt (.mk k n s x ks vs)).1 (ers.tt (.mk k' n' s' x' ks' vs')).1 else if (k = 0 ∨ k = 1) ∨ (k' = 0 ∨ k' = 1) then Lib.compareInt (tr01 (.mk k n s x ks vs)) (tr01 (.mk k' n' s' x' ks' vs')) else if (ers.nn (.mk k n s x ks vs)).2 = true ∧ (ers.nn (.mk k' n' s' x' ks' vs')).2 = true then Lib.compareInt (ers.nn (.mk k n s x ks vs)).1 (ers.nn (.mk k' n' s' x' ks' vs')).1 else if (k = 2 ∨ k = 3) ∧ (k' = 2 ∨ k' = 3) then bys (ers.tt (.mk k n s x ks vs)).1 (ers.tt (.mk k' n' s' x' ks' vs')).1 else if k = 4 ∧ k' = 4 then Lib.compareInt vs.length vs'.length else if k = 4 then 1 else if k' = 4 then -1 else if k = k' ∧ n = n' then 0 else 2) := rfl
/-- The value of a key's first item. -/
def getL (ks : List Ky) (vs : List Tr) (y : Ky) : Option Tr := if pos ks y 0 = -1 then none else vs[(pos ks y 0).toNat]?
def thn (a b : Int) : Int := if a = 0 then b else a
def isArr : Tr → Bool
  | .mk k _ _ _ _ _ => decide (k = 4)
mutual
/-- How two values compare. -/
def cmpT : Tr → Tr → Int
  | .mk k n s x ks vs, .mk k' n' s' x' ks' vs' => if ordO (.mk k n s x ks vs) (.mk k' n' s' x' ks' vs') = 0 ∧ k = 4 ∧ k' = 4 then cmpL ks vs ks' vs' else ordO (.mk k n s x ks vs) (.mk k' n' s' x' ks' vs')
/-- How the items of an array compare with those of another. -/
def cmpL : List Ky → List Tr → List Ky → List Tr → Int
  | y :: ks, t :: vs, ks', vs' => match getL ks' vs' y with
    | none => 2
    | some u => thn (cmpT t u) (cmpL ks vs ks' vs')
  | _, _, _, _ => 0
end
theorem cmpT_mk (k n : Int) (s : ByteArray) (x : Int) (ks : List Ky) (vs : List Tr) (k' n' : Int) (s' : ByteArray) (x' : Int) (ks' : List Ky) (vs' : List Tr) : cmpT (.mk k n s x ks vs) (.mk k' n' s' x' ks' vs') = if ordO (.mk k n s x ks vs) (.mk k' n' s' x' ks' vs') = 0 ∧ k = 4 ∧ k' = 4 then cmpL ks vs ks' vs' else ordO (.mk k n s x ks vs) (.mk k' n' s' x' ks' vs') := by rw [cmpT]
theorem cmpL_cons (y : Ky) (ks : List Ky) (t : Tr) (vs : List Tr) (ks' : List Ky) (vs' : List Tr) : cmpL (y :: ks) (t :: vs) ks' vs' = match getL ks' vs' y with
    | none => 2
    | some u => thn (cmpT t u) (cmpL ks vs ks' vs') := by rw [cmpL]
theorem cmpL_nil (ks : List Ky) (ks' : List Ky) (vs' : List Tr) : cmpL ks [] ks' vs' = 0 := by
  cases ks <;> rw [cmpL] <;> simp
theorem thn_zero (b : Int) : thn 0 b = b := by unfold thn; rw [if_pos rfl]
theorem thn_not {a : Int} (h : a ≠ 0) (b : Int) : thn a b = a := by unfold thn; rw [if_neg h]

/-! ### two arrays that are being compared -/
structure Mt where
  R : Option Addr
  c : Nat
  ks : List Ky
  vs : List Tr
  A' : Option Addr
  c' : Nat
  ks' : List Ky
  vs' : List Tr
  p : Nat
  b : Nat
  ks0 : List Ky
  vs0 : List Tr
def Mt.cells (F : Mt) : List Value := [.slice F.R F.vs.length F.c, .slice F.A' F.vs'.length F.c', .int .i64 F.p, .map (some F.b)]
/-- What the map of a matching holds: where each of the first keys stands first. -/
def FirstK (l : List Ky) (f : Value → Option Value) : Prop := ∀ y : Ky, f (kyV y) = if pos l y 0 = -1 then none else some (.int .i64 (pos l y 0))
structure MtOk (B : Nat) (w : World) (F : Mt) : Prop where
  isin : IsIn w (Lo B w) F.ks F.vs F.R
  cap : F.vs.length ≤ F.c ∧ F.c ≤ maxLen
  isin' : IsIn w (Lo B w) F.ks' F.vs' F.A'
  cap' : F.vs'.length ≤ F.c' ∧ F.c' ≤ maxLen
  le : cnts F.vs ≤ cnts F.vs0
  hp : F.p ≤ F.vs'.length
  map : ∃ f, raw.Holds w GK F.b f ∧ FirstK (F.ks'.take F.p) f
def Mt.whole (F : Mt) : Int := cmpL F.ks0 F.vs0 F.ks' F.vs'
def CChain (R : Int) : Int → List Mt → Prop
  | v, [] => v = R
  | v, F :: l => F.whole = thn v (cmpL F.ks F.vs F.ks' F.vs') ∧ CChain R F.whole l
def Nest : List Mt → Prop
  | [] => True
  | F :: l => (∀ G ∈ l, cnts F.vs0 < cnts G.vs0 ∧ G.b < F.b) ∧ Nest l
/-- What is known at the head of the loop. -/
structure CSt (R : Int) (B : Nat) (w : World) (v : Int) (G : List Mt) (e : Value → Option Value) : Prop where
  ok : ∀ F ∈ G, MtOk B w F
  chain : CChain R v G
  nest : Nest G
  ens : ∀ q b, e q = some b → b = .bool true ∧ ∃ p1 p2 ks vs ks' vs', q = pq p1 p2 ∧ PlB B w p1 ks vs ∧ PlB B w p2 ks' vs' ∧ ((∃ F ∈ G, F.ks0 = ks ∧ F.vs0 = vs ∧ F.ks' = ks' ∧ F.vs' = vs') ∨ cmpL ks vs ks' vs' = 0)
def left9 : List Mt → Nat
  | [] => 0
  | F :: l => 1 + wks F.vs + left9 l
theorem left9_len : ∀ G : List Mt, G.length ≤ left9 G
  | [] => Nat.le_refl _
  | F :: l => by have := left9_len l; rw [left9, List.length_cons]; omega

theorem CChain.stop {R : Int} : ∀ {v : Int} {G : List Mt}, v ≠ 0 → CChain R v G → v = R
  | v, [], _, h => h
  | v, F :: l, hv, h => by
    obtain ⟨h1, h2⟩ := h
    rw [thn_not hv] at h1
    rw [← h1] at hv ⊢
    exact CChain.stop hv h2

section
variable {R : Int} {B : Nat} {w w' : World} {v : Int} {G : List Mt} {e : Value → Option Value}
theorem hk_map {F : Nat} {f : Value → Option Value} (h : raw.Holds w GK F f) (hb : w'.heap[F]? = w.heap[F]?) : raw.Holds w' GK F f := h.kept hb (fun _ hx => hx)
theorem MtOk.kp (hk : Kp B w w') {F : Mt} (h : MtOk B w F) (hb : w'.heap[F.b]? = w.heap[F.b]?) : MtOk B w' F where
  isin := h.isin.kp hk
  cap := h.cap
  isin' := h.isin'.kp hk
  cap' := h.cap'
  le := h.le
  hp := h.hp
  map := by
    obtain ⟨f, h1, h2⟩ := h.map
    exact ⟨f, hk_map h1 hb, h2⟩
theorem CSt.kp (hk : Kp B w w') (h : CSt R B w v G e) (hb : ∀ F ∈ G, w'.heap[F.b]? = w.heap[F.b]?) : CSt R B w' v G e where
  ok := fun F hF => (h.ok F hF).kp hk (hb F hF)
  chain := h.chain
  nest := h.nest
  ens := fun q b hq => by
    obtain ⟨h0, p1, p2, ks, vs, ks', vs', e1, h1, h2, h3⟩ := h.ens q b hq
    exact ⟨h0, p1, p2, ks, vs, ks', vs', e1, h1.kp hk, h2.kp hk, h3⟩
theorem MtOk.lt {F : Mt} (h : MtOk B w F) : F.b < w.heap.size := by
  obtain ⟨f, h1, -⟩ := h.map
  exact h1.lt

/-- A matching that is done. -/
theorem CSt.pop {F : Mt} (h : CSt R B w 0 (F :: G) e) (hv : F.vs = []) : CSt R B w 0 G e := by
  have h0 : F.whole = 0 := by rw [h.chain.1, hv, cmpL_nil, thn_zero]
  refine ⟨fun X hX => h.ok X (List.mem_cons_of_mem _ hX), by have := h.chain.2; rwa [h0] at this, h.nest.2, fun q b hq => ?_⟩
  obtain ⟨hb, p1, p2, ks, vs, ks', vs', e1, h1, h2, h3⟩ := h.ens q b hq
  refine ⟨hb, p1, p2, ks, vs, ks', vs', e1, h1, h2, ?_⟩
  rcases h3 with ⟨X, hX, g1, g2, g3, g4⟩ | h3
  · rcases List.mem_cons.1 hX with rfl | hX
    · subst g1 g2 g3 g4
      exact .inr h0
    · exact .inl ⟨X, hX, g1, g2, g3, g4⟩
  · exact .inr h3
theorem CSt.fine (h : CSt R B w 0 [] e) : R = 0 := h.chain.symm

/-- An item is taken: what the comparison gives it. -/
theorem CSt.take {F : Mt} {y : Ky} {kt : List Ky} {t : Tr} {ts : List Tr} (h : CSt R B w 0 (F :: G) e) (hkp : Kp B w w') (hbs : ∀ X ∈ G, w'.heap[X.b]? = w.heap[X.b]?) (hk0 : F.ks = y :: kt) (hv : F.vs = t :: ts) {R1 : Option Addr} {c1 p1 : Nat}
    (hR : IsIn w' (Lo B w') kt ts R1) (hc : ts.length ≤ c1 ∧ c1 ≤ maxLen) (hp : p1 ≤ F.vs'.length) (hm : ∃ f, raw.Holds w' GK F.b f ∧ FirstK (F.ks'.take p1) f) :
    (getL F.ks' F.vs' y = none → R = 2) ∧ ∀ u, getL F.ks' F.vs' y = some u → CSt R B w' (cmpT t u) (⟨R1, c1, kt, ts, F.A', F.c', F.ks', F.vs', p1, F.b, F.ks0, F.vs0⟩ :: G) e := by
  obtain ⟨hc1, hc2⟩ := h.chain
  rw [thn_zero, hk0, hv, cmpL_cons] at hc1
  constructor
  · intro hn
    rw [hn] at hc1
    exact (CChain.stop (v := F.whole) (by rw [hc1]; show (2 : Int) ≠ 0; decide) hc2).symm.trans hc1
  · intro u hu
    rw [hu] at hc1
    have hF := h.ok F List.mem_cons_self
    refine ⟨fun X hX => ?_, ⟨hc1, hc2⟩, h.nest, fun q b hq => ?_⟩
    · rcases List.mem_cons.1 hX with rfl | hX
      · refine ⟨hR, hc, hF.isin'.kp hkp, hF.cap', ?_, hp, hm⟩
        have := hF.le
        rw [hv, cnts_cons] at this
        show cnts ts ≤ cnts F.vs0
        omega
      · exact (h.ok X (List.mem_cons_of_mem _ hX)).kp hkp (hbs X hX)
    · obtain ⟨hb, q1, q2, ks, vs, ks', vs', e1, h1, h2, h3⟩ := h.ens q b hq
      refine ⟨hb, q1, q2, ks, vs, ks', vs', e1, h1.kp hkp, h2.kp hkp, h3.imp (fun ⟨X, hX, g⟩ => ?_) id⟩
      rcases List.mem_cons.1 hX with rfl | hX
      · exact ⟨_, List.mem_cons_self, g⟩
      · exact ⟨X, List.mem_cons_of_mem _ hX, g⟩
theorem CSt.stop (h : CSt R B w v G e) (hv : v ≠ 0) : R = v := (CChain.stop hv h.chain).symm

/-- Two lists that are known to have been entered are equal: none lies in itself. -/
theorem CSt.known {F : Mt} (h : CSt R B w v (F :: G) e) {ks1 vs1 : _} {ks2 vs2 : _} {p1 p2 : Value} (hp1 : PlB B w p1 ks1 vs1) (hp2 : PlB B w p2 ks2 vs2) (hlt : cnts vs1 < cnts F.vs0) {b : Value} (he : e (pq p1 p2) = some b) : b = .bool true ∧ cmpL ks1 vs1 ks2 vs2 = 0 := by
  obtain ⟨hb, q1, q2, ks, vs, ks', vs', e1, h1, h2, h3⟩ := h.ens _ b he
  have hpq : p1 = q1 ∧ p2 = q2 := by
    obtain ⟨A1, _, rfl⟩ := hp1
    obtain ⟨A2, _, rfl⟩ := hp2
    obtain ⟨A3, _, rfl⟩ := h1
    obtain ⟨A4, _, rfl⟩ := h2
    exact pq_inj e1
  obtain ⟨rfl, rfl⟩ := hpq
  obtain ⟨rfl, rfl⟩ := h1.is.unique hp1.is
  obtain ⟨rfl, rfl⟩ := h2.is.unique hp2.is
  refine ⟨hb, ?_⟩
  rcases h3 with ⟨X, hX, g1, g2, g3, g4⟩ | h3
  · rcases List.mem_cons.1 hX with rfl | hX
    · rw [g2] at hlt; omega
    · have := (h.nest.1 X hX).1
      rw [g2] at this
      omega
  · exact h3

/-- Two arrays are entered. -/
theorem CSt.push {F : Mt} {ks1 ks2 : List Ky} {vs1 vs2 : List Tr} {A1 A2 : Option Addr} {c1 c2 b : Nat} (h : CSt R B w (cmpL ks1 vs1 ks2 vs2) (F :: G) e) (hin1 : IsIn w (Lo B w) ks1 vs1 A1) (hc1 : vs1.length ≤ c1 ∧ c1 ≤ maxLen)
    (hin2 : IsIn w (Lo B w) ks2 vs2 A2) (hc2 : vs2.length ≤ c2 ∧ c2 ≤ maxLen) (hlt : cnts vs1 < cnts F.vs0) (hb : ∀ X ∈ F :: G, X.b < b) (hm : raw.Holds w GK b (fun _ => none)) :
    CSt R B w 0 (⟨A1, c1, ks1, vs1, A2, c2, ks2, vs2, 0, b, ks1, vs1⟩ :: F :: G) (raw.put e (pq (plc A1 vs1.length) (plc A2 vs2.length)) (.bool true)) := by
  refine ⟨fun X hX => ?_, ⟨by rw [thn_zero]; rfl, h.chain⟩, ⟨fun X hX => ⟨?_, hb X hX⟩, h.nest⟩, fun q z hq => ?_⟩
  · rcases List.mem_cons.1 hX with rfl | hX
    · exact ⟨hin1, hc1, hin2, hc2, Nat.le_refl _, Nat.zero_le _, _, hm, fun y => by simp [pos]⟩
    · exact h.ok X hX
  · rcases List.mem_cons.1 hX with rfl | hX
    · exact hlt
    · have := (h.nest.1 X hX).1
      show cnts vs1 < _
      omega
  · by_cases e1 : q = pq (plc A1 vs1.length) (plc A2 vs2.length)
    · subst e1
      rw [raw.put_same] at hq
      exact ⟨(Option.some.inj hq).symm, _, _, ks1, vs1, ks2, vs2, rfl, ⟨A1, hin1, rfl⟩, ⟨A2, hin2, rfl⟩, .inl ⟨_, List.mem_cons_self, rfl, rfl, rfl, rfl⟩⟩
    · rw [raw.put_other e1] at hq
      obtain ⟨hb, q1, q2, ks, vs, ks', vs', e1, h1, h2, h3⟩ := h.ens q z hq
      exact ⟨hb, q1, q2, ks, vs, ks', vs', e1, h1, h2, h3.imp (fun ⟨X, hX, g⟩ => ⟨X, List.mem_cons_of_mem _ hX, g⟩) id⟩
end

/-! ### where a key stands first, from item to item -/
theorem pos_app : ∀ (l : List Ky) (y z : Ky) (i : Nat), pos (l ++ [z]) y i = if pos l y i = -1 then (if z = y then ((i + l.length : Nat) : Int) else -1) else pos l y i
  | [], y, z, i => by
    simp [pos]
  | x :: l, y, z, i => by
    have ih := pos_app l y z (i + 1)
    rw [List.cons_append, pos, pos]
    by_cases hx : x = y
    · rw [if_pos hx, if_pos hx, if_neg (by omega)]
    · rw [if_neg hx, if_neg hx, ih]
      simp only [List.length_cons]
      have : i + 1 + l.length = i + (l.length + 1) := by omega
      rw [this]
theorem FirstK.push {l : List Ky} {f : Value → Option Value} (h : FirstK l f) {y : Ky} (hy : pos l y 0 = -1) : FirstK (l ++ [y]) (raw.put f (kyV y) (.int .i64 l.length)) := fun z => by
  rw [pos_app]
  by_cases hz : z = y
  · subst hz
    rw [raw.put_same, hy]
    simp
  · rw [raw.put_other (fun e => hz (ky_inj e)), h z]
    have : ¬ y = z := fun e => hz e.symm
    rw [if_neg this]
    split <;> simp_all
theorem FirstK.skip {l : List Ky} {f : Value → Option Value} (h : FirstK l f) {y : Ky} (hy : pos l y 0 ≠ -1) : FirstK (l ++ [y]) f := fun z => by
  rw [pos_app, h z]
  by_cases hz : y = z
  · subst hz
    simp [hy]
  · simp only [if_neg hz]
    by_cases h1 : pos l z 0 = -1 <;> simp [h1]
theorem pos_take : ∀ (l : List Ky) (y : Ky) (n i : Nat), pos (l.take n) y i ≠ -1 → pos l y i = pos (l.take n) y i
  | [], y, n, i, h => by simp [pos]
  | x :: l, y, 0, i, h => by simp [pos] at h
  | x :: l, y, n + 1, i, h => by
    rw [List.take_succ_cons, pos] at h
    rw [List.take_succ_cons, pos, pos]
    by_cases hx : x = y
    · rw [if_pos hx, if_pos hx]
    · rw [if_neg hx] at h
      rw [if_neg hx, if_neg hx]
      exact pos_take l y n (i + 1) h

end Go.Proofs.YtdglmnmalfpipaaGreatDoor.tree

/-
  How two values compare is one of -1, 0, 1 and 2.
  Conditions: none.
-/
namespace Go.Proofs.YtdglmnmalfpipaaGreatDoor.tree
open Go.ChangeShapes Go.WideShapes Go.ChangeAt Go.RowKit
set_option linter.unusedVariables false

theorem ci_rng (a b : Int) : -1 ≤ Lib.compareInt a b ∧ Lib.compareInt a b ≤ 2 := by
  unfold Lib.compareInt
  constructor <;> repeat' split
  all_goals omega
theorem cb_rng : ∀ (a b : List UInt8), -1 ≤ Lib.compareBytes a b ∧ Lib.compareBytes a b ≤ 2
  | [], [] => by simp [Lib.compareBytes]
  | [], _ :: _ => by simp [Lib.compareBytes]
  | _ :: _, [] => by simp [Lib.compareBytes]
  | a :: r, b :: r' => by
    have ih := cb_rng r r'
    simp only [Lib.compareBytes]
    repeat' split
    all_goals first | omega | exact ih
theorem ord_rng (t u : Tr) : -1 ≤ ordO t u ∧ ordO t u ≤ 2 := by
  obtain ⟨k, n, s, x, ks, vs⟩ := t
  obtain ⟨k', n', s', x', ks', vs'⟩ := u
  rw [ordO_mk]
  repeat' split
  all_goals first | exact cb_rng _ _ | exact ci_rng _ _ | omega
theorem cmpL_rng (ks' : List Ky) (vs' : List Tr) : ∀ (ks : List Ky) (vs : List Tr), (∀ t ∈ vs, ∀ u, -1 ≤ cmpT t u ∧ cmpT t u ≤ 2) → -1 ≤ cmpL ks vs ks' vs' ∧ cmpL ks vs ks' vs' ≤ 2
  | [], vs, _ => by cases vs <;> rw [cmpL] <;> simp
  | y :: ks, [], _ => by rw [cmpL_nil]; omega
  | y :: ks, t :: vs, h => by
    have ih := cmpL_rng ks' vs' ks vs (fun u hu => h u (List.mem_cons_of_mem _ hu))
    rw [cmpL_cons]
    split
    · omega
    · rename_i u _
      have := h t List.mem_cons_self u
      unfold thn
      split
      · exact ih
      · exact this
theorem cmp_rng : ∀ (t u : Tr), -1 ≤ cmpT t u ∧ cmpT t u ≤ 2 := Tr.ind fun k n s x ks vs ih u => by
  obtain ⟨k', n', s', x', ks', vs'⟩ := u
  rw [cmpT_mk]
  split
  · exact cmpL_rng _ _ _ _ (fun t ht u => ih t ht u)
  · exact ord_rng _ _

end Go.Proofs.YtdglmnmalfpipaaGreatDoor.tree

/-
  What the operators on two values give, without the program.
  Conditions: those that each theorem names.
-/
namespace Go.Proofs.YtdglmnmalfpipaaGreatDoor.tree
open Go.ChangeShapes Go.WideShapes Go.ChangeAt Go.RowKit ers
set_option linter.unusedVariables false

/-- A value without items. -/
def fV (p : Int × Int × ByteArray) : Value := vV p.1 p.2.1 p.2.2 0 none 0 0
def fT (p : Int × Int × ByteArray) : Tr := .mk p.1 p.2.1 p.2.2 0 [] []
def nulF : Int × Int × ByteArray := (0, 0, ⟨#[]⟩)
def boF (b : Bool) : (Int × Int × ByteArray) × Int := ((1, if b then 1 else 0, ⟨#[]⟩), 0)
def inF (n : Int) : (Int × Int × ByteArray) × Int := ((2, n, ⟨#[]⟩), 0)
/-- What two texts give together. -/
def conF (t u : Tr) : (Int × Int × ByteArray) × Int := if (tt t).2 = true then (if (tt u).2 = true then (if (tt t).1.size + (tt u).1.size ≤ 400 then ((3, 0, (tt t).1 ++ (tt u).1), 0) else (nulF, 9)) else (nulF, 1)) else (nulF, 1)
/-- What two numbers give. -/
def finF (p : Int × Int) : (Int × Int × ByteArray) × Int := if p.2 = 0 then inF p.1 else (nulF, p.2)
def ariF (op : Int) (t u : Tr) : (Int × Int × ByteArray) × Int := if (nn t).2 = true then (if (nn u).2 = true then finF (ari.arT op (nn t).1 (nn u).1) else (nulF, 2)) else (nulF, 2)
def flF (op : Int) (t u : Tr) : (Int × Int × ByteArray) × Int :=
  if op = 6 then conF t u else if op = 9 then boF (identB t u) else if op = 10 then boF (!identB t u) else if op = 15 then inF (cmpT t u) else if 7 ≤ op ∧ op ≤ 14 then boF (rels.relB op (cmpT t u)) else ariF op t u
def isU (op : Int) (t u : Tr) : Bool := decide (op = 1) && (isA t && isA u)
def binT (op : Int) (t u : Tr) : Tr := if isU op t u = true then uniR t u else fT (flF op t u).1
def binC (op : Int) (t u : Tr) : Int := if isU op t u = true then uniC t u else (flF op t u).2
/-- A result that is a machine's value. -/
def Fits (p : (Int × Int × ByteArray) × Int) : Prop := I64 p.1.1 ∧ I64 p.1.2.1 ∧ I64 0 ∧ p.1.2.2.size ≤ maxLen
theorem i64_lit : I64 0 ∧ I64 1 ∧ I64 2 ∧ I64 3 := by unfold I64; omega
theorem fits_nul (c : Int) : Fits (nulF, c) := ⟨i64_lit.1, i64_lit.1, i64_lit.1, Nat.zero_le _⟩
theorem fits_bo (b : Bool) : Fits (boF b) := by
  cases b
  · exact ⟨i64_lit.2.1, i64_lit.1, i64_lit.1, Nat.zero_le _⟩
  · exact ⟨i64_lit.2.1, i64_lit.2.1, i64_lit.1, Nat.zero_le _⟩
theorem fits_in {n : Int} (h : I64 n) : Fits (inF n) := ⟨i64_lit.2.2.1, h, i64_lit.1, Nat.zero_le _⟩
theorem fits_con (t u : Tr) : Fits (conF t u) := by
  unfold conF
  split
  · split
    · split
      · refine ⟨i64_lit.2.2.2, i64_lit.1, i64_lit.1, ?_⟩
        show ((tt t).1 ++ (tt u).1).size ≤ maxLen
        rw [ByteArray.size_append]
        unfold maxLen
        omega
      · exact fits_nul _
    · exact fits_nul _
  · exact fits_nul _
theorem arT_bd (op a b : Int) : -1000000000 ≤ (ari.arT op a b).1 ∧ (ari.arT op a b).1 ≤ 1000000000 := by
  unfold ari.arT
  repeat' split
  all_goals first | (constructor <;> decide) | skip
  unfold ari.fin
  split
  · rename_i h; exact ari.ok_bd h
  · constructor <;> decide
theorem fits_ari (op : Int) (t u : Tr) : Fits (ariF op t u) := by
  unfold ariF
  split
  · split
    · unfold finF
      split
      · have := arT_bd op (nn t).1 (nn u).1
        exact fits_in (by unfold I64; omega)
      · exact fits_nul _
    · exact fits_nul _
  · exact fits_nul _
theorem cmp_i64 (t u : Tr) : I64 (cmpT t u) := by
  have := cmp_rng t u
  unfold I64
  omega
theorem fits_fl (op : Int) (t u : Tr) : Fits (flF op t u) := by
  unfold flF
  repeat' split
  · exact fits_con t u
  · exact fits_bo _
  · exact fits_bo _
  · exact fits_in (cmp_i64 t u)
  · exact fits_bo _
  · exact fits_ari op t u
theorem flat_par {p : (Int × Int × ByteArray) × Int} (h : Fits p) (w : World) (par : Nat → Nat × Nat) (here : Nat × Nat) : TPar w par here (fT p.1) (fV p.1) := TPar.of h rfl ⟨Nat.zero_le _, Nat.zero_le _⟩ (fun h => absurd h (by simp))
theorem fT_cnt (p : Int × Int × ByteArray) : cnt (fT p) = 1 := by unfold fT; rw [cnt_mk']; rfl
theorem binT_cnt (op : Int) (t u : Tr) : cnt (binT op t u) ≤ cnt t + cnt u := by
  unfold binT
  split
  · exact uniR_cnt t u
  · have h3 : 1 ≤ cnt t := by cases t; rw [cnt_mk']; omega
    rw [fT_cnt]; omega

end Go.Proofs.YtdglmnmalfpipaaGreatDoor.tree

/-
  What comparing wants of the world.
  Conditions: none.
-/
namespace Go.Proofs.YtdglmnmalfpipaaGreatDoor.ers
open Go.ChangeShapes Go.WideShapes Go.ChangeAt Go.RowKit
set_option linter.unusedVariables false

/-- What comparing wants of the world. -/
def CmE (w : World) : Prop := fmt.Tab w ∧ (∃ a, HasT w a) ∧ ∃ b, HasN w b
theorem CmE.stays {w w' : World} (h : CmE w) (hb : Below w.heap.size w w') : CmE w' := ⟨h.1.stays hb, h.2.1.imp fun a h => h.stays hb, h.2.2.imp fun a h => h.stays hb⟩

end Go.Proofs.YtdglmnmalfpipaaGreatDoor.ers

/-
  What the package variables that the rows of the operators list hold.
  Conditions: the variables hold what the program's text lays.
-/
namespace Go.Proofs.YtdglmnmalfpipaaGreatDoor.ers
open Go.ChangeShapes Go.WideShapes Go.ChangeAt Go.RowKit
set_option linter.unusedVariables false

/-- What the operators want of the world. -/
def OpE (w : World) : Prop := prs.Env w ∧ CmE w
theorem OpE.stays {w w' : World} (h : OpE w) (hb : Below w.heap.size w w') : OpE w' := ⟨h.1.stays hb, h.2.stays hb⟩

namespace bin
end bin

end Go.Proofs.YtdglmnmalfpipaaGreatDoor.ers

/-
  What UnaryOp gives, without the program.
  Conditions: none.
-/
namespace Go.Proofs.YtdglmnmalfpipaaGreatDoor.tree
open Go.ChangeShapes Go.WideShapes Go.ChangeAt Go.RowKit ers
set_option linter.unusedVariables false

/-- What UnaryOp gives. -/
def unF (op : Int) (t : Tr) : (Int × Int × ByteArray) × Int := if op = 1 then boF (!tb t) else if op = 2 then flF 2 (fT (2, 0, ⟨#[]⟩)) t else (nulF, 2)
theorem fits_un (op : Int) (t : Tr) : Fits (unF op t) := by
  unfold unF
  repeat' split
  · exact fits_bo _
  · exact fits_fl _ _ _
  · exact fits_nul _
theorem zeroTot (t : Tr) (h : tot t ≤ 1000000000) : tot (fT (2, 0, ⟨#[]⟩)) + tot t ≤ 1000000000 := by
  have : tot (fT (2, 0, ⟨#[]⟩)) = 0 := by unfold fT; rw [tot_mk]; rfl
  omega

end Go.Proofs.YtdglmnmalfpipaaGreatDoor.tree

/-
  What FnOperators says of results: quotient and remainder, sum and difference, codes and their values, equal and not equal.
  Conditions: none.
-/
namespace Go.Proofs.YtdglmnmalfpipaaGreatDoor.tree
open Go.ChangeShapes Go.WideShapes Go.ChangeAt Go.RowKit ers ari
set_option linter.unusedVariables false

theorem ok_of {n : Int} (h : -1000000000 ≤ n ∧ n ≤ 1000000000) : ok n = true := by
  unfold ok nums.inr
  simp
  exact h
theorem fin_ok {n : Int} (h : -1000000000 ≤ n ∧ n ≤ 1000000000) : ari.fin n = (n, 0) := by
  unfold ari.fin
  rw [if_pos (ok_of h)]
theorem sq_lt {r b : Int} (h : r.natAbs < b.natAbs) : r * r < b * b := by
  have h1 : (r * r).natAbs < (b * b).natAbs := by
    rw [Int.natAbs_mul, Int.natAbs_mul]
    exact Nat.mul_lt_mul_of_lt_of_le h (Nat.le_of_lt h) (by omega)
  have h2 : 0 ≤ r * r := by rw [← Int.natAbs_mul_self' r]; exact Int.mul_nonneg (by omega) (by omega)
  have h3 : 0 ≤ b * b := by rw [← Int.natAbs_mul_self' b]; exact Int.mul_nonneg (by omega) (by omega)
  omega
/-- Quotient and remainder give the dividend back; or both have the same error. -/
theorem div_mod (a b : Int) : (∃ q r m rr bb : Int, arT 4 a b = (q, 0) ∧ arT 5 a b = (r, 0) ∧ q * b = m ∧ m + r = a ∧ r * r = rr ∧ b * b = bb ∧ rr < bb ∧ (-1000000000 ≤ r ∧ r ≤ 1000000000) ∧ (-1000000000000000000 ≤ m ∧ m ≤ 1000000000000000000) ∧ (-1000000000000000000 ≤ rr ∧ rr ≤ 1000000000000000000) ∧ (-1000000000000000000 ≤ bb ∧ bb ≤ 1000000000000000000)) ∨
    ∃ c : Int, ¬ c = 0 ∧ arT 4 a b = (0, c) ∧ arT 5 a b = (0, c) := by
  have h4 : nums.inr 4 1 5 = true := by decide
  have h5 : nums.inr 5 1 5 = true := by decide
  cases ha : ok a with
  | false => exact .inr ⟨3, by omega, arT_a h4 ha, arT_a h5 ha⟩
  | true =>
    cases hb : ok b with
    | false => exact .inr ⟨3, by omega, arT_b h4 ha hb, arT_b h5 ha hb⟩
    | true =>
      by_cases hz : b = 0
      · exact .inr ⟨4, by omega, arT_zero h4 ha hb ⟨by omega, hz⟩, arT_zero h5 ha hb ⟨by omega, hz⟩⟩
      · have ba := ok_bd ha
        have bb := ok_bd hb
        have hq := div_bd (b := b) ba
        have hr := mod_bd (b := b) ba
        have e4 : arT 4 a b = (a.tdiv b, 0) := by
          rw [arT_n h4 ha hb (fun h => hz h.2)]
          exact fin_ok hq
        have e5 : arT 5 a b = (a.tmod b, 0) := by
          rw [arT_n h5 ha hb (fun h => hz h.2)]
          exact fin_ok hr
        refine .inl ⟨a.tdiv b, a.tmod b, a.tdiv b * b, a.tmod b * a.tmod b, b * b, e4, e5, rfl, ?_, rfl, rfl, ?_, hr, mul_bd hq bb, mul_bd hr hr, mul_bd bb bb⟩
        · exact Int.tdiv_mul_add_tmod a b
        · refine sq_lt ?_
          rw [Int.natAbs_tmod]
          exact Nat.mod_lt _ (by omega)
/-- A sum is undone. -/
theorem add_sub (a b : Int) : ∃ s c d e : Int, arT 1 a b = (s, c) ∧ arT 2 s b = (d, e) ∧ (c = 0 → e = 0 ∧ d = a) := by
  refine ⟨(arT 1 a b).1, (arT 1 a b).2, (arT 2 (arT 1 a b).1 b).1, (arT 2 (arT 1 a b).1 b).2, (Prod.eta _).symm, (Prod.eta _).symm, fun h => ?_⟩
  have h1 : nums.inr 1 1 5 = true := by decide
  have h2 : nums.inr 2 1 5 = true := by decide
  cases ha : ok a with
  | false => rw [arT_a h1 ha] at h; simp at h
  | true =>
    cases hb : ok b with
    | false => rw [arT_b h1 ha hb] at h; simp at h
    | true =>
      have e1 : arT 1 a b = ari.fin (a + b) := arT_n h1 ha hb (fun h => by omega)
      rw [e1] at h ⊢
      cases hs : ok (a + b) with
      | false => unfold ari.fin at h; rw [if_neg (by rw [hs]; simp)] at h; simp at h
      | true =>
        have ef : ari.fin (a + b) = (a + b, 0) := fin_ok (ok_bd hs)
        have e2 : arT 2 (a + b) b = ari.fin (a + b - b) := arT_n h2 hs hb (fun h => by omega)
        have e3 : a + b - b = a := by omega
        rw [ef]
        simp only
        rw [e2, e3, fin_ok (ok_bd ha)]
        exact ⟨rfl, rfl⟩

def Code (c : Int) (t : Tr) : Prop := c = 0 ∨ ((c = 1 ∨ c = 2 ∨ c = 3 ∨ c = 4 ∨ c = 9) ∧ ∃ n s x ks vs, t = .mk 0 n s x ks vs)
theorem code_nul {c : Int} (h : c = 1 ∨ c = 2 ∨ c = 3 ∨ c = 4 ∨ c = 9) : Code c (fT nulF) := .inr ⟨h, _, _, _, _, _, rfl⟩
theorem arT_code (op a b : Int) : (arT op a b).2 = 0 ∨ (arT op a b).2 = 2 ∨ (arT op a b).2 = 3 ∨ (arT op a b).2 = 4 := by
  unfold arT ari.fin
  repeat' split
  all_goals simp
theorem code_fin (p : Int × Int) (h : p.2 = 0 ∨ p.2 = 2 ∨ p.2 = 3 ∨ p.2 = 4) : Code (finF p).2 (fT (finF p).1) := by
  unfold finF
  split
  · exact .inl rfl
  · next hn => exact code_nul (by show p.2 = 1 ∨ p.2 = 2 ∨ p.2 = 3 ∨ p.2 = 4 ∨ p.2 = 9; omega)
theorem code_ari (op : Int) (t u : Tr) : Code (ariF op t u).2 (fT (ariF op t u).1) := by
  unfold ariF
  split
  · split
    · exact code_fin _ (arT_code _ _ _)
    · exact code_nul (by show (2 : Int) = 1 ∨ (2 : Int) = 2 ∨ _; omega)
  · exact code_nul (by show (2 : Int) = 1 ∨ (2 : Int) = 2 ∨ _; omega)
theorem code_con (t u : Tr) : Code (conF t u).2 (fT (conF t u).1) := by
  unfold conF
  split
  · split
    · split
      · exact .inl rfl
      · exact code_nul (by show (9 : Int) = 1 ∨ (9 : Int) = 2 ∨ (9 : Int) = 3 ∨ (9 : Int) = 4 ∨ (9 : Int) = 9; omega)
    · exact code_nul (by show (1 : Int) = 1 ∨ _; omega)
  · exact code_nul (by show (1 : Int) = 1 ∨ _; omega)
theorem code_fl (op : Int) (t u : Tr) : Code (flF op t u).2 (fT (flF op t u).1) := by
  unfold flF
  split
  · exact code_con t u
  · split
    · exact .inl rfl
    · split
      · exact .inl rfl
      · split
        · exact .inl rfl
        · split
          · exact .inl rfl
          · exact code_ari op t u
/-- An operator's error has a name, and its value is null. -/
theorem bin_code (op : Int) (t u : Tr) : Code (binC op t u) (binT op t u) := by
  unfold binC binT
  split
  · unfold uniC uniR
    split
    · split
      · exact .inl rfl
      · exact .inr ⟨by omega, _, _, _, _, _, rfl⟩
    · exact .inr ⟨by omega, _, _, _, _, _, rfl⟩
  · exact code_fl op t u
/-- Equal and not equal. -/
theorem eq_ne (t u : Tr) : ∃ n m : Int, binT 7 t u = .mk 1 n ⟨#[]⟩ 0 [] [] ∧ binT 8 t u = .mk 1 m ⟨#[]⟩ 0 [] [] ∧ n + m = 1 ∧ (0 ≤ n ∧ n ≤ 1) := by
  have h7 : isU 7 t u = false := by unfold isU; rw [decide_eq_false (by omega)]; rfl
  have h8 : isU 8 t u = false := by unfold isU; rw [decide_eq_false (by omega)]; rfl
  have e7 : binT 7 t u = fT (boF (rels.relB 7 (cmpT t u))).1 := by unfold binT; rw [h7]; rfl
  have e8 : binT 8 t u = fT (boF (rels.relB 8 (cmpT t u))).1 := by unfold binT; rw [h8]; rfl
  have r7 : rels.relB 7 (cmpT t u) = decide (cmpT t u = 0) := rfl
  have r8 : rels.relB 8 (cmpT t u) = !decide (cmpT t u = 0) := rfl
  rw [e7, e8, r7, r8]
  cases decide (cmpT t u = 0) with
  | false => exact ⟨0, 1, rfl, rfl, rfl, by omega⟩
  | true => exact ⟨1, 0, rfl, rfl, rfl, by omega⟩

end Go.Proofs.YtdglmnmalfpipaaGreatDoor.tree

/-
  What the package variables that the row of the law on operators lists hold; and that they read behind it as they did.
  Conditions: the variables hold what the program's text lays.
-/
namespace Go.Proofs.YtdglmnmalfpipaaGreatDoor.ers
open Go.ChangeShapes Go.WideShapes Go.ChangeAt Go.RowKit
set_option linter.unusedVariables false

namespace fop
def laidOf : List (String × DataW Unit) := Rows.fnOperatorsRow.laid
theorem env_of {W : World} (h : laidMetH Tryz.prog laidOf W) : OpE W ∧ errs.Tab W := by
  rw [MakeChecks.laidMetH_plain _ _ _ (by kernel_rfl)] at h
  refine ⟨⟨⟨Lib.tabIs_of_head fmt.gTab prs.tTab Tryz.underlying266 Tryz.underlying232 (by kernel_rfl) (by kernel_rfl) h.tail.tail, ?_, ?_⟩, Lib.tabIs_of_head fmt.gTab prs.tTab Tryz.underlying266 Tryz.underlying232 (by kernel_rfl) (by kernel_rfl) h.tail.tail, ?_⟩, ?_⟩
  · obtain ⟨a1, s1, hv1, -, -, -⟩ := laid_sentinel h.tail.tail.tail.tail prs.gES prs.tES Tryz.underlying174 prs.rowErr Tryz.underlying270 Tryz.underlying272 rfl rfl Tryz.underlying9 prs.cellsErr prs.cellsStr
    exact ⟨_, _, hv1⟩
  · obtain ⟨a1, s1, hv1, -, -, -⟩ := laid_sentinel h.tail.tail.tail prs.gER prs.tER Tryz.underlying174 prs.rowErr Tryz.underlying270 Tryz.underlying272 rfl rfl Tryz.underlying9 prs.cellsErr prs.cellsStr
    exact ⟨_, _, hv1⟩
  · obtain ⟨a0, a1, s0, s1, c0, c1, t0, t1, hv0, hv1, -, -, -, -, -, -, hne, hb0, hb1⟩ := laid_sentinels2 h.tail.tail.tail.tail.tail.tail gT tT gN tN Tryz.underlying174 rowErr Tryz.underlying270 Tryz.underlying272 rfl rfl Tryz.underlying9 cellsErr cellsStr
    exact ⟨⟨a0, hv0⟩, ⟨a1, hv1⟩⟩
  · exact errs.of_reads (Lib.laidMet.reads h (by simp [laidOf, Rows.fnOperatorsRow, errs.data, Rows.laid_loop_example_g03011_impl_errorNames]))
theorem door_met (os : Os) (args : Array Value) : laidMetH Tryz.prog laidOf ((World.doorLaid Tryz.prog 400 os).forCall (fun _ _ => 0) ⟨#[], args, []⟩).memory :=
  laidMetH_of_parts3 (fuel := 8) (laidMet_of_run' 8 (by kernel_rfl) (by kernel_rfl)) (by kernel_rfl) (by kernel_rfl)
end fop

section
variable {H : Type} {enc : TypeId × Value → H} {P : Program}
theorem vars_app {w : World} {sp : Nat → Bool} {ns' : List String} {ds' : List (DataW H)} {ps' : List MemPlace} (k : DataW.TrodVars enc P w sp ns' ds' ps') : ∀ (ns : List String) (ds : List (DataW H)) (ps : List MemPlace), DataW.TrodVars enc P w sp ns ds ps → DataW.TrodVars enc P w sp (ns ++ ns') (ds ++ ds') (ps ++ ps')
  | [], [], ps, h => by
    have h : ps = [] := h
    subst h
    exact k
  | [], _ :: _, _, h => by cases h
  | _ :: _, [], _, h => by cases h
  | n :: ns, d :: ds, ps, ⟨g, t, cs, fuel, p, q, h1, h2, h3, h4, hs, e⟩ => ⟨g, t, cs, fuel, p, q ++ ps', h1, h2, h3, h4, vars_app k ns ds q hs, by rw [e]; simp only [List.append_assoc]⟩
end

abbrev threeN : List String := ["loop.example/g03011/impl.errNoText", "loop.example/g03011/impl.errNoNumber", "loop.example/g03011/impl.errorNames"]
/-- Three readings; and they stay. -/
theorem three {H : Type} {enc : TypeId × Value → H} {W W' : World} {gs : List (DataW H)} {q : List MemPlace} (hV : DataW.TrodVars enc Tryz.prog W (fun _ => true) threeN gs q) (hE : OpE W) :
    (∃ d1 d2 d3, gs = [d1, d2, d3]) ∧ (Below W.heap.size W W' → DataW.TrodVars enc Tryz.prog W' (fun b => decide (b < W.heap.size)) threeN gs q) := by
  obtain ⟨-, -, ⟨a, ha⟩, ⟨b, hb⟩⟩ := hE
  match gs, hV with
  | [d1, d2, d3], ⟨g1, t1, c1, f1, p1, q1, e1, e2, e3, e4, ⟨g2, t2, c2, f2, p2, q2, u1, u2, u3, u4, hE3, i2⟩, i1⟩ =>
    refine ⟨⟨_, _, _, rfl⟩, fun hbel => ?_⟩
    have hlt := hE3.lt
    have h2 : DataW.TrodVars enc Tryz.prog W (fun _ => true) ["loop.example/g03011/impl.errNoText", "loop.example/g03011/impl.errNoNumber"] [d1, d2] (MemPlace.row ⟨g1, 0, none⟩ c1.size ++ p1 ++ (MemPlace.row ⟨g2, 0, none⟩ c2.size ++ p2 ++ [])) :=
      ⟨g1, t1, c1, f1, p1, _, e1, e2, e3, e4, ⟨g2, t2, c2, f2, p2, [], u1, u2, u3, u4, rfl, rfl⟩, rfl⟩
    obtain ⟨ud, up⟩ := h2.unique (readTN enc ha hb _)
    have h2' := readTN enc (ha.stays hbel) (hb.stays hbel) (fun b => decide (b < W.heap.size))
    rw [← ud, ← up] at h2'
    have h3 := opn.vars_stay (enc := enc) (P := Tryz.prog) (by kernel_rfl) hbel _ _ _ (fun n hn g t h1 h2 => by
      have hn : n = "loop.example/g03011/impl.errorNames" := by simpa using hn
      subst hn
      obtain rfl := Option.some.inj (errs.gTab.symm.trans h1)
      obtain rfl := Option.some.inj (errs.tTab.symm.trans h2)
      exact ⟨by kernel_rfl, of_decide_eq_true (by kernel_rfl)⟩) hlt hE3
    have := vars_app h3 _ _ _ h2'
    rw [i1, i2]
    simpa only [List.cons_append, List.nil_append, List.append_assoc, List.append_nil] using this

end Go.Proofs.YtdglmnmalfpipaaGreatDoor.ers

