/-
  Values as trees: how a value that came in, or that a call has made, lies in memory.
  Conditions: those that each theorem names.
-/
import Derived.Test.YteoilhbidnnneaaDoorMem
import Derived.Deep.Fields
import Derived.ChangeArms
import Derived.OpenShut
namespace Go.Proofs.YteoilhbidnnneaaDoor.tree
open Go.ChangeShapes Go.WideShapes Go.RowKit Go.Deep
set_option linter.unusedVariables false

structure Ky where
  text : Bool
  num : Int
  str : ByteArray
inductive Tr where
  | mk (kind num : Int) (str : ByteArray) (next : Int) (keys : List Ky) (vals : List Tr)

theorem Tr.ind {p : Tr → Prop} (h : ∀ k n s x ks vs, (∀ t ∈ vs, p t) → p (.mk k n s x ks vs)) : ∀ t, p t
  | .mk k n s x ks vs => h k n s x ks vs fun t ht => Tr.ind h t
termination_by t => SizeOf.sizeOf t
decreasing_by
  have := List.sizeOf_lt_of_mem ht
  simp
  omega

def I64 (n : Int) : Prop := -9223372036854775808 ≤ n ∧ n ≤ 9223372036854775807
/-- A key's three cells. -/
def KyAt (w : World) (a : Addr) (i : Nat) (k : Ky) : Prop :=
  w.cell? (a.add (8 * i)) = some (.bool k.text) ∧ w.cell? (a.add (8 * i + 1)) = some (.int .i64 k.num) ∧ w.cell? (a.add (8 * i + 2)) = some (.string k.str) ∧ I64 k.num ∧ k.str.size ≤ maxLen

/-- The value v, a struct of five cells, is the tree. -/
inductive TIn (w : World) (S : Nat → Prop) : Tr → Value → Prop
  | mk (k n : Int) (s : ByteArray) (x : Int) (ks : List Ky) (vs : List Tr) (A : Option Addr) (cap : Nat) (C : Nat → Array Value)
      (hk : I64 k ∧ I64 n ∧ I64 x ∧ s.size ≤ maxLen) (hl : ks.length = vs.length) (hm : vs.length ≤ maxLen) (hcap : vs.length ≤ cap ∧ cap ≤ maxLen)
      (hc : ∀ (i : Nat) (hi : i < vs.length), ∃ a, A = some a ∧ S a.block ∧ KyAt w a i (ks[i]'(hl ▸ hi)) ∧ (C i).size = 5 ∧ ∀ j, j < 5 → w.cell? (a.add (8 * i + (3 + j))) = (C i)[j]?)
      (ht : ∀ (i : Nat) (hi : i < vs.length), TIn w S (vs[i]) (.agg (C i))) :
      TIn w S (.mk k n s x ks vs) (.agg #[.int .i64 k, .int .i64 n, .string s, .int .i64 x, .slice A vs.length cap])

theorem add_add' (a : Addr) (i j : Nat) : (a.add i).add j = a.add (i + j) := mem.add_add a i j

theorem cell_stays {w w' : World} {a : Addr} {u : Value} (hb : a.block < w.heap.size → w'.heap[a.block]? = w.heap[a.block]?) (hu : w.cell? a = some u) : w'.cell? a = some u := by
  have hbk := hb (World.block_lt_of_cell? _ _ hu)
  unfold World.cell? at hu ⊢
  rw [hbk]
  exact hu
theorem KyAt.stays {w w' : World} {a : Addr} {i : Nat} {k : Ky} (hb : a.block < w.heap.size → w'.heap[a.block]? = w.heap[a.block]?) (h : KyAt w a i k) : KyAt w' a i k := by
  obtain ⟨h0, h1, h2, h3, h4⟩ := h
  have e : ∀ j, (a.add j).block = a.block := mem.add_block a
  exact ⟨cell_stays (by rw [e]; exact hb) h0, cell_stays (by rw [e]; exact hb) h1, cell_stays (by rw [e]; exact hb) h2, h3, h4⟩
/-- What was there stays. -/
theorem TIn.stays {w w' : World} {S S' : Nat → Prop} (hS : ∀ b, S b → S' b) (hb : ∀ b, S b → b < w.heap.size → w'.heap[b]? = w.heap[b]?) {t : Tr} {v : Value} (h : TIn w S t v) : TIn w' S' t v := by
  induction h with
  | mk k n s x ks vs A cap C hk hl hm hcap hc ht ih =>
    refine .mk k n s x ks vs A cap C hk hl hm hcap (fun i hi => ?_) ih
    obtain ⟨a, ha, hSa, hky, hs, hj⟩ := hc i hi
    refine ⟨a, ha, hS _ hSa, hky.stays (hb _ hSa), hs, fun j hj5 => ?_⟩
    have := hj j hj5
    rw [Array.getElem?_eq_getElem (by omega)] at this ⊢
    exact cell_stays (by rw [mem.add_block]; exact hb _ hSa) this

/-- The items at A. -/
def IsIn (w : World) (S : Nat → Prop) (ks : List Ky) (vs : List Tr) (A : Option Addr) : Prop :=
  ∃ hl : ks.length = vs.length, vs.length ≤ maxLen ∧ ∃ C : Nat → Array Value,
    (∀ (i : Nat) (hi : i < vs.length), ∃ a, A = some a ∧ S a.block ∧ KyAt w a i (ks[i]'(hl ▸ hi)) ∧ (C i).size = 5 ∧ ∀ j, j < 5 → w.cell? (a.add (8 * i + (3 + j))) = (C i)[j]?) ∧
    ∀ (i : Nat) (hi : i < vs.length), TIn w S (vs[i]) (.agg (C i))
theorem TIn.of {w : World} {S : Nat → Prop} {k n x : Int} {s : ByteArray} {ks : List Ky} {vs : List Tr} {A : Option Addr} (cap : Nat) (hk : I64 k ∧ I64 n ∧ I64 x ∧ s.size ≤ maxLen) (h : IsIn w S ks vs A) (hcap : vs.length ≤ cap ∧ cap ≤ maxLen) :
    TIn w S (.mk k n s x ks vs) (.agg #[.int .i64 k, .int .i64 n, .string s, .int .i64 x, .slice A vs.length cap]) := by
  obtain ⟨hl, hm, C, hc, ht⟩ := h
  exact .mk k n s x ks vs A cap C hk hl hm hcap hc ht
theorem TIn.out {w : World} {S : Nat → Prop} {k n x : Int} {s : ByteArray} {ks : List Ky} {vs : List Tr} {v : Value} (h : TIn w S (.mk k n s x ks vs) v) :
    ∃ A cap, v = .agg #[.int .i64 k, .int .i64 n, .string s, .int .i64 x, .slice A vs.length cap] ∧ (I64 k ∧ I64 n ∧ I64 x ∧ s.size ≤ maxLen) ∧ IsIn w S ks vs A := by
  cases h with
  | mk _ _ _ _ _ _ A cap C hk hl hm hcap hc ht => exact ⟨A, cap, rfl, hk, hl, hm, C, hc, ht⟩
theorem TIn.cap {w : World} {S : Nat → Prop} {k n x k' n' x' : Int} {s s' : ByteArray} {ks : List Ky} {vs : List Tr} {A : Option Addr} {L c : Nat} (h : TIn w S (.mk k n s x ks vs) (.agg #[.int .i64 k', .int .i64 n', .string s', .int .i64 x', .slice A L c])) : L ≤ c ∧ c ≤ maxLen := by
  cases h with
  | mk _ _ _ _ _ _ A cap C hk hl hm hcap hc ht => exact hcap
theorem IsIn.stays {w w' : World} {S S' : Nat → Prop} (hS : ∀ b, S b → S' b) (hb : ∀ b, S b → b < w.heap.size → w'.heap[b]? = w.heap[b]?) {ks : List Ky} {vs : List Tr} {A : Option Addr} (h : IsIn w S ks vs A) : IsIn w' S' ks vs A := by
  obtain ⟨hl, hm, C, hc, ht⟩ := h
  refine ⟨hl, hm, C, fun i hi => ?_, fun i hi => (ht i hi).stays hS hb⟩
  obtain ⟨a, ha, hSa, hky, hs, hj⟩ := hc i hi
  refine ⟨a, ha, hS _ hSa, hky.stays (hb _ hSa), hs, fun j hj5 => ?_⟩
  have := hj j hj5
  rw [Array.getElem?_eq_getElem (by omega)] at this ⊢
  exact cell_stays (by rw [mem.add_block]; exact hb _ hSa) this
theorem IsIn.below {w w' : World} (hb : Below w.heap.size w w') {S : Nat → Prop} {ks : List Ky} {vs : List Tr} {A : Option Addr} (h : IsIn w S ks vs A) : IsIn w' S ks vs A := h.stays (fun _ h => h) (fun b _ hlt => hb.block b hlt)
theorem TIn.below' {w w' : World} (hb : Below w.heap.size w w') {S : Nat → Prop} {t : Tr} {v : Value} (h : TIn w S t v) : TIn w' S t v := h.stays (fun _ h => h) (fun b _ hlt => hb.block b hlt)

section
variable {H : Type} {enc : TypeId × Value → H} {P : Program} {w : World} {base : Nat} {spare : Nat → Bool} {held : Bool}

theorem wf_i64 {n : Int} (h : (Lit.int .i64 n).wf = true) : I64 n := by
  have e1 : IntKind.i64.min = -9223372036854775808 := rfl
  have e2 : IntKind.i64.max = 9223372036854775807 := rfl
  simp [Lit.wf, e1, e2] at h
  exact h

/-- The types of a value, of an item and of a key. -/
structure Types (P : Program) (tV tE tK tS : TypeId) : Prop where
  value : ∃ f0 f1 f2 f3 f4 : Field, P.underlying tV = some (.struct #[f0, f1, f2, f3, f4]) ∧ P.underlying f0.type = some (.int .i64) ∧ P.underlying f1.type = some (.int .i64) ∧ P.underlying f2.type = some .string ∧ P.underlying f3.type = some (.int .i64) ∧ f4.type = tS ∧ oneCellFields P #[f0, f1, f2, f3, f4] = true
  items : P.underlying tS = some (.slice tE)
  item : ∃ f0 f1 : Field, P.underlying tE = some (.struct #[f0, f1]) ∧ f0.type = tK ∧ f1.type = tV ∧ f0.offset = 0 ∧ f1.offset = 3
  key : ∃ f0 f1 f2 : Field, P.underlying tK = some (.struct #[f0, f1, f2]) ∧ P.underlying f0.type = some .bool ∧ P.underlying f1.type = some (.int .i64) ∧ P.underlying f2.type = some .string ∧ oneCellFields P #[f0, f1, f2] = true
  cV : P.cellsOf tV = 5
  cE : P.cellsOf tE = 8
  cK : P.cellsOf tK = 3

theorem one_of {cs : List Value} {f : Field} {j : Nat} (hc : P.cellsOf f.type = 1) (ho : f.offset = j) (hj : j < cs.length) : (cs.drop f.offset).take (P.cellsOf f.type) = [cs[j]] := by
  rw [hc, ho, List.drop_eq_getElem_cons hj]; rfl

theorem open_key {tV tE tK tS : TypeId} (T : Types P tV tE tK tS) {fuel : Nat} {cs : List Value} {x : DataW H × List MemPlace} (h : DataW.trod enc P w base spare held fuel tK cs = some x) :
    ∃ k : Ky, cs = [.bool k.text, .int .i64 k.num, .string k.str] ∧ I64 k.num ∧ k.str.size ≤ maxLen := by
  obtain ⟨f0, f1, f2, hu, h0, h1, h2, hone⟩ := T.key
  obtain ⟨xs, n, rfl, hx, hl, hxl, hall⟩ := DataW.trod_struct hu h
  rw [T.cK] at hl
  match cs, hl with
  | [c0, c1, c2], _ =>
    obtain ⟨o0, k0⟩ := hone_of hone 0 f0 rfl
    obtain ⟨o1, k1⟩ := hone_of hone 1 f1 rfl
    obtain ⟨o2, k2⟩ := hone_of hone 2 f2 rfl
    have e0 := hall 0 f0 rfl
    have e1 := hall 1 f1 rfl
    have e2 := hall 2 f2 rfl
    rw [one_of k0 o0 (by simp)] at e0
    rw [one_of k1 o1 (by simp)] at e1
    rw [one_of k2 o2 (by simp)] at e2
    have l0 : xs[0]? = some (xs[0]'(by simp at hxl; omega)) := List.getElem?_eq_getElem _
    have l1 : xs[1]? = some (xs[1]'(by simp at hxl; omega)) := List.getElem?_eq_getElem _
    have l2 : xs[2]? = some (xs[2]'(by simp at hxl; omega)) := List.getElem?_eq_getElem _
    obtain ⟨b, hb, _⟩ := DataW.trod_bool h0 (e0.trans l0)
    obtain ⟨m, hm, _, hw⟩ := DataW.trod_int h1 (e1.trans l1)
    obtain ⟨s, hs, _, hz⟩ := DataW.trod_string h2 (e2.trans l2)
    simp at hb hm hs
    exact ⟨⟨b, m, s⟩, by rw [hb, hm, hs], wf_i64 hw, hz⟩

theorem open_tree {tV tE tK tS : TypeId} (T : Types P tV tE tK tS) : ∀ (fuel : Nat) (cs : List Value) (x : DataW H × List MemPlace), DataW.trod enc P w base spare held fuel tV cs = some x → ∃ t, TIn w (fun _ => True) t (.agg cs.toArray) := by
  intro fuel
  induction fuel using Nat.strongRecOn with
  | _ fuel ih =>
    intro cs x h
    obtain ⟨f0, f1, f2, f3, f4, hu, h0, h1, h2, h3, h4, hone⟩ := T.value
    obtain ⟨xs, n, hn, hx, hl, hxl, hall⟩ := DataW.trod_struct hu h
    rw [T.cV] at hl
    match cs, hl with
    | [c0, c1, c2, c3, c4], _ =>
      obtain ⟨o0, k0⟩ := hone_of hone 0 f0 rfl
      obtain ⟨o1, k1⟩ := hone_of hone 1 f1 rfl
      obtain ⟨o2, k2⟩ := hone_of hone 2 f2 rfl
      obtain ⟨o3, k3⟩ := hone_of hone 3 f3 rfl
      obtain ⟨o4, k4⟩ := hone_of hone 4 f4 rfl
      have hxl5 : xs.length = 5 := hxl
      have e0 := hall 0 f0 rfl
      have e1 := hall 1 f1 rfl
      have e2 := hall 2 f2 rfl
      have e3 := hall 3 f3 rfl
      have e4 := hall 4 f4 rfl
      rw [one_of k0 o0 (by simp)] at e0
      rw [one_of k1 o1 (by simp)] at e1
      rw [one_of k2 o2 (by simp)] at e2
      rw [one_of k3 o3 (by simp)] at e3
      rw [one_of k4 o4 (by simp)] at e4
      obtain ⟨m0, hm0, _, hw0⟩ := DataW.trod_int h0 (e0.trans (List.getElem?_eq_getElem (by omega)))
      obtain ⟨m1, hm1, _, hw1⟩ := DataW.trod_int h1 (e1.trans (List.getElem?_eq_getElem (by omega)))
      obtain ⟨s, hs, _, hz⟩ := DataW.trod_string h2 (e2.trans (List.getElem?_eq_getElem (by omega)))
      obtain ⟨m3, hm3, _, hw3⟩ := DataW.trod_int h3 (e3.trans (List.getElem?_eq_getElem (by omega)))
      rw [h4] at e4
      simp at hm0 hm1 hs hm3
      subst hm0 hm1 hs hm3
      have hk : I64 m0 ∧ I64 m1 ∧ I64 m3 ∧ s.size ≤ maxLen := ⟨wf_i64 hw0, wf_i64 hw1, wf_i64 hw3, hz⟩
      rcases DataW.trod_slice T.items (e4.trans (List.getElem?_eq_getElem (by omega))) with ⟨hc4, _⟩ | ⟨a, len, cap, elems, rest, m, hfm, hc4, _, hbs, hlc, hcm, hel, hat, _⟩
      · simp at hc4
        subst hc4
        exact ⟨.mk m0 m1 s m3 [] [], .mk m0 m1 s m3 [] [] none 0 (fun _ => #[]) hk rfl (by simp) ⟨by simp, by simp⟩ (fun i hi => absurd hi (by simp)) (fun i hi => absurd hi (by simp))⟩
      · simp at hc4
        subst hc4
        -- each item
        have each : ∀ i, i < len → ∃ (k : Ky) (t : Tr) (C : Array Value), KyAt w a i k ∧ C.size = 5 ∧ (∀ j, j < 5 → w.cell? (a.add (8 * i + (3 + j))) = C[j]?) ∧ TIn w (fun _ => True) t (.agg C) := by
          intro i hi
          have hi2 := hat i hi
          rw [List.getElem?_eq_getElem (by omega)] at hi2
          obtain ⟨cs', hcs, htr⟩ := Option.bind_eq_some_iff.1 hi2
          rw [T.cE] at hcs
          obtain ⟨_, hcl, hcat⟩ := World.cells?_some hcs
          obtain ⟨g0, g1, hue, hg0, hg1, q0, q1⟩ := T.item
          obtain ⟨ys, n2, hn2, hy, hl2, hyl, hall2⟩ := DataW.trod_struct hue htr
          have hyl2 : ys.length = 2 := hyl
          match cs', hcl with
          | [d0, d1, d2, d3, d4, d5, d6, d7], _ =>
            have r0 := hall2 0 g0 rfl
            have r1 := hall2 1 g1 rfl
            rw [hg0, q0, T.cK] at r0
            rw [hg1, q1, T.cV] at r1
            obtain ⟨k, hk3, hkn, hks⟩ := open_key T (r0.trans (List.getElem?_eq_getElem (by omega)))
            obtain ⟨t, ht⟩ := ih n2 (by omega) _ _ (r1.trans (List.getElem?_eq_getElem (by omega)))
            simp at hk3
            obtain ⟨rfl, rfl, rfl⟩ := hk3
            have at' : ∀ j, j < 8 → w.cell? (a.add (8 * i + j)) = ([.bool k.text, .int .i64 k.num, .string k.str, d3, d4, d5, d6, d7] : List Value)[j]? := fun j hj => by
              have := hcat j hj
              rwa [add_add', Nat.mul_comm] at this
            refine ⟨k, t, #[d3, d4, d5, d6, d7], ⟨at' 0 (by omega), at' 1 (by omega), at' 2 (by omega), hkn, hks⟩, rfl, fun j hj => ?_, ht⟩
            rw [at' (3 + j) (by omega)]
            match j, hj with
            | 0, _ => rfl
            | 1, _ => rfl
            | 2, _ => rfl
            | 3, _ => rfl
            | 4, _ => rfl
        have pick : ∃ (K : Nat → Ky) (V : Nat → Tr) (C : Nat → Array Value), ∀ i, i < len → KyAt w a i (K i) ∧ (C i).size = 5 ∧ (∀ j, j < 5 → w.cell? (a.add (8 * i + (3 + j))) = (C i)[j]?) ∧ TIn w (fun _ => True) (V i) (.agg (C i)) := by
          refine ⟨fun i => if hi : i < len then (each i hi).choose else ⟨false, 0, ⟨#[]⟩⟩, fun i => if hi : i < len then (each i hi).choose_spec.choose else .mk 0 0 ⟨#[]⟩ 0 [] [], fun i => if hi : i < len then (each i hi).choose_spec.choose_spec.choose else #[], fun i hi => ?_⟩
          simp only [dif_pos hi]
          exact (each i hi).choose_spec.choose_spec.choose_spec
        obtain ⟨K, V, C, hp⟩ := pick
        have hVl : ((List.range len).map V).length = len := by simp
        refine ⟨.mk m0 m1 s m3 ((List.range len).map K) ((List.range len).map V), ?_⟩
        have main := TIn.mk (w := w) (S := fun _ => True) m0 m1 s m3 ((List.range len).map K) ((List.range len).map V) (some a) cap C hk (by simp) (by rw [hVl]; omega) (by rw [hVl]; exact ⟨hlc, hcm⟩) (fun i hi => ⟨a, rfl, trivial, by
            have hi' : i < len := by simpa using hi
            simp only [List.getElem_map, List.getElem_range]
            exact (hp i hi').1, (hp i (by simpa using hi)).2.1, (hp i (by simpa using hi)).2.2.1⟩) (fun i hi => by
            have hi' : i < len := by simpa using hi
            simp only [List.getElem_map, List.getElem_range]
            exact (hp i hi').2.2.2)
        rw [hVl] at main
        exact main
end

end Go.Proofs.YteoilhbidnnneaaDoor.tree
