/-
  Values whose lists lie each in a block of its own: every block knows where it hangs, so that no two lists of one value share memory.
  Conditions: those that each theorem names.
-/
import Derived.Test.YtbgffmiffmmohaaGreatDoorHcSTreeCp
import Derived.Test.YtbgffmiffmmohaaGreatDoorHcB2
namespace Go.Proofs.YtbgffmiffmmohaaGreatDoor.tree
open Go.ChangeShapes Go.WideShapes Go.ChangeAt Go.RowKit
set_option linter.unusedVariables false

/-- The eight cells of item i of a row. -/
def At8r (arr : Array Value) (i : Nat) (y : Ky) (k n : Int) (s : ByteArray) (x : Int) (A : Option Addr) (L c : Nat) : Prop := ∀ q, q < 8 → arr[i * 8 + q]? = (eV y k n s x A L c).cells[q]?

/-- The value is the tree; its lists lie in blocks of their own, and par says of each block in which block and at which item it hangs. -/
inductive TPar (w : World) (par : Nat → Nat × Nat) : Nat × Nat → Tr → Value → Prop
  | mk (here : Nat × Nat) (k n : Int) (s : ByteArray) (x : Int) (ks : List Ky) (vs : List Tr) (A : Option Addr) (cap g : Nat) (arr : Array Value)
      (K N X : Nat → Int) (Z : Nat → ByteArray) (D : Nat → Option Addr) (H : Nat → Nat)
      (hk : I64 k ∧ I64 n ∧ I64 x ∧ s.size ≤ maxLen) (hl : ks.length = vs.length) (hm : vs.length ≤ maxLen) (hcap : vs.length ≤ cap ∧ cap ≤ maxLen)
      (hg : 0 < vs.length → A = some ⟨g, 0, none⟩ ∧ par g = here ∧ here.1 < g ∧ w.heap[g]? = some (.cells arr IE (0, 0)) ∧ vs.length * 8 ≤ arr.size)
      (hc : ∀ (i : Nat) (hi : i < vs.length), (I64 (ks[i]'(hl ▸ hi)).num ∧ (ks[i]'(hl ▸ hi)).str.size ≤ maxLen) ∧ ∃ L, At8r arr i (ks[i]'(hl ▸ hi)) (K i) (N i) (Z i) (X i) (D i) L (H i))
      (ht : ∀ (i : Nat) (hi : i < vs.length), ∀ L, At8r arr i (ks[i]'(hl ▸ hi)) (K i) (N i) (Z i) (X i) (D i) L (H i) → TPar w par (g, i) (vs[i]) (vV (K i) (N i) (Z i) (X i) (D i) L (H i))) :
      TPar w par here (.mk k n s x ks vs) (vV k n s x A vs.length cap)

/-- A row of items in block g, each of which is its tree. -/
def PBlk (w : World) (par : Nat → Nat × Nat) (g : Nat) (ks : List Ky) (vs : List Tr) : Prop :=
  ∃ arr, w.heap[g]? = some (.cells arr IE (0, 0)) ∧ vs.length * 8 ≤ arr.size ∧ ∀ i, i < vs.length → ∃ y k n s x ks' vs' A c, ks[i]? = some y ∧ vs[i]? = some (.mk k n s x ks' vs') ∧ (I64 y.num ∧ y.str.size ≤ maxLen) ∧
    At8r arr i y k n s x A vs'.length c ∧ TPar w par (g, i) (.mk k n s x ks' vs') (vV k n s x A vs'.length c)

theorem at8r_inj {arr : Array Value} {i : Nat} {y y' : Ky} {k n x k' n' x' : Int} {s s' : ByteArray} {A A' : Option Addr} {L L' c c' : Nat} (h : At8r arr i y k n s x A L c) (h' : At8r arr i y' k' n' s' x' A' L' c') :
    y = y' ∧ k = k' ∧ n = n' ∧ s = s' ∧ x = x' ∧ A = A' ∧ L = L' ∧ c = c' := by
  have e : ∀ q, q < 8 → (eV y k n s x A L c).cells[q]? = (eV y' k' n' s' x' A' L' c').cells[q]? := fun q hq => (h q hq).symm.trans (h' q hq)
  have e0 := e 0 (by omega)
  have e1 := e 1 (by omega)
  have e2 := e 2 (by omega)
  have e3 := e 3 (by omega)
  have e4 := e 4 (by omega)
  have e5 := e 5 (by omega)
  have e6 := e 6 (by omega)
  have e7 := e 7 (by omega)
  obtain ⟨yt, yn, ys⟩ := y
  obtain ⟨yt', yn', ys'⟩ := y'
  simp [Value.cells] at e0 e1 e2 e3 e4 e5 e6 e7
  obtain ⟨rfl, rfl, rfl⟩ := e7
  subst e0 e1 e2 e3 e4 e5 e6
  exact ⟨rfl, rfl, rfl, rfl, rfl, rfl, rfl, rfl⟩

section
variable {w w' : World} {par : Nat → Nat × Nat} {here : Nat × Nat}

theorem TPar.out {k n x : Int} {s : ByteArray} {ks : List Ky} {vs : List Tr} {v : Value} (h : TPar w par here (.mk k n s x ks vs) v) :
    ∃ A c, v = vV k n s x A vs.length c ∧ (I64 k ∧ I64 n ∧ I64 x ∧ s.size ≤ maxLen) ∧ ks.length = vs.length ∧ (vs.length ≤ c ∧ c ≤ maxLen) ∧ (0 < vs.length → ∃ g, A = some ⟨g, 0, none⟩ ∧ par g = here ∧ here.1 < g ∧ PBlk w par g ks vs) := by
  cases h with
  | mk _ _ _ _ _ _ _ A cap g arr K N X Z D H hk hl hm hcap hg hc ht =>
    refine ⟨A, cap, rfl, hk, hl, hcap, fun h0 => ?_⟩
    obtain ⟨hA, hp, hlt, hb, hs⟩ := hg h0
    refine ⟨g, hA, hp, hlt, arr, hb, hs, fun i hi => ?_⟩
    obtain ⟨hy, L, hL⟩ := hc i hi
    have h := ht i hi L hL
    generalize hv : vs[i] = t at h
    obtain ⟨k', n', s', x', ks', vs'⟩ := t
    cases h with
    | mk _ _ _ _ _ _ _ A' cap' g' arr' K' N' X' Z' D' H' hk' hl' hm' hcap' hg' hc' ht' =>
      exact ⟨_, _, _, _, _, ks', vs', _, _, List.getElem?_eq_getElem _, by rw [List.getElem?_eq_getElem hi, hv], hy, hL, .mk _ _ _ _ _ _ _ _ _ _ _ K' N' X' Z' D' H' hk' hl' hm' hcap' hg' hc' ht'⟩

theorem TPar.of {k n x : Int} {s : ByteArray} {ks : List Ky} {vs : List Tr} {A : Option Addr} {c : Nat} (hk : I64 k ∧ I64 n ∧ I64 x ∧ s.size ≤ maxLen) (hl : ks.length = vs.length) (hcap : vs.length ≤ c ∧ c ≤ maxLen)
    (h : 0 < vs.length → ∃ g, A = some ⟨g, 0, none⟩ ∧ par g = here ∧ here.1 < g ∧ PBlk w par g ks vs) : TPar w par here (.mk k n s x ks vs) (vV k n s x A vs.length c) := by
  by_cases h0 : 0 < vs.length
  · obtain ⟨g, hA, hp, hlt, arr, hb, hs, hi⟩ := h h0
    have pick : ∃ (K N X : Nat → Int) (Z : Nat → ByteArray) (D : Nat → Option Addr) (H : Nat → Nat), ∀ (i : Nat) (hi : i < vs.length), (I64 (ks[i]'(hl ▸ hi)).num ∧ (ks[i]'(hl ▸ hi)).str.size ≤ maxLen) ∧ ∃ L, At8r arr i (ks[i]'(hl ▸ hi)) (K i) (N i) (Z i) (X i) (D i) L (H i) ∧ TPar w par (g, i) (vs[i]) (vV (K i) (N i) (Z i) (X i) (D i) L (H i)) := by
      have each : ∀ i, ∃ (K N X : Int) (Z : ByteArray) (D : Option Addr) (H : Nat), ∀ (hi : i < vs.length), (I64 (ks[i]'(hl ▸ hi)).num ∧ (ks[i]'(hl ▸ hi)).str.size ≤ maxLen) ∧ ∃ L, At8r arr i (ks[i]'(hl ▸ hi)) K N Z X D L H ∧ TPar w par (g, i) (vs[i]) (vV K N Z X D L H) := by
        intro i
        by_cases hlt : i < vs.length
        · obtain ⟨y, k', n', s', x', ks', vs', A', c', hy, ht, hyb, hc, htp⟩ := hi i hlt
          have ey : ks[i]'(hl ▸ hlt) = y := by rw [List.getElem?_eq_getElem (hl ▸ hlt)] at hy; exact Option.some.inj hy
          have et : vs[i] = .mk k' n' s' x' ks' vs' := by rw [List.getElem?_eq_getElem hlt] at ht; exact Option.some.inj ht
          exact ⟨k', n', x', s', A', c', fun _ => by rw [ey, et]; exact ⟨hyb, _, hc, htp⟩⟩
        · exact ⟨0, 0, 0, ⟨#[]⟩, none, 0, fun h => absurd h hlt⟩
      refine ⟨fun i => (each i).choose, fun i => (each i).choose_spec.choose, fun i => (each i).choose_spec.choose_spec.choose, fun i => (each i).choose_spec.choose_spec.choose_spec.choose, fun i => (each i).choose_spec.choose_spec.choose_spec.choose_spec.choose, fun i => (each i).choose_spec.choose_spec.choose_spec.choose_spec.choose_spec.choose, fun i hi => ?_⟩
      exact (each i).choose_spec.choose_spec.choose_spec.choose_spec.choose_spec.choose_spec hi
    obtain ⟨K, N, X, Z, D, H, hp2⟩ := pick
    refine .mk here k n s x ks vs A c g arr K N X Z D H hk hl (by omega) hcap (fun _ => ⟨hA, hp, hlt, hb, hs⟩) (fun i hi => ⟨(hp2 i hi).1, ?_⟩) (fun i hi L hL => ?_)
    · obtain ⟨L, h1, _⟩ := (hp2 i hi).2
      exact ⟨L, h1⟩
    · obtain ⟨L', h1, h2⟩ := (hp2 i hi).2
      obtain ⟨-, -, -, -, -, -, rfl, -⟩ := at8r_inj hL h1
      exact h2
  · exact .mk here k n s x ks vs A c 0 #[] (fun _ => 0) (fun _ => 0) (fun _ => 0) (fun _ => ⟨#[]⟩) (fun _ => none) (fun _ => 0) hk hl (by omega) hcap (fun h => absurd h h0) (fun i hi => absurd hi (by omega)) (fun i hi => absurd hi (by omega))

/-- The blocks that hang, over others or not, at item h.2 of block h.1. -/
inductive Hang (par : Nat → Nat × Nat) (h : Nat × Nat) : Nat → Prop
  | root (b : Nat) (e : par b = h) (hlt : h.1 < b) : Hang par h b
  | step (b g i : Nat) (e : par b = (g, i)) (hlt : g < b) (hh : Hang par h g) : Hang par h b
theorem Hang.gt {b : Nat} (h : Hang par here b) : here.1 < b := by
  induction h with
  | root b e hlt => exact hlt
  | step b g i e hlt hh ih => omega
theorem Hang.sub {g i b : Nat} (h : Hang par (g, i) b) (hp : par g = here) (hlt : here.1 < g) : Hang par here b := by
  induction h with
  | root b e hlt' => exact .step b g i e hlt' (.root g hp hlt)
  | step b g' i' e hlt' hh ih => exact .step b g' i' e hlt' ih
theorem Hang.disj {g i j b : Nat} (h : Hang par (g, i) b) (h' : Hang par (g, j) b) : i = j := by
  induction h with
  | root b e hlt =>
    cases h' with
    | root _ e' _ => rw [e] at e'; injection e'
    | step _ g' i' e' hlt' hh => rw [e] at e'; injection e' with e1 e2; subst e1; have := hh.gt; simp at this
  | step b g' i' e hlt hh ih =>
    cases h' with
    | root _ e' _ => rw [e] at e'; injection e' with e1 e2; subst e1; have := hh.gt; simp at this
    | step _ g2 i2 e' hlt' hh' => rw [e] at e'; injection e' with e1 e2; subst e1; exact ih hh'

/-- What hangs there stays. -/
theorem TPar.stays {t : Tr} {v : Value} (h : TPar w par here t v) (hs : ∀ b, Hang par here b → w'.heap[b]? = w.heap[b]?) : TPar w' par here t v := by
  induction h with
  | mk here k n s x ks vs A cap g arr K N X Z D H hk hl hm hcap hg hc ht ih =>
    by_cases h0 : 0 < vs.length
    · obtain ⟨hA, hp, hlt, hb, hs2⟩ := hg h0
      refine .mk here k n s x ks vs A cap g arr K N X Z D H hk hl hm hcap (fun _ => ⟨hA, hp, hlt, (hs g (.root g hp hlt)).trans hb, hs2⟩) hc (fun i hi L hL => ih i hi L hL fun b hb => hs b (hb.sub hp hlt))
    · exact .mk here k n s x ks vs A cap g arr K N X Z D H hk hl hm hcap (fun h => absurd h h0) hc (fun i hi => absurd hi (by omega))
/-- .. and what hangs there exists. -/
theorem TPar.above {t : Tr} {v : Value} (h : TPar w par here t v) (hs : ∀ b, here.1 < b → b < w.heap.size → w'.heap[b]? = w.heap[b]?) : TPar w' par here t v := by
  induction h with
  | mk here k n s x ks vs A cap g arr K N X Z D H hk hl hm hcap hg hc ht ih =>
    by_cases h0 : 0 < vs.length
    · obtain ⟨hA, hp, hlt, hb, hs2⟩ := hg h0
      refine .mk here k n s x ks vs A cap g arr K N X Z D H hk hl hm hcap (fun _ => ⟨hA, hp, hlt, (hs g hlt (Array.getElem?_eq_some_iff.1 hb).1).trans hb, hs2⟩) hc (fun i hi L hL => ih i hi L hL fun b hb hb' => hs b (Nat.lt_trans hlt hb) hb')
    · exact .mk here k n s x ks vs A cap g arr K N X Z D H hk hl hm hcap (fun h => absurd h h0) hc (fun i hi => absurd hi (by omega))
/-- par matters for the blocks that are there alone. -/
theorem TPar.par_ {par' : Nat → Nat × Nat} {t : Tr} {v : Value} (h : TPar w par here t v) (hs : ∀ b, b < w.heap.size → par' b = par b) : TPar w par' here t v := by
  induction h with
  | mk here k n s x ks vs A cap g arr K N X Z D H hk hl hm hcap hg hc ht ih =>
    by_cases h0 : 0 < vs.length
    · obtain ⟨hA, hp, hlt, hb, hs2⟩ := hg h0
      refine .mk here k n s x ks vs A cap g arr K N X Z D H hk hl hm hcap (fun _ => ⟨hA, (hs g (Array.getElem?_eq_some_iff.1 hb).1).trans hp, hlt, hb, hs2⟩) hc ih
    · exact .mk here k n s x ks vs A cap g arr K N X Z D H hk hl hm hcap (fun h => absurd h h0) hc (fun i hi => absurd hi (by omega))
/-- Other words at the head. -/
theorem TPar.head {k n x k' n' x' : Int} {s s' : ByteArray} {ks : List Ky} {vs : List Tr} {A : Option Addr} {L c : Nat} (h : TPar w par here (.mk k n s x ks vs) (vV k n s x A L c)) (hk : I64 k' ∧ I64 n' ∧ I64 x' ∧ s'.size ≤ maxLen) :
    TPar w par here (.mk k' n' s' x' ks vs) (vV k' n' s' x' A L c) := by
  obtain ⟨A', c', e, -, h2, h3, h4⟩ := h.out
  simp [vV] at e
  obtain ⟨rfl, rfl, rfl⟩ := e
  exact TPar.of hk h2 h3 h4

theorem TPar.tin {t : Tr} {v : Value} (h : TPar w par here t v) : TIn w (Nw (here.1 + 1) w) t v := by
  induction h with
  | mk here k n s x ks vs A cap g arr K N X Z D H hk hl hm hcap hg hc ht ih =>
    by_cases h0 : 0 < vs.length
    · obtain ⟨hA, hp, hlt, hb, hs2⟩ := hg h0
      have each : ∀ i (hi : i < vs.length), ∃ L, At8r arr i (ks[i]'(hl ▸ hi)) (K i) (N i) (Z i) (X i) (D i) L (H i) := fun i hi => (hc i hi).2
      refine .mk k n s x ks vs A cap (fun i => if hi : i < vs.length then #[.int .i64 (K i), .int .i64 (N i), .string (Z i), .int .i64 (X i), .slice (D i) (each i hi).choose (H i)] else #[]) hk hl hm hcap (fun i hi => ?_) (fun i hi => ?_)
      · have hL := (each i hi).choose_spec
        have at_ : ∀ q, q < 8 → w.cell? ((⟨g, 0, none⟩ : Addr).add (8 * i + q)) = (eV (ks[i]'(hl ▸ hi)) (K i) (N i) (Z i) (X i) (D i) (each i hi).choose (H i)).cells[q]? := fun q hq => by
          rw [Addr.add_lit, Nat.zero_add, cell_of_row w g _ arr IE _ hb, ← hL q hq, Nat.mul_comm]
        refine ⟨⟨g, 0, none⟩, hA, ⟨hlt, arr, IE, hb⟩, ⟨at_ 0 (by omega), at_ 1 (by omega), at_ 2 (by omega), (hc i hi).1⟩, by simp only [dif_pos hi]; rfl, fun j hj => ?_⟩
        rw [at_ (3 + j) (by omega)]
        simp only [dif_pos hi]
        match j, hj with
        | 0, _ => rfl
        | 1, _ => rfl
        | 2, _ => rfl
        | 3, _ => rfl
        | 4, _ => rfl
      · simp only [dif_pos hi]
        exact (ih i hi _ (each i hi).choose_spec).stays (fun b hb => ⟨by have := hb.1; simp at this; omega, hb.2⟩) (fun b _ _ => rfl)
    · exact .mk k n s x ks vs A cap (fun _ => #[]) hk hl hm hcap (fun i hi => absurd hi (by omega)) (fun i hi => absurd hi (by omega))
end

end Go.Proofs.YtbgffmiffmmohaaGreatDoor.tree

