/-
  What the texts behind this one use: 2 parts of one proof.
  Conditions: those that each theorem names.
-/
import Derived.Test.YtdglmnmalfpipaaGreatDoorVSPar
import Derived.Test.YtdglmnmalfpipaaGreatDoorVB8
/-
  Values whose lists lie each in a block of its own, whichever of two blocks is the older one: every block knows where it hangs, and a rank grows from there.
  Conditions: those that each theorem names.
-/
namespace Go.Proofs.YtdglmnmalfpipaaGreatDoor.tree
open Go.ChangeShapes Go.WideShapes Go.ChangeAt Go.RowKit
set_option linter.unusedVariables false

/-- The value is the tree; its lists lie in blocks of their own, and par says of each block in which block and at which item it hangs. -/
inductive TRk (w : World) (rk : Nat → Nat) (par : Nat → Nat × Nat) : Nat × Nat → Tr → Value → Prop
  | mk (here : Nat × Nat) (k n : Int) (s : ByteArray) (x : Int) (ks : List Ky) (vs : List Tr) (A : Option Addr) (cap g : Nat) (arr : Array Value)
      (K N X : Nat → Int) (Z : Nat → ByteArray) (D : Nat → Option Addr) (H : Nat → Nat)
      (hk : I64 k ∧ I64 n ∧ I64 x ∧ s.size ≤ maxLen) (hl : ks.length = vs.length) (hm : vs.length ≤ maxLen) (hcap : vs.length ≤ cap ∧ cap ≤ maxLen)
      (hg : 0 < vs.length → A = some ⟨g, 0, none⟩ ∧ par g = here ∧ rk here.1 < rk g ∧ w.heap[g]? = some (.cells arr IE (0, 0)) ∧ vs.length * 8 ≤ arr.size)
      (hc : ∀ (i : Nat) (hi : i < vs.length), (I64 (ks[i]'(hl ▸ hi)).num ∧ (ks[i]'(hl ▸ hi)).str.size ≤ maxLen) ∧ ∃ L, At8r arr i (ks[i]'(hl ▸ hi)) (K i) (N i) (Z i) (X i) (D i) L (H i))
      (ht : ∀ (i : Nat) (hi : i < vs.length), ∀ L, At8r arr i (ks[i]'(hl ▸ hi)) (K i) (N i) (Z i) (X i) (D i) L (H i) → TRk w rk par (g, i) (vs[i]) (vV (K i) (N i) (Z i) (X i) (D i) L (H i))) :
      TRk w rk par here (.mk k n s x ks vs) (vV k n s x A vs.length cap)

/-- A row of items in block g, each of which is its tree. -/
def PBlkR (w : World) (rk : Nat → Nat) (par : Nat → Nat × Nat) (g : Nat) (ks : List Ky) (vs : List Tr) : Prop :=
  ∃ arr, w.heap[g]? = some (.cells arr IE (0, 0)) ∧ vs.length * 8 ≤ arr.size ∧ ∀ i, i < vs.length → ∃ y k n s x ks' vs' A c, ks[i]? = some y ∧ vs[i]? = some (.mk k n s x ks' vs') ∧ (I64 y.num ∧ y.str.size ≤ maxLen) ∧
    At8r arr i y k n s x A vs'.length c ∧ TRk w rk par (g, i) (.mk k n s x ks' vs') (vV k n s x A vs'.length c)

section
variable {w w' : World} {rk : Nat → Nat} {par : Nat → Nat × Nat} {here : Nat × Nat}

theorem TRk.out {k n x : Int} {s : ByteArray} {ks : List Ky} {vs : List Tr} {v : Value} (h : TRk w rk par here (.mk k n s x ks vs) v) :
    ∃ A c, v = vV k n s x A vs.length c ∧ (I64 k ∧ I64 n ∧ I64 x ∧ s.size ≤ maxLen) ∧ ks.length = vs.length ∧ (vs.length ≤ c ∧ c ≤ maxLen) ∧ (0 < vs.length → ∃ g, A = some ⟨g, 0, none⟩ ∧ par g = here ∧ rk here.1 < rk g ∧ PBlkR w rk par g ks vs) := by
  cases h with
  | mk _ _ _ _ _ _ _ A cap g arr K N X Z D H hk hl hm hcap hg hc ht =>
    refine ⟨A, cap, rfl, hk, hl, hcap, fun h0 => ?_⟩
    obtain ⟨hA, hp, hlt, hb, hs⟩ := hg h0
    refine ⟨g, hA, hp, hlt, arr, hb, hs, fun i hi => ?_⟩
    obtain ⟨hy, L, hL⟩ := hc i hi
    have h := ht i hi L hL
    generalize hv : vs[i] = t at h
    obtain ⟨k', n', s', x', ks', vs'⟩ := t
    cases h with
    | mk _ _ _ _ _ _ _ A' cap' g' arr' K' N' X' Z' D' H' hk' hl' hm' hcap' hg' hc' ht' =>
      exact ⟨_, _, _, _, _, ks', vs', _, _, List.getElem?_eq_getElem _, by rw [List.getElem?_eq_getElem hi, hv], hy, hL, .mk _ _ _ _ _ _ _ _ _ _ _ K' N' X' Z' D' H' hk' hl' hm' hcap' hg' hc' ht'⟩

theorem TRk.of {k n x : Int} {s : ByteArray} {ks : List Ky} {vs : List Tr} {A : Option Addr} {c : Nat} (hk : I64 k ∧ I64 n ∧ I64 x ∧ s.size ≤ maxLen) (hl : ks.length = vs.length) (hcap : vs.length ≤ c ∧ c ≤ maxLen)
    (h : 0 < vs.length → ∃ g, A = some ⟨g, 0, none⟩ ∧ par g = here ∧ rk here.1 < rk g ∧ PBlkR w rk par g ks vs) : TRk w rk par here (.mk k n s x ks vs) (vV k n s x A vs.length c) := by
  by_cases h0 : 0 < vs.length
  · obtain ⟨g, hA, hp, hlt, arr, hb, hs, hi⟩ := h h0
    have pick : ∃ (K N X : Nat → Int) (Z : Nat → ByteArray) (D : Nat → Option Addr) (H : Nat → Nat), ∀ (i : Nat) (hi : i < vs.length), (I64 (ks[i]'(hl ▸ hi)).num ∧ (ks[i]'(hl ▸ hi)).str.size ≤ maxLen) ∧ ∃ L, At8r arr i (ks[i]'(hl ▸ hi)) (K i) (N i) (Z i) (X i) (D i) L (H i) ∧ TRk w rk par (g, i) (vs[i]) (vV (K i) (N i) (Z i) (X i) (D i) L (H i)) := by
      have each : ∀ i, ∃ (K N X : Int) (Z : ByteArray) (D : Option Addr) (H : Nat), ∀ (hi : i < vs.length), (I64 (ks[i]'(hl ▸ hi)).num ∧ (ks[i]'(hl ▸ hi)).str.size ≤ maxLen) ∧ ∃ L, At8r arr i (ks[i]'(hl ▸ hi)) K N Z X D L H ∧ TRk w rk par (g, i) (vs[i]) (vV K N Z X D L H) := by
        intro i
        by_cases hlt : i < vs.length
        · obtain ⟨y, k', n', s', x', ks', vs', A', c', hy, ht, hyb, hc, htp⟩ := hi i hlt
          have ey : ks[i]'(hl ▸ hlt) = y := by rw [List.getElem?_eq_getElem (hl ▸ hlt)] at hy; exact Option.some.inj hy
          have et : vs[i] = .mk k' n' s' x' ks' vs' := by rw [List.getElem?_eq_getElem hlt] at ht; exact Option.some.inj ht
          exact ⟨k', n', x', s', A', c', fun _ => by rw [ey, et]; exact ⟨hyb, _, hc, htp⟩⟩
        · exact ⟨0, 0, 0, ⟨#[]⟩, none, 0, fun h => absurd h hlt⟩
      refine ⟨fun i => (each i).choose, fun i => (each i).choose_spec.choose, fun i => (each i).choose_spec.choose_spec.choose, fun i => (each i).choose_spec.choose_spec.choose_spec.choose, fun i => (each i).choose_spec.choose_spec.choose_spec.choose_spec.choose, fun i => (each i).choose_spec.choose_spec.choose_spec.choose_spec.choose_spec.choose, fun i hi => ?_⟩
      exact (each i).choose_spec.choose_spec.choose_spec.choose_spec.choose_spec.choose_spec hi
    obtain ⟨K, N, X, Z, D, H, hp2⟩ := pick
    refine .mk here k n s x ks vs A c g arr K N X Z D H hk hl (by omega) hcap (fun _ => ⟨hA, hp, hlt, hb, hs⟩) (fun i hi => ⟨(hp2 i hi).1, ?_⟩) (fun i hi L hL => ?_)
    · obtain ⟨L, h1, _⟩ := (hp2 i hi).2
      exact ⟨L, h1⟩
    · obtain ⟨L', h1, h2⟩ := (hp2 i hi).2
      obtain ⟨-, -, -, -, -, -, rfl, -⟩ := at8r_inj hL h1
      exact h2
  · exact .mk here k n s x ks vs A c 0 #[] (fun _ => 0) (fun _ => 0) (fun _ => 0) (fun _ => ⟨#[]⟩) (fun _ => none) (fun _ => 0) hk hl (by omega) hcap (fun h => absurd h h0) (fun i hi => absurd hi (by omega)) (fun i hi => absurd hi (by omega))

/-- The blocks that hang, over others or not, at item h.2 of block h.1. -/
inductive HangR (rk : Nat → Nat) (par : Nat → Nat × Nat) (h : Nat × Nat) : Nat → Prop
  | root (b : Nat) (e : par b = h) (hlt : rk h.1 < rk b) : HangR rk par h b
  | step (b g i : Nat) (e : par b = (g, i)) (hlt : rk g < rk b) (hh : HangR rk par h g) : HangR rk par h b
theorem HangR.gt {b : Nat} (h : HangR rk par here b) : rk here.1 < rk b := by
  induction h with
  | root b e hlt => exact hlt
  | step b g i e hlt hh ih => omega
theorem HangR.sub {g i b : Nat} (h : HangR rk par (g, i) b) (hp : par g = here) (hlt : rk here.1 < rk g) : HangR rk par here b := by
  induction h with
  | root b e hlt' => exact .step b g i e hlt' (.root g hp hlt)
  | step b g' i' e hlt' hh ih => exact .step b g' i' e hlt' ih
theorem HangR.disj {g i j b : Nat} (h : HangR rk par (g, i) b) (h' : HangR rk par (g, j) b) : i = j := by
  induction h with
  | root b e hlt =>
    cases h' with
    | root _ e' _ => rw [e] at e'; injection e'
    | step _ g' i' e' hlt' hh => rw [e] at e'; injection e' with e1 e2; subst e1; have := hh.gt; simp at this
  | step b g' i' e hlt hh ih =>
    cases h' with
    | root _ e' _ => rw [e] at e'; injection e' with e1 e2; subst e1; have := hh.gt; simp at this
    | step _ g2 i2 e' hlt' hh' => rw [e] at e'; injection e' with e1 e2; subst e1; exact ih hh'

/-- What hangs there stays. -/
theorem TRk.stays {t : Tr} {v : Value} (h : TRk w rk par here t v) (hs : ∀ b, HangR rk par here b → w'.heap[b]? = w.heap[b]?) : TRk w' rk par here t v := by
  induction h with
  | mk here k n s x ks vs A cap g arr K N X Z D H hk hl hm hcap hg hc ht ih =>
    by_cases h0 : 0 < vs.length
    · obtain ⟨hA, hp, hlt, hb, hs2⟩ := hg h0
      refine .mk here k n s x ks vs A cap g arr K N X Z D H hk hl hm hcap (fun _ => ⟨hA, hp, hlt, (hs g (.root g hp hlt)).trans hb, hs2⟩) hc (fun i hi L hL => ih i hi L hL fun b hb => hs b (hb.sub hp hlt))
    · exact .mk here k n s x ks vs A cap g arr K N X Z D H hk hl hm hcap (fun h => absurd h h0) hc (fun i hi => absurd hi (by omega))
/-- par matters for the blocks that are there alone. -/
theorem TRk.par_ {par' : Nat → Nat × Nat} {t : Tr} {v : Value} (h : TRk w rk par here t v) (hs : ∀ b, b < w.heap.size → par' b = par b) : TRk w rk par' here t v := by
  induction h with
  | mk here k n s x ks vs A cap g arr K N X Z D H hk hl hm hcap hg hc ht ih =>
    by_cases h0 : 0 < vs.length
    · obtain ⟨hA, hp, hlt, hb, hs2⟩ := hg h0
      refine .mk here k n s x ks vs A cap g arr K N X Z D H hk hl hm hcap (fun _ => ⟨hA, (hs g (Array.getElem?_eq_some_iff.1 hb).1).trans hp, hlt, hb, hs2⟩) hc ih
    · exact .mk here k n s x ks vs A cap g arr K N X Z D H hk hl hm hcap (fun h => absurd h h0) hc (fun i hi => absurd hi (by omega))
/-- Other words at the head. -/
theorem TRk.head {k n x k' n' x' : Int} {s s' : ByteArray} {ks : List Ky} {vs : List Tr} {A : Option Addr} {L c : Nat} (h : TRk w rk par here (.mk k n s x ks vs) (vV k n s x A L c)) (hk : I64 k' ∧ I64 n' ∧ I64 x' ∧ s'.size ≤ maxLen) :
    TRk w rk par here (.mk k' n' s' x' ks vs) (vV k' n' s' x' A L c) := by
  obtain ⟨A', c', e, -, h2, h3, h4⟩ := h.out
  simp [vV] at e
  obtain ⟨rfl, rfl, rfl⟩ := e
  exact TRk.of hk h2 h3 h4

theorem TRk.tin {t : Tr} {v : Value} (h : TRk w rk par here t v) : TIn w (Nw 0 w) t v := by
  induction h with
  | mk here k n s x ks vs A cap g arr K N X Z D H hk hl hm hcap hg hc ht ih =>
    by_cases h0 : 0 < vs.length
    · obtain ⟨hA, hp, hlt, hb, hs2⟩ := hg h0
      have each : ∀ i (hi : i < vs.length), ∃ L, At8r arr i (ks[i]'(hl ▸ hi)) (K i) (N i) (Z i) (X i) (D i) L (H i) := fun i hi => (hc i hi).2
      refine .mk k n s x ks vs A cap (fun i => if hi : i < vs.length then #[.int .i64 (K i), .int .i64 (N i), .string (Z i), .int .i64 (X i), .slice (D i) (each i hi).choose (H i)] else #[]) hk hl hm hcap (fun i hi => ?_) (fun i hi => ?_)
      · have hL := (each i hi).choose_spec
        have at_ : ∀ q, q < 8 → w.cell? ((⟨g, 0, none⟩ : Addr).add (8 * i + q)) = (eV (ks[i]'(hl ▸ hi)) (K i) (N i) (Z i) (X i) (D i) (each i hi).choose (H i)).cells[q]? := fun q hq => by
          rw [Addr.add_lit, Nat.zero_add, cell_of_row w g _ arr IE _ hb, ← hL q hq, Nat.mul_comm]
        refine ⟨⟨g, 0, none⟩, hA, ⟨Nat.zero_le _, arr, IE, hb⟩, ⟨at_ 0 (by omega), at_ 1 (by omega), at_ 2 (by omega), (hc i hi).1⟩, by simp only [dif_pos hi]; rfl, fun j hj => ?_⟩
        rw [at_ (3 + j) (by omega)]
        simp only [dif_pos hi]
        match j, hj with
        | 0, _ => rfl
        | 1, _ => rfl
        | 2, _ => rfl
        | 3, _ => rfl
        | 4, _ => rfl
      · simp only [dif_pos hi]
        exact ih i hi _ (each i hi).choose_spec
    · exact .mk k n s x ks vs A cap (fun _ => #[]) hk hl hm hcap (fun i hi => absurd hi (by omega)) (fun i hi => absurd hi (by omega))
/-- What hangs there, and is there, stays. -/
theorem TRk.keep {t : Tr} {v : Value} (h : TRk w rk par here t v) (hs : ∀ b, HangR rk par here b → b < w.heap.size → w'.heap[b]? = w.heap[b]?) : TRk w' rk par here t v := by
  induction h with
  | mk here k n s x ks vs A cap g arr K N X Z D H hk hl hm hcap hg hc ht ih =>
    by_cases h0 : 0 < vs.length
    · obtain ⟨hA, hp, hlt, hb, hs2⟩ := hg h0
      refine .mk here k n s x ks vs A cap g arr K N X Z D H hk hl hm hcap (fun _ => ⟨hA, hp, hlt, (hs g (.root g hp hlt) (Array.getElem?_eq_some_iff.1 hb).1).trans hb, hs2⟩) hc (fun i hi L hL => ih i hi L hL fun b hb => hs b (hb.sub hp hlt))
    · exact .mk here k n s x ks vs A cap g arr K N X Z D H hk hl hm hcap (fun h => absurd h h0) hc (fun i hi => absurd hi (by omega))
end

end Go.Proofs.YtdglmnmalfpipaaGreatDoor.tree

/-
  Values that lie in blocks of their own, whichever is the older one; a row of the call's own that holds such values, made by append.
  Conditions: those that each theorem names.
-/
namespace Go.Proofs.YtdglmnmalfpipaaGreatDoor.tree
open Go.ChangeShapes Go.WideShapes Go.ChangeAt Go.RowKit
set_option linter.unusedVariables false

section
variable {w w' : World} {rk rk' : Nat → Nat} {par par' : Nat → Nat × Nat} {here here' : Nat × Nat}
/-- Other ranks and other places, alike. -/
theorem TRk.inner {c : Nat} {t : Tr} {v : Value} (h : TRk w rk par here t v) (h0 : rk here.1 ≠ 0) (hp : ∀ b, rk b ≠ 0 → rk (par b).1 ≠ 0 → par' b = par b) (hr : ∀ b, rk b ≠ 0 → rk' b = rk b + c) : TRk w rk' par' here t v := by
  induction h with
  | mk here k n s x ks vs A cap g arr K N X Z D H hk hl hm hcap hg hc ht ih =>
    by_cases hz : 0 < vs.length
    · obtain ⟨hA, hpg, hlt, hb, hs2⟩ := hg hz
      have hg0 : rk g ≠ 0 := by omega
      refine .mk here k n s x ks vs A cap g arr K N X Z D H hk hl hm hcap (fun _ => ⟨hA, (hp g hg0 (by rw [hpg]; exact h0)).trans hpg, ?_, hb, hs2⟩) hc (fun i hi L hL => ih i hi L hL hg0)
      rw [hr _ h0, hr _ hg0]
      omega
    · exact .mk here k n s x ks vs A cap g arr K N X Z D H hk hl hm hcap (fun h => absurd h hz) hc (fun i hi => absurd hi (by omega))
theorem TRk.outer {c : Nat} {t : Tr} {v : Value} (h : TRk w rk par here t v) (h0 : rk here.1 = 0) (hp : ∀ b, rk b ≠ 0 → par' b = if par b = here then here' else par b) (hr : ∀ b, rk b ≠ 0 → rk' b = rk b + c) (hc' : rk' here'.1 ≤ c) : TRk w rk' par' here' t v := by
  cases h with
  | mk _ k n s x ks vs A cap g arr K N X Z D H hk hl hm hcap hg hc ht =>
    by_cases hz : 0 < vs.length
    · obtain ⟨hA, hpg, hlt, hb, hs2⟩ := hg hz
      have hg0 : rk g ≠ 0 := by omega
      refine .mk here' k n s x ks vs A cap g arr K N X Z D H hk hl hm hcap (fun _ => ⟨hA, (hp g hg0).trans (if_pos hpg), ?_, hb, hs2⟩) hc (fun i hi L hL => (ht i hi L hL).inner (c := c) hg0 (fun b hb0 hb1 => ?_) hr)
      · rw [hr _ hg0]; omega
      · rw [hp b hb0, if_neg]
        intro e
        rw [e] at hb1
        exact hb1 h0
    · exact .mk here' k n s x ks vs A cap g arr K N X Z D H hk hl hm hcap (fun h => absurd h hz) hc (fun i hi => absurd hi (by omega))
theorem HangR.nz {b : Nat} (h : HangR rk par here b) : rk b ≠ 0 := by
  cases h with
  | root _ e hlt => omega
  | step _ g i e hlt hh => omega
end

/-- The value is the tree, in blocks of its own, all of them in F. -/
def FIn (w : World) (F : Nat → Prop) (t : Tr) (v : Value) : Prop := ∃ rk par here, TRk w rk par here t v ∧ rk here.1 = 0 ∧ ∀ b, rk b ≠ 0 → F b
section
variable {w w' : World} {F F' : Nat → Prop} {t : Tr} {v : Value}
theorem FIn.keep (h : FIn w F t v) (hs : ∀ b, F b → b < w.heap.size → w'.heap[b]? = w.heap[b]?) : FIn w' F t v := by
  obtain ⟨rk, par, here, h1, h2, h3⟩ := h
  exact ⟨rk, par, here, h1.keep fun b hb hlt => hs b (h3 b hb.nz) hlt, h2, h3⟩
theorem FIn.below (h : FIn w F t v) (hb : Below w.heap.size w w') : FIn w' F t v := h.keep fun b _ hlt => hb.block b hlt
theorem FIn.mono (h : FIn w F t v) (hs : ∀ b, F b → F' b) : FIn w F' t v := by
  obtain ⟨rk, par, here, h1, h2, h3⟩ := h
  exact ⟨rk, par, here, h1, h2, fun b hb => hs b (h3 b hb)⟩
theorem FIn.tin (h : FIn w F t v) : TIn w (Nw 0 w) t v := by
  obtain ⟨rk, par, here, h1, h2, h3⟩ := h
  exact h1.tin
theorem FIn.leaf {k n x : Int} {s : ByteArray} (hk : I64 k ∧ I64 n ∧ I64 x ∧ s.size ≤ maxLen) (A : Option Addr) (c : Nat) (hc : c ≤ maxLen) : FIn w F (.mk k n s x [] []) (vV k n s x A 0 c) :=
  ⟨fun _ => 0, fun _ => (0, 0), (0, 0), TRk.of hk rfl ⟨Nat.zero_le _, hc⟩ (fun h => absurd h (by simp)), rfl, fun b h => absurd rfl h⟩
end

/-- A row of the call's own from lo on, made by append, whose values lie apart: those of item i in G i. -/
def FRow (w : World) (lo : Nat) (v : Value) (xs : List Value) (ks : List Ky) (vs : List Tr) (G : Nat → Nat → Prop) : Prop :=
  w.ownsRow lo IE 8 v vs.length xs ∧ ks.length = vs.length ∧ ∀ i, i < vs.length → ∃ y k n s x ks' vs' A c, ks[i]? = some y ∧ vs[i]? = some (.mk k n s x ks' vs') ∧ (I64 y.num ∧ y.str.size ≤ maxLen) ∧
    xAt8 xs i y k n s x A vs'.length c ∧ FIn w (G i) (.mk k n s x ks' vs') (vV k n s x A vs'.length c) ∧ ∀ b, G i b → (lo ≤ b ∧ b < w.heap.size ∧ v.ownBlock ≠ some b) ∧ ∀ j, j < i → ¬ G j b
section
variable {w w' : World} {lo : Nat} {v : Value} {xs : List Value} {ks : List Ky} {vs : List Tr} {G : Nat → Nat → Prop}
theorem FRow.nil (w : World) (lo : Nat) (G : Nat → Nat → Prop) : FRow w lo (.slice none 0 0) [] [] [] G := ⟨World.ownsRow_nil w lo _ 8, rfl, fun i hi => absurd hi (by simp)⟩
theorem FRow.len (h : FRow w lo v xs ks vs G) : ks.length = vs.length := h.2.1
theorem FRow.block (h : FRow w lo v xs ks vs G) : ∀ b, v.ownBlock = some b → lo ≤ b ∧ b < w.heap.size := fun b e => World.ownsRow.lt h.1 b e
theorem FRow.keep (h : FRow w lo v xs ks vs G) (hz : w.heap.size ≤ w'.heap.size) (hs : ∀ b, lo ≤ b → b < w.heap.size → w'.heap[b]? = w.heap[b]?) : FRow w' lo v xs ks vs G := by
  obtain ⟨h1, h2, h3⟩ := h
  refine ⟨⟨h1.1, ?_⟩, h2, fun i hi => ?_⟩
  · rcases h1.2 with h | ⟨g, cap, cur, e, hl, hg, hr⟩
    · exact .inl h
    · exact .inr ⟨g, cap, cur, e, hl, (hs g hl (Array.getElem?_eq_some_iff.1 hg).1).trans hg, hr⟩
  · obtain ⟨y, k, n, s, x, ks', vs', A, c, a1, a2, a3, a4, a5, a6⟩ := h3 i hi
    exact ⟨y, k, n, s, x, ks', vs', A, c, a1, a2, a3, a4, a5.keep fun b hb hlt => hs b (a6 b hb).1.1 hlt, fun b hb => ⟨⟨(a6 b hb).1.1, Nat.lt_of_lt_of_le (a6 b hb).1.2.1 hz, (a6 b hb).1.2.2⟩, (a6 b hb).2⟩⟩
theorem FRow.below (h : FRow w lo v xs ks vs G) (hb : Below w.heap.size w w') : FRow w' lo v xs ks vs G := h.keep hb.size fun b _ hl => hb.block b hl
theorem FRow.isin (h : FRow w lo v xs ks vs G) : ∃ A c, v = .slice A vs.length c ∧ (vs.length ≤ c ∧ c ≤ maxLen) := by
  rcases h.1.2 with ⟨rfl, h0'⟩ | ⟨g, cap, cur, rfl, hlo, hg, hnc, hcm, hsz, htk⟩
  · exact ⟨none, 0, by rw [h0'], by rw [h0']; exact ⟨Nat.zero_le _, Nat.zero_le _⟩⟩
  · exact ⟨_, _, rfl, hnc, hcm⟩
/-- One more, whose blocks are new: at lq or above, and not the row's. -/
theorem FRow.more (h : FRow w lo v xs ks vs G) {F : Nat → Prop}
    {y : Ky} {k n x : Int} {s : ByteArray} {ks' : List Ky} {vs' : List Tr} {A : Option Addr} {c : Nat} (hy : I64 y.num ∧ y.str.size ≤ maxLen) (ht : FIn w F (.mk k n s x ks' vs') (vV k n s x A vs'.length c))
    (hF : ∀ b, F b → (lo ≤ b ∧ b < w.heap.size ∧ v.ownBlock ≠ some b) ∧ ∀ j, j < vs.length → ¬ G j b)
    {v' : Value} (ho : w'.ownsRow lo IE 8 v' (vs.length + 1) (xs ++ [.bool y.text, .int .i64 y.num, .string y.str, .int .i64 k, .int .i64 n, .string s, .int .i64 x, .slice A vs'.length c])) (hg : w.grownBy w' v.ownBlock) (hat : v'.ownBlock = v.ownBlock ∨ v'.ownBlock = some w.heap.size) (hz : w.heap.size ≤ w'.heap.size) :
    FRow w' lo v' (xs ++ [.bool y.text, .int .i64 y.num, .string y.str, .int .i64 k, .int .i64 n, .string s, .int .i64 x, .slice A vs'.length c]) (ks ++ [y]) (vs ++ [.mk k n s x ks' vs']) (fun i => if i = vs.length then F else G i) := by
  obtain ⟨h1, h2, h3⟩ := h
  have hxl : xs.length = vs.length * 8 := h1.1
  have st : ∀ {t : Tr} {u : Value} {R : Nat → Prop}, (∀ b, R b → v.ownBlock ≠ some b) → FIn w R t u → FIn w' R t u := fun {t u R} hR h => h.keep fun b hb hlt => hg.block b hlt fun e => hR b hb e.symm
  have nb : ∀ b, (lo ≤ b ∧ b < w.heap.size ∧ v.ownBlock ≠ some b) → lo ≤ b ∧ b < w'.heap.size ∧ v'.ownBlock ≠ some b := fun b hb => ⟨hb.1, Nat.lt_of_lt_of_le hb.2.1 hz, fun e => by
    rcases hat with h | h
    · exact hb.2.2 (h ▸ e)
    · rw [h] at e; injection e with e; have := hb.2.1; omega⟩
  refine ⟨by rw [List.length_append]; exact ho, by rw [List.length_append, List.length_append, h2]; rfl, fun i hi => ?_⟩
  rw [List.length_append] at hi
  simp only [List.length_cons, List.length_nil] at hi
  by_cases e : i = vs.length
  · subst e
    refine ⟨y, k, n, s, x, ks', vs', A, c, by rw [List.getElem?_append_right (by omega), h2]; simp, by rw [List.getElem?_append_right (by omega)]; simp, hy, fun q hq => ?_, by show FIn w' (if vs.length = vs.length then F else G vs.length) _ _; rw [if_pos rfl]; exact st (fun b hb => (hF b hb).1.2.2) ht, fun b hb => ?_⟩
    · rw [List.getElem?_append_right (by omega), hxl, Nat.add_sub_cancel_left]
      match q, hq with
      | 0, _ => rfl
      | 1, _ => rfl
      | 2, _ => rfl
      | 3, _ => rfl
      | 4, _ => rfl
      | 5, _ => rfl
      | 6, _ => rfl
      | 7, _ => rfl
    · replace hb : (if vs.length = vs.length then F else G vs.length) b := hb
      rw [if_pos rfl] at hb
      exact ⟨nb b (hF b hb).1, fun j hj => by show ¬ (if j = vs.length then F else G j) b; rw [if_neg (by omega)]; exact (hF b hb).2 j hj⟩
  · obtain ⟨y1, k1, n1, s1, x1, ks1, vs1, A1, c1, a1, a2, a3, a4, a5, a6⟩ := h3 i (by omega)
    refine ⟨y1, k1, n1, s1, x1, ks1, vs1, A1, c1, by rw [List.getElem?_append_left (by omega)]; exact a1, by rw [List.getElem?_append_left (by omega)]; exact a2, a3, fun q hq => ?_, by show FIn w' (if i = vs.length then F else G i) _ _; rw [if_neg e]; exact st (fun b hb => (a6 b hb).1.2.2) a5, fun b hb => ?_⟩
    · rw [List.getElem?_append_left (by omega)]
      exact a4 q hq
    · replace hb : (if i = vs.length then F else G i) b := hb
      rw [if_neg e] at hb
      exact ⟨nb b (a6 b hb).1, fun j hj => by show ¬ (if j = vs.length then F else G j) b; rw [if_neg (by omega)]; exact (a6 b hb).2 j hj⟩

open Classical in
/-- The row as the items of a value. -/
theorem FRow.out (h : FRow w lo v xs ks vs G) (hm : vs.length ≤ maxLen) {k n x : Int} {s : ByteArray} (hk : I64 k ∧ I64 n ∧ I64 x ∧ s.size ≤ maxLen) :
    ∃ A c, v = .slice A vs.length c ∧ (vs.length ≤ c ∧ c ≤ maxLen) ∧ FIn w (fun b => lo ≤ b ∧ b < w.heap.size) (.mk k n s x ks vs) (vV k n s x A vs.length c) := by
  obtain ⟨h1, h2, h3⟩ := h
  rcases h1.2 with ⟨rfl, h0'⟩ | ⟨g, cap, cur, rfl, hlo, hg, hnc, hcm, hsz, htk⟩
  · obtain rfl : vs = [] := List.length_eq_zero_iff.1 h0'
    obtain rfl : ks = [] := List.length_eq_zero_iff.1 h2
    exact ⟨none, 0, rfl, ⟨by simp, by simp⟩, FIn.leaf hk none 0 (by simp)⟩
  refine ⟨some ⟨g, 0, none⟩, cap, rfl, ⟨hnc, hcm⟩, ?_⟩
  have each : ∀ i, ∃ (rk : Nat → Nat) (par : Nat → Nat × Nat) (here : Nat × Nat), ∀ (hi : i < vs.length), ∃ y k n s x ks' vs' A c, ks[i]? = some y ∧ vs[i]? = some (.mk k n s x ks' vs') ∧ (I64 y.num ∧ y.str.size ≤ maxLen) ∧
      xAt8 xs i y k n s x A vs'.length c ∧ TRk w rk par here (.mk k n s x ks' vs') (vV k n s x A vs'.length c) ∧ rk here.1 = 0 ∧ ∀ b, rk b ≠ 0 → G i b := fun i => by
    by_cases hi : i < vs.length
    · obtain ⟨y, k, n, s, x, ks', vs', A, c, a1, a2, a3, a4, ⟨rk, par, here, b1, b2, b3⟩, a6⟩ := h3 i hi
      exact ⟨rk, par, here, fun _ => ⟨y, k, n, s, x, ks', vs', A, c, a1, a2, a3, a4, b1, b2, b3⟩⟩
    · exact ⟨fun _ => 0, fun _ => (0, 0), (0, 0), fun h => absurd h hi⟩
  have sep : ∀ i j b, i < vs.length → j < vs.length → G i b → G j b → i = j := fun i j b hi hj hbi hbj => by
    obtain ⟨_, _, _, _, _, _, _, _, _, -, -, -, -, -, a6⟩ := h3 i hi
    obtain ⟨_, _, _, _, _, _, _, _, _, -, -, -, -, -, b6⟩ := h3 j hj
    rcases Nat.lt_trichotomy i j with h | h | h
    · exact absurd hbi ((b6 b hbj).2 i h)
    · exact h
    · exact absurd hbj ((a6 b hbi).2 j h)
  have bnd : ∀ i b, i < vs.length → G i b → lo ≤ b ∧ b < w.heap.size ∧ b ≠ g := fun i b hi hb => by
    obtain ⟨_, _, _, _, _, _, _, _, _, -, -, -, -, -, a6⟩ := h3 i hi
    have := (a6 b hb).1
    exact ⟨this.1, this.2.1, fun e => this.2.2 (by rw [e]; rfl)⟩
  have hgl := (Array.getElem?_eq_some_iff.1 hg).1
  let RK : Nat → Nat := fun b => if b = g then 1 else if hh : ∃ i, i < vs.length ∧ G i b then (each hh.choose).choose b + 1 else 0
  let PA : Nat → Nat × Nat := fun b => if b = g then (w.heap.size, 0) else if hh : ∃ i, i < vs.length ∧ G i b then (if (each hh.choose).choose_spec.choose b = (each hh.choose).choose_spec.choose_spec.choose then (g, hh.choose) else (each hh.choose).choose_spec.choose b) else (b, 0)
  have eRK : ∀ i b, i < vs.length → G i b → RK b = (each i).choose b + 1 := fun i b hi hb => by
    have hh : ∃ i, i < vs.length ∧ G i b := ⟨i, hi, hb⟩
    have e : hh.choose = i := sep _ _ b hh.choose_spec.1 hi hh.choose_spec.2 hb
    show (if b = g then 1 else if hh : ∃ i, i < vs.length ∧ G i b then (each hh.choose).choose b + 1 else 0) = _
    rw [if_neg (bnd i b hi hb).2.2, dif_pos hh, e]
  have ePA : ∀ i b, i < vs.length → G i b → PA b = if (each i).choose_spec.choose b = (each i).choose_spec.choose_spec.choose then (g, i) else (each i).choose_spec.choose b := fun i b hi hb => by
    have hh : ∃ i, i < vs.length ∧ G i b := ⟨i, hi, hb⟩
    have e : hh.choose = i := sep _ _ b hh.choose_spec.1 hi hh.choose_spec.2 hb
    show (if b = g then _ else if hh : ∃ i, i < vs.length ∧ G i b then _ else _) = _
    rw [if_neg (bnd i b hi hb).2.2, dif_pos hh, e]
  have eG : RK g = 1 := if_pos rfl
  have e0 : RK w.heap.size = 0 := by
    show (if w.heap.size = g then 1 else if hh : ∃ i, i < vs.length ∧ G i w.heap.size then _ else 0) = 0
    rw [if_neg (by omega), dif_neg]
    rintro ⟨i, hi, hb⟩
    have := (bnd i _ hi hb).2.1
    omega
  refine ⟨RK, PA, (w.heap.size, 0), TRk.of hk h2 ⟨hnc, hcm⟩ (fun _ => ⟨g, rfl, if_pos rfl, by rw [eG]; show RK w.heap.size < 1; omega, cur, hg, by omega, fun i hi => ?_⟩), e0, fun b hb => ?_⟩
  · obtain ⟨y, k, n, s, x, ks', vs', A, c, a1, a2, a3, a4, b1, b2, b3⟩ := (each i).choose_spec.choose_spec.choose_spec hi
    refine ⟨y, k, n, s, x, ks', vs', A, c, a1, a2, a3, fun q hq => ?_, b1.outer (c := 1) b2 (fun b hb => ePA i b hi (b3 b hb)) (fun b hb => eRK i b hi (b3 b hb)) (by show RK g ≤ 1; omega)⟩
    rw [← a4 q hq, ← htk, List.getElem?_take_of_lt (by omega)]
    simp
  · by_cases e : b = g
    · subst e
      exact ⟨hlo, hgl⟩
    · by_cases hh : ∃ i, i < vs.length ∧ G i b
      · obtain ⟨i, hi, hbi⟩ := hh
        have := bnd i b hi hbi
        exact ⟨this.1, this.2.1⟩
      · exact absurd (show RK b = 0 by show (if b = g then 1 else if hh : ∃ i, i < vs.length ∧ G i b then _ else 0) = 0; rw [if_neg e, dif_neg hh]) hb
end

end Go.Proofs.YtdglmnmalfpipaaGreatDoor.tree

