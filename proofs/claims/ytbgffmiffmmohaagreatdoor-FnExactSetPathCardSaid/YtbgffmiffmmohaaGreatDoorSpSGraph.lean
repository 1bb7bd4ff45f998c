/-
  What is known of the blocks that a copy has made, while it is being made: their items, where they hang, how many of their items have lists of their own already.
  Conditions: those that each theorem names.
-/
import Derived.Test.YtbgffmiffmmohaaGreatDoorSpSPar
import Derived.Test.YtbgffmiffmmohaaGreatDoorSpB4
namespace Go.Proofs.YtbgffmiffmmohaaGreatDoor.tree
open Go.ChangeShapes Go.WideShapes Go.ChangeAt Go.RowKit
set_option linter.unusedVariables false

structure Gr where
  lab : Nat → Option (List Ky × List Tr)
  par : Nat → Nat × Nat
  st : Nat → Nat

/-- Item i of block g. -/
def GItem (w : World) (B : Nat) (G : Gr) (g i : Nat) (arr : Array Value) (y : Ky) : Tr → Prop
  | .mk k n s x ks vs => ∃ A c, (I64 y.num ∧ y.str.size ≤ maxLen) ∧ (I64 k ∧ I64 n ∧ I64 x ∧ s.size ≤ maxLen) ∧ ks.length = vs.length ∧ (vs.length ≤ c ∧ c ≤ maxLen) ∧ At8r arr i y k n s x A vs.length c ∧
      ((i < G.st g ∧ (0 < vs.length → ∃ g', A = some ⟨g', 0, none⟩ ∧ g < g' ∧ G.lab g' = some (ks, vs) ∧ G.par g' = (g, i))) ∨ (G.st g ≤ i ∧ IsIn w (Lo B w) ks vs A))

def GRow (w : World) (B : Nat) (G : Gr) (g : Nat) (ks : List Ky) (vs : List Tr) (arr : Array Value) : Prop :=
  w.heap[g]? = some (.cells arr IE (0, 0)) ∧ vs.length * 8 ≤ arr.size ∧ ∀ i y t, ks[i]? = some y → vs[i]? = some t → GItem w B G g i arr y t
structure GBlk (w : World) (B : Nat) (G : Gr) (g : Nat) (ks : List Ky) (vs : List Tr) : Prop where
  row : ∃ arr, GRow w B G g ks vs arr
  len : ks.length = vs.length
  pos : 0 < vs.length
  hi : B ≤ g
structure GOk (w : World) (B : Nat) (G : Gr) (op : Nat → Prop) : Prop where
  blk : ∀ g ks vs, G.lab g = some (ks, vs) → GBlk w B G g ks vs
  done : ∀ g ks vs, G.lab g = some (ks, vs) → ¬ op g → G.st g = vs.length

section
variable {w w' : World} {B : Nat} {G : Gr} {op : Nat → Prop}

theorem GOk.fine (h : GOk w B G op) (ho : ∀ g, ¬ op g) {g : Nat} {ks : List Ky} {vs : List Tr} (hg : G.lab g = some (ks, vs)) : PBlk w G.par g ks vs := by
  have all : ∀ m g ks vs, cnts vs ≤ m → G.lab g = some (ks, vs) → PBlk w G.par g ks vs := by
    intro m
    induction m with
    | zero =>
      intro g ks vs hm hg
      have := (h.blk g ks vs hg).pos
      cases vs with
      | nil => simp at this
      | cons t vs => obtain ⟨k, n, s, x, ks', vs'⟩ := t; rw [cnts_cons, cnt_mk] at hm; omega
    | succ m ih =>
      intro g ks vs hm hg
      have hb := h.blk g ks vs hg
      obtain ⟨arr, ha, hs, hi⟩ := hb.row
      have hst := h.done g ks vs hg (ho g)
      refine ⟨arr, ha, hs, fun i hlt => ?_⟩
      have hky : ks[i]? = some (ks[i]'(hb.len ▸ hlt)) := List.getElem?_eq_getElem _
      have hvs : vs[i]? = some vs[i] := List.getElem?_eq_getElem _
      have hi' := hi i _ _ hky hvs
      have hcn : cnt vs[i] ≤ cnts vs := by
        clear hi' hi hst ih hm hky
        induction vs generalizing i ks with
        | nil => simp at hlt
        | cons t vs ih2 =>
          cases i with
          | zero => rw [cnts_cons]; simp
          | succ i =>
            have e2 : ∀ (us : List Tr) (i : Nat) (h : i < us.length), cnt us[i] ≤ cnts us := by
              intro us
              induction us with
              | nil => intro i h; simp at h
              | cons u us ih3 =>
                intro i h
                rw [cnts_cons]
                cases i with
                | zero => simp
                | succ i => have := ih3 i (by simpa using h); simp; omega
            exact e2 _ _ _
      generalize hv : vs[i] = t at hi' hvs hcn
      obtain ⟨k, n, s, x, ks', vs'⟩ := t
      obtain ⟨A, c, hy, hk, hl, hcap, hat, hch⟩ := hi'
      refine ⟨_, k, n, s, x, ks', vs', A, c, hky, hvs, hy, hat, TPar.of hk hl hcap fun h0 => ?_⟩
      rcases hch with ⟨-, hch⟩ | ⟨hge, -⟩
      · obtain ⟨g', hA, hlt', hlab, hpar⟩ := hch h0
        exact ⟨g', hA, hpar, hlt', ih g' ks' vs' (by rw [cnt_mk] at hcn; omega) hlab⟩
      · omega
  exact all _ g ks vs (Nat.le_refl _) hg

theorem GItem.keep {g i : Nat} {arr : Array Value} {y : Ky} {t : Tr} (hk : Kp B w w') (h : GItem w B G g i arr y t) : GItem w' B G g i arr y t := by
  cases t
  obtain ⟨A, c, h1, h2, h3, h4, h5, h6⟩ := h
  exact ⟨A, c, h1, h2, h3, h4, h5, h6.imp id fun ⟨a, b⟩ => ⟨a, b.kp hk⟩⟩
theorem GOk.keep (h : GOk w B G op) (hk : Kp B w w') (hl : ∀ g, G.lab g ≠ none → w'.heap[g]? = w.heap[g]?) : GOk w' B G op where
  blk := fun g ks vs hg => by
    obtain ⟨⟨arr, ha, hs, hi⟩, h2, h3, h4⟩ := h.blk g ks vs hg
    exact ⟨⟨arr, (hl g (by rw [hg]; simp)).trans ha, hs, fun i y t h1 h2 => (hi i y t h1 h2).keep hk⟩, h2, h3, h4⟩
  done := h.done
theorem GOk.lt (h : GOk w B G op) {g : Nat} (hg : G.lab g ≠ none) : g < w.heap.size := by
  obtain ⟨⟨ks, vs⟩, hg⟩ := Option.ne_none_iff_exists'.1 hg
  obtain ⟨⟨arr, ha, -⟩, -⟩ := h.blk g ks vs hg
  exact (Array.getElem?_eq_some_iff.1 ha).1
theorem GOk.below (h : GOk w B G op) (hb : Below w.heap.size w w') : GOk w' B G op := h.keep (Kp.below hb) fun g hg => hb.block g (h.lt hg)
/-- A list that is through. -/
theorem GOk.close (h : GOk w B G op) {op' : Nat → Prop} (ho : ∀ g ks vs, G.lab g = some (ks, vs) → ¬ op' g → ¬ op g ∨ G.st g = vs.length) : GOk w B G op' where
  blk := h.blk
  done := fun g ks vs hg hn => (ho g ks vs hg hn).elim (h.done g ks vs hg) id

/-- An item whose list is empty. -/
def Gr.tick (G : Gr) (g j : Nat) : Gr := { G with st := fun b => if b = g then j else G.st b }
/-- An item that gets a list of its own. -/
def Gr.hang (G : Gr) (g j g' : Nat) (ks : List Ky) (vs : List Tr) : Gr where
  lab := fun b => if b = g' then some (ks, vs) else G.lab b
  par := fun b => if b = g' then (g, j) else G.par b
  st := fun b => if b = g' then 0 else if b = g then j + 1 else G.st b

theorem GOk.tick (h : GOk w B G op) {g j : Nat} {ks : List Ky} {vs : List Tr} (hg : G.lab g = some (ks, vs)) (hop : op g) (hj : G.st g = j) {y : Ky} {k n x : Int} {s : ByteArray} {ks' : List Ky} (hy : ks[j]? = some y) (ht : vs[j]? = some (.mk k n s x ks' []))
    (hk : Kp B w w') (hl : ∀ b, b ≠ g → G.lab b ≠ none → w'.heap[b]? = w.heap[b]?)
    (hw : ∀ arr, w.heap[g]? = some (.cells arr IE (0, 0)) → ∃ arr' A c, w'.heap[g]? = some (.cells arr' IE (0, 0)) ∧ arr'.size = arr.size ∧ c ≤ maxLen ∧ At8r arr' j y k n s x A 0 c ∧ ∀ p, p < j * 8 ∨ j * 8 + 8 ≤ p → arr'[p]? = arr[p]?) :
    GOk w' B (G.tick g (j + 1)) op where
  blk := fun b kb vb hb => by
    have hb' : G.lab b = some (kb, vb) := hb
    by_cases e : b = g
    · subst e
      rw [hg] at hb'
      simp at hb'
      obtain ⟨rfl, rfl⟩ := hb'
      obtain ⟨⟨arr, ha, hs, hi⟩, h2, h3, h4⟩ := h.blk b ks vs hg
      obtain ⟨arr', A, c, ha', hs', hc, hat, hout⟩ := hw arr ha
      refine ⟨⟨arr', ha', by omega, fun i y' t' hy' ht' => ?_⟩, h2, h3, h4⟩
      have old := hi i y' t' hy' ht'
      by_cases ei : i = j
      · subst ei
        rw [hy] at hy'
        rw [ht] at ht'
        obtain rfl := Option.some.inj hy'
        obtain rfl := Option.some.inj ht'
        obtain ⟨A0, c0, o1, o2, o3, o4, o5, o6⟩ := old
        exact ⟨A, c, o1, o2, o3, ⟨Nat.zero_le _, hc⟩, hat, .inl ⟨by simp [Gr.tick], fun h0 => by simp at h0⟩⟩
      · cases t'
        obtain ⟨A0, c0, o1, o2, o3, o4, o5, o6⟩ := old
        refine ⟨A0, c0, o1, o2, o3, o4, fun q hq => by rw [hout _ (by omega)]; exact o5 q hq, ?_⟩
        rcases o6 with ⟨o6, o7⟩ | ⟨o6, o7⟩
        · exact .inl ⟨by simp [Gr.tick]; omega, o7⟩
        · exact .inr ⟨by simp [Gr.tick]; omega, o7.kp hk⟩
    · obtain ⟨⟨arr, ha, hs, hi⟩, h2, h3, h4⟩ := h.blk b kb vb hb'
      refine ⟨⟨arr, (hl b e (by rw [hb']; simp)).trans ha, hs, fun i y' t' hy' ht' => ?_⟩, h2, h3, h4⟩
      have old := (hi i y' t' hy' ht').keep hk
      cases t'
      obtain ⟨A0, c0, o1, o2, o3, o4, o5, o6⟩ := old
      exact ⟨A0, c0, o1, o2, o3, o4, o5, by simpa [Gr.tick, e] using o6⟩
  done := fun b kb vb hb hn => by
    have e : b ≠ g := fun e => hn (e ▸ hop)
    simp only [Gr.tick, if_neg e]
    exact h.done b kb vb hb hn

theorem GOk.hang (h : GOk w B G op) {g j g' : Nat} {ks : List Ky} {vs : List Tr} (hg : G.lab g = some (ks, vs)) (hop : op g) (hj : G.st g = j) {y : Ky} {k n x : Int} {s : ByteArray} {ks' : List Ky} {vs' : List Tr} (hy : ks[j]? = some y) (ht : vs[j]? = some (.mk k n s x ks' vs'))
    (h0 : 0 < vs'.length) (hfresh : w.heap.size ≤ g') (hB : B ≤ g') (hk : Kp B w w') (hl : ∀ b, b ≠ g → G.lab b ≠ none → w'.heap[b]? = w.heap[b]?)
    (hw : ∀ arr, w.heap[g]? = some (.cells arr IE (0, 0)) → ∃ arr' c, w'.heap[g]? = some (.cells arr' IE (0, 0)) ∧ arr'.size = arr.size ∧ (vs'.length ≤ c ∧ c ≤ maxLen) ∧ At8r arr' j y k n s x (some ⟨g', 0, none⟩) vs'.length c ∧ ∀ p, p < j * 8 ∨ j * 8 + 8 ≤ p → arr'[p]? = arr[p]?)
    (hnew : ∃ arr2, w'.heap[g']? = some (.cells arr2 IE (0, 0)) ∧ vs'.length * 8 ≤ arr2.size ∧ ∀ i y2 k2 n2 s2 x2 ks2 vs2, ks'[i]? = some y2 → vs'[i]? = some (.mk k2 n2 s2 x2 ks2 vs2) → ∃ A2 c2, (I64 y2.num ∧ y2.str.size ≤ maxLen) ∧ (I64 k2 ∧ I64 n2 ∧ I64 x2 ∧ s2.size ≤ maxLen) ∧ ks2.length = vs2.length ∧ (vs2.length ≤ c2 ∧ c2 ≤ maxLen) ∧ At8r arr2 i y2 k2 n2 s2 x2 A2 vs2.length c2 ∧ IsIn w' (Lo B w') ks2 vs2 A2) :
    GOk w' B (G.hang g j g' ks' vs') (fun b => op b ∨ b = g') := by
  have hgl : g < w.heap.size := h.lt (by rw [hg]; simp)
  have hne : g ≠ g' := by omega
  have hold : ∀ b, G.lab b ≠ none → b ≠ g' := fun b hb => by have := h.lt hb; omega
  obtain ⟨⟨arr, ha, hs, hi⟩, h2, h3, h4⟩ := h.blk g ks vs hg
  have hl' : ks'.length = vs'.length := by
    obtain ⟨A0, c0, o1, o2, o3, _⟩ := hi j _ _ hy ht
    exact o3
  refine ⟨fun b kb vb hb => ?_, fun b kb vb hb hn => ?_⟩
  · by_cases eb : b = g'
    · subst eb
      simp [Gr.hang] at hb
      obtain ⟨rfl, rfl⟩ := hb
      obtain ⟨arr2, a1, a2, a3⟩ := hnew
      refine ⟨⟨arr2, a1, a2, fun i y2 t2 hy2 ht2 => ?_⟩, hl', h0, hB⟩
      obtain ⟨k2, n2, s2, x2, ks2, vs2⟩ := t2
      obtain ⟨A2, c2, q1, q2, q3, q4, q5, q6⟩ := a3 i y2 k2 n2 s2 x2 ks2 vs2 hy2 ht2
      exact ⟨A2, c2, q1, q2, q3, q4, q5, .inr ⟨by simp [Gr.hang], q6⟩⟩
    · have hb' : G.lab b = some (kb, vb) := by simpa [Gr.hang, eb] using hb
      by_cases e : b = g
      · subst e
        rw [hg] at hb'
        simp at hb'
        obtain ⟨rfl, rfl⟩ := hb'
        obtain ⟨arr', c, ha', hs', hc, hat, hout⟩ := hw arr ha
        refine ⟨⟨arr', ha', by omega, fun i y' t' hy' ht' => ?_⟩, h2, h3, h4⟩
        have old := hi i y' t' hy' ht'
        by_cases ei : i = j
        · subst ei
          rw [hy] at hy'
          rw [ht] at ht'
          obtain rfl := Option.some.inj hy'
          obtain rfl := Option.some.inj ht'
          obtain ⟨A0, c0, o1, o2, o3, o4, o5, o6⟩ := old
          exact ⟨some ⟨g', 0, none⟩, c, o1, o2, o3, hc, hat, .inl ⟨by simp [Gr.hang, eb], fun _ => ⟨g', rfl, by omega, by simp [Gr.hang], by simp [Gr.hang]⟩⟩⟩
        · cases t'
          obtain ⟨A0, c0, o1, o2, o3, o4, o5, o6⟩ := old
          refine ⟨A0, c0, o1, o2, o3, o4, fun q hq => by rw [hout _ (by omega)]; exact o5 q hq, ?_⟩
          rcases o6 with ⟨o6, o7⟩ | ⟨o6, o7⟩
          · refine .inl ⟨by simp [Gr.hang, eb]; omega, fun hpos => ?_⟩
            obtain ⟨g2, p1, p2, p3, p4⟩ := o7 hpos
            have e2 := hold g2 (by rw [p3]; simp)
            exact ⟨g2, p1, p2, by simp [Gr.hang, e2, p3], by simp [Gr.hang, e2, p4]⟩
          · exact .inr ⟨by simp [Gr.hang, eb]; omega, o7.kp hk⟩
      · obtain ⟨⟨arr1, ha1, hs1, hi1⟩, h21, h31, h41⟩ := h.blk b kb vb hb'
        refine ⟨⟨arr1, (hl b e (by rw [hb']; simp)).trans ha1, hs1, fun i y' t' hy' ht' => ?_⟩, h21, h31, h41⟩
        have old := (hi1 i y' t' hy' ht').keep hk
        cases t'
        obtain ⟨A0, c0, o1, o2, o3, o4, o5, o6⟩ := old
        refine ⟨A0, c0, o1, o2, o3, o4, o5, ?_⟩
        rcases o6 with ⟨o6, o7⟩ | ⟨o6, o7⟩
        · refine .inl ⟨by simpa [Gr.hang, eb, e] using o6, fun hpos => ?_⟩
          obtain ⟨g2, p1, p2, p3, p4⟩ := o7 hpos
          have e2 := hold g2 (by rw [p3]; simp)
          exact ⟨g2, p1, p2, by simp [Gr.hang, e2, p3], by simp [Gr.hang, e2, p4]⟩
        · exact .inr ⟨by simpa [Gr.hang, eb, e] using o6, o7⟩
  · have e1 : b ≠ g' := fun e => hn (.inr e)
    have e2 : b ≠ g := fun e => hn (.inl (e ▸ hop))
    simp only [Gr.hang, if_neg e1, if_neg e2] at hb ⊢
    exact h.done b kb vb hb fun h => hn (.inl h)
end

end Go.Proofs.YtbgffmiffmmohaaGreatDoor.tree

