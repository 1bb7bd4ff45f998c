/-
  What the texts behind this one use: 19 of the parts of one proof.
  Conditions: those that each theorem names.
-/
import Derived.Maps.AppendAt
import Derived.Deep.AppendLies
import Derived.Deep.RegionHeld3
import Derived.Deep.RegionWith
import Derived.BigQuiet
import Derived.Deep.QuietTactic
import Derived.Laws.StructEq
import Derived.Test.YtlbkbcafkjgckaaDoorRows
import Derived.Stop.LaidErr
import Derived.Stop.LaidTwo
import Derived.LaidMore
import Derived.LaidHandle
import Derived.Test.YtlbkbcafkjgckaaDoorExactIsOrdered1
import Derived.Test.YtlbkbcafkjgckaaDoorExactIsOrdered2
/-
  The laws' marks: the text of a mark.
  Conditions: the number is above 0 and at most 10^15.
-/
namespace Go.Proofs.YtlbkbcafkjgckaaDoor.tree
open Go.ChangeShapes Go.WideShapes Go.ChangeAt Go.RowKit mem
set_option linter.unusedVariables false

theorem mgo_step {f q : Nat} (hq : q ≠ 0) (o : ByteArray) : mgo (f + 1) q o = mgo f (q / 10) (digOf q ++ o) := by rw [mgo, if_neg hq]
theorem mgo_zero (f : Nat) (o : ByteArray) : mgo f 0 o = o := by cases f <;> simp [mgo]


end Go.Proofs.YtlbkbcafkjgckaaDoor.tree

/-
  The laws' marks, found again.
  Conditions: those that each theorem names.
-/
namespace Go.Proofs.YtlbkbcafkjgckaaDoor.tree
open Go.ChangeShapes Go.WideShapes Go.ChangeAt Go.RowKit
set_option linter.unusedVariables false

theorem At8.below {w w' : World} (hb : Below w.heap.size w w') {q : Addr} {y : Ky} {k n : Int} {s : ByteArray} {x : Int} {A : Option Addr} {L c : Nat} (h : At8 w q y k n s x A L c) : At8 w' q y k n s x A L c := by
  have e : ∀ (a : Addr) (u : Value), w.cell? a = some u → w'.cell? a = some u := fun a u hu => cell_stays (fun hlt => hb.block _ hlt) hu
  exact ⟨e _ _ h.c0, e _ _ h.c1, e _ _ h.c2, e _ _ h.c3, e _ _ h.c4, e _ _ h.c5, e _ _ h.c6, e _ _ h.c7⟩



end Go.Proofs.YtlbkbcafkjgckaaDoor.tree

/-
  What a call leaves as it was, but for some blocks.
  Conditions: none.
-/
namespace Go.Proofs.YtlbkbcafkjgckaaDoor.tree
open Go.ChangeShapes Go.WideShapes Go.ChangeAt Go.RowKit
set_option linter.unusedVariables false

/-- Nothing but blocks of S has changed. -/
structure Fr (S : Nat → Prop) (w w' : World) : Prop where
  os : w'.os = w.os
  tape : w'.tape = w.tape
  output : w'.output = w.output
  size : w.heap.size ≤ w'.heap.size
  block : ∀ b, b < w.heap.size → ¬ S b → w'.heap[b]? = w.heap[b]?
section
variable {S S' : Nat → Prop} {w w' w2 : World}
theorem Fr.refl (S : Nat → Prop) (w : World) : Fr S w w := ⟨rfl, rfl, rfl, Nat.le_refl _, fun _ _ _ => rfl⟩
theorem Fr.of (h : Below w.heap.size w w') : Fr S w w' := ⟨h.os, h.tape, h.output, h.size, fun b hb _ => h.block b hb⟩
theorem Fr.trans (h : Fr S w w') (k : Fr S w' w2) : Fr S w w2 := ⟨k.os.trans h.os, k.tape.trans h.tape, k.output.trans h.output, Nat.le_trans h.size k.size, fun b hb hs => (k.block b (Nat.lt_of_lt_of_le hb h.size) hs).trans (h.block b hb hs)⟩
theorem Fr.mono (h : Fr S w w') (hs : ∀ b, S b → S' b) : Fr S' w w' := ⟨h.os, h.tape, h.output, h.size, fun b hb hn => h.block b hb fun hh => hn (hs b hh)⟩
theorem Fr.below (h : Fr S w w') {lo : Nat} (hl : lo ≤ w.heap.size) (hs : ∀ b, S b → lo ≤ b) : Below lo w w' := ⟨h.os, h.tape, h.output, h.size, fun b hb => h.block b (Nat.lt_of_lt_of_le hb hl) fun hh => by have := hs b hh; omega⟩
theorem Fr.set {g : Nat} (hg : S g) (j : Nat) (v : Value) : Fr S w (w.setCell ⟨g, j, none⟩ v) := ⟨rfl, rfl, rfl, by rw [set_size]; exact Nat.le_refl _, fun b _ hn => set_other (fun e => hn (e ▸ hg))⟩
end

theorem TIn.lt' {w : World} {S : Nat → Prop} {t : Tr} {v : Value} (h : TIn w S t v) : TIn w (fun b => b < w.heap.size) t v := by
  induction h with
  | mk k n s x ks vs A cap C hk hl hm hcap hc ht ih =>
    refine TIn.mk k n s x ks vs A _ C hk hl hm hcap (fun i hi => ?_) ih
    obtain ⟨a, ha, hS, hky, hs, hj⟩ := hc i hi
    refine ⟨a, ha, ?_, hky, hs, hj⟩
    have := World.block_lt_of_cell? _ _ hky.1
    rwa [mem.add_block] at this

end Go.Proofs.YtlbkbcafkjgckaaDoor.tree

/-
  The laws' marks, put into a value whose lists lie each in a block of its own; and into any value that the law has made.
  Conditions: those that each theorem names.
-/
namespace Go.Proofs.YtlbkbcafkjgckaaDoor.tree
open Go.ChangeShapes Go.WideShapes Go.ChangeAt Go.RowKit
set_option linter.unusedVariables false

/-- Seven cells in a row. -/
def set7 (arr : Array Value) (o : Nat) (c0 c1 c2 c3 c4 c5 c6 : Value) : Array Value :=
  ((((((arr.setIfInBounds o c0).setIfInBounds (o + 1) c1).setIfInBounds (o + 2) c2).setIfInBounds (o + 3) c3).setIfInBounds (o + 4) c4).setIfInBounds (o + 5) c5).setIfInBounds (o + 6) c6
theorem set7_size (arr : Array Value) (o : Nat) (c0 c1 c2 c3 c4 c5 c6 : Value) : (set7 arr o c0 c1 c2 c3 c4 c5 c6).size = arr.size := by simp [set7]
theorem set7_out (arr : Array Value) (o : Nat) (c0 c1 c2 c3 c4 c5 c6 : Value) (p : Nat) (h : p < o ∨ o + 7 ≤ p) : (set7 arr o c0 c1 c2 c3 c4 c5 c6)[p]? = arr[p]? := by
  unfold set7
  iterate 7 rw [Array.getElem?_setIfInBounds_ne (by omega)]
theorem set7_in (arr : Array Value) (o : Nat) (c0 c1 c2 c3 c4 c5 c6 : Value) (h : o + 7 ≤ arr.size) (q : Nat) (hq : q < 7) : (set7 arr o c0 c1 c2 c3 c4 c5 c6)[o + q]? = (#[c0, c1, c2, c3, c4, c5, c6] : Array Value)[q]? := by
  unfold set7
  match q, hq with
  | 0, _ => iterate 6 rw [Array.getElem?_setIfInBounds_ne (by omega)]
            rw [Nat.add_zero, Array.getElem?_setIfInBounds_self_of_lt (by omega)]; rfl
  | 1, _ => iterate 5 rw [Array.getElem?_setIfInBounds_ne (by omega)]
            rw [Array.getElem?_setIfInBounds_self_of_lt (by simp; omega)]; rfl
  | 2, _ => iterate 4 rw [Array.getElem?_setIfInBounds_ne (by omega)]
            rw [Array.getElem?_setIfInBounds_self_of_lt (by simp; omega)]; rfl
  | 3, _ => iterate 3 rw [Array.getElem?_setIfInBounds_ne (by omega)]
            rw [Array.getElem?_setIfInBounds_self_of_lt (by simp; omega)]; rfl
  | 4, _ => iterate 2 rw [Array.getElem?_setIfInBounds_ne (by omega)]
            rw [Array.getElem?_setIfInBounds_self_of_lt (by simp; omega)]; rfl
  | 5, _ => rw [Array.getElem?_setIfInBounds_ne (by omega), Array.getElem?_setIfInBounds_self_of_lt (by simp; omega)]; rfl
  | 6, _ => rw [Array.getElem?_setIfInBounds_self_of_lt (by simp; omega)]; rfl

section
variable {w w' : World} {par : Nat → Nat × Nat} {here : Nat × Nat}
/-- What hangs there, and is there, stays. -/
theorem TPar.keep {t : Tr} {v : Value} (h : TPar w par here t v) (hs : ∀ b, Hang par here b → b < w.heap.size → w'.heap[b]? = w.heap[b]?) : TPar w' par here t v := by
  induction h with
  | mk here k n s x ks vs A cap g arr K N X Z D H hk hl hm hcap hg hc ht ih =>
    by_cases h0 : 0 < vs.length
    · obtain ⟨hA, hp, hlt, hb, hs2⟩ := hg h0
      refine .mk here k n s x ks vs A cap g arr K N X Z D H hk hl hm hcap (fun _ => ⟨hA, hp, hlt, (hs g (.root g hp hlt) (Array.getElem?_eq_some_iff.1 hb).1).trans hb, hs2⟩) hc (fun i hi L hL => ih i hi L hL fun b hb => hs b (hb.sub hp hlt))
    · exact .mk here k n s x ks vs A cap g arr K N X Z D H hk hl hm hcap (fun h => absurd h h0) hc (fun i hi => absurd hi (by omega))

theorem PBlk.step {wr w4 : World} {g j : Nat} {m q : Int} {ks : List Ky} {vs : List Tr} (h : PBlk wr par g (mix (mkK m vs) ks j) (mix (mkV m vs) vs j)) (hkl : ks.length = vs.length) {k1 n1 x1 : Int} {s1 : ByteArray} {ks1 : List Ky} {vs1 : List Tr} (ht : vs[j]? = some (.mk k1 n1 s1 x1 ks1 vs1))
    (hq : q = m + 7 * cnts (vs.take j)) (hq0 : 1 ≤ q) (hq1 : q ≤ 1000000000000) {A1 : Option Addr} {c1 : Nat}
    (hg : ∀ arr, wr.heap[g]? = some (.cells arr IE (0, 0)) → arr[j * 8 + 7]? = some (.slice A1 vs1.length c1) ∧ w4.heap[g]? = some (.cells (set7 arr (j * 8) (.bool (decide (q % 3 = 0))) (.int .i64 (q + 1)) (.string (mtx (q + 2))) (.int .i64 (q + 3)) (.int .i64 (q + 4)) (.string (mtx (q + 5))) (.int .i64 (q + 6))) IE (0, 0)))
    (ho : ∀ b, g < b → b < wr.heap.size → ¬ Hang par (g, j) b → w4.heap[b]? = wr.heap[b]?)
    (htp : TPar w4 par (g, j) (.mk (q + 3) (q + 4) (mtx (q + 5)) (q + 6) (mkK (q + 7) vs1) (mkV (q + 7) vs1)) (vV (q + 3) (q + 4) (mtx (q + 5)) (q + 6) A1 vs1.length c1)) :
    PBlk w4 par g (mix (mkK m vs) ks (j + 1)) (mix (mkV m vs) vs (j + 1)) := by
  obtain ⟨hj, -⟩ := List.getElem?_eq_some_iff.1 ht
  obtain ⟨arr, ha, hs, hi⟩ := h
  obtain ⟨hsl, hg4⟩ := hg arr ha
  have hl1 : (mkV m vs).length = vs.length := mkV_len m vs
  have hl2 : (mkK m vs).length = ks.length := by rw [mkK_len, hkl]
  rw [mix_len hl1] at hs hi
  refine ⟨_, hg4, by rw [mix_len hl1, set7_size]; exact hs, fun i hil => ?_⟩
  rw [mix_len hl1] at hil
  by_cases e : i = j
  · subst e
    have hy : (mix (mkK m vs) ks (i + 1))[i]? = some (mkY q) := by rw [mix_lt hl2 (by omega) (by omega), mkK_get m vs i _ ht, hq]
    have hv : (mix (mkV m vs) vs (i + 1))[i]? = some (.mk (q + 3) (q + 4) (mtx (q + 5)) (q + 6) (mkK (q + 7) vs1) (mkV (q + 7) vs1)) := by rw [mix_lt hl1 (by omega) (by omega), mkV_get m vs i _ ht, ← hq, mkT_mk]
    refine ⟨mkY q, _, _, _, _, _, _, A1, c1, hy, hv, ⟨by show I64 (q + 1); unfold I64; omega, by show (mtx (q + 2)).size ≤ maxLen; have := mtx_size (q + 2); unfold maxLen; omega⟩, fun p hp => ?_, by rw [mkV_len]; exact htp⟩
    by_cases hp7 : p < 7
    · rw [set7_in _ _ _ _ _ _ _ _ _ (by omega) p hp7]
      match p, hp7 with
      | 0, _ => rfl
      | 1, _ => rfl
      | 2, _ => rfl
      | 3, _ => rfl
      | 4, _ => rfl
      | 5, _ => rfl
      | 6, _ => rfl
    · obtain rfl : p = 7 := by omega
      rw [set7_out _ _ _ _ _ _ _ _ _ _ (by omega), hsl, mkV_len]
      rfl
  · obtain ⟨y, k, n, s, x, ks', vs', A, c, hy, hv, hyb, hat, hT⟩ := hi i hil
    have same : (mix (mkK m vs) ks (j + 1))[i]? = (mix (mkK m vs) ks j)[i]? ∧ (mix (mkV m vs) vs (j + 1))[i]? = (mix (mkV m vs) vs j)[i]? := by
      by_cases hlt : i < j
      · rw [mix_lt hl2 (by omega) (by omega), mix_lt hl2 hlt (by omega), mix_lt hl1 (by omega) (by omega), mix_lt hl1 hlt (by omega)]
        exact ⟨rfl, rfl⟩
      · rw [mix_ge hl2 (by omega) (by omega), mix_ge hl2 (by omega) (by omega), mix_ge hl1 (by omega) (by omega), mix_ge hl1 (by omega) (by omega)]
        exact ⟨rfl, rfl⟩
    refine ⟨y, k, n, s, x, ks', vs', A, c, by rw [same.1, hy], by rw [same.2, hv], hyb, fun p hp => ?_, hT.keep fun b hb hlt => ho b hb.gt hlt fun hh => e (hb.disj hh)⟩
    rw [set7_out _ _ _ _ _ _ _ _ _ _ (by omega)]
    exact hat p hp
end

def MkQ (w : World) (par : Nat → Nat × Nat) (here : Nat × Nat) (t : Tr) (v : Value) (m : Int) (e : Ending) (w' : World) : Prop := e = .returned (.int .i64 m) ∧ TPar w' par here t v ∧ Fr (Hang par here) w w'


end Go.Proofs.YtlbkbcafkjgckaaDoor.tree

/-
  The laws' marks, put into any value that the law has made: what it is made of stays of one kind.
  Conditions: those that each theorem names.
-/
namespace Go.Proofs.YtlbkbcafkjgckaaDoor.tree
open Go.ChangeShapes Go.WideShapes Go.ChangeAt Go.RowKit
set_option linter.unusedVariables false

mutual
/-- What a tree is without its words. -/
def nrm : Tr → Tr
  | .mk _ _ _ _ _ vs => .mk 0 0 ⟨#[]⟩ 0 [] (nrms vs)
def nrms : List Tr → List Tr
  | [] => []
  | t :: vs => nrm t :: nrms vs
end
theorem nrms_map : ∀ vs, nrms vs = vs.map nrm
  | [] => by rw [nrms]; rfl
  | t :: vs => by rw [nrms, nrms_map vs]; rfl
theorem nrm_mk (k n : Int) (s : ByteArray) (x : Int) (ks : List Ky) (vs : List Tr) : nrm (.mk k n s x ks vs) = .mk 0 0 ⟨#[]⟩ 0 [] (nrms vs) := by rw [nrm]
theorem nrm_items {k n x k' n' x' : Int} {s s' : ByteArray} {ks ks' : List Ky} {vs vs' : List Tr} (h : nrm (.mk k n s x ks vs) = nrm (.mk k' n' s' x' ks' vs')) : nrms vs = nrms vs' := by rw [nrm_mk, nrm_mk] at h; injection h
mutual
theorem cnt_nrm : ∀ t, cnt (nrm t) = cnt t
  | .mk _ _ _ _ _ vs => by rw [nrm, cnt, cnt, cnts_nrm vs]
theorem cnts_nrm : ∀ vs, cnts (nrms vs) = cnts vs
  | [] => by rw [nrms]
  | t :: vs => by rw [nrms, cnts_cons', cnts_cons', cnt_nrm t, cnts_nrm vs]
end

/-- Cells of one kind. -/
def Sim1 (u v : Value) : Prop := u = v ∨ (∃ b b', u = .bool b ∧ v = .bool b') ∨ (∃ n n', u = .int .i64 n ∧ v = .int .i64 n' ∧ I64 n') ∨ (∃ s s', u = .string s ∧ v = .string s' ∧ s'.size ≤ maxLen)
theorem Sim1.trans {u v x : Value} (h : Sim1 u v) (k : Sim1 v x) : Sim1 u x := by
  rcases h with rfl | ⟨b, b', rfl, rfl⟩ | ⟨n, n', rfl, rfl, hn⟩ | ⟨s, s', rfl, rfl, hs⟩
  · exact k
  · rcases k with rfl | ⟨b, b', e, rfl⟩ | ⟨n, n', e, rfl, hn⟩ | ⟨s, s', e, rfl, hs⟩
    · exact .inr (.inl ⟨_, _, rfl, rfl⟩)
    · exact .inr (.inl ⟨_, _, rfl, rfl⟩)
    · cases e
    · cases e
  · rcases k with rfl | ⟨b, b', e, rfl⟩ | ⟨n, n', e, rfl, hn'⟩ | ⟨s, s', e, rfl, hs⟩
    · exact .inr (.inr (.inl ⟨_, _, rfl, rfl, hn⟩))
    · cases e
    · exact .inr (.inr (.inl ⟨_, _, rfl, rfl, hn'⟩))
    · cases e
  · rcases k with rfl | ⟨b, b', e, rfl⟩ | ⟨n, n', e, rfl, hn'⟩ | ⟨s, s', e, rfl, hs'⟩
    · exact .inr (.inr (.inr ⟨_, _, rfl, rfl, hs⟩))
    · cases e
    · cases e
    · exact .inr (.inr (.inr ⟨_, _, rfl, rfl, hs'⟩))
theorem Sim1.bool {b : Bool} {v : Value} (h : Sim1 (.bool b) v) : ∃ b', v = .bool b' := by
  rcases h with rfl | ⟨b, b', e, rfl⟩ | ⟨n, n', e, rfl, hn⟩ | ⟨s, s', e, rfl, hs⟩
  · exact ⟨_, rfl⟩
  · exact ⟨_, rfl⟩
  · cases e
  · cases e
theorem Sim1.int {n : Int} {v : Value} (h : Sim1 (.int .i64 n) v) (h0 : I64 n) : ∃ n', v = .int .i64 n' ∧ I64 n' := by
  rcases h with rfl | ⟨b, b', e, rfl⟩ | ⟨n, n', e, rfl, hn⟩ | ⟨s, s', e, rfl, hs⟩
  · exact ⟨_, rfl, h0⟩
  · cases e
  · exact ⟨_, rfl, hn⟩
  · cases e
theorem Sim1.text {s : ByteArray} {v : Value} (h : Sim1 (.string s) v) (h0 : s.size ≤ maxLen) : ∃ s', v = .string s' ∧ s'.size ≤ maxLen := by
  rcases h with rfl | ⟨b, b', e, rfl⟩ | ⟨n, n', e, rfl, hn⟩ | ⟨s, s', e, rfl, hs⟩
  · exact ⟨_, rfl, h0⟩
  · cases e
  · cases e
  · exact ⟨_, rfl, hs⟩
theorem Sim1.slice {A : Option Addr} {L c : Nat} {v : Value} (h : Sim1 (.slice A L c) v) : v = .slice A L c := by
  rcases h with rfl | ⟨b, b', e, rfl⟩ | ⟨n, n', e, rfl, hn⟩ | ⟨s, s', e, rfl, hs⟩
  · rfl
  · cases e
  · cases e
  · cases e

/-- The plain blocks of S stay plain, their cells of one kind; nothing else changes. -/
structure Sims (S : Nat → Prop) (w w' : World) : Prop where
  fr : Fr S w w'
  plain : ∀ b, S b → Plain w b → Plain w' b
  cell : ∀ (p : Addr) (u : Value), S p.block → w.cell? p = some u → ∃ u', w'.cell? p = some u' ∧ Sim1 u u'
section
variable {S : Nat → Prop} {w w' w2 : World}
theorem Sims.refl (S : Nat → Prop) (w : World) : Sims S w w := ⟨Fr.refl _ _, fun _ _ h => h, fun p u _ h => ⟨u, h, .inl rfl⟩⟩
theorem Sims.trans (h : Sims S w w') (k : Sims S w' w2) : Sims S w w2 := ⟨h.fr.trans k.fr, fun b hb hp => k.plain b hb (h.plain b hb hp), fun p u hp hu => by
  obtain ⟨u', h1, h2⟩ := h.cell p u hp hu
  obtain ⟨u2, h3, h4⟩ := k.cell p u' hp h1
  exact ⟨u2, h3, h2.trans h4⟩⟩
theorem Sims.of (h : Below w.heap.size w w') : Sims S w w' := ⟨Fr.of h, fun b _ ⟨cs, t, hc⟩ => ⟨cs, t, carry h hc⟩, fun p u _ hu => ⟨u, cell_stays (fun hlt => h.block _ hlt) hu, .inl rfl⟩⟩
theorem Sims.set {g o : Nat} {u v : Value} (hg : S g) (hu : w.cell? ⟨g, o, none⟩ = some u) (hs : Sim1 u v) : Sims S w (w.setCell ⟨g, o, none⟩ v) := by
  refine ⟨Fr.set hg _ _, fun b hb ⟨cs, t, hc⟩ => ?_, fun p u' hp hp' => ?_⟩
  · by_cases e : b = g
    · subst e; exact ⟨_, t, set_heap hc _ _⟩
    · exact ⟨cs, t, (set_other e).trans hc⟩
  · by_cases e : (⟨g, o, none⟩ : Addr) = p
    · subst e
      rw [hu] at hp'
      obtain rfl := Option.some.inj hp'
      exact ⟨v, World.cell?_setCell_same _ _ _ hu, hs⟩
    · exact ⟨u', (World.cell?_setCell_other _ _ _ _ e).trans hp', .inl rfl⟩

theorem TIn.head {k n x k' n' x' : Int} {s s' : ByteArray} {ks : List Ky} {vs : List Tr} {A : Option Addr} {L c : Nat} (h : TIn w S (.mk k n s x ks vs) (vV k n s x A L c)) (hk : I64 k' ∧ I64 n' ∧ I64 x' ∧ s'.size ≤ maxLen) : TIn w S (.mk k' n' s' x' ks vs) (vV k' n' s' x' A L c) := by
  cases h with
  | mk _ _ _ _ _ _ A cp C hk0 hl hm hcap hc ht => exact TIn.mk k' n' s' x' ks vs _ _ C hk hl hm hcap hc ht

/-- A tree reads as a tree of one form. -/
theorem TIn.sim {t : Tr} {v : Value} (h : TIn w S t v) (hs : Sims S w w') : ∃ t', nrm t' = nrm t ∧ TIn w' S t' v := by
  induction h with
  | mk k n s x ks vs A cap C hk hl hm hcap hc ht ih =>
    have each : ∀ i, ∃ (y' : Ky) (C' : Array Value) (t' : Tr), ∀ (hi : i < vs.length), (∃ a, A = some a ∧ S a.block ∧ KyAt w' a i y' ∧ C'.size = 5 ∧ ∀ j, j < 5 → w'.cell? (a.add (8 * i + (3 + j))) = C'[j]?) ∧ nrm t' = nrm (vs[i]) ∧ TIn w' S t' (.agg C') := by
      intro i
      by_cases hi : i < vs.length
      · obtain ⟨a, ha, hS, ⟨k0, k1, k2, k3, k4⟩, hsz, hj⟩ := hc i hi
        obtain ⟨t', hn, htin⟩ := ih i hi
        have hadd : ∀ j, S (a.add j).block := fun j => by rw [mem.add_block]; exact hS
        obtain ⟨u0, q0, s0⟩ := hs.cell _ _ (hadd _) k0
        obtain ⟨b', rfl⟩ := s0.bool
        obtain ⟨u1, q1, s1⟩ := hs.cell _ _ (hadd _) k1
        obtain ⟨n', rfl, hn'⟩ := s1.int k3
        obtain ⟨u2, q2, s2⟩ := hs.cell _ _ (hadd _) k2
        obtain ⟨z', rfl, hz'⟩ := s2.text k4
        obtain ⟨kk, nn, ss, xx, kks, vvs⟩ := t'
        obtain ⟨A2, c2, e2, hb2, hin2⟩ := htin.out
        have ec : C i = #[.int .i64 kk, .int .i64 nn, .string ss, .int .i64 xx, .slice A2 vvs.length c2] := by injection e2
        rw [e2] at htin
        have cl : ∀ j, j < 5 → ∃ u, w'.cell? (a.add (8 * i + (3 + j))) = some u ∧ ∃ v, (C i)[j]? = some v ∧ Sim1 v u := fun j hj5 => by
          have := hj j hj5
          rw [Array.getElem?_eq_getElem (by omega)] at this
          obtain ⟨u, h1, h2⟩ := hs.cell _ _ (hadd _) this
          exact ⟨u, h1, _, Array.getElem?_eq_getElem (by omega), h2⟩
        rw [ec] at cl
        obtain ⟨v0, c0, x0, g0, m0⟩ := cl 0 (by omega)
        obtain ⟨v1, c1, x1, g1, m1⟩ := cl 1 (by omega)
        obtain ⟨v2, c2', x2, g2, m2⟩ := cl 2 (by omega)
        obtain ⟨v3, c3, x3, g3, m3⟩ := cl 3 (by omega)
        obtain ⟨v4, c4, x4, g4, m4⟩ := cl 4 (by omega)
        simp at g0 g1 g2 g3 g4
        subst g0 g1 g2 g3 g4
        obtain ⟨p0, rfl, i0⟩ := m0.int hb2.1
        obtain ⟨p1, rfl, i1⟩ := m1.int hb2.2.1
        obtain ⟨p2, rfl, i2⟩ := m2.text hb2.2.2.2
        obtain ⟨p3, rfl, i3⟩ := m3.int hb2.2.2.1
        obtain rfl := m4.slice
        refine ⟨⟨b', n', z'⟩, #[.int .i64 p0, .int .i64 p1, .string p2, .int .i64 p3, .slice A2 vvs.length c2], .mk p0 p1 p2 p3 kks vvs, fun _ => ⟨⟨a, ha, hS, ⟨q0, q1, q2, hn', hz'⟩, rfl, fun j hj5 => ?_⟩, by rw [← hn, nrm_mk, nrm_mk], TIn.head htin ⟨i0, i1, i3, i2⟩⟩⟩
        match j, hj5 with
        | 0, _ => exact c0
        | 1, _ => exact c1
        | 2, _ => exact c2'
        | 3, _ => exact c3
        | 4, _ => exact c4
      · exact ⟨⟨false, 0, ⟨#[]⟩⟩, #[], .mk 0 0 ⟨#[]⟩ 0 [] [], fun h => absurd h hi⟩
    have pick : ∃ (Y : Nat → Ky) (C' : Nat → Array Value) (T' : Nat → Tr), ∀ (i : Nat) (hi : i < vs.length), (∃ a, A = some a ∧ S a.block ∧ KyAt w' a i (Y i) ∧ (C' i).size = 5 ∧ ∀ j, j < 5 → w'.cell? (a.add (8 * i + (3 + j))) = (C' i)[j]?) ∧ nrm (T' i) = nrm (vs[i]) ∧ TIn w' S (T' i) (.agg (C' i)) :=
      ⟨fun i => (each i).choose, fun i => (each i).choose_spec.choose, fun i => (each i).choose_spec.choose_spec.choose, fun i hi => (each i).choose_spec.choose_spec.choose_spec hi⟩
    obtain ⟨Y, C', T', hp⟩ := pick
    have hVl : ((List.range vs.length).map T').length = vs.length := by simp
    refine ⟨.mk k n s x ((List.range vs.length).map Y) ((List.range vs.length).map T'), ?_, ?_⟩
    · rw [nrm_mk, nrm_mk, nrms_map, nrms_map]
      congr 1
      apply List.ext_getElem
      · simp
      · intro i h1 h2
        simp only [List.getElem_map, List.getElem_range]
        exact (hp i (by simpa using h2)).2.1
    · have main := TIn.mk (w := w') (S := S) k n s x ((List.range vs.length).map Y) ((List.range vs.length).map T') A cap C' hk (by simp) (by rw [hVl]; exact hm) (by rw [hVl]; exact hcap) (fun i hi => by
          have hi' : i < vs.length := by simpa using hi
          obtain ⟨a, h1, h2, h3, h4, h5⟩ := (hp i hi').1
          refine ⟨a, h1, h2, ?_, h4, h5⟩
          simp only [List.getElem_map, List.getElem_range]
          exact h3) (fun i hi => by
          simp only [List.getElem_map, List.getElem_range]
          exact (hp i (by simpa using hi)).2.2)
      rw [hVl] at main
      exact main

theorem IsIn.sim {ks : List Ky} {vs : List Tr} {A : Option Addr} (h : IsIn w S ks vs A) (hs : Sims S w w') : ∃ ks' vs', nrms vs' = nrms vs ∧ IsIn w' S ks' vs' A := by
  obtain ⟨t', hn, ht⟩ := (TIn.of (k := 0) (n := 0) (s := ⟨#[]⟩) (x := 0) vs.length ⟨by unfold I64; omega, by unfold I64; omega, by unfold I64; omega, Nat.zero_le _⟩ h ⟨Nat.le_refl _, h.2.1⟩).sim hs
  obtain ⟨k, n, s, x, ks', vs'⟩ := t'
  obtain ⟨A', c', e, -, hin⟩ := ht.out
  simp at e
  obtain ⟨-, -, -, -, rfl, -, -⟩ := e
  exact ⟨ks', vs', nrm_items hn, hin⟩
theorem At8.sim {g o : Nat} {y : Ky} {k n x : Int} {s : ByteArray} {A : Option Addr} {L c : Nat} (h : At8 w ⟨g, o, none⟩ y k n s x A L c) (hs : Sims S w w') (hg : S g) (hy : I64 y.num ∧ y.str.size ≤ maxLen) (hk : I64 k ∧ I64 n ∧ I64 x ∧ s.size ≤ maxLen) :
    ∃ y' k' n' s' x', At8 w' ⟨g, o, none⟩ y' k' n' s' x' A L c ∧ (I64 y'.num ∧ y'.str.size ≤ maxLen) ∧ (I64 k' ∧ I64 n' ∧ I64 x' ∧ s'.size ≤ maxLen) := by
  obtain ⟨u0, q0, s0⟩ := hs.cell _ _ hg h.c0
  obtain ⟨b', rfl⟩ := s0.bool
  obtain ⟨u1, q1, s1⟩ := hs.cell _ _ hg h.c1
  obtain ⟨n1, rfl, h1⟩ := s1.int hy.1
  obtain ⟨u2, q2, s2⟩ := hs.cell _ _ hg h.c2
  obtain ⟨z2, rfl, h2⟩ := s2.text hy.2
  obtain ⟨u3, q3, s3⟩ := hs.cell _ _ hg h.c3
  obtain ⟨n3, rfl, h3⟩ := s3.int hk.1
  obtain ⟨u4, q4, s4⟩ := hs.cell _ _ hg h.c4
  obtain ⟨n4, rfl, h4⟩ := s4.int hk.2.1
  obtain ⟨u5, q5, s5⟩ := hs.cell _ _ hg h.c5
  obtain ⟨z5, rfl, h5⟩ := s5.text hk.2.2.2
  obtain ⟨u6, q6, s6⟩ := hs.cell _ _ hg h.c6
  obtain ⟨n6, rfl, h6⟩ := s6.int hk.2.2.1
  obtain ⟨u7, q7, s7⟩ := hs.cell _ _ hg h.c7
  obtain rfl := s7.slice
  exact ⟨⟨b', n1, z2⟩, n3, n4, z5, n6, ⟨q0, q1, q2, q3, q4, q5, q6, q7⟩, ⟨h1, h2⟩, ⟨h3, h4, h6, h5⟩⟩
end

def MyQ (w : World) (S : Nat → Prop) (m : Int) (e : Ending) (w' : World) : Prop := e = .returned (.int .i64 m) ∧ Sims S w w'

theorem frozen_plain {w : World} {g : Nat} (h : Plain w g) (o : Nat) : w.frozen? ⟨g, o, none⟩ = false := by
  obtain ⟨cs, t, h⟩ := h
  exact (rowc h).2 o

theorem nrms_get {vs vs' : List Tr} (h : nrms vs' = nrms vs) {j : Nat} {t t' : Tr} (ht : vs[j]? = some t) (ht' : vs'[j]? = some t') : nrm t' = nrm t := by
  rw [nrms_map, nrms_map] at h
  have h1 : (vs'.map nrm)[j]? = (vs.map nrm)[j]? := by rw [h]
  rw [List.getElem?_map, List.getElem?_map, ht, ht'] at h1
  exact Option.some.inj h1
theorem nrms_len {vs vs' : List Tr} (h : nrms vs' = nrms vs) : vs'.length = vs.length := by
  rw [nrms_map, nrms_map] at h
  have := congrArg List.length h
  simpa using this



end Go.Proofs.YtlbkbcafkjgckaaDoor.tree

/-
  What the walks of the exact laws on values ask for again and again: the words of blocks behind calls, marks that are put in and found again.
  Conditions: those that each theorem names.
-/
namespace Go.Proofs.YtlbkbcafkjgckaaDoor.tree
open Go.ChangeShapes Go.WideShapes Go.ChangeAt Go.RowKit
set_option linter.unusedVariables false

/-- How many items hang in a value. -/
def itm : Tr → Nat
  | .mk _ _ _ _ _ vs => cnts vs
theorem itm_cnt (t : Tr) : cnt t = 1 + itm t := by cases t; rw [cnt_mk', itm]
/-- A value with marks. -/
def mkI (m : Int) : Tr → Tr
  | .mk k n s x _ vs => .mk k n s x (mkK m vs) (mkV m vs)

/-- Blocks from lo on and below hi. -/
def Rg (lo hi : Nat) (b : Nat) : Prop := lo ≤ b ∧ b < hi
/-- A value in plain blocks from lo on: in those that are there. -/
theorem TIn.rg {w : World} {lo : Nat} {t : Tr} {v : Value} (h : TIn w (Nw lo w) t v) : TIn w (fun b => Rg lo w.heap.size b ∧ Plain w b) t v := h.stays (fun b hb => ⟨⟨hb.1, hb.2.lt⟩, hb.2⟩) (fun _ _ _ => rfl)


/-- Nothing hangs but what is there. -/
theorem TPar.tight {w : World} {par : Nat → Nat × Nat} {R i : Nat} {t : Tr} {v : Value} (h : TPar w par (R, i) t v) : ∃ par', TPar w par' (R, i) t v ∧ ∀ b, Hang par' (R, i) b → Rg (R + 1) w.heap.size b := by
  refine ⟨fun b => if b < w.heap.size then par b else (b, 0), h.par_ fun b hb => if_pos hb, fun b hb => ⟨by have := hb.gt; simp at this; omega, ?_⟩⟩
  cases hb with
  | root _ e hlt =>
    by_cases hb : b < w.heap.size
    · exact hb
    · rw [if_neg hb] at e
      injection e with e1 e2
      simp at hlt
      omega
  | step _ g j e hlt hh =>
    by_cases hb : b < w.heap.size
    · exact hb
    · rw [if_neg hb] at e
      injection e with e1 e2
      omega



end Go.Proofs.YtlbkbcafkjgckaaDoor.tree

/-
  Items that a call appends one by one: a row of its own.
  Conditions: those that each theorem names.
-/
namespace Go.Proofs.YtlbkbcafkjgckaaDoor.tree
open Go.ChangeShapes Go.WideShapes Go.ChangeAt Go.RowKit
set_option linter.unusedVariables false

/-- lo or above, and not the row's own block. -/
def SX (lo : Nat) (v : Value) (b : Nat) : Prop := lo ≤ b ∧ v.ownBlock ≠ some b
def xAt8 (xs : List Value) (i : Nat) (y : Ky) (k n : Int) (s : ByteArray) (x : Int) (A : Option Addr) (L c : Nat) : Prop := ∀ q, q < 8 → xs[i * 8 + q]? = (eV y k n s x A L c).cells[q]?
def ORowX (w : World) (lo : Nat) (v : Value) (xs : List Value) (ks : List Ky) (vs : List Tr) : Prop :=
  w.ownsRow lo IE 8 v vs.length xs ∧ ks.length = vs.length ∧ ∀ i, i < vs.length → ∃ y k n s x ks' vs' A c, ks[i]? = some y ∧ vs[i]? = some (.mk k n s x ks' vs') ∧ (I64 y.num ∧ y.str.size ≤ maxLen) ∧
    xAt8 xs i y k n s x A vs'.length c ∧ TIn w (SX lo v) (.mk k n s x ks' vs') (vV k n s x A vs'.length c)
def ORow (w : World) (lo : Nat) (v : Value) (ks : List Ky) (vs : List Tr) : Prop := ∃ xs, ORowX w lo v xs ks vs

section
variable {w w' : World} {lo : Nat} {v : Value} {ks : List Ky} {vs : List Tr}
theorem ORow.nil (w : World) (lo : Nat) : ORow w lo (.slice none 0 0) [] [] := ⟨[], World.ownsRow_nil w lo _ 8, rfl, fun i hi => absurd hi (by simp)⟩
theorem ownBlock_keep {v : Value} : v.ownBlock = none ∨ v.ownBlock ≠ (none : Option Nat) := by
  cases e : v.ownBlock with
  | none => exact .inl rfl
  | some k => exact .inr (by simp)
theorem ORowX.below {xs : List Value} (h : ORowX w lo v xs ks vs) (hb : Below w.heap.size w w') : ORowX w' lo v xs ks vs := by
  obtain ⟨h1, h2, h3⟩ := h
  refine ⟨World.ownsRow.kept h1 (mem.none_of_below hb) ownBlock_keep, h2, fun i hi => ?_⟩
  obtain ⟨y, k, n, s, x, ks', vs', A, c, a1, a2, a3, a4, a5⟩ := h3 i hi
  exact ⟨y, k, n, s, x, ks', vs', A, c, a1, a2, a3, a4, a5.below' hb⟩
theorem ORow.below (h : ORow w lo v ks vs) (hb : Below w.heap.size w w') : ORow w' lo v ks vs := by
  obtain ⟨xs, h⟩ := h
  exact ⟨xs, h.below hb⟩
theorem ORowX.above {xs : List Value} (h : ORowX w lo v xs ks vs) (hs : ∀ b, lo ≤ b → b < w.heap.size → w'.heap[b]? = w.heap[b]?) : ORowX w' lo v xs ks vs := by
  obtain ⟨h1, h2, h3⟩ := h
  refine ⟨⟨h1.1, ?_⟩, h2, fun i hi => ?_⟩
  · rcases h1.2 with h | ⟨g, cap, cur, e, hlo, hg, hr⟩
    · exact .inl h
    · exact .inr ⟨g, cap, cur, e, hlo, (hs g hlo (Array.getElem?_eq_some_iff.1 hg).1).trans hg, hr⟩
  · obtain ⟨y, k, n, s, x, ks', vs', A, c, a1, a2, a3, a4, a5⟩ := h3 i hi
    exact ⟨y, k, n, s, x, ks', vs', A, c, a1, a2, a3, a4, a5.stays (fun _ h => h) fun b hb hlt => hs b hb.1 hlt⟩
theorem ORow.above (h : ORow w lo v ks vs) (hs : ∀ b, lo ≤ b → b < w.heap.size → w'.heap[b]? = w.heap[b]?) : ORow w' lo v ks vs := by
  obtain ⟨xs, h⟩ := h
  exact ⟨xs, h.above hs⟩
theorem ORow.block (h : ORow w lo v ks vs) : ∀ k, v.ownBlock = some k → lo ≤ k ∧ k < w.heap.size := by
  obtain ⟨xs, h1, -⟩ := h
  exact h1.lt

/-- One more. -/
theorem ORowX.more {xs : List Value} (h : ORowX w lo v xs ks vs)
    {y : Ky} {k n x : Int} {s : ByteArray} {ks' : List Ky} {vs' : List Tr} {A : Option Addr} {c : Nat} (hy : I64 y.num ∧ y.str.size ≤ maxLen) (ht : TIn w (SX lo v) (.mk k n s x ks' vs') (vV k n s x A vs'.length c))
    {v' : Value} (ho : w'.ownsRow lo IE 8 v' (vs.length + 1) (xs ++ [.bool y.text, .int .i64 y.num, .string y.str, .int .i64 k, .int .i64 n, .string s, .int .i64 x, .slice A vs'.length c])) (hg : w.grownBy w' v.ownBlock) (hat : v'.ownBlock = v.ownBlock ∨ v'.ownBlock = some w.heap.size) :
    ORow w' lo v' (ks ++ [y]) (vs ++ [.mk k n s x ks' vs']) := by
  obtain ⟨h1, h2, h3⟩ := h
  have hxl : xs.length = vs.length * 8 := h1.1
  have st : ∀ {t : Tr} {u : Value}, TIn w (SX lo v) t u → TIn w' (SX lo v') t u := fun {t u} h => by
    have h' : TIn w (fun b => SX lo v b ∧ b < w.heap.size) t u := by
      induction h with
      | mk k n s x ks vs A cap C hk hl hm hcap hc ht ih =>
        refine .mk k n s x ks vs A cap C hk hl hm hcap (fun i hi => ?_) ih
        obtain ⟨a, ha, hS, hky, hs, hj⟩ := hc i hi
        refine ⟨a, ha, ⟨hS, ?_⟩, hky, hs, hj⟩
        have := World.block_lt_of_cell? _ _ hky.1
        rwa [mem.add_block] at this
    exact h'.stays (fun b ⟨⟨hb1, hb2⟩, hb3⟩ => ⟨hb1, fun e => by
      rcases hat with h | h
      · exact hb2 (h ▸ e)
      · rw [h] at e; injection e with e; omega⟩) (fun b ⟨⟨hb1, hb2⟩, hb3⟩ hlt => hg.block b hlt (fun e => hb2 e.symm))
  refine ⟨_, by rw [List.length_append]; exact ho, by rw [List.length_append, List.length_append, h2]; rfl, fun i hi => ?_⟩
  rw [List.length_append] at hi
  simp only [List.length_cons, List.length_nil] at hi
  by_cases e : i = vs.length
  · subst e
    refine ⟨y, k, n, s, x, ks', vs', A, c, by rw [List.getElem?_append_right (by omega), h2]; simp, by rw [List.getElem?_append_right (by omega)]; simp, hy, fun q hq => ?_, st ht⟩
    rw [List.getElem?_append_right (by omega), hxl, Nat.add_sub_cancel_left]
    match q, hq with
    | 0, _ => rfl
    | 1, _ => rfl
    | 2, _ => rfl
    | 3, _ => rfl
    | 4, _ => rfl
    | 5, _ => rfl
    | 6, _ => rfl
    | 7, _ => rfl
  · obtain ⟨y1, k1, n1, s1, x1, ks1, vs1, A1, c1, a1, a2, a3, a4, a5⟩ := h3 i (by omega)
    refine ⟨y1, k1, n1, s1, x1, ks1, vs1, A1, c1, by rw [List.getElem?_append_left (by omega)]; exact a1, by rw [List.getElem?_append_left (by omega)]; exact a2, a3, fun q hq => ?_, st a5⟩
    rw [List.getElem?_append_left (by omega)]
    exact a4 q hq

theorem ORow.isin (h : ORow w lo v ks vs) (hm : vs.length ≤ maxLen) : ∃ A c, v = .slice A vs.length c ∧ (vs.length ≤ c ∧ c ≤ maxLen) ∧ IsIn w (fun b => lo ≤ b) ks vs A := by
  obtain ⟨xs, h1, h2, h3⟩ := h
  rcases h1.2 with ⟨rfl, h0⟩ | ⟨g, cap, cur, rfl, hlo, hg, hnc, hcm, hsz, htk⟩
  · obtain rfl : vs = [] := List.length_eq_zero_iff.1 h0
    obtain rfl : ks = [] := List.length_eq_zero_iff.1 h2
    exact ⟨none, 0, rfl, ⟨by simp, by simp⟩, IsIn.nil _ _ _⟩
  · refine ⟨some ⟨g, 0, none⟩, cap, rfl, ⟨hnc, hcm⟩, h2, hm, ?_⟩
    have each : ∀ i, ∃ C : Array Value, ∀ (hi : i < vs.length), KyAt w ⟨g, 0, none⟩ i (ks[i]'(h2 ▸ hi)) ∧ C.size = 5 ∧ (∀ j, j < 5 → w.cell? ((⟨g, 0, none⟩ : Addr).add (8 * i + (3 + j))) = C[j]?) ∧ TIn w (fun b => lo ≤ b) (vs[i]) (.agg C) := by
      intro i
      by_cases hi : i < vs.length
      · obtain ⟨y, k, n, s, x, ks', vs', A, c, hy, ht, hyb, hat, hT⟩ := h3 i hi
        have ey : ks[i]'(h2 ▸ hi) = y := by rw [List.getElem?_eq_getElem (h2 ▸ hi)] at hy; exact Option.some.inj hy
        have et : vs[i] = .mk k n s x ks' vs' := by rw [List.getElem?_eq_getElem hi] at ht; exact Option.some.inj ht
        have at_ : ∀ q, q < 8 → w.cell? ((⟨g, 0, none⟩ : Addr).add (8 * i + q)) = (eV y k n s x A vs'.length c).cells[q]? := fun q hq => by
          rw [Addr.add_lit, Nat.zero_add, cell_of_row w g _ cur IE _ hg, ← hat q hq, ← htk, List.getElem?_take_of_lt (by omega), Nat.mul_comm]
          simp
        refine ⟨#[.int .i64 k, .int .i64 n, .string s, .int .i64 x, .slice A vs'.length c], fun _ => ?_⟩
        rw [ey, et]
        refine ⟨⟨at_ 0 (by omega), at_ 1 (by omega), at_ 2 (by omega), hyb⟩, rfl, fun j hj => ?_, hT.stays (fun b hb => hb.1) (fun b _ _ => rfl)⟩
        rw [at_ (3 + j) (by omega)]
        match j, hj with
        | 0, _ => rfl
        | 1, _ => rfl
        | 2, _ => rfl
        | 3, _ => rfl
        | 4, _ => rfl
      · exact ⟨#[], fun h => absurd h hi⟩
    exact ⟨fun i => (each i).choose, fun i hi => ⟨_, rfl, hlo, ((each i).choose_spec hi).1, ((each i).choose_spec hi).2.1, ((each i).choose_spec hi).2.2.1⟩, fun i hi => ((each i).choose_spec hi).2.2.2⟩
end

theorem addr_far {N j : Nat} (h : N < j) (o : Nat) : ∀ p : Addr, p.block < N + 1 → (⟨j, o, none⟩ : Addr) ≠ p := fun p hp e => by
  rw [← e] at hp
  simp only at hp
  omega
theorem ie_info : ∃ i, Tryd.prog.info? IE = some i ∧ (i.zero = some (.agg #[.bool false, .int .i64 0, .string ⟨#[]⟩, .int .i64 0, .int .i64 0, .string ⟨#[]⟩, .int .i64 0, .slice none 0 0]) ∧ i.size = 8 ∧ i.bytes = 96) := by
  have := ieRow
  cases hq : Tryd.prog.info? IE with
  | none => rw [hq] at this; cases this
  | some i => rw [hq] at this; simp at this; exact ⟨i, rfl, this⟩
theorem eight_one (b : Bool) (n : Int) (s : ByteArray) (k m : Int) (z : ByteArray) (x : Int) (A : Option Addr) (L c : Nat) : ∀ u ∈ [Value.bool b, .int .i64 n, .string s, .int .i64 k, .int .i64 m, .string z, .int .i64 x, .slice A L c], u.oneCell' = true := by simp [Value.oneCell']
theorem eight_new (w : World) (c0 c1 c2 c3 c4 c5 c6 c7 : Value) (t : TypeId) : ∀ j u, [c0, c1, c2, c3, c4, c5, c6, c7][j]? = some u → (w.alloc (.cells #[c0, c1, c2, c3, c4, c5, c6, c7] t)).cell? ((⟨w.heap.size, 0, none⟩ : Addr).add j) = some u := by
  intro j u hj
  rw [Addr.add_lit, Nat.zero_add, cell_of_row _ _ j _ t _ (heap_alloc_new w _)]
  simpa using hj

end Go.Proofs.YtlbkbcafkjgckaaDoor.tree

/-
  The model's copy of a value.
  Conditions: those that each theorem names.
-/
namespace Go.Proofs.YtlbkbcafkjgckaaDoor.tree
open Go.ChangeShapes Go.WideShapes Go.ChangeAt Go.RowKit
set_option linter.unusedVariables false

def CyS (t : Tr) : Prop := cnt t ≤ 1000000000 → ∀ (w : World) (S : Nat → Prop) (v : Value), TIn w S t v → Calls Tryd.prog 110 #[v] w (ToQ w t)

theorem cnts_len : ∀ vs : List Tr, vs.length ≤ cnts vs
  | [] => by simp [cnts_nil]
  | t :: vs => by
    have := cnts_len vs
    obtain ⟨k, n, s, x, ks, us⟩ := t
    rw [cnts_cons', cnt_mk', List.length_cons]
    omega

set_option maxHeartbeats 2000000 in
theorem l5Copy : ∀ t, CyS t := Tr.ind fun k n s x ks vs ih hT w S v h => by
  obtain ⟨A, c, rfl, hk, hin⟩ := h.out
  rw [cnt_mk'] at hT
  have hlen := cnts_len vs
  have hm2 : vs.length ≤ maxLen := hin.2.1
  have hkl := Lib.hid hin.1
  have HK := Lib.hid hk
  have HI := Lib.hid hin
  have HT := Lib.hid hT
  obtain ⟨L, HL⟩ : ∃ L, Hid (L = vs.length) := ⟨_, Lib.hid rfl⟩
  rw [← HL.out] at hlen hm2 ⊢
  have hL9 : L ≤ 1000000000 := by omega
  clear h hin hk hT hlen hm2
  go_enter Tryd.func110, Tryd.ntmps110
  go_wp2_with (fail)
  obtain ⟨i0, hi, hz⟩ := ie_info
  have HII := Lib.hid hi
  have HZZ := Lib.hid hz
  clear hi hz
  obtain ⟨N, HN⟩ : ∃ N, Hid (N = w.heap.size) := ⟨_, Lib.hid rfl⟩
  go_loopg [4] (L + 1) (fun gk i wr => ∃ (j : Nat) (A1 : Option Addr) (c1 : Nat), i = .int .i64 j ∧ gk + j = L + 1 ∧ j ≤ L ∧ (∃ cz, Hid (wr.heap[w.heap.size + 1]? = some (.cells #[.int .i64 0, .int .i64 0, .string ⟨#[]⟩, .int .i64 0, .slice none 0 0] cz (0, 0)))) ∧ Hid (wr.heap[w.heap.size]? = some (.cells #[.int .i64 k, .int .i64 n, .string s, .int .i64 x, .slice A L c] IV (0, 0))) ∧
    Hid (wr.heap[w.heap.size + 1 + 1]? = some (.cells #[.int .i64 k, .int .i64 n, .string s, .int .i64 x, .slice A1 j c1] IV (0, 0))) ∧ Hid (ORow wr (w.heap.size + 1 + 1 + 1) (.slice A1 j c1) (ks.take j) (vs.take j)) ∧ Below w.heap.size w wr)
  case atStart =>
    obtain ⟨a0, a1, a2, az, ab⟩ := al3 w #[.int .i64 k, .int .i64 n, .string s, .int .i64 x, .slice A L c] #[.int .i64 0, .int .i64 0, .string ⟨#[]⟩, .int .i64 0, .slice none 0 0] #[.int .i64 k, .int .i64 n, .string s, .int .i64 x, .slice none 0 0] IV IV IV
    exact ⟨0, none, 0, rfl, by omega, by omega, ⟨_, Lib.hid a1⟩, Lib.hid a0, Lib.hid a2, Lib.hid (by simpa using ORow.nil _ _), ab⟩
  case round =>
    obtain ⟨j, A1, c1, rfl, hgj, hjL, ⟨cz, HE1⟩, HE0, HE2, HR, hb⟩ := hrel
    have HB := Lib.hid hb
    clear hb
    obtain ⟨r0, -⟩ := rowc HE0.out
    obtain ⟨r1, f1⟩ := rowc HE1.out
    obtain ⟨r2, f2⟩ := rowc HE2.out
    by_cases hlt : j < L
    · obtain ⟨a, y, k', n', s', x', ks', vs', A', c', rfl, hS, hky, hvs, ht, hyb, hkb, hin', hcell0⟩ := HI.out.item (i := j) (by rw [← HL.out]; exact hlt)
      have hab : (a.add (j * 8)).block < w.heap.size := World.block_lt_of_cell? _ _ hcell0.c0
      have hcell := hcell0.below HB.out
      have hcl := cnts_lt hvs
      have hT := HT.out
      have ihj : ∀ w', Below wr.heap.size wr w' → Calls Tryd.prog 110 #[vV k' n' s' x' A' vs'.length c'] w' (ToQ w' (.mk k' n' s' x' ks' vs')) := fun w' hb' => ih _ (List.mem_of_getElem? hvs) (by omega) w' S _ (ht.below' (bs HB.out hb'))
      obtain ⟨L1, HL1⟩ : ∃ L1, Hid (L1 = vs'.length) := ⟨_, Lib.hid rfl⟩
      rw [← HL1.out] at ihj hcell
      obtain ⟨xs, hx⟩ := HR.out
      have HX := Lib.hid hx
      have HLJ : Hid ((vs.take j).length = j) := Lib.hid (by rw [List.length_take, ← HL.out]; omega)
      have HSZ : Hid (w.heap.size + 1 + 1 + 1 ≤ wr.heap.size) := Lib.hid (Array.getElem?_eq_some_iff.1 HE2.out).1
      have IHJ := Lib.hid ihj
      have HC := Lib.hid hcell
      have HYB := Lib.hid hyb
      have HKY := Lib.hid hky
      have HVS := Lib.hid hvs
      obtain ⟨yb, yn, ys⟩ := y
      obtain ⟨p0, p1, p2, p3, p4, p5, p6, p7⟩ := hcell
      simp only at p0 p1 p2
      have HAB := Lib.hid hab
      have HNE : Hid (∀ p : Addr, p.block < w.heap.size + 1 → (⟨w.heap.size + 1 + 1, 4, none⟩ : Addr) ≠ p) := Lib.hid (addr_far (Nat.lt_succ_of_lt (Nat.lt_succ_self _)) 4)
      clear ihj hyb hky hvs ht hkb hin' hS hcl hT r1 f1 hx hcell0 hab
      go_wp2_with (fail)
      refine wp_region_held_drew (S := (fun w' => w'.cell? ⟨w.heap.size, 4, none⟩ = some (.slice (some a) L c) ∧ w'.cell? (a.add (j * 8)) = some (.bool yb) ∧ w'.cell? ⟨(a.add (j * 8)).block, (a.add (j * 8)).off + 1, none⟩ = some (.int .i64 yn) ∧ w'.cell? ⟨(a.add (j * 8)).block, (a.add (j * 8)).off + 2, none⟩ = some (.string ys) ∧ w'.cell? ⟨(a.add (j * 8)).block, (a.add (j * 8)).off + 3, none⟩ = some (.int .i64 k') ∧ w'.cell? ⟨(a.add (j * 8)).block, (a.add (j * 8)).off + 4, none⟩ = some (.int .i64 n') ∧ w'.cell? ⟨(a.add (j * 8)).block, (a.add (j * 8)).off + 5, none⟩ = some (.string s') ∧ w'.cell? ⟨(a.add (j * 8)).block, (a.add (j * 8)).off + 6, none⟩ = some (.int .i64 x') ∧ w'.cell? ⟨(a.add (j * 8)).block, (a.add (j * 8)).off + 7, none⟩ = some (.slice A' L1 c'))) (by kernel_rfl) ?_ (fun hHeld => ?_)
      · (try dsimp only) <;> go_keep
      refine wpAnyH_take (i := 0) (v := ?_) rfl (by kernel_rfl) (by kernel_rfl) (by kernel_rfl) (fun _ _ _ h => h) (Or.inl ⟨by rfl, ?_⟩) (by assumption) ?_
      rotate_left
      · (intro w hSw; (try dsimp only at hSw); go_split_ands; go_simp; try (with_reducible rfl))
      try simp only [Act.put, List.setIfInBounds_toArray, List.set_cons_zero, List.set_cons_succ]
      refine wpAnyH_take (i := 2) (v := ?_) rfl (by kernel_rfl) (by kernel_rfl) (by kernel_rfl) (fun _ _ _ h => h) (Or.inl ⟨by rfl, ?_⟩) (by assumption) ?_
      rotate_left
      · (intro w hSw; (try dsimp only at hSw); go_split_ands; go_simp; try (with_reducible rfl))
      try simp only [Act.put, List.setIfInBounds_toArray, List.set_cons_zero, List.set_cons_succ]
      refine wpAnyH_take (i := 3) (v := ?_) rfl (by kernel_rfl) (by kernel_rfl) (by kernel_rfl) (fun _ _ _ h => h) (Or.inl ⟨by rfl, ?_⟩) (by assumption) ?_
      rotate_left
      · (intro w hSw; (try dsimp only at hSw); go_split_ands; go_simp; try (with_reducible rfl))
      try simp only [Act.put, List.setIfInBounds_toArray, List.set_cons_zero, List.set_cons_succ]
      refine wpAnyH_take (i := 4) (v := ?_) rfl (by kernel_rfl) (by kernel_rfl) (by kernel_rfl) (fun _ _ _ h => h) (Or.inl ⟨by rfl, ?_⟩) (by assumption) ?_
      rotate_left
      · (intro w hSw; (try dsimp only at hSw); go_split_ands; go_simp; try (with_reducible rfl))
      try simp only [Act.put, List.setIfInBounds_toArray, List.set_cons_zero, List.set_cons_succ]
      refine wpAnyH_take (i := 5) (v := ?_) rfl (by kernel_rfl) (by kernel_rfl) (by kernel_rfl) (fun _ _ _ h => h) (Or.inl ⟨by rfl, ?_⟩) (by assumption) ?_
      rotate_left
      · (intro w hSw; (try dsimp only at hSw); go_split_ands; go_simp; try (with_reducible rfl))
      try simp only [Act.put, List.setIfInBounds_toArray, List.set_cons_zero, List.set_cons_succ]
      refine wpAnyH_take (i := 6) (v := ?_) rfl (by kernel_rfl) (by kernel_rfl) (by kernel_rfl) (fun _ _ _ h => h) (Or.inl ⟨by rfl, ?_⟩) (by assumption) ?_
      rotate_left
      · (intro w hSw; (try dsimp only at hSw); go_split_ands; go_simp; try (with_reducible rfl))
      try simp only [Act.put, List.setIfInBounds_toArray, List.set_cons_zero, List.set_cons_succ]
      refine wpAnyH_take (i := 7) (v := ?_) rfl (by kernel_rfl) (by kernel_rfl) (by kernel_rfl) (fun _ _ _ h => h) (Or.inl ⟨by rfl, ?_⟩) (by assumption) ?_
      rotate_left
      · (intro w hSw; (try dsimp only at hSw); go_split_ands; go_simp; try (with_reducible rfl))
      try simp only [Act.put, List.setIfInBounds_toArray, List.set_cons_zero, List.set_cons_succ]
      refine wpAnyH_take (i := 8) (v := ?_) rfl (by kernel_rfl) (by kernel_rfl) (by kernel_rfl) (fun _ _ _ h => h) (Or.inl ⟨by rfl, ?_⟩) (by assumption) ?_
      rotate_left
      · (intro w hSw; (try dsimp only at hSw); go_split_ands; go_simp; try (with_reducible rfl))
      try simp only [Act.put, List.setIfInBounds_toArray, List.set_cons_zero, List.set_cons_succ]
      refine wpAnyH_take (i := 9) (v := ?_) rfl (by kernel_rfl) (by kernel_rfl) (by kernel_rfl) (fun _ _ _ h => h) (Or.inl ⟨by rfl, ?_⟩) (by assumption) ?_
      rotate_left
      · (intro w hSw; (try dsimp only at hSw); go_split_ands; go_simp; try (with_reducible rfl))
      try simp only [Act.put, List.setIfInBounds_toArray, List.set_cons_zero, List.set_cons_succ]
      refine wpAnyH_take (i := 10) (v := ?_) rfl (by kernel_rfl) (by kernel_rfl) (by kernel_rfl) (fun _ _ _ h => h) (Or.inl ⟨by rfl, ?_⟩) (by assumption) ?_
      rotate_left
      · (intro w hSw; (try dsimp only at hSw); go_split_ands; go_simp; try (with_reducible rfl))
      try simp only [Act.put, List.setIfInBounds_toArray, List.set_cons_zero, List.set_cons_succ]
      refine wpAnyH_take (i := 11) (v := ?_) rfl (by kernel_rfl) (by kernel_rfl) (by kernel_rfl) (fun _ _ _ h => h) (Or.inl ⟨by rfl, ?_⟩) (by assumption) ?_
      rotate_left
      · (intro w hSw; (try dsimp only at hSw); go_split_ands; go_simp; try (with_reducible rfl))
      try simp only [Act.put, List.setIfInBounds_toArray, List.set_cons_zero, List.set_cons_succ]
      refine wpAnyH_take (i := 12) (v := ?_) rfl (by kernel_rfl) (by kernel_rfl) (by kernel_rfl) (fun _ _ _ h => h) (Or.inl ⟨by rfl, ?_⟩) (by assumption) ?_
      rotate_left
      · (intro w hSw; (try dsimp only at hSw); go_split_ands; go_simp; try (with_reducible rfl))
      try simp only [Act.put, List.setIfInBounds_toArray, List.set_cons_zero, List.set_cons_succ]
      refine wpAnyH_take (i := 13) (v := ?_) rfl (by kernel_rfl) (by kernel_rfl) (by kernel_rfl) (fun _ _ _ h => h) (Or.inl ⟨by rfl, ?_⟩) (by assumption) ?_
      rotate_left
      · (intro w hSw; (try dsimp only at hSw); go_split_ands; go_simp; try (with_reducible rfl))
      try simp only [Act.put, List.setIfInBounds_toArray, List.set_cons_zero, List.set_cons_succ]
      refine wpAnyH_ready (rs := [1, 14]) (by kernel_rfl) (by simp) ?_
      refine AllReadyH.cons rfl (fun K hK => ?_) ?_
      · go_simp
        refine hK.out _ _ ?_ (fun hHeld => ?_)
        · (first | go_keep | (go_split_ands; refine ⟨?_, ?_, ?_, ?_, ?_, ?_, ?_, ?_, ?_⟩ <;> (rw [World.cell?_setCell_other _ _ _ _ (HNE.out _ (by first | (show w.heap.size < _; omega) | exact Nat.lt_succ_of_lt HAB.out))]; assumption)))
        clear hK K
        try simp only [Act.put, List.setIfInBounds_toArray, List.set_cons_zero, List.set_cons_succ]
        refine wpAnyH_ready (rs := [14]) (by kernel_rfl) (by simp) ?_
        refine AllReadyH.cons rfl (fun K hK => ?_) AllReadyH.nil
        go_simp
        go_at_call 110
        refine (IHJ.out _ (Below.refl wr.heap.size wr).drew).mono ?_
        rintro e w1 ⟨v1, rfl, hv1, hb1⟩
        obtain ⟨A2, c2, rfl, hk2, hin2⟩ := hv1.out
        have HV1 := Lib.hid hv1
        rw [← HL1.out]
        have HB1 := Lib.hid (bs ((Below.refl wr.heap.size wr).drew) hb1)
        obtain ⟨q0, q1, q2, q3, q4, q5, q6, q7⟩ := HC.out.below HB1.out
        simp only at q0 q1 q2
        obtain ⟨s0, -⟩ := rowc (carry HB1.out HE0.out)
        have s04 : w1.cell? ⟨w.heap.size, 4, none⟩ = some (.slice (some a) L c) := s0 4
        have s24 : w1.cell? ⟨w.heap.size + 1 + 1, 4, none⟩ = some (.slice A1 j c1) := (rowc (carry HB1.out HE2.out)).1 4
        have s24a : ∀ o, (w1.alloc o).cell? ⟨w.heap.size + 1 + 1, 4, none⟩ = some (.slice A1 j c1) := fun o => (rowc (keepAlloc (carry HB1.out HE2.out))).1 4
        have HOW : Hid (∀ o, (w1.alloc o).ownsRow (w.heap.size + 1 + 1 + 1) IE 8 (.slice A1 j c1) j xs) := Lib.hid fun o => by
          have := ((HX.out.below HB1.out).below (b1 w1 o)).1
          rwa [HLJ.out] at this
        clear hb1 hv1 hk2 hin2 s0
        try go_wp2_with (fail)
        refine hK.out _ _ ?_ (fun hHeld => ?_)
        · (first | go_keep | (go_split_ands; refine ⟨?_, ?_, ?_, ?_, ?_, ?_, ?_, ?_, ?_⟩ <;> (rw [World.cell?_setCell_other _ _ _ _ (HNE.out _ (by first | (show w.heap.size < _; omega) | exact Nat.lt_succ_of_lt HAB.out))]; assumption)))
        clear hK K
        try simp only [Act.put, List.setIfInBounds_toArray, List.set_cons_zero, List.set_cons_succ]
        refine wpAnyH_take (i := 15) (v := ?_) rfl (by kernel_rfl) (by kernel_rfl) (by kernel_rfl) (fun _ _ _ h => h) (Or.inl ⟨by rfl, ?_⟩) (by assumption) ?_
        rotate_left
        · (intro w hSw; (try dsimp only at hSw); go_split_ands; go_simp; try (with_reducible rfl))
        try simp only [Act.put, List.setIfInBounds_toArray, List.set_cons_zero, List.set_cons_succ]
        refine wpAnyH_ready (rs := [16]) (by kernel_rfl) (by simp) ?_
        refine AllReadyH.cons rfl (fun K hK => ?_) AllReadyH.nil
        go_simp
        refine hK.out _ _ ?_ (fun hHeld => ?_)
        · (first | go_keep | (go_split_ands; refine ⟨?_, ?_, ?_, ?_, ?_, ?_, ?_, ?_, ?_⟩ <;> (rw [World.cell?_setCell_other _ _ _ _ (HNE.out _ (by first | (show w.heap.size < _; omega) | exact Nat.lt_succ_of_lt HAB.out))]; assumption)))
        clear hK K
        try simp only [Act.put, List.setIfInBounds_toArray, List.set_cons_zero, List.set_cons_succ]
        refine wpAnyH_ready (rs := [17]) (by kernel_rfl) (by simp) ?_
        refine AllReadyH.cons rfl (fun K hK => ?_) AllReadyH.nil
        refine step_append_lies _ (by rfl) _ _ 24 (by rfl) (w.heap.size + 1 + 1 + 1) IE i0 _ 8 96 Tryd.underlying24 HII.out HZZ.out.1 HZZ.out.2.1 HZZ.out.2.2 rfl (by decide) (.slice A1 j c1) j xs (by rfl) (HOW.out _) ⟨w1.heap.size, 0, none⟩ 1 1 [.bool yb, .int .i64 yn, .string ys, .int .i64 k', .int .i64 n', .string s', .int .i64 x', .slice A2 L1 c2] (by rfl) (by rfl) (eight_new w1 _ _ _ _ _ _ _ _ _) (eight_one _ _ _ _ _ _ _ _ _ _) (by omega) (by unfold maxLen; omega) (by omega) (by have := HB1.out.size; have := HB.out.size; have := HSZ.out; simp; omega) (w1.heap.size + 1) (by simp) ?_
        intro g3 c3 w2 hown hgrow hat hlt3
        have hown2 : w2.ownsRow (w.heap.size + 1 + 1 + 1) IE 8 (.slice (some ⟨g3, 0, none⟩) (j + 1) c3) ((vs.take j).length + 1) (xs ++ [.bool yb, .int .i64 yn, .string ys, .int .i64 k', .int .i64 n', .string s', .int .i64 x', .slice A2 vs'.length c2]) := by
          rw [HLJ.out, ← HL1.out]
          exact hown
        have hor := ((HX.out.below HB1.out).below (b1 w1 _)).more (y := ⟨yb, yn, ys⟩) (k := k') (n := n') (s := s') (x := x') (ks' := ks') (vs' := vs') (A := A2) (c := c2) (v' := .slice (some ⟨g3, 0, none⟩) (j + 1) c3) HYB.out ((HV1.out.stays (S' := SX (w.heap.size + 1 + 1 + 1) (.slice A1 j c1)) (fun b hb => ⟨Nat.le_trans HSZ.out hb, fun e => by have := (HR.out.block b e).2; have hb2 : wr.heap.size ≤ b := hb; omega⟩) (fun b _ hlt => rfl)).below' (b1 w1 _)) hown2 hgrow (hat.imp (fun h => h.symm) (fun h => by rw [h]; simp [Value.ownBlock]))
        have HOR := Lib.hid hor
        have hsz1 : w.heap.size + 1 + 1 + 1 ≤ w1.heap.size := Nat.le_trans HSZ.out HB1.out.size
        have HB2 : Hid (Below w.heap.size w w2) := Lib.hid (((bs HB.out HB1.out).alloc (by omega) _).grown hgrow (by simp; omega) (fun k hk => by have := (HR.out.block k hk).1; omega))
        have blk : ∀ (b : Nat) (o : Obj), wr.heap[b]? = some o → b < w.heap.size + 1 + 1 + 1 → w2.heap[b]? = some o := fun b o h hb => (hgrow.block b (by simp; omega) (fun e => by have := (HR.out.block _ e.symm).1; omega)).trans (keepAlloc (carry HB1.out h))
        have HF0 := Lib.hid (blk _ _ HE0.out (by omega))
        have HF1 := Lib.hid (blk _ _ HE1.out (by omega))
        have HF2 := Lib.hid (blk _ _ HE2.out (by omega))
        have far : ∀ (p : Addr) (u : Value), w1.cell? p = some u → p.block < w.heap.size + 1 + 1 + 1 → w2.cell? p = some u := fun p u hu hlt => by
          rw [hgrow.cell_far p (by simp; have := World.block_lt_of_cell? _ _ hu; omega) (fun e => by have := (HR.out.block _ e.symm).1; omega)]
          exact cell_stays (fun hlt => (b1 w1 _).block _ hlt) hu
        have t04 := far _ _ s04 (by show w.heap.size < _; omega)
        have t24 := far _ _ s24 (by show w.heap.size + 1 + 1 < _; omega)
        have t0 := far _ _ q0 (Nat.lt_of_lt_of_le HAB.out (by omega))
        have t1 := far _ _ q1 (Nat.lt_of_lt_of_le HAB.out (by omega))
        have t2 := far _ _ q2 (Nat.lt_of_lt_of_le HAB.out (by omega))
        have t3 := far _ _ q3 (Nat.lt_of_lt_of_le HAB.out (by omega))
        have t4 := far _ _ q4 (Nat.lt_of_lt_of_le HAB.out (by omega))
        have t5 := far _ _ q5 (Nat.lt_of_lt_of_le HAB.out (by omega))
        have t6 := far _ _ q6 (Nat.lt_of_lt_of_le HAB.out (by omega))
        have t7 := far _ _ q7 (Nat.lt_of_lt_of_le HAB.out (by omega))
        have ff2 : w2.frozen? ⟨w.heap.size + 1 + 1, 4, none⟩ = false := (hgrow.frozen_far _ (by simp; have := HB1.out.size; have := HSZ.out; omega) (fun e => by have := (HR.out.block _ e.symm).1; simp at this; omega)).trans ((rowc (keepAlloc (carry HB1.out HE2.out))).2 4)
        clear hown hown2 hgrow hat hor far blk
        refine hK.out _ _ ?_ (fun hHeld => ?_)
        · (first | go_keep | (go_split_ands; refine ⟨?_, ?_, ?_, ?_, ?_, ?_, ?_, ?_, ?_⟩ <;> (rw [World.cell?_setCell_other _ _ _ _ (HNE.out _ (by first | (show w.heap.size < _; omega) | exact Nat.lt_succ_of_lt HAB.out))]; assumption)))
        clear hK K
        try simp only [Act.put, List.setIfInBounds_toArray, List.set_cons_zero, List.set_cons_succ]
        refine wpAnyH_take (i := 18) (v := ?_) rfl (by kernel_rfl) (by kernel_rfl) (by kernel_rfl) (fun _ _ _ h => h) (Or.inl ⟨by rfl, ?_⟩) (by assumption) ?_
        rotate_left
        · (intro w hSw; (try dsimp only at hSw); go_split_ands; go_simp; try (with_reducible rfl))
        try simp only [Act.put, List.setIfInBounds_toArray, List.set_cons_zero, List.set_cons_succ]
        refine wpAnyH_ready (rs := [19]) (by kernel_rfl) (by simp) ?_
        refine AllReadyH.cons rfl (fun K hK => ?_) AllReadyH.nil
        go_simp
        refine hK.out _ _ ?_ (fun hHeld => ?_)
        · (first | go_keep | (go_split_ands; refine ⟨?_, ?_, ?_, ?_, ?_, ?_, ?_, ?_, ?_⟩ <;> (rw [World.cell?_setCell_other _ _ _ _ (HNE.out _ (by first | (show w.heap.size < _; omega) | exact Nat.lt_succ_of_lt HAB.out))]; assumption)))
        clear hK K
        try simp only [Act.put, List.setIfInBounds_toArray, List.set_cons_zero, List.set_cons_succ]
        refine wpAnyH_done (by kernel_rfl) ?_ _
        go_wp2_with (fail)
        go_roundg (L - j)
        case rel =>
          have hr := HOR.out
          rw [show ks.take j ++ [(⟨yb, yn, ys⟩ : Ky)] = ks.take (j + 1) by
            obtain ⟨hj, e⟩ := List.getElem?_eq_some_iff.1 HKY.out
            rw [List.take_succ_eq_append_getElem hj, e], show vs.take j ++ [Tr.mk k' n' s' x' ks' vs'] = vs.take (j + 1) by
            obtain ⟨hj, e⟩ := List.getElem?_eq_some_iff.1 HVS.out
            rw [List.take_succ_eq_append_getElem hj, e]] at hr
          exact ⟨j + 1, _, _, by go_num, by omega, by omega, ⟨cz, Lib.hid ((set_other (by omega)).trans HF1.out)⟩, Lib.hid ((set_other (by omega)).trans HF0.out), Lib.hid (set_heap HF2.out 4 _), Lib.hid (hr.above fun b hb _ => set_other (by omega)), HB2.out.setCell (by simp; omega) _⟩
        case measure => omega
      refine AllReadyH.cons rfl (fun K hK => ?_) AllReadyH.nil
      go_simp
      go_at_call 110
      refine (IHJ.out _ (Below.refl wr.heap.size wr).drew).mono ?_
      rintro e w1 ⟨v1, rfl, hv1, hb1⟩
      obtain ⟨A2, c2, rfl, hk2, hin2⟩ := hv1.out
      have HV1 := Lib.hid hv1
      rw [← HL1.out]
      have HB1 := Lib.hid (bs ((Below.refl wr.heap.size wr).drew) hb1)
      obtain ⟨q0, q1, q2, q3, q4, q5, q6, q7⟩ := HC.out.below HB1.out
      simp only at q0 q1 q2
      obtain ⟨s0, -⟩ := rowc (carry HB1.out HE0.out)
      have s04 : w1.cell? ⟨w.heap.size, 4, none⟩ = some (.slice (some a) L c) := s0 4
      have s24 : w1.cell? ⟨w.heap.size + 1 + 1, 4, none⟩ = some (.slice A1 j c1) := (rowc (carry HB1.out HE2.out)).1 4
      have s24a : ∀ o, (w1.alloc o).cell? ⟨w.heap.size + 1 + 1, 4, none⟩ = some (.slice A1 j c1) := fun o => (rowc (keepAlloc (carry HB1.out HE2.out))).1 4
      have HOW : Hid (∀ o, (w1.alloc o).ownsRow (w.heap.size + 1 + 1 + 1) IE 8 (.slice A1 j c1) j xs) := Lib.hid fun o => by
        have := ((HX.out.below HB1.out).below (b1 w1 o)).1
        rwa [HLJ.out] at this
      clear hb1 hv1 hk2 hin2 s0
      try go_wp2_with (fail)
      refine hK.out _ _ ?_ (fun hHeld => ?_)
      · (first | go_keep | (go_split_ands; refine ⟨?_, ?_, ?_, ?_, ?_, ?_, ?_, ?_, ?_⟩ <;> (rw [World.cell?_setCell_other _ _ _ _ (HNE.out _ (by first | (show w.heap.size < _; omega) | exact Nat.lt_succ_of_lt HAB.out))]; assumption)))
      clear hK K
      try simp only [Act.put, List.setIfInBounds_toArray, List.set_cons_zero, List.set_cons_succ]
      refine wpAnyH_take (i := 15) (v := ?_) rfl (by kernel_rfl) (by kernel_rfl) (by kernel_rfl) (fun _ _ _ h => h) (Or.inl ⟨by rfl, ?_⟩) (by assumption) ?_
      rotate_left
      · (intro w hSw; (try dsimp only at hSw); go_split_ands; go_simp; try (with_reducible rfl))
      try simp only [Act.put, List.setIfInBounds_toArray, List.set_cons_zero, List.set_cons_succ]
      refine wpAnyH_ready (rs := [1, 16]) (by kernel_rfl) (by simp) ?_
      refine AllReadyH.cons rfl (fun K hK => ?_) ?_
      · go_simp
        refine hK.out _ _ ?_ (fun hHeld => ?_)
        · (first | go_keep | (go_split_ands; refine ⟨?_, ?_, ?_, ?_, ?_, ?_, ?_, ?_, ?_⟩ <;> (rw [World.cell?_setCell_other _ _ _ _ (HNE.out _ (by first | (show w.heap.size < _; omega) | exact Nat.lt_succ_of_lt HAB.out))]; assumption)))
        clear hK K
        try simp only [Act.put, List.setIfInBounds_toArray, List.set_cons_zero, List.set_cons_succ]
        refine wpAnyH_ready (rs := [16]) (by kernel_rfl) (by simp) ?_
        refine AllReadyH.cons rfl (fun K hK => ?_) AllReadyH.nil
        go_simp
        refine hK.out _ _ ?_ (fun hHeld => ?_)
        · (first | go_keep | (go_split_ands; refine ⟨?_, ?_, ?_, ?_, ?_, ?_, ?_, ?_, ?_⟩ <;> (rw [World.cell?_setCell_other _ _ _ _ (HNE.out _ (by first | (show w.heap.size < _; omega) | exact Nat.lt_succ_of_lt HAB.out))]; assumption)))
        clear hK K
        try simp only [Act.put, List.setIfInBounds_toArray, List.set_cons_zero, List.set_cons_succ]
        refine wpAnyH_ready (rs := [17]) (by kernel_rfl) (by simp) ?_
        refine AllReadyH.cons rfl (fun K hK => ?_) AllReadyH.nil
        refine step_append_lies _ (by rfl) _ _ 24 (by rfl) (w.heap.size + 1 + 1 + 1) IE i0 _ 8 96 Tryd.underlying24 HII.out HZZ.out.1 HZZ.out.2.1 HZZ.out.2.2 rfl (by decide) (.slice A1 j c1) j xs (by rfl) (HOW.out _) ⟨w1.heap.size, 0, none⟩ 1 1 [.bool yb, .int .i64 yn, .string ys, .int .i64 k', .int .i64 n', .string s', .int .i64 x', .slice A2 L1 c2] (by rfl) (by rfl) (eight_new w1 _ _ _ _ _ _ _ _ _) (eight_one _ _ _ _ _ _ _ _ _ _) (by omega) (by unfold maxLen; omega) (by omega) (by have := HB1.out.size; have := HB.out.size; have := HSZ.out; simp; omega) (w1.heap.size + 1) (by simp) ?_
        intro g3 c3 w2 hown hgrow hat hlt3
        have hown2 : w2.ownsRow (w.heap.size + 1 + 1 + 1) IE 8 (.slice (some ⟨g3, 0, none⟩) (j + 1) c3) ((vs.take j).length + 1) (xs ++ [.bool yb, .int .i64 yn, .string ys, .int .i64 k', .int .i64 n', .string s', .int .i64 x', .slice A2 vs'.length c2]) := by
          rw [HLJ.out, ← HL1.out]
          exact hown
        have hor := ((HX.out.below HB1.out).below (b1 w1 _)).more (y := ⟨yb, yn, ys⟩) (k := k') (n := n') (s := s') (x := x') (ks' := ks') (vs' := vs') (A := A2) (c := c2) (v' := .slice (some ⟨g3, 0, none⟩) (j + 1) c3) HYB.out ((HV1.out.stays (S' := SX (w.heap.size + 1 + 1 + 1) (.slice A1 j c1)) (fun b hb => ⟨Nat.le_trans HSZ.out hb, fun e => by have := (HR.out.block b e).2; have hb2 : wr.heap.size ≤ b := hb; omega⟩) (fun b _ hlt => rfl)).below' (b1 w1 _)) hown2 hgrow (hat.imp (fun h => h.symm) (fun h => by rw [h]; simp [Value.ownBlock]))
        have HOR := Lib.hid hor
        have hsz1 : w.heap.size + 1 + 1 + 1 ≤ w1.heap.size := Nat.le_trans HSZ.out HB1.out.size
        have HB2 : Hid (Below w.heap.size w w2) := Lib.hid (((bs HB.out HB1.out).alloc (by omega) _).grown hgrow (by simp; omega) (fun k hk => by have := (HR.out.block k hk).1; omega))
        have blk : ∀ (b : Nat) (o : Obj), wr.heap[b]? = some o → b < w.heap.size + 1 + 1 + 1 → w2.heap[b]? = some o := fun b o h hb => (hgrow.block b (by simp; omega) (fun e => by have := (HR.out.block _ e.symm).1; omega)).trans (keepAlloc (carry HB1.out h))
        have HF0 := Lib.hid (blk _ _ HE0.out (by omega))
        have HF1 := Lib.hid (blk _ _ HE1.out (by omega))
        have HF2 := Lib.hid (blk _ _ HE2.out (by omega))
        have far : ∀ (p : Addr) (u : Value), w1.cell? p = some u → p.block < w.heap.size + 1 + 1 + 1 → w2.cell? p = some u := fun p u hu hlt => by
          rw [hgrow.cell_far p (by simp; have := World.block_lt_of_cell? _ _ hu; omega) (fun e => by have := (HR.out.block _ e.symm).1; omega)]
          exact cell_stays (fun hlt => (b1 w1 _).block _ hlt) hu
        have t04 := far _ _ s04 (by show w.heap.size < _; omega)
        have t24 := far _ _ s24 (by show w.heap.size + 1 + 1 < _; omega)
        have t0 := far _ _ q0 (Nat.lt_of_lt_of_le HAB.out (by omega))
        have t1 := far _ _ q1 (Nat.lt_of_lt_of_le HAB.out (by omega))
        have t2 := far _ _ q2 (Nat.lt_of_lt_of_le HAB.out (by omega))
        have t3 := far _ _ q3 (Nat.lt_of_lt_of_le HAB.out (by omega))
        have t4 := far _ _ q4 (Nat.lt_of_lt_of_le HAB.out (by omega))
        have t5 := far _ _ q5 (Nat.lt_of_lt_of_le HAB.out (by omega))
        have t6 := far _ _ q6 (Nat.lt_of_lt_of_le HAB.out (by omega))
        have t7 := far _ _ q7 (Nat.lt_of_lt_of_le HAB.out (by omega))
        have ff2 : w2.frozen? ⟨w.heap.size + 1 + 1, 4, none⟩ = false := (hgrow.frozen_far _ (by simp; have := HB1.out.size; have := HSZ.out; omega) (fun e => by have := (HR.out.block _ e.symm).1; simp at this; omega)).trans ((rowc (keepAlloc (carry HB1.out HE2.out))).2 4)
        clear hown hown2 hgrow hat hor far blk
        refine hK.out _ _ ?_ (fun hHeld => ?_)
        · (first | go_keep | (go_split_ands; refine ⟨?_, ?_, ?_, ?_, ?_, ?_, ?_, ?_, ?_⟩ <;> (rw [World.cell?_setCell_other _ _ _ _ (HNE.out _ (by first | (show w.heap.size < _; omega) | exact Nat.lt_succ_of_lt HAB.out))]; assumption)))
        clear hK K
        try simp only [Act.put, List.setIfInBounds_toArray, List.set_cons_zero, List.set_cons_succ]
        refine wpAnyH_take (i := 18) (v := ?_) rfl (by kernel_rfl) (by kernel_rfl) (by kernel_rfl) (fun _ _ _ h => h) (Or.inl ⟨by rfl, ?_⟩) (by assumption) ?_
        rotate_left
        · (intro w hSw; (try dsimp only at hSw); go_split_ands; go_simp; try (with_reducible rfl))
        try simp only [Act.put, List.setIfInBounds_toArray, List.set_cons_zero, List.set_cons_succ]
        refine wpAnyH_ready (rs := [19]) (by kernel_rfl) (by simp) ?_
        refine AllReadyH.cons rfl (fun K hK => ?_) AllReadyH.nil
        go_simp
        refine hK.out _ _ ?_ (fun hHeld => ?_)
        · (first | go_keep | (go_split_ands; refine ⟨?_, ?_, ?_, ?_, ?_, ?_, ?_, ?_, ?_⟩ <;> (rw [World.cell?_setCell_other _ _ _ _ (HNE.out _ (by first | (show w.heap.size < _; omega) | exact Nat.lt_succ_of_lt HAB.out))]; assumption)))
        clear hK K
        try simp only [Act.put, List.setIfInBounds_toArray, List.set_cons_zero, List.set_cons_succ]
        refine wpAnyH_done (by kernel_rfl) ?_ _
        go_wp2_with (fail)
        go_roundg (L - j)
        case rel =>
          have hr := HOR.out
          rw [show ks.take j ++ [(⟨yb, yn, ys⟩ : Ky)] = ks.take (j + 1) by
            obtain ⟨hj, e⟩ := List.getElem?_eq_some_iff.1 HKY.out
            rw [List.take_succ_eq_append_getElem hj, e], show vs.take j ++ [Tr.mk k' n' s' x' ks' vs'] = vs.take (j + 1) by
            obtain ⟨hj, e⟩ := List.getElem?_eq_some_iff.1 HVS.out
            rw [List.take_succ_eq_append_getElem hj, e]] at hr
          exact ⟨j + 1, _, _, by go_num, by omega, by omega, ⟨cz, Lib.hid ((set_other (by omega)).trans HF1.out)⟩, Lib.hid ((set_other (by omega)).trans HF0.out), Lib.hid (set_heap HF2.out 4 _), Lib.hid (hr.above fun b hb _ => set_other (by omega)), HB2.out.setCell (by simp; omega) _⟩
        case measure => omega
      refine AllReadyH.cons rfl (fun K hK => ?_) AllReadyH.nil
      go_simp
      refine hK.out _ _ ?_ (fun hHeld => ?_)
      · (first | go_keep | (go_split_ands; refine ⟨?_, ?_, ?_, ?_, ?_, ?_, ?_, ?_, ?_⟩ <;> (rw [World.cell?_setCell_other _ _ _ _ (HNE.out _ (by first | (show w.heap.size < _; omega) | exact Nat.lt_succ_of_lt HAB.out))]; assumption)))
      clear hK K
      try simp only [Act.put, List.setIfInBounds_toArray, List.set_cons_zero, List.set_cons_succ]
      refine wpAnyH_ready (rs := [1]) (by kernel_rfl) (by simp) ?_
      refine AllReadyH.cons rfl (fun K hK => ?_) AllReadyH.nil
      go_simp
      refine hK.out _ _ ?_ (fun hHeld => ?_)
      · (first | go_keep | (go_split_ands; refine ⟨?_, ?_, ?_, ?_, ?_, ?_, ?_, ?_, ?_⟩ <;> (rw [World.cell?_setCell_other _ _ _ _ (HNE.out _ (by first | (show w.heap.size < _; omega) | exact Nat.lt_succ_of_lt HAB.out))]; assumption)))
      clear hK K
      try simp only [Act.put, List.setIfInBounds_toArray, List.set_cons_zero, List.set_cons_succ]
      refine wpAnyH_ready (rs := [17]) (by kernel_rfl) (by simp) ?_
      refine AllReadyH.cons rfl (fun K hK => ?_) AllReadyH.nil
      refine step_append_lies _ (by rfl) _ _ 24 (by rfl) (w.heap.size + 1 + 1 + 1) IE i0 _ 8 96 Tryd.underlying24 HII.out HZZ.out.1 HZZ.out.2.1 HZZ.out.2.2 rfl (by decide) (.slice A1 j c1) j xs (by rfl) (HOW.out _) ⟨w1.heap.size, 0, none⟩ 1 1 [.bool yb, .int .i64 yn, .string ys, .int .i64 k', .int .i64 n', .string s', .int .i64 x', .slice A2 L1 c2] (by rfl) (by rfl) (eight_new w1 _ _ _ _ _ _ _ _ _) (eight_one _ _ _ _ _ _ _ _ _ _) (by omega) (by unfold maxLen; omega) (by omega) (by have := HB1.out.size; have := HB.out.size; have := HSZ.out; simp; omega) (w1.heap.size + 1) (by simp) ?_
      intro g3 c3 w2 hown hgrow hat hlt3
      have hown2 : w2.ownsRow (w.heap.size + 1 + 1 + 1) IE 8 (.slice (some ⟨g3, 0, none⟩) (j + 1) c3) ((vs.take j).length + 1) (xs ++ [.bool yb, .int .i64 yn, .string ys, .int .i64 k', .int .i64 n', .string s', .int .i64 x', .slice A2 vs'.length c2]) := by
        rw [HLJ.out, ← HL1.out]
        exact hown
      have hor := ((HX.out.below HB1.out).below (b1 w1 _)).more (y := ⟨yb, yn, ys⟩) (k := k') (n := n') (s := s') (x := x') (ks' := ks') (vs' := vs') (A := A2) (c := c2) (v' := .slice (some ⟨g3, 0, none⟩) (j + 1) c3) HYB.out ((HV1.out.stays (S' := SX (w.heap.size + 1 + 1 + 1) (.slice A1 j c1)) (fun b hb => ⟨Nat.le_trans HSZ.out hb, fun e => by have := (HR.out.block b e).2; have hb2 : wr.heap.size ≤ b := hb; omega⟩) (fun b _ hlt => rfl)).below' (b1 w1 _)) hown2 hgrow (hat.imp (fun h => h.symm) (fun h => by rw [h]; simp [Value.ownBlock]))
      have HOR := Lib.hid hor
      have hsz1 : w.heap.size + 1 + 1 + 1 ≤ w1.heap.size := Nat.le_trans HSZ.out HB1.out.size
      have HB2 : Hid (Below w.heap.size w w2) := Lib.hid (((bs HB.out HB1.out).alloc (by omega) _).grown hgrow (by simp; omega) (fun k hk => by have := (HR.out.block k hk).1; omega))
      have blk : ∀ (b : Nat) (o : Obj), wr.heap[b]? = some o → b < w.heap.size + 1 + 1 + 1 → w2.heap[b]? = some o := fun b o h hb => (hgrow.block b (by simp; omega) (fun e => by have := (HR.out.block _ e.symm).1; omega)).trans (keepAlloc (carry HB1.out h))
      have HF0 := Lib.hid (blk _ _ HE0.out (by omega))
      have HF1 := Lib.hid (blk _ _ HE1.out (by omega))
      have HF2 := Lib.hid (blk _ _ HE2.out (by omega))
      have far : ∀ (p : Addr) (u : Value), w1.cell? p = some u → p.block < w.heap.size + 1 + 1 + 1 → w2.cell? p = some u := fun p u hu hlt => by
        rw [hgrow.cell_far p (by simp; have := World.block_lt_of_cell? _ _ hu; omega) (fun e => by have := (HR.out.block _ e.symm).1; omega)]
        exact cell_stays (fun hlt => (b1 w1 _).block _ hlt) hu
      have t04 := far _ _ s04 (by show w.heap.size < _; omega)
      have t24 := far _ _ s24 (by show w.heap.size + 1 + 1 < _; omega)
      have t0 := far _ _ q0 (Nat.lt_of_lt_of_le HAB.out (by omega))
      have t1 := far _ _ q1 (Nat.lt_of_lt_of_le HAB.out (by omega))
      have t2 := far _ _ q2 (Nat.lt_of_lt_of_le HAB.out (by omega))
      have t3 := far _ _ q3 (Nat.lt_of_lt_of_le HAB.out (by omega))
      have t4 := far _ _ q4 (Nat.lt_of_lt_of_le HAB.out (by omega))
      have t5 := far _ _ q5 (Nat.lt_of_lt_of_le HAB.out (by omega))
      have t6 := far _ _ q6 (Nat.lt_of_lt_of_le HAB.out (by omega))
      have t7 := far _ _ q7 (Nat.lt_of_lt_of_le HAB.out (by omega))
      have ff2 : w2.frozen? ⟨w.heap.size + 1 + 1, 4, none⟩ = false := (hgrow.frozen_far _ (by simp; have := HB1.out.size; have := HSZ.out; omega) (fun e => by have := (HR.out.block _ e.symm).1; simp at this; omega)).trans ((rowc (keepAlloc (carry HB1.out HE2.out))).2 4)
      clear hown hown2 hgrow hat hor far blk
      refine hK.out _ _ ?_ (fun hHeld => ?_)
      · (first | go_keep | (go_split_ands; refine ⟨?_, ?_, ?_, ?_, ?_, ?_, ?_, ?_, ?_⟩ <;> (rw [World.cell?_setCell_other _ _ _ _ (HNE.out _ (by first | (show w.heap.size < _; omega) | exact Nat.lt_succ_of_lt HAB.out))]; assumption)))
      clear hK K
      try simp only [Act.put, List.setIfInBounds_toArray, List.set_cons_zero, List.set_cons_succ]
      refine wpAnyH_take (i := 18) (v := ?_) rfl (by kernel_rfl) (by kernel_rfl) (by kernel_rfl) (fun _ _ _ h => h) (Or.inl ⟨by rfl, ?_⟩) (by assumption) ?_
      rotate_left
      · (intro w hSw; (try dsimp only at hSw); go_split_ands; go_simp; try (with_reducible rfl))
      try simp only [Act.put, List.setIfInBounds_toArray, List.set_cons_zero, List.set_cons_succ]
      refine wpAnyH_ready (rs := [19]) (by kernel_rfl) (by simp) ?_
      refine AllReadyH.cons rfl (fun K hK => ?_) AllReadyH.nil
      go_simp
      refine hK.out _ _ ?_ (fun hHeld => ?_)
      · (first | go_keep | (go_split_ands; refine ⟨?_, ?_, ?_, ?_, ?_, ?_, ?_, ?_, ?_⟩ <;> (rw [World.cell?_setCell_other _ _ _ _ (HNE.out _ (by first | (show w.heap.size < _; omega) | exact Nat.lt_succ_of_lt HAB.out))]; assumption)))
      clear hK K
      try simp only [Act.put, List.setIfInBounds_toArray, List.set_cons_zero, List.set_cons_succ]
      refine wpAnyH_done (by kernel_rfl) ?_ _
      go_wp2_with (fail)
      go_roundg (L - j)
      case rel =>
        have hr := HOR.out
        rw [show ks.take j ++ [(⟨yb, yn, ys⟩ : Ky)] = ks.take (j + 1) by
          obtain ⟨hj, e⟩ := List.getElem?_eq_some_iff.1 HKY.out
          rw [List.take_succ_eq_append_getElem hj, e], show vs.take j ++ [Tr.mk k' n' s' x' ks' vs'] = vs.take (j + 1) by
          obtain ⟨hj, e⟩ := List.getElem?_eq_some_iff.1 HVS.out
          rw [List.take_succ_eq_append_getElem hj, e]] at hr
        exact ⟨j + 1, _, _, by go_num, by omega, by omega, ⟨cz, Lib.hid ((set_other (by omega)).trans HF1.out)⟩, Lib.hid ((set_other (by omega)).trans HF0.out), Lib.hid (set_heap HF2.out 4 _), Lib.hid (hr.above fun b hb _ => set_other (by omega)), HB2.out.setCell (by simp; omega) _⟩
      case measure => omega
    · obtain rfl : j = L := by omega
      obtain ⟨A3, c3, e3, hc3, hi3⟩ := HR.out.isin (by rw [List.length_take]; unfold maxLen; omega)
      have hl3 : (vs.take j).length = j := by rw [List.length_take, ← HL.out]; omega
      rw [hl3] at e3 hc3
      simp only [Value.slice.injEq, true_and] at e3
      obtain ⟨rfl, rfl⟩ := e3
      have e4 : vs.take j = vs := by rw [HL.out, List.take_length]
      have e5 : ks.take j = ks := by rw [HL.out, ← hkl.out, List.take_length]
      rw [e4, e5] at hi3
      have HI3 := Lib.hid hi3
      have HC3 := Lib.hid hc3
      clear hi3 hc3 hl3 e4 e5
      go_wp2_with (fail)
      refine bodyPost_ret (v := vV k n s x A1 j c1) (by simp [results, Tryd.results110, go_sem, r1]) rfl ⟨_, rfl, ?_, ?_⟩
      · have base : TIn wr (fun b => w.heap.size + 1 + 1 + 1 ≤ b) (.mk k n s x ks vs) (vV k n s x A1 j c1) := by
          have := TIn.of (k := k) (n := n) (s := s) (x := x) c1 HK.out HI3.out (by rw [← HL.out]; exact HC3.out)
          rwa [← HL.out] at this
        exact base.stays (fun b hb => by show w.heap.size ≤ b; have hb' : w.heap.size + 1 + 1 + 1 ≤ b := hb; omega) (fun b hb _ => by
          have hb' : w.heap.size + 1 + 1 + 1 ≤ b := hb
          have q1 : b ≠ w.heap.size + 1 := by omega
          simp only [set_other q1])
      · have hB := HB.out
        iterate 5 refine Below.setCell ?_ (by first | (simp; done) | (simp; omega)) _
        exact hB

end Go.Proofs.YtlbkbcafkjgckaaDoor.tree

/-
  Values in a row of five cells each: how they read; the laws' comparison of two rows, the laws' marks found again.
  Conditions: those that each theorem names.
-/
namespace Go.Proofs.YtlbkbcafkjgckaaDoor.tree
open Go.ChangeShapes Go.WideShapes Go.ChangeAt Go.RowKit
set_option linter.unusedVariables false

/-- The five cells of a value at q. -/
structure At5 (w : World) (q : Addr) (k n : Int) (s : ByteArray) (x : Int) (A : Option Addr) (L c : Nat) : Prop where
  c0 : w.cell? q = some (.int .i64 k)
  c1 : w.cell? ⟨q.block, q.off + 1, none⟩ = some (.int .i64 n)
  c2 : w.cell? ⟨q.block, q.off + 2, none⟩ = some (.string s)
  c3 : w.cell? ⟨q.block, q.off + 3, none⟩ = some (.int .i64 x)
  c4 : w.cell? ⟨q.block, q.off + 4, none⟩ = some (.slice A L c)
theorem At5.stays {w w' : World} {q : Addr} {k n x : Int} {s : ByteArray} {A : Option Addr} {L c : Nat} (hb : q.block < w.heap.size → w'.heap[q.block]? = w.heap[q.block]?) (h : At5 w q k n s x A L c) : At5 w' q k n s x A L c :=
  ⟨cell_stays hb h.c0, cell_stays hb h.c1, cell_stays hb h.c2, cell_stays hb h.c3, cell_stays hb h.c4⟩
theorem At5.below {w w' : World} (hb : Below w.heap.size w w') {q : Addr} {k n x : Int} {s : ByteArray} {A : Option Addr} {L c : Nat} (h : At5 w q k n s x A L c) : At5 w' q k n s x A L c := h.stays fun hlt => hb.block _ hlt

/-- The values at A. -/
def VIn (w : World) (S : Nat → Prop) (vs : List Tr) (A : Option Addr) : Prop :=
  ∀ i t, vs[i]? = some t → ∃ a k n s x ks' vs' A' c', A = some a ∧ S a.block ∧ t = .mk k n s x ks' vs' ∧ TIn w S t (vV k n s x A' vs'.length c') ∧ At5 w (a.add (i * 5)) k n s x A' vs'.length c'
theorem VIn.stays {w w' : World} {S S' : Nat → Prop} (hS : ∀ b, S b → S' b) (hb : ∀ b, S b → b < w.heap.size → w'.heap[b]? = w.heap[b]?) {vs : List Tr} {A : Option Addr} (h : VIn w S vs A) : VIn w' S' vs A := fun i t ht => by
  obtain ⟨a, k, n, s, x, ks', vs', A', c', e, hSa, rfl, hT, hc⟩ := h i t ht
  exact ⟨a, k, n, s, x, ks', vs', A', c', e, hS _ hSa, rfl, hT.stays hS hb, hc.stays (fun hlt => hb _ (by rw [mem.add_block]; exact hSa) hlt)⟩
theorem VIn.below {w w' : World} (hb : Below w.heap.size w w') {S : Nat → Prop} {vs : List Tr} {A : Option Addr} (h : VIn w S vs A) : VIn w' S vs A := h.stays (fun _ h => h) (fun b _ hlt => hb.block b hlt)

set_option maxRecDepth 100000 in
set_option maxHeartbeats 1600000 in
theorem eqValueS (vs : List Tr) (hm : vs.length ≤ 1000000000) (w : World) (S S' : Nat → Prop) (A A' : Option Addr) (c c' : Nat) (h : VIn w S vs A) (h' : VIn w S' vs A') : Calls Tryd.prog 52 #[.slice A vs.length c, .slice A' vs.length c'] w (TrueQ w) := by
  obtain ⟨L, HL⟩ : ∃ L, Hid (L = vs.length) := ⟨_, Lib.hid rfl⟩
  have HA := Lib.hid h
  have HA' := Lib.hid h'
  rw [← HL.out] at hm ⊢
  clear h h'
  go_enter Tryd.func52, Tryd.ntmps52
  go_wp2_with (fail)
  go_loopg [5] (L + 1) (fun gk i wr => ∃ j : Nat, i = .int .i64 j ∧ gk + j = L + 1 ∧ j ≤ L ∧ Below w.heap.size w wr)
  case atStart => exact ⟨0, rfl, by omega, by omega, Below.refl _ _⟩
  case round =>
    obtain ⟨j, rfl, hgj, hjL, hb⟩ := hrel
    have HB := Lib.hid hb
    clear hb
    by_cases hlt : j < L
    · obtain ⟨t, ht⟩ : ∃ t, vs[j]? = some t := ⟨_, List.getElem?_eq_getElem (by rw [← HL.out]; exact hlt)⟩
      obtain ⟨a, k, n, s, x, ks', vs', A1, c1, rfl, -, rfl, hT, hcell⟩ := HA.out.below HB.out j t ht
      obtain ⟨a', k', n', s', x', ks2, vs2, A2, c2, rfl, -, e, hT', hcell'⟩ := HA'.out.below HB.out j _ ht
      obtain ⟨rfl, rfl, rfl, rfl, rfl, rfl⟩ : k = k' ∧ n = n' ∧ s = s' ∧ x = x' ∧ ks' = ks2 ∧ vs' = vs2 := by simpa using e
      have EQ := fun w' (hb : Below wr.heap.size wr w') => eqV _ w' S S' _ _ (hT.below' hb) (hT'.below' hb)
      obtain ⟨L1, HL1⟩ : ∃ L1, Hid (L1 = vs'.length) := ⟨_, Lib.hid rfl⟩
      rw [← HL1.out] at EQ hcell hcell'
      obtain ⟨p0, p1, p2, p3, p4⟩ := hcell
      obtain ⟨q0, q1, q2, q3, q4⟩ := hcell'
      have HEQ := Lib.hid EQ
      clear hT hT' e EQ ht
      go_wp2_with (fail)
      go_region_with ((go_at_call 45; refine (HEQ.out _ ?_).mono ?_; exact ((Below.refl wr.heap.size wr).drew); rintro e w1 ⟨rfl, hb1⟩; have HB1 := Lib.hid hb1; clear hb1))
      all_goals
        go_wp2_with (fail)
        go_roundg (L - j)
        case rel => exact ⟨j + 1, by go_num, by omega, by omega, bs (bs HB.out ((Below.refl _ _).drew)) HB1.out⟩
        case measure => omega
    · go_wp2_with (fail)
      go_ret
      exact ⟨rfl, HB.out⟩

/-- A value with marks, its own words too. -/
def mkT4 (q : Int) : Tr → Tr
  | .mk _ _ _ _ _ vs => .mk q (q + 1) (mtx (q + 2)) (q + 3) (mkK (q + 4) vs) (mkV (q + 4) vs)
/-- Values with marks. -/
def mkW (m : Int) : List Tr → List Tr
  | [] => []
  | t :: vs => mkT4 m t :: mkW (m + (7 * cnt t - 3)) vs
theorem mkW_len : ∀ (m : Int) (vs : List Tr), (mkW m vs).length = vs.length
  | _, [] => rfl
  | m, t :: vs => by rw [mkW, List.length_cons, List.length_cons, mkW_len]
theorem mkW_get : ∀ (m : Int) (vs : List Tr) (j : Nat) (t : Tr), vs[j]? = some t → (mkW m vs)[j]? = some (mkT4 (m + 7 * cnts (vs.take j) - 3 * j) t)
  | _, [], j, t, h => by simp at h
  | m, t0 :: vs, 0, t, h => by
    obtain rfl : t0 = t := by simpa using h
    rw [mkW]
    simp [cnts]
  | m, t0 :: vs, j + 1, t, h => by
    have := mkW_get (m + (7 * cnt t0 - 3)) vs j t (by simpa using h)
    rw [mkW, List.getElem?_cons_succ, this, List.take_succ_cons, cnts_cons']
    congr 2
    push_cast
    omega


end Go.Proofs.YtlbkbcafkjgckaaDoor.tree

/-
  Whether a list of values is in order, of the project and of the model.
  Conditions: those that each theorem names.
-/
namespace Go.Proofs.YtlbkbcafkjgckaaDoor.tree
open Go.ChangeShapes Go.WideShapes Go.ChangeAt Go.RowKit
set_option linter.unusedVariables false

set_option maxRecDepth 100000 in
set_option maxHeartbeats 1600000 in
theorem isOrdered_i (vs : List Tr) (A : Option Addr) (c : Nat) (w : World) (S : Nat → Prop) (h : VIn w S vs A) (hm : vs.length ≤ 1048578)
    (CV : ∀ w' t t' v v', t ∈ vs → t' ∈ vs → Below w.heap.size w w' → TIn w' S t v → TIn w' S t' v' → Calls Tryd.prog 24 #[v, v'] w' (GivesQ w' (.int .i64 (cmpT t t')))) :
    Calls Tryd.prog 29 #[.slice A vs.length c] w (GivesQ w (.bool (ordB vs))) := by
  obtain ⟨L, HL⟩ : ∃ L, Hid (vs.length = L) := ⟨_, Lib.hid rfl⟩
  have HV := Lib.hid h
  have HC := Lib.hid CV
  obtain ⟨W, HW⟩ : ∃ W, Hid (ordB vs = W) := ⟨_, Lib.hid rfl⟩
  rw [HL.out] at hm ⊢
  rw [HW.out]
  clear h CV
  go_enter Tryd.func29, Tryd.ntmps29
  go_wp2_with (fail)
  go_loopg [3] (L + 1) (fun gk i wr => ∃ j : Nat, i = .int .i64 j ∧ 1 ≤ j ∧ gk + j = L + 2 ∧ Hid (ordB (vs.drop (j - 1)) = W) ∧ Hid (Below w.heap.size w wr))
  case atStart => exact ⟨1, rfl, by omega, by omega, Lib.hid HW.out, Lib.hid (Below.refl _ _)⟩
  case round =>
    obtain ⟨j1, rfl, hj1, hgj, HQ, HB⟩ := hrel
    obtain ⟨j, HJ⟩ : ∃ j, Hid (j1 = j + 1) := ⟨j1 - 1, Lib.hid (by omega)⟩
    have hj0 : j1 - 1 = j := by have := HJ.out; omega
    rw [hj0] at HQ
    clear hj0
    by_cases hlt : j1 < L
    · have i1 : j < L := by have := HJ.out; omega
      have i2 : (j1 : Int) - 1 = (j : Int) := by have := HJ.out; omega
      have i3 : IntKind.i64.wrap (j : Int) = (j : Int) := by rw [IntKind.wrap_i64]; omega
      obtain ⟨t, ht⟩ : ∃ t, vs[j]? = some t := ⟨_, List.getElem?_eq_getElem (by rw [HL.out]; omega)⟩
      obtain ⟨u, hu⟩ : ∃ u, vs[j1]? = some u := ⟨_, List.getElem?_eq_getElem (by rw [HL.out]; omega)⟩
      obtain ⟨a, k, n, s, x, ks', vs', A1, c1, rfl, -, rfl, hT, hcell⟩ := HV.out.below HB.out j t ht
      obtain ⟨a', k', n', s', x', ks2, vs2, A2, c2, e, -, rfl, hT', hcell'⟩ := HV.out.below HB.out j1 u hu
      obtain rfl := Option.some.inj e
      have hd : vs.drop j = .mk k n s x ks' vs' :: .mk k' n' s' x' ks2 vs2 :: vs.drop (j + 1 + 1) := by
        rw [HJ.out] at hu
        obtain ⟨h1, e1⟩ := List.getElem?_eq_some_iff.1 ht
        obtain ⟨h2, e2⟩ := List.getElem?_eq_some_iff.1 hu
        rw [List.drop_eq_getElem_cons h1, List.drop_eq_getElem_cons h2, e1, e2]
      have hd1 : vs.drop j1 = .mk k' n' s' x' ks2 vs2 :: vs.drop (j + 1 + 1) := by
        rw [HJ.out] at hu ⊢
        obtain ⟨h2, e2⟩ := List.getElem?_eq_some_iff.1 hu
        rw [List.drop_eq_getElem_cons h2, e2]
      have HQ2 := HQ.out
      rw [hd, ordB, ← hd1] at HQ2
      have HQ3 := Lib.hid HQ2
      have CV := fun w' (hb : Below wr.heap.size wr w') => HC.out w' _ _ _ _ (List.mem_of_getElem? ht) (List.mem_of_getElem? hu) (bs HB.out hb) (hT.below' hb) (hT'.below' hb)
      obtain ⟨z, HZ⟩ : ∃ z, Hid (cmpT (.mk k n s x ks' vs') (.mk k' n' s' x' ks2 vs2) = z) := ⟨_, Lib.hid rfl⟩
      rw [HZ.out] at CV HQ3
      obtain ⟨L1, HL1⟩ : ∃ L, Hid (vs'.length = L) := ⟨_, Lib.hid rfl⟩
      obtain ⟨L2, HL2⟩ : ∃ L, Hid (vs2.length = L) := ⟨_, Lib.hid rfl⟩
      rw [HL1.out] at CV hcell
      rw [HL2.out] at CV hcell'
      obtain ⟨p0, p1, p2, p3, p4⟩ := hcell
      obtain ⟨q0, q1, q2, q3, q4⟩ := hcell'
      have HCV := Lib.hid CV
      clear CV hT hT' ht hu hd hd1 HQ2 HQ HZ e
      by_cases hz : z = 1
      · subst hz
        have HWF : Hid (W = false) := Lib.hid (by rw [← HQ3.out]; rfl)
        go_upto_region 4 with fail
        go_region_with ((go_at_call 24; refine (HCV.out _ ?_).mono ?_; exact ((Below.refl wr.heap.size wr).drew); rintro e w1 ⟨rfl, hb1⟩; have HB1 := Lib.hid (bs HB.out (bs ((Below.refl wr.heap.size wr).drew) hb1)); clear hb1))
        all_goals
          go_wp2_with (fail)
          go_ret
          exact ⟨by rw [HWF.out]; rfl, HB1.out⟩
      · have HWT : Hid (ordB (vs.drop j1) = W) := Lib.hid (by rw [← HQ3.out, decide_eq_false hz]; rfl)
        clear HQ3
        go_upto_region 4 with fail
        go_region_with ((go_at_call 24; refine (HCV.out _ ?_).mono ?_; exact ((Below.refl wr.heap.size wr).drew); rintro e w1 ⟨rfl, hb1⟩; have HB1 := Lib.hid (bs HB.out (bs ((Below.refl wr.heap.size wr).drew) hb1)); clear hb1))
        all_goals
          go_wp2_with (fail)
          go_roundg (L + 1 - j1)
          case rel => exact ⟨j1 + 1, by go_num, by omega, by omega, HWT, HB1⟩
          case measure => omega
    · have HWT : Hid (W = true) := Lib.hid (by
        rw [← HQ.out]
        have : (vs.drop j).length ≤ 1 := by rw [List.length_drop, HL.out]; have := HJ.out; omega
        match hq : vs.drop j, this with
        | [], _ => rfl
        | [t], _ => rfl
        | t :: u :: l, h => simp at h)
      go_wp2_with (fail)
      go_ret
      exact ⟨by rw [HWT.out]; rfl, HB.out⟩

set_option maxRecDepth 100000 in
set_option maxHeartbeats 1600000 in
theorem isOrdered_s (vs : List Tr) (A : Option Addr) (c : Nat) (w : World) (S : Nat → Prop) (h : VIn w S vs A) (hm : vs.length ≤ 1048578)
    (CV : ∀ w' t t' v v', t ∈ vs → t' ∈ vs → Below w.heap.size w w' → TIn w' S t v → TIn w' S t' v' → Calls Tryd.prog 47 #[v, v'] w' (GivesQ w' (.int .i64 (cmpT t t')))) :
    Calls Tryd.prog 50 #[.slice A vs.length c] w (GivesQ w (.bool (ordB vs))) := by
  obtain ⟨L, HL⟩ : ∃ L, Hid (vs.length = L) := ⟨_, Lib.hid rfl⟩
  have HV := Lib.hid h
  have HC := Lib.hid CV
  obtain ⟨W, HW⟩ : ∃ W, Hid (ordB vs = W) := ⟨_, Lib.hid rfl⟩
  rw [HL.out] at hm ⊢
  rw [HW.out]
  clear h CV
  go_enter Tryd.func50, Tryd.ntmps50
  go_wp2_with (fail)
  go_loopg [3] (L + 1) (fun gk i wr => ∃ j : Nat, i = .int .i64 j ∧ 1 ≤ j ∧ gk + j = L + 2 ∧ Hid (ordB (vs.drop (j - 1)) = W) ∧ Hid (Below w.heap.size w wr))
  case atStart => exact ⟨1, rfl, by omega, by omega, Lib.hid HW.out, Lib.hid (Below.refl _ _)⟩
  case round =>
    obtain ⟨j1, rfl, hj1, hgj, HQ, HB⟩ := hrel
    obtain ⟨j, HJ⟩ : ∃ j, Hid (j1 = j + 1) := ⟨j1 - 1, Lib.hid (by omega)⟩
    have hj0 : j1 - 1 = j := by have := HJ.out; omega
    rw [hj0] at HQ
    clear hj0
    by_cases hlt : j1 < L
    · have i1 : j < L := by have := HJ.out; omega
      have i2 : (j1 : Int) - 1 = (j : Int) := by have := HJ.out; omega
      have i3 : IntKind.i64.wrap (j : Int) = (j : Int) := by rw [IntKind.wrap_i64]; omega
      obtain ⟨t, ht⟩ : ∃ t, vs[j]? = some t := ⟨_, List.getElem?_eq_getElem (by rw [HL.out]; omega)⟩
      obtain ⟨u, hu⟩ : ∃ u, vs[j1]? = some u := ⟨_, List.getElem?_eq_getElem (by rw [HL.out]; omega)⟩
      obtain ⟨a, k, n, s, x, ks', vs', A1, c1, rfl, -, rfl, hT, hcell⟩ := HV.out.below HB.out j t ht
      obtain ⟨a', k', n', s', x', ks2, vs2, A2, c2, e, -, rfl, hT', hcell'⟩ := HV.out.below HB.out j1 u hu
      obtain rfl := Option.some.inj e
      have hd : vs.drop j = .mk k n s x ks' vs' :: .mk k' n' s' x' ks2 vs2 :: vs.drop (j + 1 + 1) := by
        rw [HJ.out] at hu
        obtain ⟨h1, e1⟩ := List.getElem?_eq_some_iff.1 ht
        obtain ⟨h2, e2⟩ := List.getElem?_eq_some_iff.1 hu
        rw [List.drop_eq_getElem_cons h1, List.drop_eq_getElem_cons h2, e1, e2]
      have hd1 : vs.drop j1 = .mk k' n' s' x' ks2 vs2 :: vs.drop (j + 1 + 1) := by
        rw [HJ.out] at hu ⊢
        obtain ⟨h2, e2⟩ := List.getElem?_eq_some_iff.1 hu
        rw [List.drop_eq_getElem_cons h2, e2]
      have HQ2 := HQ.out
      rw [hd, ordB, ← hd1] at HQ2
      have HQ3 := Lib.hid HQ2
      have CV := fun w' (hb : Below wr.heap.size wr w') => HC.out w' _ _ _ _ (List.mem_of_getElem? ht) (List.mem_of_getElem? hu) (bs HB.out hb) (hT.below' hb) (hT'.below' hb)
      obtain ⟨z, HZ⟩ : ∃ z, Hid (cmpT (.mk k n s x ks' vs') (.mk k' n' s' x' ks2 vs2) = z) := ⟨_, Lib.hid rfl⟩
      rw [HZ.out] at CV HQ3
      obtain ⟨L1, HL1⟩ : ∃ L, Hid (vs'.length = L) := ⟨_, Lib.hid rfl⟩
      obtain ⟨L2, HL2⟩ : ∃ L, Hid (vs2.length = L) := ⟨_, Lib.hid rfl⟩
      rw [HL1.out] at CV hcell
      rw [HL2.out] at CV hcell'
      obtain ⟨p0, p1, p2, p3, p4⟩ := hcell
      obtain ⟨q0, q1, q2, q3, q4⟩ := hcell'
      have HCV := Lib.hid CV
      clear CV hT hT' ht hu hd hd1 HQ2 HQ HZ e
      by_cases hz : z = 1
      · subst hz
        have HWF : Hid (W = false) := Lib.hid (by rw [← HQ3.out]; rfl)
        go_upto_region 4 with fail
        go_region_with ((go_at_call 47; refine (HCV.out _ ?_).mono ?_; exact ((Below.refl wr.heap.size wr).drew); rintro e w1 ⟨rfl, hb1⟩; have HB1 := Lib.hid (bs HB.out (bs ((Below.refl wr.heap.size wr).drew) hb1)); clear hb1))
        all_goals
          go_wp2_with (fail)
          go_ret
          exact ⟨by rw [HWF.out]; rfl, HB1.out⟩
      · have HWT : Hid (ordB (vs.drop j1) = W) := Lib.hid (by rw [← HQ3.out, decide_eq_false hz]; rfl)
        clear HQ3
        go_upto_region 4 with fail
        go_region_with ((go_at_call 47; refine (HCV.out _ ?_).mono ?_; exact ((Below.refl wr.heap.size wr).drew); rintro e w1 ⟨rfl, hb1⟩; have HB1 := Lib.hid (bs HB.out (bs ((Below.refl wr.heap.size wr).drew) hb1)); clear hb1))
        all_goals
          go_wp2_with (fail)
          go_roundg (L + 1 - j1)
          case rel => exact ⟨j1 + 1, by go_num, by omega, by omega, HWT, HB1⟩
          case measure => omega
    · have HWT : Hid (W = true) := Lib.hid (by
        rw [← HQ.out]
        have : (vs.drop j).length ≤ 1 := by rw [List.length_drop, HL.out]; have := HJ.out; omega
        match hq : vs.drop j, this with
        | [], _ => rfl
        | [t], _ => rfl
        | t :: u :: l, h => simp at h)
      go_wp2_with (fail)
      go_ret
      exact ⟨by rw [HWT.out]; rfl, HB.out⟩

end Go.Proofs.YtlbkbcafkjgckaaDoor.tree

/-
  Looking for a key among the items of the other array, each of which is gone through once.
  Conditions: those that each theorem names.
-/
namespace Go.Proofs.YtlbkbcafkjgckaaDoor.tree
open Go.ChangeShapes Go.WideShapes Go.ChangeAt Go.RowKit
set_option linter.unusedVariables false

abbrev MG : TypeId := 131
theorem izero (w : World) : (zeroValue 3).run Tryd.prog w = .ok (.int .i64 0) w := by kernel_rfl
theorem zgot_some (z v : Value) : raw.Got true z (some v) = .tuple #[v, .bool true] := rfl
theorem zgot_none (z : Value) : raw.Got true z none = .tuple #[z, .bool false] := rfl
/-- The rows of a matching in the block of the list: the number passed is p. -/
structure MAt (w : World) (g m : Nat) (cur : Array Value) (p : Nat) (arr : Array Value) : Prop where
  blk : w.heap[g]? = some (.cells arr MG (0, 0))
  size : arr.size = cur.size
  at_ : arr[m * 4 + 2]? = some (.int .i64 p)
  other : ∀ j, j ≠ m * 4 + 2 → arr[j]? = cur[j]?
def FindQ (w : World) (g m mb : Nat) (cur : Array Value) (ks : List Ky) (y : Ky) (e : Ending) (w' : World) : Prop :=
  ∃ (i : Int) (b : Bool) (p : Nat) (arr : Array Value) (f : Value → Option Value), e = .returned (.tuple #[.int .i64 i, .bool b]) ∧ (b = true → i = pos ks y 0 ∧ pos ks y 0 ≠ -1) ∧ (b = false → pos ks y 0 = -1) ∧
    p ≤ ks.length ∧ MAt w' g m cur p arr ∧ raw.Holds w' GK mb f ∧ FirstK (ks.take p) f ∧ Fr (fun b => b = g ∨ b = mb) w w'

theorem lookK {w : World} {mb : Nat} {f : Value → Option Value} {l : List Ky} (h : raw.Holds w GK mb f) (hf : FirstK l f) (y : Ky) :
    (Instr.lookup 129 (.map (some mb)) (kyV y) true).run Tryd.prog w = .ok (if pos l y 0 = -1 then .tuple #[.int .i64 0, .bool false] else .tuple #[.int .i64 (pos l y 0), .bool true]) w := by
  have := h.lookup good_ky Tryd.underlying129 (izero w) (k := kyV y) ⟨y, rfl⟩ true
  rw [this, hf y]
  split <;> rfl

theorem MAt.set {w w1 : World} {g m p p1 : Nat} {cur arr : Array Value} (h : MAt w g m cur p arr) (hg : w1.heap[g]? = some (.cells arr MG (0, 0))) : MAt (w1.setCell ⟨g, m * 4 + 2, none⟩ (.int .i64 p1)) g m cur p1 (arr.setIfInBounds (m * 4 + 2) (.int .i64 p1)) where
  blk := set_heap hg _ _
  size := by rw [Array.size_setIfInBounds]; exact h.size
  at_ := by
    have := (Array.getElem?_eq_some_iff.1 h.at_).1
    rw [Array.getElem?_setIfInBounds_self_of_lt this]
  other := fun j hj => by rw [Array.getElem?_setIfInBounds_ne (by omega)]; exact h.other j hj
theorem pos_snoc {l : List Ky} {y z : Ky} {p : Nat} (hz : l[p]? = some z) : pos (l.take (p + 1)) y 0 = if pos (l.take p) y 0 = -1 then (if z = y then (p : Int) else -1) else pos (l.take p) y 0 := by
  have hl := (List.getElem?_eq_some_iff.1 hz).1
  rw [List.take_add_one, hz]
  show pos (l.take p ++ [z]) y 0 = _
  rw [pos_app, List.length_take, Nat.min_eq_left (by omega), Nat.zero_add]

def CutW (w : World) (b : Bool) (v : Value) (wx : World) : Prop := v = .bool b ∧ Below w.heap.size w wx ∧ wx.heap = w.heap
theorem take_snoc {α : Type} {l : List α} {q : Nat} {y : α} (h : l[q]? = some y) : l.take (q + 1) = l.take q ++ [y] := by rw [List.take_add_one, h]; rfl

set_option maxHeartbeats 2000000 in
set_option maxRecDepth 100000 in
theorem findM {w : World} {g m mb p : Nat} {cur : Array Value} {B' : Option Addr} {L c : Nat} {ks : List Ky} {vs : List Tr} {S : Nat → Prop} {f : Value → Option Value} (y : Ky)
    (hg : w.heap[g]? = some (.cells cur MG (0, 0))) (h1 : cur[m * 4 + 1]? = some (.slice B' L c)) (h2 : cur[m * 4 + 2]? = some (.int .i64 p)) (h3 : cur[m * 4 + 3]? = some (.map (some mb)))
    (hin : IsIn w S ks vs B') (hL : vs.length = L) (hp : p ≤ L) (hm : raw.Holds w GK mb f) (hf : FirstK (ks.take p) f) (hS : ∀ b, S b → b ≠ g ∧ b ≠ mb) :
    Calls Tryd.prog 141 #[.pointer (some ⟨g, m * 4, none⟩), kyV y] w (FindQ w g m mb cur ks y) := by
  have hmL : L ≤ maxLen := by rw [← hL]; exact hin.2.1
  unfold maxLen at hmL
  have hkl : ks.length = L := by rw [← hL]; exact hin.1
  have hgl : g < w.heap.size := (Array.getElem?_eq_some_iff.1 hg).1
  have hml : mb < w.heap.size := hm.lt
  have hgm : g ≠ mb := fun e => by
    obtain ⟨es, ck, hb, -⟩ := hm
    rw [← e, hg] at hb
    cases hb
  have hm4 : m * 4 + 3 < cur.size := (Array.getElem?_eq_some_iff.1 h3).1
  obtain ⟨yb, yn, ys⟩ := y
  obtain ⟨w0, HW0⟩ : ∃ w0, Hid (w.alloc (.cells #[.bool yb, .int .i64 yn, .string ys] IK) = w0) := ⟨_, Lib.hid rfl⟩
  have hg0 : w0.heap[g]? = some (.cells cur MG (0, 0)) := by rw [← HW0.out]; exact keepAlloc hg
  have hm0 : raw.Holds w0 GK mb f := by rw [← HW0.out]; exact hm.kept (Below.heap_alloc w _ mb hml) (fun _ hx => hx)
  have hb0 : Below w.heap.size w w0 := by rw [← HW0.out]; exact b1 _ _
  have hk0 : w0.heap[w.heap.size]? = some (.cells #[.bool yb, .int .i64 yn, .string ys] IK (0, 0)) := by rw [← HW0.out]; exact heap_alloc_new w _
  have LK0 := lookK (w := w0.drew) hm0 hf ⟨yb, yn, ys⟩
  obtain ⟨r0, -⟩ := rowc hg0
  have c1 := (r0 _).trans h1
  have c2 := (r0 _).trans h2
  have c3 := (r0 _).trans h3
  obtain ⟨rk, -⟩ := rowc hk0
  unfold kyV at LK0 ⊢
  have HIN := Lib.hid hin
  have HF := Lib.hid hf
  have HS := Lib.hid hS
  have HKL := Lib.hid hkl
  have HL := Lib.hid hL
  have HC : Hid (cur[m * 4 + 1]? = some (.slice B' L c) ∧ cur[m * 4 + 3]? = some (.map (some mb))) := Lib.hid ⟨h1, h3⟩
  have MA0 : Hid (MAt w0 g m cur p cur) := Lib.hid ⟨hg0, rfl, h2, fun _ _ => rfl⟩
  have HK0 := Lib.hid hk0
  have HM0 := Lib.hid hm0
  have HFR0 : Hid (Fr (fun b => b = g ∨ b = mb) w w0) := Lib.hid (Fr.of hb0)
  obtain ⟨P, HPP⟩ : ∃ P, Hid (pos (ks.take p) ⟨yb, yn, ys⟩ 0 = P) := ⟨_, Lib.hid rfl⟩
  rw [HPP.out] at LK0
  obtain ⟨bt, HBT⟩ : ∃ b : Bool, Hid (b = !decide (P = -1)) := ⟨_, Lib.hid rfl⟩
  obtain ⟨ix, HIX⟩ : ∃ i : Int, Hid (i = if P = -1 then 0 else P) := ⟨_, Lib.hid rfl⟩
  have LK1 : (Instr.lookup 129 (.map (some mb)) (.agg #[.bool yb, .int .i64 yn, .string ys]) true).run Tryd.prog w0.drew = .ok (.tuple #[.int .i64 ix, .bool bt]) w0.drew := by
    rw [LK0, HBT.out, HIX.out]
    by_cases h : P = -1
    · rw [if_pos h, if_pos h, decide_eq_true h]; rfl
    · rw [if_neg h, if_neg h, decide_eq_false h]; rfl
  clear hg hin hm hf hS hkl hL hg0 hk0 hm0 hb0 h1 h2 h3 r0 LK0
  go_enter Tryd.func141, Tryd.ntmps141
  go_wp2_with (fail)
  rw [HW0.out]
  go_region
  go_wp2_with (fail)
  clear LK1 c1 c2 c3 rk
  go_loopg [6, 7] (L + 1 - p) (fun gk iv bv wr => ∃ (q : Nat) (arr : Array Value) (fn : Value → Option Value) (b : Bool) (i : Int), iv = .int .i64 i ∧ bv = .bool b ∧ gk + q = L + 1 ∧ q ≤ L ∧ Hid (b = true → i = pos (ks.take q) ⟨yb, yn, ys⟩ 0 ∧ pos (ks.take q) ⟨yb, yn, ys⟩ 0 ≠ -1) ∧ Hid (b = false → pos (ks.take q) ⟨yb, yn, ys⟩ 0 = -1) ∧ Hid (MAt wr g m cur q arr) ∧ Hid (raw.Holds wr GK mb fn) ∧
    Hid (FirstK (ks.take q) fn) ∧ Hid (Fr (fun b => b = g ∨ b = mb) w wr) ∧ Hid (wr.heap[w.heap.size]? = some (.cells #[.bool yb, .int .i64 yn, .string ys] IK (0, 0))))
  case atStart =>
    refine ⟨p, cur, f, bt, ix, rfl, rfl, by omega, hp, Lib.hid (fun h => ?_), Lib.hid (fun h => ?_), Lib.hid ⟨MA0.out.blk, rfl, MA0.out.at_, fun _ _ => rfl⟩, Lib.hid HM0.out, HF, Lib.hid ?_, Lib.hid HK0.out⟩
    · rw [HBT.out] at h
      have h' : ¬ P = -1 := by simpa using h
      rw [HPP.out, HIX.out, if_neg h']
      exact ⟨rfl, h'⟩
    · rw [HBT.out] at h
      have h' : P = -1 := by simpa using h
      rw [HPP.out, h']
    · exact HFR0.out.trans (Fr.of ((Below.refl _ _).drew))
  case round =>
    obtain ⟨q, arr, fn, b, i, rfl, rfl, hgq, hqL, HT, HN, HA, HM, HFF, HFR, HK⟩ := hrel
    by_cases hgo : b = false ∧ q < L
    · obtain ⟨rfl, hlt⟩ := hgo
      obtain ⟨rw1, -⟩ := rowc HA.out.blk
      have a1 : wr.cell? ⟨g, m * 4 + 1, none⟩ = some (.slice B' L c) := (rw1 _).trans ((HA.out.other _ (by omega)).trans HC.out.1)
      have a2 : wr.cell? ⟨g, m * 4 + 2, none⟩ = some (.int .i64 q) := (rw1 _).trans HA.out.at_
      have hd : decide ((q : Int) < (L : Int)) = true := by simpa using hlt
      clear rw1
      go_upto_region 2 with fail
      go_cut [33] (fun v wx => CutW wr true v wx)
      case first =>
        go_quiet (fail)
        all_goals
          go_wp2_with (fail)
          go_meet
          exact ⟨rfl, kbelow_drew _ _, kdrew_heap _ _⟩
      case rest =>
        obtain ⟨rfl, hbc, hhp⟩ := hcut
        clear a1 a2 hd
        have HFc := Lib.hid (HFR.out.trans (Fr.of hbc))
        have HAc : Hid (MAt wc g m cur q arr) := Lib.hid ⟨by rw [hhp]; exact HA.out.blk, HA.out.size, HA.out.at_, HA.out.other⟩
        have HMc := Lib.hid (HM.out.kept (w' := wc) (by rw [hhp]) (fun _ hx => hx))
        have HKc : Hid (wc.heap[w.heap.size]? = _) := Lib.hid ((congrArg (fun z => z[w.heap.size]?) hhp).trans HK.out)
        have HIc := Lib.hid (HIN.out.stays (w' := wc) (S' := S) (fun _ h => h) (fun b hb hl => HFc.out.block b hl (fun h => h.elim (HS.out b hb).1 (HS.out b hb).2)))
        clear hbc hhp HA HM HK HFR
        obtain ⟨a, z, k1, n1, s1, x1, ks1, vs1, A1, c1, rfl, -, hky, -, -, -, -, -, hcell⟩ := HIc.out.item (i := q) (by rw [HL.out]; exact hlt)
        obtain ⟨zb, zn, zs⟩ := z
        have p0 := hcell.c0
        have p1 := hcell.c1
        have p2 := hcell.c2
        simp only at p0 p1 p2
        have HKY := Lib.hid hky
        obtain ⟨w2, HW2⟩ : ∃ w2, Hid (wc.alloc (.cells #[.bool zb, .int .i64 zn, .string zs] IK) = w2) := ⟨_, Lib.hid rfl⟩
        have hb2 : Below wc.heap.size wc w2 := by rw [← HW2.out]; exact b1 _ _
        have HF2 := Lib.hid (HFc.out.trans (Fr.of hb2))
        have HA2 : Hid (MAt w2 g m cur q arr) := Lib.hid ⟨carry hb2 HAc.out.blk, HAc.out.size, HAc.out.at_, HAc.out.other⟩
        have HM2 := Lib.hid (HMc.out.kept (w' := w2) (hb2.block _ HMc.out.lt) (fun _ hx => hx))
        have HK2 := Lib.hid (carry hb2 HKc.out)
        obtain ⟨NB, HNB⟩ : ∃ N, Hid (wc.heap.size = N) := ⟨_, Lib.hid rfl⟩
        have HZ2 : Hid (w2.heap[NB]? = some (.cells #[.bool zb, .int .i64 zn, .string zs] IK (0, 0))) := Lib.hid (by rw [← HW2.out, ← HNB.out]; exact heap_alloc_new wc _)
        have hlw : w.heap.size < NB := by rw [← HNB.out]; exact (Array.getElem?_eq_some_iff.1 HKc.out).1
        have hgb : g < w.heap.size := hgl
        obtain ⟨r1, -⟩ := rowc HAc.out.blk
        have a1 : wc.cell? ⟨g, m * 4 + 1, none⟩ = some (.slice (some a) L c) := (r1 _).trans ((HAc.out.other _ (by omega)).trans HC.out.1)
        have a2 : wc.cell? ⟨g, m * 4 + 2, none⟩ = some (.int .i64 q) := (r1 _).trans HAc.out.at_
        obtain ⟨Pz, HPz⟩ : ∃ P, Hid (pos (ks.take q) ⟨zb, zn, zs⟩ 0 = P) := ⟨_, Lib.hid rfl⟩
        have LK2 := lookK (w := w2.drew) HM2.out HFF.out ⟨zb, zn, zs⟩
        rw [HPz.out] at LK2
        unfold kyV at LK2
        simp only at LK2
        clear hb2 hcell hky r1
        go_wp2_with (fail)
        rw [HNB.out, HW2.out]
        clear p0 p1 p2 a1 a2
        obtain ⟨r2, -⟩ := rowc HA2.out.blk
        have a3 : w2.cell? ⟨g, m * 4 + 3, none⟩ = some (.map (some mb)) := (r2 _).trans ((HA2.out.other _ (by omega)).trans HC.out.2)
        clear r2
        obtain ⟨rz, -⟩ := rowc HZ2.out
        obtain ⟨rk, -⟩ := rowc HK2.out
        by_cases hP : Pz = -1
        · rw [if_pos hP] at LK2
          go_region
          obtain ⟨w3, hrun, hm3, hg3⟩ := (show raw.Holds w2.drew.drew GK mb fn from HM2.out).update good_ky gk_stays Tryd.underlying129 (k := .agg #[.bool zb, .int .i64 zn, .string zs]) (v := .int .i64 q) ⟨⟨zb, zn, zs⟩, rfl⟩
          have HM3 := Lib.hid hm3
          have e3 : ∀ (b : Nat) (o : Obj), b ≠ mb → w2.heap[b]? = some o → w3.heap[b]? = some o := fun b o hb ho => (hg3.block b (Array.getElem?_eq_some_iff.1 ho).1 (by intro h; injection h with h; exact hb h)).trans ho
          have HA3 : Hid (MAt w3 g m cur q arr) := Lib.hid ⟨e3 _ _ (by omega) HA2.out.blk, HA2.out.size, HA2.out.at_, HA2.out.other⟩
          have HK3 := Lib.hid (e3 _ _ (by omega) HK2.out)
          have HZ3 := Lib.hid (e3 _ _ (by omega) HZ2.out)
          have HF3 : Hid (Fr (fun b => b = g ∨ b = mb) w w3) := Lib.hid (HF2.out.trans ⟨hg3.os, hg3.tape, hg3.output, hg3.size, fun b hb hn => hg3.block b hb (fun h => hn (.inr (Option.some.inj h)))⟩)
          clear hm3 hg3 e3
          go_wp2_with (fail)
          go_region
          clear hrun LK2 rz rk a3
          obtain ⟨r3, f3⟩ := rowc HA3.out.blk
          obtain ⟨rz3, -⟩ := rowc HZ3.out
          obtain ⟨rk3, -⟩ := rowc HK3.out
          have a2 : w3.cell? ⟨g, m * 4 + 2, none⟩ = some (.int .i64 q) := (r3 _).trans HA3.out.at_
          have f2 := f3 (m * 4 + 2)
          clear r3 f3
          have KE := fun w => ky_eql w ⟨zb, zn, zs⟩ ⟨yb, yn, ys⟩
          unfold kyV at KE
          simp only at KE
          go_wp2_with (fail)
          go_roundg (L - q)
          case rel =>
            have hps := pos_snoc (y := ⟨yb, yn, ys⟩) HKY.out
            rw [if_pos (HN.out (by trivial))] at hps
            refine ⟨q + 1, _, _, _, q, by go_num, rfl, by omega, by omega, Lib.hid (fun h => ?_), Lib.hid (fun h => ?_), Lib.hid (HA3.out.set (p1 := q + 1) HA3.out.blk), Lib.hid (HM3.out.kept (set_other (by omega)) (fun _ hx => hx)), Lib.hid ?_, Lib.hid (HF3.out.trans (Fr.set (.inl rfl) _ _)), Lib.hid ((set_other (by omega)).trans HK3.out)⟩
            · rw [hps, if_pos (by simpa using h)]
              exact ⟨rfl, by omega⟩
            · rw [hps, if_neg (by simpa using h)]
            · rw [take_snoc HKY.out]
              have := HFF.out.push (y := ⟨zb, zn, zs⟩) (by rw [HPz.out]; exact hP)
              rwa [List.length_take, HKL.out, Nat.min_eq_left (by omega)] at this
          case measure => omega
        · rw [if_neg hP] at LK2
          go_region
          clear LK2 a3
          obtain ⟨r3, f3⟩ := rowc HA2.out.blk
          have a2 : w2.cell? ⟨g, m * 4 + 2, none⟩ = some (.int .i64 q) := (r3 _).trans HA2.out.at_
          have f2 := f3 (m * 4 + 2)
          clear r3 f3
          have KE := fun w => ky_eql w ⟨zb, zn, zs⟩ ⟨yb, yn, ys⟩
          unfold kyV at KE
          simp only at KE
          go_wp2_with (fail)
          go_roundg (L - q)
          case rel =>
            have hps := pos_snoc (y := ⟨yb, yn, ys⟩) HKY.out
            rw [if_pos (HN.out (by trivial))] at hps
            refine ⟨q + 1, arr.setIfInBounds (m * 4 + 2) (.int .i64 ((q + 1 : Nat) : Int)), fn, _, q, by go_num, rfl, by omega, by omega, Lib.hid (fun h => ?_), Lib.hid (fun h => ?_), Lib.hid (by have h := HA2.out.set (p1 := q + 1) HA2.out.blk; exact ⟨h.blk, h.size, h.at_, h.other⟩), Lib.hid (HM2.out.kept (set_other (by omega)) (fun _ hx => hx)), Lib.hid ?_, Lib.hid ((HF2.out.trans (Fr.of (Below.refl _ _).drew)).trans (Fr.set (.inl rfl) _ _)), Lib.hid ((set_other (by omega)).trans HK2.out)⟩
            · rw [hps, if_pos (by simpa using h)]
              exact ⟨rfl, by omega⟩
            · rw [hps, if_neg (by simpa using h)]
            · rw [take_snoc HKY.out]
              exact HFF.out.skip (y := ⟨zb, zn, zs⟩) (by rw [HPz.out]; exact hP)
          case measure => omega
    · have hQ : Hid ((b = true → i = pos ks ⟨yb, yn, ys⟩ 0 ∧ pos ks ⟨yb, yn, ys⟩ 0 ≠ -1) ∧ (b = false → pos ks ⟨yb, yn, ys⟩ 0 = -1)) := Lib.hid ⟨fun h => by
          obtain ⟨h1, h2⟩ := HT.out h
          have := pos_take ks _ q 0 h2
          exact ⟨by rw [h1, this], by rw [this]; exact h2⟩, fun h => by
          have hq : ¬ q < L := fun hl => hgo ⟨h, hl⟩
          have := HN.out h
          rwa [List.take_of_length_le (by rw [HKL.out]; omega)] at this⟩
      obtain ⟨rw1, -⟩ := rowc HA.out.blk
      have a1 : wr.cell? ⟨g, m * 4 + 1, none⟩ = some (.slice B' L c) := (rw1 _).trans ((HA.out.other _ (by omega)).trans HC.out.1)
      have a2 : wr.cell? ⟨g, m * 4 + 2, none⟩ = some (.int .i64 q) := (rw1 _).trans HA.out.at_
      clear rw1 HT HN
      go_upto_region 2 with fail
      go_cut [33] (fun v wx => CutW wr false v wx)
      case first =>
        cases b with
        | true =>
          go_quiet (fail)
          all_goals
            go_wp2_with (fail)
            go_meet
            exact ⟨rfl, kbelow_drew _ _, kdrew_heap _ _⟩
        | false =>
          have hd : ¬ q < L := fun h => hgo ⟨rfl, h⟩
          go_quiet (fail)
          all_goals
            go_wp2_with (fail)
            go_meet
            exact ⟨by first | rfl | rw [decide_eq_false hd], kbelow_drew _ _, kdrew_heap _ _⟩
      case rest =>
        obtain ⟨rfl, hbc, hhp⟩ := hcut
        have HFc := Lib.hid (HFR.out.trans (Fr.of hbc))
        have HAc : Hid (MAt wc g m cur q arr) := Lib.hid ⟨by rw [hhp]; exact HA.out.blk, HA.out.size, HA.out.at_, HA.out.other⟩
        have HMc := Lib.hid (HM.out.kept (w' := wc) (by rw [hhp]) (fun _ hx => hx))
        clear hbc hhp a1 a2 HK
        go_wp2_with (fail)
        go_ret2
        exact ⟨i, b, q, arr, fn, rfl, hQ.out.1, hQ.out.2, by rw [HKL.out]; exact hqL, HAc.out, HMc.out, HFF.out, HFc.out⟩

end Go.Proofs.YtlbkbcafkjgckaaDoor.tree

/-
  Two values compared without their items, two keys compared, and two places as one key of a map.
  Conditions: those that each theorem names.
-/
namespace Go.Proofs.YtlbkbcafkjgckaaDoor.tree
open Go.ChangeShapes Go.WideShapes Go.ChangeAt Go.RowKit
set_option linter.unusedVariables false

/-! ### two places -/
abbrev P2 : TypeId := 137
def G2 (B : Nat) (w : World) (x : Value) : Prop := ∃ (p : Option Addr) (n : Int) (q : Option Addr) (m : Int), x = .agg #[.pointer p, .int .i64 n, .pointer q, .int .i64 m] ∧ (∀ a, p = some a → Lo B w a.block) ∧ ∀ a, q = some a → Lo B w a.block
theorem G2.kp {B : Nat} {w w' : World} (hk : Kp B w w') {x : Value} (h : G2 B w x) : G2 B w' x := by
  obtain ⟨p, n, q, m, e, hp, hq⟩ := h
  exact ⟨p, n, q, m, e, fun a ha => (hp a ha).kp hk, fun a ha => (hq a ha).kp hk⟩
theorem g2_stays (B : Nat) : raw.Stays (G2 B) := fun w w' b x hb h hx => by
  obtain ⟨es, clock, hm⟩ := hb
  exact hx.kp fun k _ hp => h k (fun e => by
    obtain ⟨cs, t, hc⟩ := hp
    rw [e, hm] at hc
    cases hc) hp.lt
theorem pl_info : ∃ i, Tryd.prog.info? PL = some i ∧ i.size = 2 := by
  have : (Tryd.prog.info? PL).map (·.size) = some 2 := by kernel_rfl
  cases hq : Tryd.prog.info? PL with
  | none => rw [hq] at this; cases this
  | some i => rw [hq] at this; simp at this; exact ⟨i, rfl, this⟩
theorem run_part_pl (w : World) (a n b m : Value) : (part PL #[a, n, b, m] 0).run Tryd.prog w = .ok (.agg #[a, n]) w ∧ (part PL #[a, n, b, m] 2).run Tryd.prog w = .ok (.agg #[b, m]) w := by
  obtain ⟨f0, f1, hu, _⟩ := pl_desc
  obtain ⟨i, hi, hs⟩ := pl_info
  constructor <;> simp [part, isAgg, run_underlying hu, sizeOf, typeInfo, hi, hs] <;> rfl

theorem g2_eq (d : Nat) (w : World) {x y : Value} (hx : ∃ p n q m, x = .agg #[.pointer p, .int .i64 n, .pointer q, .int .i64 m] ∧ GP w (.agg #[.pointer p, .int .i64 n]) ∧ GP w (.agg #[.pointer q, .int .i64 m]))
    (hy : ∃ p n q m, y = .agg #[.pointer p, .int .i64 n, .pointer q, .int .i64 m] ∧ GP w (.agg #[.pointer p, .int .i64 n]) ∧ GP w (.agg #[.pointer q, .int .i64 m])) :
    ∃ r : Bool, (Op.equalIn (d + 3) P2 x y).run Tryd.prog w = .ok r w ∧ (r = true ↔ x = y) := by
  obtain ⟨p, n, q, m, rfl, g1, g2⟩ := hx
  obtain ⟨p', n', q', m', rfl, g1', g2'⟩ := hy
  obtain ⟨r1, h1, i1⟩ := pl_eq w d g1 g1'
  obtain ⟨r2, h2, i2⟩ := pl_eq w d g2 g2'
  obtain ⟨a1, a2⟩ := run_part_pl w (.pointer p) (.int .i64 n) (.pointer q) (.int .i64 m)
  obtain ⟨b1, b2⟩ := run_part_pl w (.pointer p') (.int .i64 n') (.pointer q') (.int .i64 m')
  obtain ⟨i, hi, hs⟩ := pl_info
  refine ⟨r1 && r2, ?_, ?_⟩
  · rw [show d + 3 = (d + 2) + 1 from rfl, Op.equalIn]
    simp only [Sem.run_bind, run_underlying Tryd.underlying137, Result.andThen_ok]
    simp only [Std.Legacy.Range.forIn_eq_forIn_range', Std.Legacy.Range.size, Nat.sub_zero, Nat.add_one_sub_one, Nat.div_one]
    cases r1 <;> cases r2 <;> simp [List.range', sizeOf, typeInfo, hi, hs, a1, a2, b1, b2, h1, h2, Result.andThen]
  · rw [Bool.and_eq_true, i1, i2]
    simp
    constructor
    · rintro ⟨⟨rfl, rfl⟩, rfl, rfl⟩; exact ⟨rfl, rfl, rfl, rfl⟩
    · rintro ⟨rfl, rfl, rfl, rfl⟩; exact ⟨⟨rfl, rfl⟩, rfl, rfl⟩

theorem G2.two {B : Nat} {w : World} {x : Value} (h : G2 B w x) : ∃ p n q m, x = .agg #[.pointer p, .int .i64 n, .pointer q, .int .i64 m] ∧ GP w (.agg #[.pointer p, .int .i64 n]) ∧ GP w (.agg #[.pointer q, .int .i64 m]) := by
  obtain ⟨p, n, q, m, e, hp, hq⟩ := h
  exact ⟨p, n, q, m, e, ⟨p, n, rfl, fun a ha => (hp a ha).2⟩, ⟨q, m, rfl, fun a ha => (hq a ha).2⟩⟩
theorem g2_check (d : Nat) (w : World) (em : Bool) {x : Value} (h : ∃ p n q m, x = .agg #[.pointer p, .int .i64 n, .pointer q, .int .i64 m] ∧ GP w (.agg #[.pointer p, .int .i64 n]) ∧ GP w (.agg #[.pointer q, .int .i64 m])) : (Instr.checkKey em (d + 3) P2 x).run Tryd.prog w = .ok () w := by
  obtain ⟨p, n, q, m, rfl, g1, g2⟩ := h
  obtain ⟨a1, a2⟩ := run_part_pl w (.pointer p) (.int .i64 n) (.pointer q) (.int .i64 m)
  obtain ⟨i, hi, hs⟩ := pl_info
  have k1 := pl_check d w em g1
  have k2 := pl_check d w em g2
  rw [show d + 3 = (d + 2) + 1 from rfl, Instr.checkKey]
  simp only [Sem.run_bind, run_underlying Tryd.underlying137, Result.andThen_ok]
  simp only [Std.Legacy.Range.forIn_eq_forIn_range', Std.Legacy.Range.size, Nat.sub_zero, Nat.add_one_sub_one, Nat.div_one]
  simp [List.range', sizeOf, typeInfo, hi, hs, a1, a2, k1, k2, Result.andThen]
theorem g2_same (d : Nat) (p : Option Addr) (n : Int) (q : Option Addr) (m : Int) : Instr.sameBits (d + 2) (.agg #[.pointer p, .int .i64 n, .pointer q, .int .i64 m]) (.agg #[.pointer p, .int .i64 n, .pointer q, .int .i64 m]) = true := by
  simp [Instr.sameBits]
theorem good_g2 (B : Nat) : raw.Good Tryd.prog P2 (G2 B) where
  wide := by rw [Tryd.underlying137]
  check := fun w em x h => g2_check 9997 w em h.two
  eq := fun w x y hx hy => g2_eq 9997 w hx.two hy.two
  same := fun w x h => by
    obtain ⟨p, n, q, m, rfl, -, -⟩ := h
    exact g2_same 9998 p n q m

/-! ### two values without their items -/

end Go.Proofs.YtlbkbcafkjgckaaDoor.tree

/-
  The list of arrays that are being compared, as it lies in memory.
  Conditions: those that each theorem names.
-/
namespace Go.Proofs.YtlbkbcafkjgckaaDoor.tree
open Go.ChangeShapes Go.WideShapes Go.ChangeAt Go.RowKit
set_option linter.unusedVariables false

def CRow (w : World) (B : Nat) (way : Value) (G : List Mt) : Prop := w.ownsRow B MG 4 way G.length (G.reverse.flatMap Mt.cells)

theorem cells9_len (G : List Mt) : (G.flatMap Mt.cells).length = G.length * 4 := by
  induction G with
  | nil => rfl
  | cons V l ih => rw [List.flatMap_cons, List.length_append, ih, List.length_cons]; simp [Mt.cells]; omega
theorem cells9_rev (V : Mt) (l : List Mt) : (V :: l).reverse.flatMap Mt.cells = l.reverse.flatMap Mt.cells ++ V.cells := by simp

theorem CRow.top {w : World} {B : Nat} {way : Value} {V : Mt} {l : List Mt} (h : CRow w B way (V :: l)) :
    ∃ g c cur, way = .slice (some ⟨g, 0, none⟩) (l.length + 1) c ∧ B ≤ g ∧ w.heap[g]? = some (.cells cur MG (0, 0)) ∧ l.length + 1 ≤ c ∧ c ≤ maxLen ∧ cur.size = c * 4 ∧ ∀ q, q < 4 → cur[l.length * 4 + q]? = V.cells[q]? := by
  obtain ⟨h1, h2⟩ := h
  rcases h2 with ⟨_, h0⟩ | ⟨g, cap, cur, rfl, hB, hg, hn, hm, hs, htake⟩
  · simp at h0
  · refine ⟨g, cap, cur, rfl, hB, hg, hn, hm, hs, fun q hq => ?_⟩
    have hl : (l.reverse.flatMap Mt.cells).length = l.length * 4 := by rw [cells9_len, List.length_reverse]
    have e : (cur.toList.take ((V :: l).length * 4))[l.length * 4 + q]? = V.cells[q]? := by
      rw [htake, cells9_rev, List.getElem?_append_right (by omega), hl]
      congr 1
      omega
    rw [List.getElem?_take_of_lt (by simp; omega)] at e
    rw [← e]
    simp

theorem CRow.pop {w : World} {B g c : Nat} {n : Nat} {V : Mt} {l : List Mt} (h : CRow w B (.slice (some ⟨g, 0, none⟩) n c) (V :: l)) : CRow w B (.slice (some ⟨g, 0, none⟩) l.length c) l := by
  obtain ⟨h1, h2⟩ := h
  rcases h2 with ⟨h0, _⟩ | ⟨g', cap, cur, he, hB, hg, hn, hm, hs, htake⟩
  · cases h0
  · simp at he
    obtain ⟨rfl, -, rfl⟩ := he
    have hl : (l.reverse.flatMap Mt.cells).length = l.length * 4 := by rw [cells9_len, List.length_reverse]
    refine ⟨hl, .inr ⟨g, c, cur, rfl, hB, hg, by simp at hn; omega, hm, hs, ?_⟩⟩
    have := congrArg (List.take (l.length * 4)) htake
    rw [List.take_take, cells9_rev, List.take_append_of_le_length (by omega), List.take_of_length_le (l := List.flatMap _ _) (by omega)] at this
    rw [← this]
    congr 1
    simp


theorem CRow.nil {w : World} {B : Nat} {way : Value} (h : CRow w B way []) : ∃ A c, way = .slice A 0 c := by
  rcases h.2 with ⟨h0, _⟩ | ⟨g, cap, cur, h0, _⟩
  · exact ⟨none, 0, h0⟩
  · exact ⟨_, cap, h0⟩
theorem CRow.below {w w' : World} {B : Nat} {way : Value} {P : List Mt} (h : CRow w B way P) (hb : Below w.heap.size w w') : CRow w' B way P :=
  World.ownsRow.kept h (mem.none_of_below hb) (by
    cases e : way.ownBlock with
    | none => exact .inl rfl
    | some k => exact .inr (by simp))
theorem CRow.own {w : World} {B : Nat} {way : Value} {P : List Mt} (h : CRow w B way P) : ∀ k, way.ownBlock = some k → B ≤ k ∧ k < w.heap.size ∧ Plain w k := fun k e => by
  rcases h.2 with ⟨h0, _⟩ | ⟨g, cap, cur, h0, hB, hg, _⟩
  · rw [h0] at e; cases e
  · rw [h0] at e
    injection e with e
    obtain rfl : g = k := e
    exact ⟨hB, (Array.getElem?_eq_some_iff.1 hg).1, _, _, hg⟩
theorem CRow.keptN {w w' : World} {B b : Nat} {way : Value} {P : List Mt} (h : CRow w B way P) (hg : w.grownBy w' (some b)) (hb : ¬ Plain w b) : CRow w' B way P :=
  World.ownsRow.kept h hg (by
    cases e : way.ownBlock with
    | none => exact .inl rfl
    | some k =>
      refine .inr (fun h2 => ?_)
      have := (h.own k e).2.2
      injection h2 with h2
      exact hb (h2 ▸ this))
theorem CRow.set {w w' : World} {B g c n : Nat} {V V' : Mt} {l : List Mt} {cur arr : Array Value} (h : CRow w B (.slice (some ⟨g, 0, none⟩) n c) (V :: l)) (hg : w.heap[g]? = some (.cells cur MG (0, 0))) (hg' : w'.heap[g]? = some (.cells arr MG (0, 0)))
    (hs : arr.size = cur.size) (hlo : ∀ j, j < l.length * 4 → arr[j]? = cur[j]?) (hat : ∀ q, q < 4 → arr[l.length * 4 + q]? = V'.cells[q]?) : CRow w' B (.slice (some ⟨g, 0, none⟩) n c) (V' :: l) := by
  obtain ⟨h1, h2⟩ := h
  rcases h2 with ⟨h0, _⟩ | ⟨g', cap, cur', he, hB, hg2, hnc, hm, hsz, htake⟩
  · cases h0
  · simp at he
    obtain ⟨rfl, rfl, rfl⟩ := he
    rw [hg] at hg2
    simp at hg2
    obtain rfl := hg2
    have hl : (l.reverse.flatMap Mt.cells).length = l.length * 4 := by rw [cells9_len, List.length_reverse]
    refine ⟨by rw [cells9_rev, List.length_append, hl]; simp [Mt.cells]; omega, .inr ⟨g, c, arr, by simp, hB, hg', by simpa using hnc, hm, by omega, ?_⟩⟩
    refine List.ext_getElem? fun j => ?_
    simp only [List.length_cons] at htake hnc ⊢
    by_cases hj : j < l.length * 4
    · rw [List.getElem?_take_of_lt (by omega), cells9_rev, List.getElem?_append_left (by omega), Array.getElem?_toList, hlo j hj]
      have := congrArg (fun z => z[j]?) htake
      rw [List.getElem?_take_of_lt (by omega), cells9_rev, List.getElem?_append_left (by omega), Array.getElem?_toList] at this
      exact this
    · by_cases hj4 : j < l.length * 4 + 4
      · obtain ⟨q, rfl⟩ : ∃ q, j = l.length * 4 + q := ⟨j - l.length * 4, by omega⟩
        rw [List.getElem?_take_of_lt (by omega), cells9_rev, List.getElem?_append_right (by omega), hl, Array.getElem?_toList, hat q (by omega), Nat.add_sub_cancel_left]
      · rw [List.getElem?_eq_none (by simp; omega), List.getElem?_eq_none (by rw [cells9_rev, List.length_append, hl]; simp [Mt.cells]; omega)]

/-- What taking an item leaves, apart from what it gives. -/
structure Tk (wr w4 : World) (g m : Nat) (cur : Array Value) (F : Mt) (R1 : Option Addr) (L1 c1 : Nat) : Prop where
  fr : Fr (fun b => b = g ∨ b = F.b) wr w4
  st : ∃ (p : Nat) (arr : Array Value) (f : Value → Option Value), p ≤ F.vs'.length ∧ w4.heap[g]? = some (.cells arr MG (0, 0)) ∧ arr.size = cur.size ∧ arr[m * 4]? = some (.slice R1 L1 c1) ∧ arr[m * 4 + 2]? = some (.int .i64 p) ∧ (∀ j, j ≠ m * 4 → j ≠ m * 4 + 2 → arr[j]? = cur[j]?) ∧ raw.Holds w4 GK F.b f ∧ FirstK (F.ks'.take p) f
theorem hold_np {w : World} {G : World → Value → Prop} {b : Nat} {f : Value → Option Value} (h : raw.Holds w G b f) : ¬ Plain w b := fun ⟨cs, t, hc⟩ => by
  obtain ⟨es, ck, hb, -⟩ := h
  rw [hc] at hb
  cases hb

section
variable {R : Int} {B E : Nat} {w wr w4 : World} {F : Mt} {G : List Mt} {e : Value → Option Value} {g c n : Nat} {cur : Array Value} {y : Ky} {kt : List Ky} {t : Tr} {ts : List Tr} {R1 : Option Addr} {c1 : Nat}
theorem CSt.took (hst : CSt R B wr 0 (F :: G) e) (hrow : CRow wr B (.slice (some ⟨g, 0, none⟩) n c) (F :: G)) (hm1 : raw.Holds wr (G2 B) E e) (hE : ∀ X ∈ F :: G, E < X.b) (hB : w.heap.size ≤ B) (hEb : w.heap.size ≤ E) (hb : Below w.heap.size w wr)
    (hgB : B ≤ g) (hg : wr.heap[g]? = some (.cells cur MG (0, 0))) (hq : ∀ q, q < 4 → cur[G.length * 4 + q]? = F.cells[q]?) (hk0 : F.ks = y :: kt) (hv : F.vs = t :: ts)
    (hT : Tk wr w4 g G.length cur F R1 ts.length c1) (hR : IsIn wr (Lo B wr) kt ts R1) (hc : ts.length ≤ c1 ∧ c1 ≤ maxLen) :
    Below w.heap.size w w4 ∧ Kp B wr w4 ∧ (getL F.ks' F.vs' y = none → R = 2) ∧ ∀ u, getL F.ks' F.vs' y = some u → ∃ F' : Mt, CSt R B w4 (cmpT t u) (F' :: G) e ∧ CRow w4 B (.slice (some ⟨g, 0, none⟩) n c) (F' :: G) ∧ raw.Holds w4 (G2 B) E e ∧
      (∀ X ∈ F' :: G, E < X.b) ∧ left9 (F' :: G) + wk t = left9 (F :: G) ∧ (F'.ks = kt ∧ F'.vs = ts ∧ F'.ks' = F.ks' ∧ F'.vs' = F.vs') ∧ cnt t ≤ cnts F'.vs0 := by
  obtain ⟨p, arr, f, hp, hg4, hsz, ha0, ha2, hao, hmf, hff⟩ := hT.st
  have hF := hst.ok F List.mem_cons_self
  obtain ⟨f0, hf0, -⟩ := hF.map
  have hkp : Kp B wr w4 := fun b hbB hpl => hT.fr.block b hpl.lt (fun h => by
    rcases h with rfl | rfl
    · omega
    · exact hold_np hf0 hpl)
  have hEF := hE F List.mem_cons_self
  have hgp : Plain wr g := ⟨_, _, hg⟩
  have hbs : ∀ X ∈ G, w4.heap[X.b]? = wr.heap[X.b]? := fun X hX => by
    have hXok := hst.ok X (List.mem_cons_of_mem _ hX)
    refine hT.fr.block _ hXok.lt (fun h => ?_)
    rcases h with h | h
    · obtain ⟨f1, hf1, -⟩ := hXok.map
      rw [h] at hf1
      exact hold_np hf1 hgp
    · have := (hst.nest.1 X hX).2
      omega
  obtain ⟨h1, h2⟩ := hst.take hkp hbs hk0 hv (hR.kp hkp) hc hp ⟨f, hmf, hff⟩
  refine ⟨?_, hkp, h1, fun u hu => ⟨_, h2 u hu, ?_, ?_, ?_, ?_, ⟨rfl, rfl, rfl, rfl⟩, ?_⟩⟩
  · have := hT.fr.below (lo := w.heap.size) hb.size (fun b hb => by rcases hb with rfl | rfl <;> omega)
    exact ⟨this.os.trans hb.os, this.tape.trans hb.tape, this.output.trans hb.output, Nat.le_trans hb.size this.size, fun b hbb => (this.block b hbb).trans (hb.block b hbb)⟩
  · refine hrow.set hg hg4 hsz (fun j hj => hao j (by omega) (by omega)) (fun q hq4 => ?_)
    have e1 := hq q hq4
    match q, hq4 with
    | 0, _ => exact ha0
    | 1, _ => exact (hao _ (by omega) (by omega)).trans e1
    | 2, _ => exact ha2
    | 3, _ => exact (hao _ (by omega) (by omega)).trans e1
  · refine hm1.kept (hT.fr.block _ hm1.lt (fun h => ?_)) (fun x hx => hx.kp hkp)
    rcases h with h | h
    · rw [h] at hm1
      exact hold_np hm1 hgp
    · omega
  · intro X hX
    rcases List.mem_cons.1 hX with rfl | hX
    · exact hEF
    · exact hE X (List.mem_cons_of_mem _ hX)
  · simp only [left9, hv, wks_cons]
    omega
  · have := hF.le
    rw [hv, cnts_cons] at this
    show cnt t ≤ cnts F.vs0
    omega

/-- How large they may be. -/
def Tb (F : Mt) : Prop := tots F.ks F.vs ≤ 1000000000 ∧ tots F.ks' F.vs' ≤ 1000000000
/-- What holds at the head of the loop. -/
def CRel (R : Int) (B E : Nat) (w : World) (gk : Nat) (way : Value) (wr : World) : Prop :=
  ∃ G e, gk = left9 G ∧ CSt R B wr 0 G e ∧ CRow wr B way G ∧ raw.Holds wr (G2 B) E e ∧ (∀ X ∈ G, E < X.b) ∧ Below w.heap.size w wr ∧ ∀ X ∈ G, Tb X

/-- Two arrays are entered: the list behind it. -/
theorem CRel.push {w4' w5 w6 w7 : World} {ks1 ks2 : List Ky} {vs1 vs2 : List Tr} {A1 A2 : Option Addr} {c1 c2 b : Nat} {way : Value} {row : Option Nat} (hst : CSt R B w4 (cmpL ks1 vs1 ks2 vs2) (F :: G) e) (hm : raw.Holds w4 (G2 B) E e) (hE : ∀ X ∈ F :: G, E < X.b)
    (hB : w.heap.size ≤ B) (hEb : w.heap.size ≤ E) (hb : Below w.heap.size w w4) (hin1 : IsIn w4 (Lo B w4) ks1 vs1 A1) (hc1 : vs1.length ≤ c1 ∧ c1 ≤ maxLen) (hin2 : IsIn w4 (Lo B w4) ks2 vs2 A2) (hc2 : vs2.length ≤ c2 ∧ c2 ≤ maxLen) (hlt : cnts vs1 < cnts F.vs0)
    (h44 : Below w4.heap.size w4 w4') (hm4 : raw.Holds w4' (G2 B) E e) (hm5 : raw.Holds w5 (G2 B) E (raw.put e (pq (plc A1 vs1.length) (plc A2 vs2.length)) (.bool true))) (h5 : w4'.grownBy w5 (some E))
    (h56 : Below w5.heap.size w5 w6) (hbn : w5.heap.size ≤ b) (hmb : raw.Holds w6 GK b (fun _ => none))
    (hrow : w7.ownsRow B MG 4 way (G.length + 1 + 1) ((F :: G).reverse.flatMap Mt.cells ++ [.slice A1 vs1.length c1, .slice A2 vs2.length c2, .int .i64 0, .map (some b)])) (h67 : w6.grownBy w7 row) (hr : ∀ k, row = some k → B ≤ k ∧ Plain w6 k) (hTb : ∀ X ∈ F :: G, Tb X) (hTn : tots ks1 vs1 ≤ 1000000000 ∧ tots ks2 vs2 ≤ 1000000000) :
    CRel R B E w (1 + wks vs1 + left9 (F :: G)) way w7 := by
  have k5 : Kp B w4' w5 := Kp.grown h5 (fun k hk => .inr (by obtain rfl := Option.some.inj hk; exact hold_np hm4))
  have k6 : Kp B w5 w6 := Kp.below h56
  have k7 : Kp B w6 w7 := Kp.grown h67 (fun k hk => .inl (hr k hk).1)
  have hkp : Kp B w4 w7 := (((Kp.below h44).trans k5).trans k6).trans k7
  have sz4 := h44.size
  have sz5 := h5.size
  have sz6 := h56.size
  have np7 : ∀ k, ¬ Plain w6 k → k < w6.heap.size → w7.heap[k]? = w6.heap[k]? := fun k hk hlt => h67.block k hlt (fun h => hk (hr k h.symm).2)
  have hbX : ∀ X ∈ F :: G, w7.heap[X.b]? = w4.heap[X.b]? := fun X hX => by
    have hXok := hst.ok X hX
    have l4 := hXok.lt
    obtain ⟨f1, hf1, -⟩ := hXok.map
    have hEX := hE X hX
    have e5 : w6.heap[X.b]? = w4.heap[X.b]? := (h56.block _ (by omega)).trans ((h5.block _ (by omega) (by intro h; injection h; omega)).trans (h44.block _ l4))
    refine (np7 _ (fun ⟨cs, t, hc⟩ => hold_np hf1 ⟨cs, t, e5.symm.trans hc⟩) (by omega)).trans e5
  have l5 := hm5.lt
  have hm7 : raw.Holds w7 (G2 B) E (raw.put e (pq (plc A1 vs1.length) (plc A2 vs2.length)) (.bool true)) := by
    have m6 := hm5.kept (h56.block _ l5) (fun x hx => hx.kp k6)
    exact m6.kept (np7 _ (hold_np m6) m6.lt) (fun x hx => hx.kp k7)
  have hb7 : raw.Holds w7 GK b (fun _ => none) := hmb.kept (np7 _ (hold_np hmb) hmb.lt) (fun x hx => hx)
  have hst7 := hst.kp hkp hbX
  have hlE := hm.lt
  refine ⟨_, _, rfl, hst7.push (hin1.kp hkp) hc1 (hin2.kp hkp) hc2 hlt (fun X hX => ?_) hb7, ?_, hm7, fun X hX => ?_, ?_, fun X hX => ?_⟩
  · have := (hst.ok X hX).lt
    omega
  · show w7.ownsRow _ _ _ _ _ _
    rw [cells9_rev]
    exact hrow
  · rcases List.mem_cons.1 hX with rfl | hX
    · show E < b
      omega
    · exact hE X hX
  · have sz := hb.size
    have g1 := (bs hb h44).grown h5 (by omega) (fun k hk => by obtain rfl := Option.some.inj hk; omega)
    exact (bs g1 h56).grown h67 (by omega) (fun k hk => by have := (hr k hk).1; omega)
  · rcases List.mem_cons.1 hX with rfl | hX
    · exact hTn
    · exact hTb X hX
end

end Go.Proofs.YtlbkbcafkjgckaaDoor.tree

/-
  Where a key stands first in a value, of the project and of the model.
  Conditions: those that each theorem names.
-/
namespace Go.Proofs.YtlbkbcafkjgckaaDoor.tree
open Go.ChangeShapes Go.WideShapes Go.ChangeAt Go.RowKit
set_option linter.unusedVariables false

/-- Where the key stands first in the value, -1 if nowhere. -/
def posV : Tr → Ky → Int
  | .mk k _ _ _ ks _, y => if k = 4 then pos ks y 0 else -1
theorem posV_four (n : Int) (s : ByteArray) (x : Int) (ks : List Ky) (vs : List Tr) (y : Ky) : posV (.mk 4 n s x ks vs) y = pos ks y 0 := by rw [posV, if_pos rfl]
theorem posV_not {k n : Int} {s : ByteArray} {x : Int} {ks : List Ky} {vs : List Tr} (h : k ≠ 4) (y : Ky) : posV (.mk k n s x ks vs) y = -1 := by rw [posV, if_neg h]
theorem pos_lt : ∀ (ks : List Ky) (y : Ky) (i : Nat), pos ks y i < (i : Int) + ks.length
  | [], y, i => by simp [pos]; omega
  | z :: ks, y, i => by
    have := pos_lt ks y (i + 1)
    rw [pos]
    split
    · simp; omega
    · push_cast at *; simp; omega
theorem pos_ge : ∀ (ks : List Ky) (y : Ky) (i : Nat), pos ks y i = -1 ∨ (i : Int) ≤ pos ks y i
  | [], y, i => .inl rfl
  | z :: ks, y, i => by
    rw [pos]
    split
    · exact .inr (Int.le_refl _)
    · rcases pos_ge ks y (i + 1) with h | h
      · exact .inl h
      · exact .inr (by push_cast at h; omega)
/-- It is no place, or one among the items. -/
theorem posV_cases (k n : Int) (s : ByteArray) (x : Int) (ks : List Ky) (vs : List Tr) (y : Ky) : posV (.mk k n s x ks vs) y = -1 ∨ ∃ i : Nat, posV (.mk k n s x ks vs) y = i ∧ i < ks.length ∧ k = 4 := by
  by_cases h4 : k = 4
  · subst h4
    rw [posV_four]
    rcases pos_ge ks y 0 with h | h
    · exact .inl h
    · have := pos_lt ks y 0
      exact .inr ⟨(pos ks y 0).toNat, by omega, by omega, rfl⟩
  · exact .inl (posV_not h4 y)

set_option maxHeartbeats 800000 in
theorem findKey_i (t : Tr) (v : Value) (y : Ky) (w : World) (S : Nat → Prop) (h : TIn w S t v) : Calls Tryd.prog 20 #[v, kyV y] w (LtQ w (posV t y)) := by
  obtain ⟨k, n, s, x, ks, vs⟩ := t
  obtain ⟨A, c, rfl, -, hin⟩ := h.out
  clear h
  obtain ⟨L, HL⟩ : ∃ L, Hid (L = vs.length) := ⟨_, Lib.hid rfl⟩
  have hm : L ≤ maxLen := by rw [HL.out]; exact hin.2.1
  have hkl : Hid (ks.length = L) := Lib.hid (by rw [HL.out]; exact hin.1)
  unfold maxLen at hm
  rw [← HL.out]
  have HI := Lib.hid hin
  clear hin
  by_cases h4 : k = 4
  · subst h4
    rw [posV_four]
    obtain ⟨W, HW⟩ : ∃ W, Hid (pos ks y 0 = W) := ⟨_, Lib.hid rfl⟩
    rw [HW.out]
    obtain ⟨yb, yn, ys⟩ := y
    unfold kyV
    go_enter Tryd.func20, Tryd.ntmps20
    go_wp2_with (fail)
    go_loopg [13] (L + 1) (fun gk i wr => ∃ j : Nat, i = .int .i64 j ∧ gk + j = L + 1 ∧ j ≤ L ∧ Hid (pos (ks.drop j) ⟨yb, yn, ys⟩ j = W) ∧
      Hid (wr.heap[w.heap.size + 1]? = some (.cells #[.bool yb, .int .i64 yn, .string ys] IK (0, 0))) ∧ Below w.heap.size w wr)
    case atStart => exact ⟨0, rfl, by omega, by omega, Lib.hid HW.out, Lib.hid (heap_alloc2_new w _ _), b2 _ _ _⟩
    case round =>
      obtain ⟨j, rfl, hgj, hjL, HQ, HE', hb⟩ := hrel
      have HB := Lib.hid hb
      clear hb
      by_cases hlt : j < L
      · obtain ⟨a, y1, k1, n1, s1, x1, ks1, vs1, A1, c1, rfl, hS, hky, hvs, ht, hyb, hkb, hin1, hcell⟩ := (HI.out.below HB.out).item (i := j) (by rw [← HL.out]; exact hlt)
        have HD := Lib.hid ((pos_drop (y := ⟨yb, yn, ys⟩) hky).symm.trans HQ.out)
        obtain ⟨b, HBB⟩ : ∃ b, Hid (decide (y1 = ⟨yb, yn, ys⟩) = b) := ⟨_, Lib.hid rfl⟩
        have NE := fun w => ky_eql w y1 ⟨yb, yn, ys⟩
        rw [HBB.out] at NE
        unfold kyV at NE
        simp only at NE
        have r1 : ∀ o q, (wr.alloc o).cell? ⟨w.heap.size + 1, q, none⟩ = _ := fun o q => (rowc (keepAlloc HE'.out)).1 q
        clear hky hvs ht hyb hkb hin1 hS
        obtain ⟨p0, p1, p2, p3, p4, p5, p6, p7⟩ := hcell
        cases b with
        | true =>
          have e : W = (j : Int) := by rw [← HD.out, if_pos (of_decide_eq_true HBB.out)]
          go_wp2_with (fail)
          go_ret
          exact ⟨by first | rfl | (rw [e]; rfl), bs HB.out (b1 _ _)⟩
        | false =>
          have HF : Hid (pos (ks.drop (j + 1)) ⟨yb, yn, ys⟩ (j + 1) = W) := Lib.hid (by have := HD.out; rw [if_neg (of_decide_eq_false HBB.out)] at this; exact this)
          go_wp2_with (fail)
          go_roundg (L - j)
          case rel => exact ⟨j + 1, by go_num, by omega, by omega, HF, Lib.hid (keepAlloc HE'.out), bs HB.out (b1 _ _)⟩
          case measure => omega
      · obtain rfl : j = L := by omega
        have e : W = -1 := by rw [← HQ.out, show ks.drop j = [] from List.drop_eq_nil_of_le (Nat.le_of_eq hkl.out)]; rfl
        go_wp2_with (fail)
        go_ret
        exact ⟨by first | rfl | (rw [e]; rfl), HB.out⟩
  · rw [posV_not h4]
    unfold kyV
    go_enter Tryd.func20, Tryd.ntmps20
    go_wp2_with (fail)
    go_ret
    exact ⟨rfl, b2 _ _ _⟩

set_option maxHeartbeats 800000 in
theorem findV_s (t : Tr) (v : Value) (y : Ky) (w : World) (S : Nat → Prop) (h : TIn w S t v) : Calls Tryd.prog 103 #[v, kyV y] w (LtQ w (posV t y)) := by
  obtain ⟨k, n, s, x, ks, vs⟩ := t
  obtain ⟨A, c, rfl, -, hin⟩ := h.out
  by_cases h4 : k = 4
  · subst h4
    rw [posV_four]
    exact find_s n s x ks vs A c y w S hin
  · rw [posV_not h4]
    have hm : vs.length ≤ maxLen := hin.2.1
    generalize vs.length = L at *
    clear h hin
    unfold kyV
    go_enter Tryd.func103, Tryd.ntmps103
    go_wp2_with (fail)
    go_loopg [5] 1 (fun gk i wr => i = .int .i64 0 ∧ gk = 1 ∧ wr = ((w.alloc (.cells #[.int .i64 k, .int .i64 n, .string s, .int .i64 x, .slice A L c] IV)).alloc (.cells #[.bool y.text, .int .i64 y.num, .string y.str] IK)))
    case atStart => exact ⟨rfl, rfl, rfl⟩
    case round =>
      obtain ⟨rfl, rfl, rfl⟩ := hrel
      go_wp2_with (fail)
      go_ret
      exact ⟨rfl, b2 _ _ _⟩

end Go.Proofs.YtlbkbcafkjgckaaDoor.tree

/-
  What stands at a key of a tree.
  Conditions: none.
-/
namespace Go.Proofs.YtlbkbcafkjgckaaDoor.tree
open Go.ChangeShapes Go.WideShapes Go.ChangeAt Go.RowKit
set_option linter.unusedVariables false

def nullT : Tr := .mk 0 0 ⟨#[]⟩ 0 [] []
/-- What stands at the key. -/
def getT : Tr → Ky → Option Tr
  | .mk k n s x ks vs, y => if posV (.mk k n s x ks vs) y = -1 then none else vs[(posV (.mk k n s x ks vs) y).toNat]?
def getB (t : Tr) (y : Ky) : Bool := (getT t y).isSome
def getR (t : Tr) (y : Ky) : Tr := (getT t y).getD nullT
theorem getT_none {t : Tr} {y : Ky} (h : posV t y = -1) : getT t y = none := by cases t; rw [getT, if_pos h]
theorem getT_some {k n x : Int} {s : ByteArray} {ks : List Ky} {vs : List Tr} {y : Ky} {i : Nat} (h : posV (.mk k n s x ks vs) y = i) : getT (.mk k n s x ks vs) y = vs[i]? := by
  rw [getT, if_neg (by omega), h, Int.toNat_natCast]

/-- A result's five cells, written. -/
theorem fill5 {w wF : World} {R : Nat} {t : TypeId} {a b c d e c0 c1 c2 c3 c4 : Value} (h : w.heap[R]? = some (.cells #[a, b, c, d, e] t (0, 0)))
    (hF : (((((w.setCell ⟨R, 0, none⟩ c0).setCell ⟨R, 1, none⟩ c1).setCell ⟨R, 2, none⟩ c2).setCell ⟨R, 3, none⟩ c3).setCell ⟨R, 4, none⟩ c4) = wF) :
    (∀ j, wF.cell? ⟨R, j, none⟩ = (#[c0, c1, c2, c3, c4] : Array Value)[j]?) ∧ (∀ q, q ≠ R → wF.heap[q]? = w.heap[q]?) ∧ ∀ (B : Nat) (w0 : World), B ≤ R → Below B w0 w → Below B w0 wF := by
  subst hF
  refine ⟨fun j => ?_, fun q hq => ?_, fun B w0 hB hb => ?_⟩
  · have := set_heap (set_heap (set_heap (set_heap (set_heap h 0 c0) 1 c1) 2 c2) 3 c3) 4 c4
    rw [cell_of_row _ _ j _ _ _ this]
    simp
  · rw [set_other hq, set_other hq, set_other hq, set_other hq, set_other hq]
  · exact ((((hb.setCell hB _).setCell hB _).setCell hB _).setCell hB _).setCell hB _

def OutT (w : World) (t : Tr) (b : Bool) (S : Nat → Prop) (e : Ending) (w' : World) : Prop := ∃ u, e = .returned (.tuple #[u, .bool b]) ∧ TIn w' S t u ∧ Below w.heap.size w w'

theorem nullValue_i (w : World) : Calls Tryd.prog 66 #[] w (GivesQ w (vV 0 0 ⟨#[]⟩ 0 none 0 0)) := by
  go_enter Tryd.func66, Tryd.ntmps66
  go_wp2
  exact bodyPost_ret (v := vV 0 0 ⟨#[]⟩ 0 none 0 0) (by simp [results, Tryd.results66, go_sem]) rfl ⟨rfl, b1 _ _⟩


end Go.Proofs.YtlbkbcafkjgckaaDoor.tree

/-
  Taking the next item of the first array, and the value that the other one has for its key.
  Conditions: those that each theorem names.
-/
namespace Go.Proofs.YtlbkbcafkjgckaaDoor.tree
open Go.ChangeShapes Go.WideShapes Go.ChangeAt Go.RowKit
set_option linter.unusedVariables false

def TakeQ9 (w : World) (g m : Nat) (cur : Array Value) (F : Mt) (y : Ky) (t : Tr) (kt : List Ky) (ts : List Tr) (S S' : Nat → Prop) (e : Ending) (w' : World) : Prop :=
  ∃ R1, Tk w w' g m cur F R1 ts.length (F.c - 1) ∧ IsIn w S kt ts R1 ∧ ((getL F.ks' F.vs' y = none ∧ e = .returned (.tuple #[vV 0 0 ⟨#[]⟩ 0 none 0 0, vV 0 0 ⟨#[]⟩ 0 none 0 0, .bool false])) ∨
    ∃ u k n s x A L c k' n' s' x' A' L' c', getL F.ks' F.vs' y = some u ∧ e = .returned (.tuple #[vV k n s x A L c, vV k' n' s' x' A' L' c', .bool true]) ∧ TIn w S t (vV k n s x A L c) ∧ TIn w S' u (vV k' n' s' x' A' L' c'))

theorem getL_none {ks : List Ky} {vs : List Tr} {y : Ky} (h : pos ks y 0 = -1) : getL ks vs y = none := by unfold getL; rw [if_pos h]
theorem getL_at {ks : List Ky} {vs : List Tr} {y : Ky} (h : pos ks y 0 ≠ -1) : getL ks vs y = vs[(pos ks y 0).toNat]? := by unfold getL; rw [if_neg h]
theorem pos_rng : ∀ (ks : List Ky) (y : Ky) (i : Nat), pos ks y i ≠ -1 → ∃ j : Nat, pos ks y i = ((i + j : Nat) : Int) ∧ j < ks.length
  | [], y, i, h => by simp [pos] at h
  | z :: ks, y, i, h => by
    rw [pos] at h ⊢
    by_cases hz : z = y
    · rw [if_pos hz]
      exact ⟨0, by simp, by simp⟩
    · rw [if_neg hz] at h ⊢
      obtain ⟨j, h1, h2⟩ := pos_rng ks y (i + 1) h
      exact ⟨j + 1, by rw [h1]; congr 1; omega, by simpa using h2⟩

theorem cell_eq {w w' : World} {a : Addr} (h : w'.heap[a.block]? = w.heap[a.block]?) : w'.cell? a = w.cell? a := by unfold World.cell?; rw [h]

set_option maxHeartbeats 4000000 in
set_option maxRecDepth 100000 in
theorem takeM {w : World} {g m : Nat} {cur : Array Value} {F : Mt} {y : Ky} {kt : List Ky} {t : Tr} {ts : List Tr} {S S' : Nat → Prop} {f : Value → Option Value}
    (hg : w.heap[g]? = some (.cells cur MG (0, 0))) (hq : ∀ q, q < 4 → cur[m * 4 + q]? = F.cells[q]?) (hk0 : F.ks = y :: kt) (hv : F.vs = t :: ts)
    (hin : IsIn w S F.ks F.vs F.R) (hc : F.vs.length ≤ F.c ∧ F.c ≤ maxLen) (hin' : IsIn w S' F.ks' F.vs' F.A') (hp : F.p ≤ F.vs'.length) (hm : raw.Holds w GK F.b f) (hf : FirstK (F.ks'.take F.p) f)
    (hS : ∀ b, S b → b ≠ g ∧ b ≠ F.b) (hS' : ∀ b, S' b → b ≠ g ∧ b ≠ F.b) :
    Calls Tryd.prog 118 #[.pointer (some ⟨g, m * 4, none⟩)] w (TakeQ9 w g m cur F y t kt ts S S') := by
  obtain ⟨R, c, ks, vs, A', c', ks', vs', p, b, ks0, vs0⟩ := F
  simp only at hk0 hv hin hc hin' hp hm hf hS hS'
  subst hk0 hv
  have q0 := hq 0 (by omega)
  have q1 := hq 1 (by omega)
  have q2 := hq 2 (by omega)
  have q3 := hq 3 (by omega)
  simp only [Mt.cells, Nat.add_zero, List.getElem?_cons_zero, List.getElem?_cons_succ] at q0 q1 q2 q3
  have hgl : g < w.heap.size := (Array.getElem?_eq_some_iff.1 hg).1
  have hml : b < w.heap.size := hm.lt
  have hgm : g ≠ b := fun e => by
    obtain ⟨es, ck, hb, -⟩ := hm
    rw [← e, hg] at hb
    cases hb
  obtain ⟨a, y', k1, n1, s1, x1, ks1, vs1, A1, c1, rfl, hSa, hky, hvs, ht, hyb, hkb, hin1, hcell⟩ := hin.item (i := 0) (by simp)
  obtain rfl : y = y' := by simpa using hky
  obtain rfl : t = .mk k1 n1 s1 x1 ks1 vs1 := by simpa using hvs
  have ea : a.add (0 * 8) = a := rfl
  rw [ea] at hcell
  obtain ⟨L1, HL1⟩ : ∃ L1, Hid (vs1.length = L1) := ⟨_, Lib.hid rfl⟩
  obtain ⟨L, HL⟩ : ∃ L, Hid (ts.length = L) := ⟨_, Lib.hid rfl⟩
  obtain ⟨L', HL'⟩ : ∃ L, Hid (vs'.length = L) := ⟨_, Lib.hid rfl⟩
  have hm' : L' ≤ maxLen := by rw [← HL'.out]; exact hin'.2.1
  rw [HL1.out] at hcell ht
  simp only [List.length_cons] at q0 hc
  rw [HL.out] at q0 hc
  rw [HL'.out] at q1 hp
  obtain ⟨hc1, hc2⟩ := hc
  unfold maxLen at hc2 hm'
  have Q0 := Lib.hid q0
  obtain ⟨r0, f0⟩ := rowc hg
  have c0 := (r0 _).trans q0
  have g0 := f0 (m * 4)
  have hab : a.block < w.heap.size := World.block_lt_of_cell? _ _ hcell.c0
  obtain ⟨yb, yn, ys⟩ := y
  obtain ⟨p0, p1, p2, p3, p4, p5, p6, p7⟩ := hcell
  simp only at p0 p1 p2
  have HIN := Lib.hid hin
  have HIN' := Lib.hid hin'
  have HG := Lib.hid hg
  have HQ := Lib.hid (And.intro q1 (And.intro q2 q3))
  have HM := Lib.hid hm
  have HF := Lib.hid hf
  have HS := Lib.hid hS
  have HS' := Lib.hid hS'
  have HTT := Lib.hid ht
  have hm4 : m * 4 + 3 < cur.size := (Array.getElem?_eq_some_iff.1 q3).1
  clear hg hq hin hin' hm hf hS hS' r0 f0 q0 q1 q2 q3 hky hvs ht hyb hkb hin1 hSa ea
  obtain ⟨W3, HW3⟩ : ∃ W, Hid ((((w.alloc (.cells #[.int .i64 0, .int .i64 0, .string ⟨#[]⟩, .int .i64 0, .slice none 0 0] IV)).alloc (.cells #[.int .i64 0, .int .i64 0, .string ⟨#[]⟩, .int .i64 0, .slice none 0 0] IV)).alloc (.cells #[.bool yb, .int .i64 yn, .string ys, .int .i64 k1, .int .i64 n1, .string s1, .int .i64 x1, .slice A1 L1 c1] IE)) = W) := ⟨_, Lib.hid rfl⟩
  obtain ⟨a0, a1, a2, az, ab⟩ := al3 w #[.int .i64 0, .int .i64 0, .string ⟨#[]⟩, .int .i64 0, .slice none 0 0] #[.int .i64 0, .int .i64 0, .string ⟨#[]⟩, .int .i64 0, .slice none 0 0] #[.bool yb, .int .i64 yn, .string ys, .int .i64 k1, .int .i64 n1, .string s1, .int .i64 x1, .slice A1 L1 c1] IV IV IE
  rw [HW3.out] at a0 a1 a2 az ab
  have HA0 := Lib.hid a0
  have HA1 := Lib.hid a1
  have HA2 := Lib.hid a2
  have HB3 := Lib.hid ab
  have HG3 := Lib.hid (carry ab HG.out)
  obtain ⟨N, HN⟩ : ∃ N, Hid (w.heap.size = N) := ⟨_, Lib.hid rfl⟩
  clear a0 a1 a2 az ab
  go_enter Tryd.func118, Tryd.ntmps118
  go_upto_region 2 with fail
  rw [HW3.out, HN.out]
  rw [HN.out] at HA0 HA1 HA2
  clear p0 p1 p2 p3 p4 p5 p6 p7 c0 g0
  obtain ⟨r3, f3⟩ := rowc HG3.out
  have c0 : W3.cell? ⟨g, m * 4, none⟩ = some (.slice (some a) (L + 1) c) := (r3 _).trans Q0.out
  have g0 := f3 (m * 4)
  clear r3 f3
  go_cut [21] (fun v wx => ∃ R1, (R1 = some (a.add 8) ∨ L = 0) ∧ wx = W3.setCell ⟨g, m * 4, none⟩ (.slice R1 L (c - 1)))
  case first =>
    by_cases h1 : c = 1
    · subst h1
      obtain rfl : L = 0 := by omega
      go_wp2_with (fail)
      go_meet
      exact ⟨some a, .inr (by trivial), rfl⟩
    · go_wp2_with (fail)
      go_meet
      exact ⟨some (a.add 8), .inl rfl, by rw [add_pos a 8 (by omega)]⟩
  case rest =>
    obtain ⟨R1, hR1, hwc⟩ := hcut
    clear c0 g0
    have hlg : g < W3.heap.size := Nat.lt_of_lt_of_le hgl HB3.out.size
    have hNg : g ≠ N := by have := HN.out; omega
    have hg4 : wc.heap[g]? = some (.cells (cur.setIfInBounds (m * 4) (.slice R1 L (c - 1))) MG (0, 0)) := by rw [hwc]; exact set_heap HG3.out _ _
    have ho4 : ∀ q, q ≠ g → wc.heap[q]? = W3.heap[q]? := fun q hq => by rw [hwc]; exact set_other hq
    have hf4 : Fr (fun z => z = g ∨ z = b) w wc := by rw [hwc]; exact (Fr.of HB3.out).trans (Fr.set (.inl rfl) _ _)
    have HA0c := Lib.hid ((ho4 N (by omega)).trans HA0.out)
    have HA1c := Lib.hid ((ho4 (N + 1) (by have := HN.out; omega)).trans HA1.out)
    have HA2c := Lib.hid ((ho4 (N + 1 + 1) (by have := HN.out; omega)).trans HA2.out)
    have hm4' : raw.Holds wc GK b f := HM.out.kept ((ho4 b (by omega)).trans (HB3.out.block b hml)) (fun _ hx => hx)
    have hi4 : IsIn wc S' ks' vs' A' := HIN'.out.stays (fun _ h => h) (fun z hz hl => hf4.block z hl (fun h => h.elim (HS'.out z hz).1 (HS'.out z hz).2))
    have cu : ∀ j, j ≠ m * 4 → (cur.setIfInBounds (m * 4) (.slice R1 L (c - 1)))[j]? = cur[j]? := fun j hj => by rw [Array.getElem?_setIfInBounds_ne (by omega)]
    have FM := findM (S := S') ⟨yb, yn, ys⟩ hg4 ((cu _ (by omega)).trans HQ.out.1) ((cu _ (by omega)).trans HQ.out.2.1) ((cu _ (by omega)).trans HQ.out.2.2) hi4 HL'.out hp hm4' HF.out HS'.out
    have cz : (cur.setIfInBounds (m * 4) (.slice R1 L (c - 1)))[m * 4]? = some (.slice R1 L (c - 1)) := by rw [Array.getElem?_setIfInBounds_self_of_lt (by omega)]
    have HCU := Lib.hid (And.intro (show (cur.setIfInBounds (m * 4) (.slice R1 L (c - 1))).size = cur.size by simp) (And.intro cz cu))
    obtain ⟨cur1, HC1⟩ : ∃ c1, Hid (cur.setIfInBounds (m * 4) (.slice R1 L (c - 1)) = c1) := ⟨_, Lib.hid rfl⟩
    rw [HC1.out] at FM HCU
    have HR1 : Hid (IsIn w S kt ts R1) := Lib.hid (by
      rcases hR1 with rfl | h0
      · exact HIN.out.tail
      · have h1 := HIN.out.1
        have h2 := HL.out
        obtain rfl := List.length_eq_zero_iff.1 (h2.trans h0)
        simp at h1
        subst h1
        exact IsIn.nil _ _ _)
    have HF4 := Lib.hid hf4
    have HI4 := Lib.hid hi4
    have HFM := Lib.hid FM
    unfold kyV at HFM
    obtain ⟨rA2, -⟩ := rowc HA2c.out
    clear hg4 ho4 hf4 hm4' hi4 cu cz FM hwc hR1
    go_wp2_with (fail)
    refine HFM.out.mono ?_
    rintro e w5 ⟨i, bt, p5, arr5, f5, rfl, hT5, hN5, hp5, hMA, hm5, hf5, hfr5⟩
    have HFR : Hid (Fr (fun z => z = g ∨ z = b) w w5) := Lib.hid (HF4.out.trans hfr5)
    have hNb : ∀ z, N ≤ z → z ≠ g ∧ z ≠ b := fun z hz => by have := HN.out; omega
    have hk5 : ∀ (z : Nat) (o : Obj), N ≤ z → wc.heap[z]? = some o → w5.heap[z]? = some o := fun z o hz h => (hfr5.block z (Array.getElem?_eq_some_iff.1 h).1 (fun h => h.elim (hNb z hz).1 (hNb z hz).2)).trans h
    have HA05 := Lib.hid (hk5 N _ (by omega) HA0c.out)
    have HA15 := Lib.hid (hk5 (N + 1) _ (by omega) HA1c.out)
    have HA25 := Lib.hid (hk5 (N + 1 + 1) _ (by omega) HA2c.out)
    have HTK : Hid (∀ w6, Below w.heap.size w5 w6 → Tk w w6 g m cur ⟨some a, c, ⟨yb, yn, ys⟩ :: kt, .mk k1 n1 s1 x1 ks1 vs1 :: ts, A', c', ks', vs', p, b, ks0, vs0⟩ R1 ts.length (c - 1)) := Lib.hid (fun w6 hb6 => by
      have hk := hb6.block
      obtain ⟨z1, z2, z3⟩ := HCU.out
      have h0 := HN.out
      refine ⟨?_, p5, arr5, f5, ?_, (hk g hgl).trans hMA.blk, hMA.size.trans z1, ?_, hMA.at_, fun j h1 h2 => (hMA.other j h2).trans (z3 j h1), hm5.kept (hk b hml) (fun _ hx => hx), hf5⟩
      · have h5 := HFR.out
        exact ⟨hb6.os.trans h5.os, hb6.tape.trans h5.tape, hb6.output.trans h5.output, Nat.le_trans h5.size hb6.size, fun z hz hn => (hb6.block z hz).trans (h5.block z hz hn)⟩
      · show p5 ≤ vs'.length
        rw [← HIN'.out.1]; exact hp5
      · rw [HL.out]
        exact (hMA.other _ (by omega)).trans z2)
    have HMA := Lib.hid hMA
    have HTN := Lib.hid (And.intro hT5 hN5)
    have HI5 : Hid (IsIn w5 S' ks' vs' A') := Lib.hid (HIN'.out.stays (fun _ h => h) (fun z hz hl => HFR.out.block z hl (fun h => h.elim (HS'.out z hz).1 (HS'.out z hz).2)))
    clear hT5 hN5 hp5 hMA hm5 hf5 hfr5 hk5 rA2 HFM
    obtain ⟨rA0, fA0⟩ := rowc HA05.out
    obtain ⟨rA1, fA1⟩ := rowc HA15.out
    obtain ⟨rA2, -⟩ := rowc HA25.out
    cases bt with
    | false =>
      have hgn := getL_none (vs := vs') (HTN.out.2 rfl)
      have HGN := Lib.hid hgn
      clear hgn
      clear rA0 fA0 rA1 fA1 rA2
      go_wp2_with (fail)
      refine (nullValue_i _).mono ?_
      rintro e w6 ⟨rfl, hb6⟩
      have HB6 := Lib.hid hb6
      clear hb6
      go_wp2_with (fail)
      refine (nullValue_i _).mono ?_
      rintro e w7 ⟨rfl, hb7⟩
      have HB7 := Lib.hid (bs HB6.out hb7)
      have HX0 := Lib.hid (carry HB7.out HA05.out)
      have HX1 := Lib.hid (carry HB7.out HA15.out)
      clear hb7
      obtain ⟨rA0, fA0⟩ := rowc HX0.out
      obtain ⟨rA1, fA1⟩ := rowc HX1.out
      go_wp2_with (fail)
      clear rA0 fA0 rA1 fA1
      generalize hwE : (((((w7.setCell ⟨N, 0, none⟩ (.int .i64 0)).setCell ⟨N, 1, none⟩ (.int .i64 0)).setCell ⟨N, 2, none⟩ (.string ⟨#[]⟩)).setCell ⟨N, 3, none⟩ (.int .i64 0)).setCell ⟨N, 4, none⟩ (.slice none 0 0)) = wE
      obtain ⟨rE, oE, bE⟩ := fill5 HX0.out hwE
      generalize hwF : (((((wE.setCell ⟨N + 1, 0, none⟩ (.int .i64 0)).setCell ⟨N + 1, 1, none⟩ (.int .i64 0)).setCell ⟨N + 1, 2, none⟩ (.string ⟨#[]⟩)).setCell ⟨N + 1, 3, none⟩ (.int .i64 0)).setCell ⟨N + 1, 4, none⟩ (.slice none 0 0)) = wF
      obtain ⟨rF, oF, bF⟩ := fill5 ((oE _ (by omega)).trans HX1.out) hwF
      have rG : ∀ j, wF.cell? ⟨N, j, none⟩ = (#[.int .i64 0, .int .i64 0, .string ⟨#[]⟩, .int .i64 0, .slice none 0 0] : Array Value)[j]? := fun j => by
        rw [← rE j]
        exact cell_eq (oF N (by omega))
      refine bodyPost_ret (v := .tuple #[vV 0 0 ⟨#[]⟩ 0 none 0 0, vV 0 0 ⟨#[]⟩ 0 none 0 0, .bool false]) ?_ rfl ?_
      · simp [results, Tryd.results118, go_sem, rF, rG]
      · refine ⟨R1, HTK.out _ ?_, HR1.out, .inl ⟨HGN.out, rfl⟩⟩
        have hNw : w.heap.size ≤ N := by rw [HN.out]; exact Nat.le_refl _
        exact bF _ _ (by omega) (bE _ _ hNw (HB7.out.mono HFR.out.size))
    | true =>
      obtain ⟨h1, h2⟩ := HTN.out.1 rfl
      obtain ⟨j, e1, e2⟩ := pos_rng ks' _ 0 h2
      rw [Nat.zero_add] at e1
      obtain rfl := h1.trans e1
      have hjL : j < L' := by rw [← HL'.out, ← HIN'.out.1]; exact e2
      have hgl2 : Hid (getL ks' vs' ⟨yb, yn, ys⟩ = vs'[j]?) := Lib.hid (by rw [getL_at h2, e1]; simp)
      obtain ⟨a', y', k2, n2, s2, x2, ks2, vs2, A2, c2, rfl, hSa', hky', hvs', ht', -, -, -, hcell'⟩ := HI5.out.item (i := j) (by rw [HL'.out]; exact hjL)
      obtain ⟨L2, HL2⟩ : ∃ L2, Hid (vs2.length = L2) := ⟨_, Lib.hid rfl⟩
      have hab2 : (a'.add (j * 8)).block < w.heap.size := by
        obtain ⟨a3, _, _, _, _, _, _, _, _, _, ea3, -, -, -, -, -, -, -, hcell3⟩ := HIN'.out.item (i := j) (by rw [HL'.out]; exact hjL)
        obtain rfl := Option.some.inj ea3
        exact World.block_lt_of_cell? _ _ hcell3.c0
      have hn1 : N ≠ (a'.add (j * 8)).block := by have := HN.out; omega
      have hn2 : N + 1 ≠ (a'.add (j * 8)).block := by have := HN.out; omega
      have hn3 : N ≠ g := by have := HN.out; omega
      have hn4 : N + 1 ≠ g := by have := HN.out; omega
      have HT2 : Hid (TIn w S' (.mk k2 n2 s2 x2 ks2 vs2) (vV k2 n2 s2 x2 A2 vs2.length c2)) := Lib.hid (by
        obtain ⟨a3, y3, k3, n3, s3, x3, ks3, vs3, A3, c3, ea3, hS3, -, hv3, ht3, -, -, -, hcell3⟩ := HIN'.out.item (i := j) (by rw [HL'.out]; exact hjL)
        rw [hvs'] at hv3
        obtain ⟨rfl, rfl, rfl, rfl, rfl, rfl⟩ : k2 = k3 ∧ n2 = n3 ∧ s2 = s3 ∧ x2 = x3 ∧ ks2 = ks3 ∧ vs2 = vs3 := by simpa using hv3
        obtain rfl := Option.some.inj ea3
        have h7 := hcell3.c7
        have h7' := hcell'.c7
        have hlt7 := World.block_lt_of_cell? _ _ h7
        rw [cell_eq (HFR.out.block _ hlt7 (fun h => h.elim (HS'.out _ (by show S' (a'.add _).block; rw [mem.add_block]; exact hS3)).1 (HS'.out _ (by show S' (a'.add _).block; rw [mem.add_block]; exact hS3)).2))] at h7'
        rw [h7] at h7'
        obtain ⟨rfl, rfl⟩ : A2 = A3 ∧ c2 = c3 := by simpa [eq_comm] using h7'
        exact ht3)
      have HVG : Hid (getL ks' vs' ⟨yb, yn, ys⟩ = some (.mk k2 n2 s2 x2 ks2 vs2)) := Lib.hid (hgl2.out.trans hvs')
      rw [HL2.out] at hcell'
      obtain ⟨-, -, -, d3, d4, d5, d6, d7⟩ := hcell'
      obtain ⟨r5, -⟩ := rowc HMA.out.blk
      have c1' : w5.cell? ⟨g, m * 4 + 1, none⟩ = some (.slice (some a') L' c') := (r5 _).trans ((HMA.out.other _ (by omega)).trans ((HCU.out.2.2 _ (by omega)).trans HQ.out.1))
      clear h1 h2 e1 e2 r5 hky' hvs' ht' hSa' hgl2
      go_wp2_with (fail)
      go_region
      generalize hwE : (((((w5.setCell ⟨N, 0, none⟩ (.int .i64 k1)).setCell ⟨N, 1, none⟩ (.int .i64 n1)).setCell ⟨N, 2, none⟩ (.string s1)).setCell ⟨N, 3, none⟩ (.int .i64 x1)).setCell ⟨N, 4, none⟩ (.slice A1 L1 c1)) = wE
      clear rA0 fA0 rA1 fA1 rA2 d3 d4 d5 d6 d7 c1'
      obtain ⟨rE, oE, bE⟩ := fill5 HA05.out hwE
      generalize hwF : (((((wE.setCell ⟨N + 1, 0, none⟩ (.int .i64 k2)).setCell ⟨N + 1, 1, none⟩ (.int .i64 n2)).setCell ⟨N + 1, 2, none⟩ (.string s2)).setCell ⟨N + 1, 3, none⟩ (.int .i64 x2)).setCell ⟨N + 1, 4, none⟩ (.slice A2 L2 c2)) = wF
      obtain ⟨rF, oF, bF⟩ := fill5 ((oE _ (by omega)).trans HA15.out) hwF
      have rG : ∀ j, wF.cell? ⟨N, j, none⟩ = (#[.int .i64 k1, .int .i64 n1, .string s1, .int .i64 x1, .slice A1 L1 c1] : Array Value)[j]? := fun j => by
        rw [← rE j]
        exact cell_eq (oF N (by omega))
      go_wp2_with (fail)
      refine bodyPost_ret (v := .tuple #[vV k1 n1 s1 x1 A1 L1 c1, vV k2 n2 s2 x2 A2 L2 c2, .bool true]) ?_ rfl ?_
      · simp [results, Tryd.results118, go_sem, rF, rG]
      · refine ⟨R1, HTK.out _ ?_, HR1.out, .inr ⟨_, k1, n1, s1, x1, A1, L1, c1, k2, n2, s2, x2, A2, L2, c2, HVG.out, rfl, HTT.out, by rw [← HL2.out]; exact HT2.out⟩⟩
        have hNw : w.heap.size ≤ N := by rw [HN.out]; exact Nat.le_refl _
        exact (bF _ _ (by omega) (bE _ _ hNw ((Below.refl w5.heap.size w5).mono HFR.out.size))).drew

end Go.Proofs.YtlbkbcafkjgckaaDoor.tree

/-
  Two arrays of which the comparison begins.
  Conditions: none.
-/
namespace Go.Proofs.YtlbkbcafkjgckaaDoor.tree
open Go.ChangeShapes Go.WideShapes Go.ChangeAt Go.RowKit
set_option linter.unusedVariables false

def NmQ (w : World) (A : Option Addr) (L c : Nat) (A' : Option Addr) (L' c' : Nat) (e : Ending) (w' : World) : Prop :=
  ∃ b, e = .returned (.agg #[.slice A L c, .slice A' L' c', .int .i64 0, .map (some b)]) ∧ w.heap.size ≤ b ∧ raw.Holds w' GK b (fun _ => none) ∧ Below w.heap.size w w'
set_option maxHeartbeats 1000000 in
theorem newMatching (k n : Int) (s : ByteArray) (x : Int) (A : Option Addr) (L c : Nat) (k' n' : Int) (s' : ByteArray) (x' : Int) (A' : Option Addr) (L' c' : Nat) (w : World) :
    Calls Tryd.prog 117 #[vV k n s x A L c, vV k' n' s' x' A' L' c'] w (NmQ w A L c A' L' c') := by
  have hmm := @run_makeMap Tryd.prog
  go_enter Tryd.func117, Tryd.ntmps117
  go_wp2_with (fail)
  obtain ⟨_, _, _, az, ab⟩ := al3 w #[.int .i64 k, .int .i64 n, .string s, .int .i64 x, .slice A L c] #[.int .i64 k', .int .i64 n', .string s', .int .i64 x', .slice A' L' c'] #[.slice A L c, .slice A' L' c', .int .i64 0, .map (some (w.heap.size + 1 + 1 + 1))] IV IV MG
  have hmd := raw.Holds.made (((w.alloc (.cells #[.int .i64 k, .int .i64 n, .string s, .int .i64 x, .slice A L c] IV)).alloc (.cells #[.int .i64 k', .int .i64 n', .string s', .int .i64 x', .slice A' L' c'] IV)).alloc (.cells #[.slice A L c, .slice A' L' c', .int .i64 0, .map (some (w.heap.size + 1 + 1 + 1))] MG)) GK
  rw [az] at hmd
  refine bodyPost_ret (v := .agg #[.slice A L c, .slice A' L' c', .int .i64 0, .map (some (w.heap.size + 1 + 1 + 1))]) (by simp [results, Tryd.results117, go_sem]) rfl ⟨_, rfl, by omega, hmd, bs ab (b1 _ _)⟩

end Go.Proofs.YtlbkbcafkjgckaaDoor.tree

/-
  What the package variables that the rows of ToText and ToNumber list hold.
  Conditions: the variables hold what the program's text lays.
-/
namespace Go.Proofs.YtlbkbcafkjgckaaDoor.ers
open Go.ChangeShapes Go.WideShapes Go.ChangeAt Go.RowKit
set_option linter.unusedVariables false

theorem tTab : (Tryd.prog.globals[5]?).map (·.type) = some 201 := by kernel_rfl
theorem tT : (Tryd.prog.globals[0]?).map (·.type) = some 98 := by kernel_rfl
theorem tN : (Tryd.prog.globals[1]?).map (·.type) = some 98 := by kernel_rfl
theorem cellsErr : Tryd.prog.cellsOf 208 = 1 := by kernel_rfl
theorem cellsStr : Tryd.prog.cellsOf 9 = 1 := by kernel_rfl
theorem star : "*" ++ "errors.errorString" = "*errors.errorString" := by decide
theorem rowErr (u : TypeId) (h : Tryd.prog.typeName? 3 u = some "*errors.errorString") : u = 206 :=
  typeName_ptr_named (nm := "errors.errorString") (by rw [star]; kernel_rfl) (by kernel_rfl) (by decide) u (by rw [star]; exact h)

/-- What ToText wants of the world. -/
def TxE (w : World) : Prop := fmt.Tab w ∧ ∃ a, HasT w a
theorem TxE.stays {w w' : World} (h : TxE w) (hb : Below w.heap.size w w') : TxE w' := ⟨h.1.stays hb, h.2.imp fun a h => h.stays hb⟩
/-- What ToNumber wants of the world. -/
def NuE (w : World) : Prop := ∃ a b ca cb ta tb, HasT w a ∧ HasN w b ∧ b ≠ a ∧ w.heap[a.block]? = some (.cells ca ta (0, 0)) ∧ w.heap[b.block]? = some (.cells cb tb (0, 0))
theorem NuE.stays {w w' : World} (h : NuE w) (hb : Below w.heap.size w w') : NuE w' := by
  obtain ⟨a, b, ca, cb, ta, tb, h1, h2, h3, h4, h5⟩ := h
  exact ⟨a, b, ca, cb, ta, tb, h1.stays hb, h2.stays hb, h3, (hb.block _ (Array.getElem?_eq_some_iff.1 h4).1).trans h4, (hb.block _ (Array.getElem?_eq_some_iff.1 h5).1).trans h5⟩

theorem readT {H : Type} (enc : TypeId × Value → H) {X : World} {a : Addr} (h : HasT X a) (sp : Nat → Bool) :
    DataW.TrodVars enc Tryd.prog X sp ["loop.example/g03011/impl.errNoText"] [tok enc (.iface 206 (.pointer (some a)))] [.cell 0 0] :=
  vars_read1 enc gT tT Tryd.underlying98 h trivial sp
theorem readNT {H : Type} (enc : TypeId × Value → H) {X : World} {a b : Addr} (h : HasT X a) (k : HasN X b) (sp : Nat → Bool) :
    DataW.TrodVars enc Tryd.prog X sp ["loop.example/g03011/impl.errNoNumber", "loop.example/g03011/impl.errNoText"] [tok enc (.iface 206 (.pointer (some b))), tok enc (.iface 206 (.pointer (some a)))] [.cell 1 0, .cell 0 0] :=
  vars_read2 enc gN tN Tryd.underlying98 k trivial gT tT Tryd.underlying98 h trivial sp
theorem readTN {H : Type} (enc : TypeId × Value → H) {X : World} {a b : Addr} (h : HasT X a) (k : HasN X b) (sp : Nat → Bool) :
    DataW.TrodVars enc Tryd.prog X sp ["loop.example/g03011/impl.errNoText", "loop.example/g03011/impl.errNoNumber"] [tok enc (.iface 206 (.pointer (some a))), tok enc (.iface 206 (.pointer (some b)))] [.cell 0 0, .cell 1 0] :=
  vars_read2 enc gT tT Tryd.underlying98 h trivial gN tN Tryd.underlying98 k trivial sp

namespace text
def laidOf : List (String × DataW Unit) := Rows.fnExactToTextRow.laid
theorem env_of {W : World} (h : laidMetH Tryd.prog laidOf W) : TxE W := by
  rw [MakeChecks.laidMetH_plain _ _ _ (by kernel_rfl)] at h
  refine ⟨Lib.tabIs_of_head fmt.gTab tTab Tryd.underlying201 Tryd.underlying189 (by kernel_rfl) (by kernel_rfl) h.tail.tail, ?_⟩
  obtain ⟨a1, s1, hv1, -, -, -⟩ := laid_sentinel h.tail.tail.tail gT tT Tryd.underlying98 rowErr Tryd.underlying206 Tryd.underlying208 rfl rfl Tryd.underlying9 cellsErr cellsStr
  exact ⟨_, hv1⟩
theorem door_met (os : Os) (args : Array Value) : laidMetH Tryd.prog laidOf ((World.doorLaid Tryd.prog 400 os).forCall (fun _ _ => 0) ⟨#[], args, []⟩).memory :=
  laidMetH_of_parts3 (fuel := 8) (laidMet_of_run' 8 (by kernel_rfl) (by kernel_rfl)) (by kernel_rfl) (by kernel_rfl)
end text

namespace number
def laidOf : List (String × DataW Unit) := Rows.fnExactToNumberRow.laid
theorem env_of {W : World} (h : laidMetH Tryd.prog laidOf W) : NuE W := by
  rw [MakeChecks.laidMetH_plain _ _ _ (by kernel_rfl)] at h
  obtain ⟨a0, a1, s0, s1, c0, c1, t0, t1, hv0, hv1, -, -, -, -, -, -, hne, hb0, hb1⟩ := laid_sentinels2 h gT tT gN tN Tryd.underlying98 rowErr Tryd.underlying206 Tryd.underlying208 rfl rfl Tryd.underlying9 cellsErr cellsStr
  exact ⟨a0, a1, c0, c1, t0, t1, hv0, hv1, hne.symm, hb0, hb1⟩
theorem door_met (os : Os) (args : Array Value) : laidMetH Tryd.prog laidOf ((World.doorLaid Tryd.prog 400 os).forCall (fun _ _ => 0) ⟨#[], args, []⟩).memory :=
  laidMetH_of_parts3 (fuel := 8) (laidMet_of_run' 8 (by kernel_rfl) (by kernel_rfl)) (by kernel_rfl) (by kernel_rfl)
end number

end Go.Proofs.YtlbkbcafkjgckaaDoor.ers

/-
  What the package variables that the rows of comparing list hold.
  Conditions: the variables hold what the program's text lays.
-/
namespace Go.Proofs.YtlbkbcafkjgckaaDoor.ers
open Go.ChangeShapes Go.WideShapes Go.ChangeAt Go.RowKit
set_option linter.unusedVariables false

/-- What comparing wants of the world. -/
def CmE (w : World) : Prop := fmt.Tab w ∧ (∃ a, HasT w a) ∧ ∃ b, HasN w b
theorem CmE.stays {w w' : World} (h : CmE w) (hb : Below w.heap.size w w') : CmE w' := ⟨h.1.stays hb, h.2.1.imp fun a h => h.stays hb, h.2.2.imp fun a h => h.stays hb⟩

namespace cmp
def laidOf : List (String × DataW Unit) := Rows.fnExactCompareValuesRow.laid
theorem env_of {W : World} (h : laidMetH Tryd.prog laidOf W) : CmE W := by
  rw [MakeChecks.laidMetH_plain _ _ _ (by kernel_rfl)] at h
  refine ⟨Lib.tabIs_of_head fmt.gTab tTab Tryd.underlying201 Tryd.underlying189 (by kernel_rfl) (by kernel_rfl) h.tail.tail, ?_⟩
  obtain ⟨a0, a1, s0, s1, c0, c1, t0, t1, hv0, hv1, -, -, -, -, -, -, hne, hb0, hb1⟩ := laid_sentinels2 h.tail.tail.tail gT tT gN tN Tryd.underlying98 rowErr Tryd.underlying206 Tryd.underlying208 rfl rfl Tryd.underlying9 cellsErr cellsStr
  exact ⟨⟨a0, hv0⟩, ⟨a1, hv1⟩⟩
theorem door_met (os : Os) (args : Array Value) : laidMetH Tryd.prog laidOf ((World.doorLaid Tryd.prog 400 os).forCall (fun _ _ => 0) ⟨#[], args, []⟩).memory :=
  laidMetH_of_parts3 (fuel := 8) (laidMet_of_run' 8 (by kernel_rfl) (by kernel_rfl)) (by kernel_rfl) (by kernel_rfl)
end cmp

end Go.Proofs.YtlbkbcafkjgckaaDoor.ers

